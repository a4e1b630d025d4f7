/-
  From the reading of an argument to the lists that the contracts speak of: a slice of bytes that came in.
-/
import Derived.Test.YtapfhhmimkkhnaaD1ToD5
import Derived.ChangeSlices
namespace Go.Proofs.Ytapfhhmimkkhnaa
open Go.RowKit Go.ChangeShapes Go.WideShapes Go.ChangeAt
set_option maxRecDepth 100000
theorem YL_of_trod {H:Type} {enc:TypeId×Value→H} {P:Program} {w:World} {base:Nat} {spare:Nat→Bool} {held:Bool} {t e:TypeId} {fuel:Nat} {v:Value} {x:DataW H×List MemPlace}
  (ht:P.underlying t=some (.slice e)) (he:P.underlying e=some (.int .u8)) (ce:P.cellsOf e=1)
  (h:DataW.trod enc P w base spare held fuel t [v]=some x):
  ∃l:List UInt8,YL w v l∧l.length≤maxLen:=by
 rcases open_ints ht he ce h with⟨hv,_⟩ | ⟨a,len,cap,zs,hv,hb,hl,hm,hz,hx,hcell,hws⟩
 ·simp only [List.cons.injEq,and_true] at hv;subst hv;exact⟨[],⟨none,0,rfl,fun h=>absurd rfl h⟩,by simp⟩
 ·simp only [List.cons.injEq,and_true] at hv;subst hv;have hls:len≤zs.length:=by rw [hz];split <;>omega
  have hlen:((zs.take len).map fun z=>UInt8.ofNat z.toNat).length=len:=by simp;omega
  refine⟨(zs.take len).map fun z=>UInt8.ofNat z.toNat,⟨some a,cap,by rw [hlen],fun hne=> ?_⟩,by rw [hlen];omega⟩;have hpos:0<len:=by
   rcases Nat.eq_zero_or_pos len with h0 | h0
   ·subst h0;simp at hne
   ·exact h0
  have hc0:=hcell 0 (by omega);have hsp:a.spot=none:=by
   have:=World.cell?_spot hc0;simpa [Addr.add] using this
  obtain⟨b,off,spot⟩:=a;simp only at hsp;subst hsp;have hbl:=World.block_lt_of_cell? _ _ hc0;refine⟨b,off,rfl,by simpa [Addr.add] using hbl,fun i hi=> ?_⟩;have hi':i<len:=by omega
  have hk:=hcell i (by omega);have hwf:=hws (zs.getD i 0) (by rw [List.getD_eq_getElem?_getD,List.getElem?_eq_getElem (by omega),Option.getD_some];exact List.getElem_mem _);have hr:0≤zs.getD i 0∧zs.getD i 0≤255:=by
   simp only [Lit.wf,Bool.and_eq_true,decide_eq_true_eq] at hwf;exact⟨hwf.1,hwf.2⟩
  have hg:(((zs.take len).map fun z=>UInt8.ofNat z.toNat)[i].toNat:Int)=zs.getD i 0:=by
   rw [List.getElem_map,List.getElem_take,UInt8.toNat_ofNat'];have e:zs[i]'(by omega)=zs.getD i 0:=by rw [List.getD_eq_getElem?_getD,List.getElem?_eq_getElem (by omega),Option.getD_some]
   rw [e];omega
  rw [hg,←hk];congr 1;by_cases h0:i=0
  ·subst h0;simp [Addr.add]
  ·simp [Addr.add,h0]
end Go.Proofs.Ytapfhhmimkkhnaa
