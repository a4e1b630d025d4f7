/-
  HighestTerm: both sides.
-/
import Derived.Test.YtapfhhmimkkhnaaGreatNCToPP
namespace Go.Proofs.YtapfhhmimkkhnaaGreat
open Go.RowKit Go.Maps
set_option maxHeartbeats 16000000
set_option linter.unusedVariables false
set_option maxRecDepth 100000
def hiT (N:List Nd):Nat→Int
 | 0=>0
 | k+1=>if hiT N k<(N.getD k Nd.zero).te then (N.getD k Nd.zero).te else hiT N k
def hiR (ok:Bool) (N:List Nd):Int:=if ok then hiT N N.length else 0
theorem hiT_at (N:List Nv) (k:Nat) (h:k<N.length):(N.map Nv.n).getD k Nd.zero=N[k].n:=by simp [List.getD,h]
theorem implHi_any (vn vm vl:Value) (N:List Nv) (M:List Mv) (L:List Ld) (w:World) (h:CR w vn vm vl N M L) (hs:CS N M L):
  Calls Tryz.prog 17 #[.agg #[vn,vm,vl]] w fun e w'=>e= .returned (.tuple #[(hiR (goodC (N.map Nv.n) (M.map Mv.q) L) (N.map Nv.n):Int),.bool (goodC (N.map Nv.n) (M.map Mv.q) L)])∧Below w.heap.size w w':=by
 have K:=implGoodC_any vn vm vl N M L _ (h.below (zb_ w (.cells #[vn,vm,vl] 30))) hs;obtain⟨⟨na,nc,hcn⟩,⟨xa,xc,hcm⟩,ya,yc,hcl⟩:=h.shapes;subst hcn;subst hcm;subst hcl;have hB:=zb_ w (.cells #[.slice na N.length nc,.slice xa M.length xc,.slice ya L.length yc] 30);have X:=Box.new w #[.slice na N.length nc,.slice xa M.length xc,.slice ya L.length yc] 30;have HEN:=fun k (hk:k<N.length) W (hb:Below w.heap.size w W)=>(h.ne k hk).below hb;have HEM:=fun k (hk:k<M.length) W (hb:Below w.heap.size w W)=>(h.me k hk).below hb;obtain⟨a1,c1,e1,hcN⟩:=h.n;obtain⟨a2,c2,e2,hcM⟩:=h.m;obtain⟨a3,c3,e3,hcL⟩:=h.l;simp only [Value.slice.injEq,true_and] at e1 e2 e3;obtain⟨rfl,rfl⟩:=e1;obtain⟨rfl,rfl⟩:=e2;obtain⟨rfl,rfl⟩:=e3;have hNl:=hs.n;have hMl:=hs.m;have hLl:=hs.l;clear h;clear hcM hcL HEM HEN hs;generalize goodC (N.map Nv.n) (M.map Mv.q) L=ok at*
 cases ok with
 | false=>
  clear hcN;show Calls Tryz.prog 17 _ w fun e w'=>e= .returned (.tuple #[(0:Int),false])∧Below w.heap.size w w';go_enter Tryz.func17,Tryz.ntmps17;go_wp2_with fail;refine K.mono ?_;rintro e w1 ⟨rfl,hb⟩;replace hB:=za_ hB hb;clear K hb;go_wp2;exact bodyPost_ret (v:= .tuple #[(0:Int),false]) (by simp [results,Tryz.results17,go_sem]) rfl ⟨rfl,hB⟩
 | true=>
 obtain⟨R,HR⟩:∃R,Hid (hiR true (N.map Nv.n)=R):=⟨hiR true (N.map Nv.n),rfl⟩;rw [HR.out];have HE:Hid (hiT (N.map Nv.n) N.length=R):=by show _=_;rw [←HR.out];simp [hiR]
 clear HR;go_enter Tryz.func17,Tryz.ntmps17;go_wp2_with fail;refine K.mono ?_;rintro e w1 ⟨rfl,hb⟩;replace hB:=za_ hB hb;replace X:=X.below hb;clear K hb;obtain⟨hxl,x0,x1,x2⟩:=X.c3;go_wp2;clear hxl x0 x1 x2 X
 go_loopw [4,13] (fun t i wr=>∃k:Nat,k≤N.length∧i= .int .i64 k∧t= .int .i64 (hiT (N.map Nv.n) k)∧Below w.heap.size w wr) (fun _ i _=>N.length-(intOf i).toNat)
 case atStart=>exact⟨0,Nat.zero_le _,rfl,rfl,hB⟩
 case round=>
  obtain⟨k,hk,rfl,rfl,hb⟩:=hrel;clear hB;by_cases hlt:k<N.length
  ·obtain⟨b,off,rfl,hbl,hcell⟩:=hcN (by intro e;simp [e] at hlt);obtain⟨z0,z1,z2,z3,z4,z5,z6,z7,z8⟩:=hcell k hlt;have hc0:=(hb.cell (p:=⟨b,off+k*9,none⟩) hbl).trans z0;have hc1:=(hb.cell (p:=⟨b,off+k*9+1,none⟩) hbl).trans z1;have hc2:=(hb.cell (p:=⟨b,off+k*9+2,none⟩) hbl).trans z2;have hc3:=(hb.cell (p:=⟨b,off+k*9+3,none⟩) hbl).trans z3;have hc4:=(hb.cell (p:=⟨b,off+k*9+4,none⟩) hbl).trans z4;have hc5:=(hb.cell (p:=⟨b,off+k*9+5,none⟩) hbl).trans z5;have hc6:=(hb.cell (p:=⟨b,off+k*9+6,none⟩) hbl).trans z6;have hc7:=(hb.cell (p:=⟨b,off+k*9+7,none⟩) hbl).trans z7;have hc8:=(hb.cell (p:=⟨b,off+k*9+8,none⟩) hbl).trans z8;have HH:Hid (hiT (N.map Nv.n) (k+1)=if hiT (N.map Nv.n) k<N[k].n.te then N[k].n.te else hiT (N.map Nv.n) k):=by show _=_;simp only [hiT];rw [hiT_at N k hlt]
   clear hcell hcN HE z0 z1 z2 z3 z4 z5 z6 z7 z8;generalize N[k]=s at*;generalize hiT (N.map Nv.n) k=z at*;obtain⟨⟨id,pe,te,vo,co,ro,log,vs,mt⟩,la,lc,va,vc,ma,mc⟩:=s;dsimp only at hc0 hc1 hc2 hc3 hc4 hc5 hc6 hc7 hc8 HH;have hz:=hb.size;have hB0:=hb.alloc hz (.cells #[id,pe,te,vo,.slice la log.length lc,co,ro,.slice va vs.length vc,.slice ma mt.length mc] 42);clear hb;by_cases hlt2:z<te
   ·have HV:Hid (hiT (N.map Nv.n) (k+1)=te):=by show _=_;rw [HH.out,if_pos hlt2]
    clear HH;go_wp2;go_roundw
    case rel=>exact⟨k+1,by omega,by go_num,by first | (rw [HV.out];done) | (rw [HV.out];congr 1;omega),hB0⟩
    case measure=>simp [intOf];omega
   ·have HV:Hid (hiT (N.map Nv.n) (k+1)=z):=by show _=_;rw [HH.out,if_neg hlt2]
    clear HH;go_wp2;go_roundw
    case rel=>exact⟨k+1,by omega,by go_num,by first | (rw [HV.out];done) | (rw [HV.out];congr 1;omega),hB0⟩
    case measure=>simp [intOf];omega
  ·obtain rfl:k=N.length:=by omega
   have HV:=HE.out;clear hcN HE;rw [HV];go_wp2;exact bodyPost_ret (v:= .tuple #[R,true]) (by simp [results,Tryz.results17,go_sem]) rfl ⟨rfl,hb⟩
end Go.Proofs.YtapfhhmimkkhnaaGreat
