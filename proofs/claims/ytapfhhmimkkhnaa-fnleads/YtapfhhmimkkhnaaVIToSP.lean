/-
  slices.BinarySearch and slices.Insert at a node's votes.
  A node comes to lead: leading, l11Lead, of any number of peers.
  A node asked for its vote: onAsk.
  A vote counted: votedBy, onVote.
  The specification's l11Told; what l11Put leans on: where a number stands in a rising list, slices of numbers.
-/
import Derived.Test.YtapfhhmimkkhnaaM2bToH0
import Derived.Test.YtapfhhmimkkhnaaQ3ToQD
import Derived.Shelf.Spec.SlicesInsertGrow
import Derived.Shelf.Slices.SearchI
import Derived.Shelf.Lay
import Derived.Deep.Cut
import Derived.Test.YtapfhhmimkkhnaaF5ToRF8
import Derived.Test.YtapfhhmimkkhnaaA4ToU1
namespace Go.Proofs.Ytapfhhmimkkhnaa
open Go.RowKit Go.Maps Go.Lib
set_option linter.unusedVariables false
set_option maxRecDepth 100000
shelf_lay Lays2.n25 Nm2 25 at Try as Try.laysBs
shelf_lay Lays2.n21 Nm2 21 at Try as Try.laysIns
theorem owns_isSome {w:World} {base:Nat} {e:TypeId} {size g cap n:Nat} {xs:List Value} (h:w.ownsRow base e size (.slice (some ⟨g,0,none⟩) n cap) n xs) (j:Nat) (hj:j<n*size):(w.cell? ⟨g,j,none⟩).isSome=true:=by
 rw [h.cellAt j hj,List.getElem?_eq_getElem (by rw [h.1];exact hj)];rfl
end Go.Proofs.Ytapfhhmimkkhnaa
namespace Go.Proofs.Ytapfhhmimkkhnaa
open Go.RowKit Go.Maps
set_option linter.unusedVariables false
set_option maxRecDepth 100000
set_option maxHeartbeats 16000000
theorem l11LeadG_any (k p:Nat) (hk:k<p) (hp:p≤7) (te vo co ro:Int) (la:Option Addr) (lc:Nat) (va:Option Addr) (vn vc:Nat) (ma:Option Addr) (mn mc:Nat) (log:List En) (w:World) (hl:ER w (.slice la log.length lc) log) (nl:log.length≤1048576) (hc0:0≤co):
  Calls Try.prog 77 #[.agg #[k,p,te,vo,.slice la log.length lc,co,ro,.slice va vn vc,.slice ma mn mc]] w fun e w'=>∃u,e= .returned (.agg #[k,p,te,vo,.slice la log.length lc,(zr_ te p co log (mtZ p k log.length) log.length:Int),(2:Int),(),u])∧w'.ownsRow w.heap.size 3 1 u p ((mtZ p k log.length).map (.int .i64))∧Below w.heap.size w w':=by
 obtain⟨i0,hi,hz0,hz1,hz2⟩:=info_parts Try.info3;obtain⟨W0,hW0,hB,X,Y,_⟩:=al2 w [k,p,te,vo,.slice la log.length lc,co,(2:Int),(),.slice ma mn mc] 26 zN 26;have hzq:W0.heap.size=w.heap.size+1+1:=by rw [hW0];simp
 have hM0:(madeCells (Value.int .i64 0).cells (p*1)).toList=(List.replicate p (0:Int)).map (.int .i64):=by
  apply List.ext_getElem
  ·simp [madeCells]
  ·intro i h1 h2;simp [madeCells,Value.cells,Nat.mod_one]
 go_enter Try.func77,Try.ntmps77;go_wp2_with (at_make;refine zB_.go ?_);rw [←hW0];unfold zB_;refine wpList_make_full _ rfl _ _ 24 rfl (w.heap.size+1+1) 3 i0 _ 1 Try.underlying24 hi hz0 hz1 .i64 .i64 _ _ p rfl rfl rfl rfl (by rw [hz2];omega) (by unfold maxLen;omega) (by omega) ?_;intro w1 o1 hgr;rw [hM0,hzq] at o1;have hb:Below W0.heap.size W0 w1:=(Below.refl _ _).grown hgr (Nat.le_refl _) (by simp);clear hW0 hgr hi hz0 hz1 hz2 hM0;replace hB:=za_ hB hb;replace X:=X.below hb;replace Y:=Y.below hb;have hzl:=(owns_lt o1).2;clear hb;obtain⟨xl,x0,x1,x2,x3,x4,x5,x6,x7,x8⟩:=X.e9;obtain⟨f0,f1,f2,f3,f4,f5,f6,f7,f8⟩:=X.f9;rw [hzq];clear hzq;go_upto_region 4 with fail;obtain⟨W1,hW1⟩:∃W,W=w1.setCell ⟨w.heap.size,8,none⟩ (.slice (some ⟨w.heap.size+1+1,0,none⟩) p p):=⟨_,rfl⟩;have hC:Chg (fun b=>b=w.heap.size) w1 W1:=by rw [hW1];exact Chg.setCell (S:=fun b=>b=w.heap.size) (Chg.refl _ _) rfl _
 replace X:Box W1 w.heap.size [k,p,te,vo,.slice la log.length lc,co,(2:Int),(),.slice (some ⟨w.heap.size+1+1,0,none⟩) p p]:=by rw [hW1];exact X.set 8 _ (by simp)
 replace Y:=hC.box Y (by omega);replace hB:=hB.trans (hC.below (B:=w.heap.size) hB.size (fun k hk=>by omega));replace o1:=hC.owns o1 (fun b hb hh=>by simp [Value.ownBlock] at hb;have hh:b=w.heap.size:=hh;omega);have hz1:=hC.size;rw [←hW1];clear hW1 hC xl x0 x1 x2 x3 x4 x5 x6 x7 x8 f0 f1 f2 f3 f4 f5 f6 f7 f8;obtain⟨xl,x0,x1,x2,x3,x4,x5,x6,x7,x8⟩:=X.e9;obtain⟨⟨u0,d0⟩,e0⟩:(∃v,W1.cell? ⟨w.heap.size+1+1,k,none⟩=some v)∧W1.frozen? ⟨w.heap.size+1+1,k,none⟩=false:=⟨by have:=owns_isSome o1 k (by omega);exact Option.isSome_iff_exists.1 this,o1.frozenAt k⟩;have o2:=(o1.stored k (.int .i64 log.length)).1;have eM:((List.replicate p (0:Int)).map (Value.int .i64)).set k (.int .i64 log.length)=(mtZ p k log.length).map (.int .i64):=by
  simp [mtZ,List.map_set]
 rw [eM] at o2;clear eM o1;obtain⟨W2,hW2⟩:∃W,W=W1.setCell ⟨w.heap.size+1+1,k,none⟩ (.int .i64 log.length):=⟨_,rfl⟩;rw [←hW2] at o2;have hC:Chg (fun b=>b=w.heap.size+1+1) W1 W2:=by rw [hW2];exact Chg.setCell (S:=fun b=>b=w.heap.size+1+1) (Chg.refl _ _) rfl _
 replace X:=hC.box X (by omega);replace Y:=hC.box Y (by omega);replace hB:=hB.trans (hC.below (B:=w.heap.size) hB.size (fun k hk=>by omega));have hz2:=hC.size;have hkb:(k:Int)<(p:Int):=by omega
 have hk0:(0:Int)≤(k:Int):=by omega
 go_upto_region 5 with fail;rw [←hW2];clear hW2 hC d0 e0 xl x0 x1 x2 x3 x4 x5 x6 x7 x8;have K:=l11Commit_any k p te vo co (.slice la log.length lc) (.slice none 0 0) (.slice (some ⟨w.heap.size+1+1,0,none⟩) p p) log [] (mtZ p k log.length) W2 (hl.below hB) (zY_ (World.ownsRow_nil _ W2.heap.size 3 1) rfl) (zY_ o2 (by simp [mtZ])) nl (by simp [mtZ];omega) hc0;obtain⟨cx,HCX⟩:∃cx,Hid (zr_ te p co log (mtZ p k log.length) log.length=cx):=⟨zr_ te p co log (mtZ p k log.length) log.length,rfl⟩;rw [HCX.out] at K;obtain⟨xl,x0,x1,x2,x3,x4,x5,x6,x7,x8⟩:=X.e9;go_wp2_with fail;refine K.mono ?_;rintro e w3 ⟨rfl,hb⟩;clear K xl x0 x1 x2 x3 x4 x5 x6 x7 x8 X;replace hB:=za_ hB hb;replace Y:=Y.below hb;replace o2:=zd_ o2 hb;clear hb;have hC:=zo_ w3 (w.heap.size+1) k p te vo (.slice la log.length lc) cx (.int .i64 2) () (.slice (some ⟨w.heap.size+1+1,0,none⟩) p p);have Z:=zp_ Y k p te vo (.slice la log.length lc) cx (.int .i64 2) () (.slice (some ⟨w.heap.size+1+1,0,none⟩) p p);have hBE:=hB.trans (hC.below (B:=w.heap.size) hB.size (fun k hk=>by omega));have oE:=zg_ (hC.owns o2 (fun b hb hh=>by simp [Value.ownBlock] at hb;have hh:b=w.heap.size+1:=hh;omega)) (show w.heap.size≤w.heap.size+1+1 from by omega);obtain⟨yl,y0,y1,y2,y3,y4,y5,y6,y7,y8⟩:=Y.e9;obtain⟨f0,f1,f2,f3,f4,f5,f6,f7,f8⟩:=Y.f9;clear hC Y hB o2;obtain⟨tl,t0,t1,t2,t3,t4,t5,t6,t7,t8⟩:=Z.e9;clear Z;unfold put9 at*;go_wp2;exact bodyPost_ret (v:= .agg #[k,p,te,vo,.slice la log.length lc,cx,(2:Int),(),.slice (some ⟨w.heap.size+1+1,0,none⟩) p p]) (by simp [results,Try.results77,go_sem,t0,t1,t2,t3,t4,t5,t6,t7,t8]) rfl ⟨_,by rw [HCX.out],oE,hBE⟩
set_option maxHeartbeats 200000
theorem zN_ {w:World} {b:Nat} {l:List Value} (h:Box w b l):Box w.drew b l:=h
theorem row9_new (w:World) (ki fr dst te ix be co:Int) (ye:Bool):(w.alloc (.cells #[ki,fr,dst,te,ix,be,(),co,ye] 38)).ownsRow w.heap.size 38 9 (.slice (some ⟨w.heap.size,0,none⟩) 1 1) 1 (flat9 [⟨ki,fr,dst,te,ix,be,co,ye⟩]):=
 World.ownsRow_lit w #[ki,fr,dst,te,ix,be,(),co,ye] 1 (Nat.le_refl _) (by simp [maxLen]) (by simp)
theorem Chg.next {S S':Nat→Prop} {w a b:World} (h:Chg S w a) (h':Chg S' a b) (hs:∀k,S' k→S k∨w.heap.size≤k):Chg S w b:=
 ⟨h'.os.trans h.os,h'.tape.trans h.tape,h'.output.trans h.output,Nat.le_trans h.size h'.size,fun k hk hn=>(h'.block k (Nat.lt_of_lt_of_le hk h.size) (fun e=>(hs k e).elim hn (fun q=>by omega))).trans (h.block k hk hn)⟩
theorem below_dN (w:World) (q:Nat):Below w.heap.size w (w.drewN q):=⟨rfl,rfl,rfl,Nat.le_refl _,fun _ _=>rfl⟩
theorem cp_lt (x:Int):∀(vs:List Int),vs.Pairwise (· ≤ ·)→∀i (h:i<vs.length),(vs[i]<x↔i<vs.countP fun v=>decide (v<x)):=by
 intro vs
 induction vs with
 | nil=>intro _ i h;simp at h
 | cons v r ih=>
  intro hs i h;have hs':=List.pairwise_cons.1 hs;by_cases hv:v<x
  ·have e:(v::r).countP (fun v=>decide (v<x))=r.countP (fun v=>decide (v<x))+1:=by simp [hv]
   rw [e]
   cases i with
   | zero=>simp [hv]
   | succ i=>
    simp only [List.getElem_cons_succ];rw [ih hs'.2 i (by simpa using h)];omega
  ·have e0:r.countP (fun v=>decide (v<x))=0:=by
    rw [List.countP_eq_zero];intro a ha;have:=hs'.1 a ha;simp;omega
   have e:(v::r).countP (fun v=>decide (v<x))=0:=by simp [hv,e0]
   rw [e]
   cases i with
   | zero=>simp [hv]
   | succ i=>
    simp only [List.getElem_cons_succ];have hi:i<r.length:=by simpa using h
    have:=hs'.1 r[i] (List.getElem_mem hi);omega
theorem l11Told_any (id pe te vo co ro:Int) (la:Option Addr) (ln lc:Nat) (va:Option Addr) (vn vc:Nat) (ma:Option Addr) (mn mc:Nat) (w:World):
  Calls Try.prog 175 #[.agg #[id,pe,te,vo,.slice la ln lc,co,ro,.slice va vn vc,.slice ma mn mc]] w fun e w'=>e= .returned (.int .i64 te)∧Below w.heap.size w w':=by
 go_enter Try.func175,Try.ntmps175;go_wp2;go_ret;exact⟨rfl,zc_ _ _⟩
theorem sli_to (a:Option Addr) (n cap p:Nat) (w:World) (hp:p≤cap):(Instr.sliceAt 24 (.slice a n cap) none (some (.int .i64 p)) none).run Try.prog w= .ok (.slice a p cap) w:=by
 have h1:(p:Int)≤(cap:Int):=by omega
 have h2:(0:Int)≤(p:Int):=by omega
 have hA:(Instr.sliceAt 24 (.slice a n cap) none (some (.int .i64 p)) none).run Try.prog w=(Instr.slice 24 (.slice a n cap) none (some (.int .i64 p)) none).run Try.prog w:=by simp [Instr.sliceAt,run_underlying Try.underlying24]
 rw [hA];simp [Instr.slice,Instr.sliceBounds,Instr.sliceBound,asIntOf,run_underlying Try.underlying24,hp,h2,Try.sizeOf3]
 cases a <;>simp [Addr.add]
theorem sli_from (w:World) (a:Option Addr) (cap p:Nat) (zs:List Int) (h:IL w (.slice a zs.length cap) zs) (hc:zs.length≤cap) (hp:p≤zs.length):∃a2,(∀w,(Instr.sliceAt 24 (.slice a zs.length cap) (some (.int .i64 p)) none none).run Try.prog w= .ok (.slice a2 (zs.length-p) (cap-p)) w)∧IL w (.slice a2 (zs.length-p) (cap-p)) (zs.drop p):=by
 refine⟨if cap=p then a else a.map (fun x=>x.add (p*1)),fun w=> ?_,?_⟩
 ·have h1:(p:Int)≤(zs.length:Int):=by omega
  have h2:(0:Int)≤(p:Int):=by omega
  have hA:(Instr.sliceAt 24 (.slice a zs.length cap) (some (.int .i64 p)) none none).run Try.prog w=(Instr.slice 24 (.slice a zs.length cap) (some (.int .i64 p)) none none).run Try.prog w:=by simp [Instr.sliceAt,run_underlying Try.underlying24]
  rw [hA];simp [Instr.slice,Instr.sliceBounds,Instr.sliceBound,asIntOf,run_underlying Try.underlying24,hp,h2,Try.sizeOf3]
 ·obtain⟨a',c',he,hcc⟩:=h;simp only [Value.slice.injEq,true_and] at he;obtain⟨rfl,rfl⟩:=he;refine⟨_,_,by rw [List.length_drop],fun hne=> ?_⟩;have hlt:p<zs.length:=by
   rcases Nat.lt_or_ge p zs.length with h | h
   ·exact h
   ·exact absurd (List.drop_eq_nil_of_le h) hne
  obtain⟨b,off,rfl,hb,hcell⟩:=hcc (by intro e;rw [e] at hlt;simp at hlt);rw [if_neg (by omega)];refine⟨b,off+p*1,by simp [Addr.add],hb,fun i hi=> ?_⟩;rw [List.getElem_drop];rw [List.length_drop] at hi;have hq:=hcell (p+i) (by omega);rw [show off+p*1+i=off+(p+i) from by omega];exact hq
theorem IL_to {w:World} {a:Option Addr} {cap p:Nat} {zs:List Int} (h:IL w (.slice a zs.length cap) zs) (hp:p≤zs.length):IL w (.slice a p cap) (zs.take p):=by
 obtain⟨a',c',he,hc⟩:=h;simp only [Value.slice.injEq,true_and] at he;obtain⟨rfl,rfl⟩:=he;have hlen:(zs.take p).length=p:=by simp;omega
 refine⟨a,cap,by rw [hlen],fun hne=> ?_⟩;obtain⟨b,off,rfl,hb,hcell⟩:=hc (by intro e;rw [e] at hne;simp at hne);refine⟨b,off,rfl,hb,fun i hi=> ?_⟩;rw [List.getElem_take];exact hcell i (by omega)
end Go.Proofs.Ytapfhhmimkkhnaa
