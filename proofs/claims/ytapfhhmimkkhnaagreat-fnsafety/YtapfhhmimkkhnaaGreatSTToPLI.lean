/-
  A step: impl's StepCluster.
  A step, of whatever kind: impl's StepCluster.
  A play: impl's PlayCluster.
-/
import Derived.Test.YtapfhhmimkkhnaaGreatMDToMO
namespace Go.Proofs.YtapfhhmimkkhnaaGreat
open Go.RowKit Go.Maps
set_option linter.unusedVariables false
set_option maxRecDepth 100000
set_option maxHeartbeats 16000000
theorem vV_ {p:Nat} {N:List Nv} {M:List Mv} {L:List Ld} (h:PG p (N.map Nv.n) (M.map Mv.q) L):CS N M L:=by
 have hn:=h.n;have hp:=h.p7;have hm:=h.m6;have hl:=h.l;rw [List.length_map] at hn hm;have hN:∀i (hi:i<N.length),Gd N[i].n:=fun i hi=>by
  have:=(h.g i (by rw [List.length_map];exact hi)).1;rw [List.getElem_map] at this;exact this
 have hM:∀i (hi:i<M.length),M[i].q.es.length≤60∧∀j (hj:j<M[i].q.es.length),M[i].q.es[j].d.size≤1048576:=fun i hi=>by
  have hgm:=h.m M[i].q (List.mem_map.2 ⟨M[i],List.getElem_mem hi,rfl⟩);obtain⟨_,_,_,_,_,_,a7⟩:=zt_ hgm;rcases xd_ a7 with q | q | q | q <;>rw [q] at a7
  ·rw [(vk_ a7).2.1];exact⟨by simp,fun j hj=>by simp at hj⟩
  ·rw [(vj_ a7).2.2.1];exact⟨by simp,fun j hj=>by simp at hj⟩
  ·have k:=xe_ a7;refine⟨by have:=k.1.1;have:=k.2.1;omega,fun j hj=> ?_⟩;have:=(xI_ k.2.2.1 j hj).1;simp only [yn_,Bool.and_eq_true,decide_eq_true_eq] at this;omega
  ·rw [(xR_ a7).2.2.1];exact⟨by simp,fun j hj=>by simp at hj⟩
 exact⟨by omega,by omega,by omega,fun i hi=>⟨(hN i hi).bnd.l,(hN i hi).bnd.v,(hN i hi).bnd.m⟩,fun i hi=>by have:=(hM i hi).1;omega,fun i hi j hj=>(hN i hi).bnd.s j hj,fun i hi j hj=>(hM i hi).2 j hj⟩
theorem px_ (H:Nat) (W:World):(Instr.field 85 (.agg #[.func (.func H) #[] #[]]) 0).run Tryz.prog W= .ok (.func (.func H) #[] #[]) W:=by kernel_rfl
theorem yr_ {w':World} {lo:Nat} {ok:Bool} {N2:List Nd} {M2:List Ms} {L2:List Ld} {e:Ending} (h:yO_ w' lo ok N2 M2 L2 e):∃(a1:Option Addr) (n1 c1:Nat) (a2:Option Addr) (n2 c2:Nat) (a3:Option Addr) (n3 c3:Nat),e= .returned (.tuple #[.agg #[.slice a1 n1 c1,.slice a2 n2 c2,.slice a3 n3 c3],ok])∧(ok=true→∃N' M',OwnC w' lo w'.heap.size (.slice a1 n1 c1) (.slice a2 n2 c2) (.slice a3 n3 c3) N' M' L2∧N'.map Nv.n=N2∧M'.map Mv.q=M2):=by
 rcases h with⟨h1,un,um,ul,N',M',rfl,h2,h3,h4⟩ | ⟨h1,a1,n1,c1,a2,n2,c2,a3,n3,c3,rfl⟩
 ·obtain⟨⟨a1,c1,rfl⟩,⟨a2,c2,rfl⟩,a3,c3,rfl⟩:=h2.shapes;exact⟨a1,_,c1,a2,_,c2,a3,_,c3,by rw [h1],fun _=>⟨N',M',h2,h3,h4⟩⟩
 ·exact⟨a1,n1,c1,a2,n2,c2,a3,n3,c3,by rw [h1],fun q=>(by rw [h1] at q;cases q)⟩
def StepR (w':World) (lo:Nat) (ok:Bool) (N2:List Nd) (M2:List Ms) (L2:List Ld) (e:Ending):Prop:=
 ∃un um ul,e= .returned (.tuple #[.agg #[un,um,ul],ok])∧(ok=true→∃N' M',OwnC w' lo w'.heap.size un um ul N' M' L2∧N'.map Nv.n=N2∧M'.map Mv.q=M2)∧(ok=false→un= .slice none 0 0∧um= .slice none 0 0∧ul= .slice none 0 0)
theorem yp_ (H:Nat) (p lo hi:Nat) (vn vm vl:Value) (N:List Nv) (M:List Mv) (L:List Ld) (ki no k mn:Int) (d:ByteArray) (w:World) (h:OwnC w lo hi vn vm vl N M L) (hG:PG p (N.map Nv.n) (M.map Mv.q) L)
  (KO:∀W,Calls Tryz.prog 44 #[ki] W fun e w'=>e= .returned (.agg #[.func (.func H) #[] #[]])∧Below W.heap.size W w')
  (KF:∀(args:Array Value) (W:World),(callFunc H args).run Tryz.prog W= .ok (.enter H args) W)
  (KM:∀(W:World) lo2 hi2 un um ul (N2:List Nv) (M2:List Mv),OwnC W lo2 hi2 un um ul N2 M2 L→hi2≤W.heap.size→N2.map Nv.n=N.map Nv.n→M2.map Mv.q=M.map Mv.q→Calls Tryz.prog H #[.agg #[un,um,ul],.agg #[ki,no,k,mn,d]] W fun e w'=>yO_ w' lo2 (stB (N.map Nv.n) (M.map Mv.q) ⟨ki,no,k,mn,d⟩) (stN (N.map Nv.n) (M.map Mv.q) ⟨ki,no,k,mn,d⟩) (stM (N.map Nv.n) (M.map Mv.q) ⟨ki,no,k,mn,d⟩) (stL (N.map Nv.n) (M.map Mv.q) L ⟨ki,no,k,mn,d⟩) e∧Below lo2 W w'):
  Calls Tryz.prog 15 #[.agg #[vn,vm,vl],.agg #[ki,no,k,mn,d]] w fun e w'=>StepR w' w.heap.size (stB (N.map Nv.n) (M.map Mv.q) ⟨ki,no,k,mn,d⟩) (stN (N.map Nv.n) (M.map Mv.q) ⟨ki,no,k,mn,d⟩) (stM (N.map Nv.n) (M.map Mv.q) ⟨ki,no,k,mn,d⟩) (stL (N.map Nv.n) (M.map Mv.q) L ⟨ki,no,k,mn,d⟩) e∧Below w.heap.size w w':=by
 have HKF:Hid (∀(args:Array Value) (W:World),(callFunc H args).run Tryz.prog W= .ok (.enter H args) W):=KF;clear KF;obtain⟨⟨na,nc,rfl⟩,⟨ma,mc,rfl⟩,ya,yc,rfl⟩:=h.shapes;obtain⟨W0,hW0,hB,X,Y,Z,hz0⟩:=al3 w [.slice na N.length nc,.slice ma M.length mc,.slice ya L.length yc] 30 [ki,no,k,mn,d] 51 z3 30;have hT0:TyB W0 (w.heap.size+1+1) 30:=⟨z3,by
  rw [hW0];have:=heap_alloc_new ((w.alloc (.cells #[.slice na N.length nc,.slice ma M.length mc,.slice ya L.length yc] 30)).alloc (.cells #[ki,no,k,mn,d] 51)) (.cells z3 30);simpa using this⟩
 have hTc:TyB W0 w.heap.size 30:=(TyB.below (w:=w.alloc (.cells #[.slice na N.length nc,.slice ma M.length mc,.slice ya L.length yc] 30)) ⟨_,heap_alloc_new w (.cells #[.slice na N.length nc,.slice ma M.length mc,.slice ya L.length yc] 30)⟩ (by rw [hW0];exact ((zb_ _ _).trans ((zb_ _ _).mono (by simp)))));have hcs:=vV_ hG;have hg:=hG.good;have h0:=h.below hB;have KG:=fun W (q:CR W (.slice na N.length nc) (.slice ma M.length mc) (.slice ya L.length yc) N M L)=>vn_ (.slice na N.length nc) (.slice ma M.length mc) (.slice ya L.length yc) N M L W q hcs;rw [hg] at KG;obtain⟨ok,hok⟩:∃ok,stB (N.map Nv.n) (M.map Mv.q) ⟨ki,no,k,mn,d⟩=ok:=⟨_,rfl⟩;obtain⟨N2,hN2⟩:∃N2,stN (N.map Nv.n) (M.map Mv.q) ⟨ki,no,k,mn,d⟩=N2:=⟨_,rfl⟩;obtain⟨M2,hM2⟩:∃M2,stM (N.map Nv.n) (M.map Mv.q) ⟨ki,no,k,mn,d⟩=M2:=⟨_,rfl⟩;obtain⟨L2,hL2⟩:∃L2,stL (N.map Nv.n) (M.map Mv.q) L ⟨ki,no,k,mn,d⟩=L2:=⟨_,rfl⟩;rw [hok,hN2,hM2,hL2] at KM ⊢;clear hok hN2 hM2 hL2 hG hg h;obtain⟨yl,y0,y1,y2,y3,y4⟩:=Y.c5;obtain⟨xl,x0,x1,x2⟩:=X.c3;go_enter Tryz.func15,Tryz.ntmps15;go_upto_region 1 with fail;rw [←hW0];clear hW0;go_wp2_with fail;refine (KG _ h0.cr).mono ?_;rintro e w1 ⟨rfl,hb1⟩;replace X:=X.below hb1;replace Y:=Y.below hb1;replace Z:=Z.below hb1;replace hT0:=hT0.below hb1;replace hTc:=hTc.below hb1;replace h0:=h0.below hb1;replace hB:=za_ hB hb1;have hz1:=hb1.size;clear KG hb1 yl y0 y1 y2 y3 y4 xl x0 x1 x2;go_upto_region 3 with fail
 go_cut [6] from 7 (fun t6 wq=>∃(a1:Option Addr) (n1 d1:Nat) (a2:Option Addr) (n2 d2:Nat) (a3:Option Addr) (n3 d3:Nat),t6= .bool ok∧Box wq w.heap.size [.slice a1 n1 d1,.slice a2 n2 d2,.slice a3 n3 d3]∧Box wq (w.heap.size+1+1) z3∧TyB wq (w.heap.size+1+1) 30∧Below w.heap.size w wq∧(ok=true→∃N' M',OwnC wq w.heap.size wq.heap.size (.slice a1 n1 d1) (.slice a2 n2 d2) (.slice a3 n3 d3) N' M' L2∧N'.map Nv.n=N2∧M'.map Mv.q=M2))
 case first=>
  have hva:Below w1.heap.size w1 w1.drew:=(Below.refl _ _).drew;replace X:=X.below hva;replace Y:=Y.below hva;replace Z:=Z.below hva;replace hT0:=hT0.below hva;replace hTc:=hTc.below hva;replace h0:=h0.below hva;replace hB:=za_ hB hva;have hvs:w1.heap.size≤w1.drew.heap.size:=hva.size;clear hva;refine wp_region_held_drew (S:=(fun w'=>Box w' (w.heap.size+1) [ki,no,k,mn,d])) (by kernel_rfl) Y (fun zc_=> ?_);generalize w1.drew=va at*;refine tkH 0 (.pointer (some ⟨w.heap.size+1,0,none⟩)) rfl ?_ ?_
  ·intro wx hSw;clear zc_ hSw;go_simp
  simp only [Act.put,sA_,sB_,sC_];refine tkH 1 (.int .i64 ki) rfl ?_ ?_
  ·intro wx hSw;have e:=hSw.2.1 0 _ rfl;have e2:=hSw.1;clear zc_ hSw;go_simp
  simp only [Act.put,sA_,sB_,sC_];refine tkH 6 (.agg #[ki,no,k,mn,d]) rfl ?_ ?_
  ·intro wx hSw;obtain⟨sl,s0,s1,s2,s3,s4⟩:=hSw.c5;clear zc_ hSw;go_simp
  simp only [Act.put,sA_,sB_,sC_];refine rd2 2 4 rfl rfl (fun K hK=> ?_) (fun K hK=> ?_)
  ·clear zc_;go_simp;refine (KO va).mono ?_;rintro e w3 ⟨rfl,hb3⟩;replace X:=X.below hb3;replace Y:=Y.below hb3;replace Z:=Z.below hb3;replace hT0:=hT0.below hb3;replace hTc:=hTc.below hb3;replace h0:=h0.below hb3;replace hB:=za_ hB hb3;have hz3:=hb3.size;clear KO hb3;refine hK.out _ w3 Y (fun zc_=> ?_);clear hK K
   try (simp only [Act.put,sA_,sB_,sC_])
   refine tkH 3 (.func (.func H) #[] #[]) rfl ?_ ?_
   ·intro wx hSw;have e:=px_ H wx;clear zc_ hSw;go_simp
   simp only [Act.put,sA_,sB_,sC_];refine rd1 4 rfl (fun K hK=> ?_);clear zc_;obtain⟨xl,x0,x1,x2⟩:=X.c3;go_simp;clear xl x0 x1 x2;refine hK.out _ w3 Y (fun zc_=> ?_);clear hK K
   try (simp only [Act.put,sA_,sB_,sC_])
   refine rd1 5 rfl (fun K hK=> ?_);clear zc_;go_simp;refine (xL_ lo hi _ _ _ N M L w3 h0 hcs).mono ?_;rintro e w5 ⟨⟨un0,um0,ul0,N5,M5,rfl,h5,hn5,hm5⟩,hb5⟩;replace X:=X.below hb5;replace Y:=Y.below hb5;replace Z:=Z.below hb5;replace hT0:=hT0.below hb5;replace hTc:=hTc.below hb5;replace hB:=za_ hB hb5;have hz5:=hb5.size;clear hb5 h0;refine hK.out _ w5 Y (fun zc_=> ?_);clear hK K
   try (simp only [Act.put,sA_,sB_,sC_])
   refine rd1 7 rfl (fun K hK=> ?_);clear zc_;go_simp
   try (simp only [HKF.out,Oper.upon_enter])
   refine (KM w5 w3.heap.size w5.heap.size un0 um0 ul0 N5 M5 h5 (Nat.le_refl _) hn5 hm5).mono ?_;rintro e w7 ⟨hS,hb7⟩;have hS2:=yr_ hS;clear hS;obtain⟨a1,n1,d1,a2,n2,d2,a3,n3,d3,rfl,hS⟩:=hS2;replace X:=X.under hb7 (by omega);replace Y:=Y.under hb7 (by omega);replace Z:=Z.under hb7 (by omega);replace hT0:=hT0.chg (S:=fun b=>w3.heap.size≤b) ⟨hb7.os,hb7.tape,hb7.output,hb7.size,fun k hk hs=>hb7.block k (by omega)⟩ (by omega);replace hTc:=hTc.chg (S:=fun b=>w3.heap.size≤b) ⟨hb7.os,hb7.tape,hb7.output,hb7.size,fun k hk hs=>hb7.block k (by omega)⟩ (by omega);replace hB:=hB.trans (hb7.mono (by omega));have hz7:=hb7.size;clear hb7 h5 KM;refine hK.out _ w7 Y (fun zc_=> ?_);clear hK K
   try (simp only [Act.put,sA_,sB_,sC_])
   refine tkH 8 (.tuple #[.agg #[.slice a1 n1 d1,.slice a2 n2 d2,.slice a3 n3 d3],ok]) rfl ?_ ?_
   ·intro wx hSw;clear zc_ hSw;go_simp
   simp only [Act.put,sA_,sB_,sC_];refine tkH 9 (.agg #[.slice a1 n1 d1,.slice a2 n2 d2,.slice a3 n3 d3]) rfl ?_ ?_
   ·intro wx hSw;clear zc_ hSw;go_simp
   simp only [Act.put,sA_,sB_,sC_];refine tkH 10 (.bool ok) rfl ?_ ?_
   ·intro wx hSw;clear zc_ hSw;go_simp
   simp only [Act.put,sA_,sB_,sC_];refine rd1 11 rfl (fun K hK=> ?_);clear zc_;obtain⟨w8,hw8,hC8,X8⟩:=zi_ w7 X (.slice a1 n1 d1) (.slice a2 n2 d2) (.slice a3 n3 d3);have hz8:=hC8.size;replace Y:=hC8.box Y (by omega);replace Z:=hC8.box Z (by omega);replace hT0:=hT0.chg hC8 (by omega);replace hB:=hB.trans (hC8.b1 (B:=w.heap.size) (by omega) (by omega));have hS8:ok=true→∃N' M',OwnC w8 w.heap.size w8.heap.size (.slice a1 n1 d1) (.slice a2 n2 d2) (.slice a3 n3 d3) N' M' L2∧N'.map Nv.n=N2∧M'.map Mv.q=M2:=fun q=>by
    obtain⟨N',M',q1,q2,q3⟩:=hS q;exact⟨N',M',(((q1.keep hTc hC8).hiN (by omega)).loN (by omega)),q2,q3⟩
   obtain⟨xl,x0,x1,x2,f0,f1,f2⟩:=X.c3f;unfold put3 at hw8;go_simp;rw [←hw8];clear hw8 hC8 xl x0 x1 x2 f0 f1 f2 X hS hTc;refine hK.out _ w8 Y (fun zc_=> ?_);clear hK K
   try (simp only [Act.put,sA_,sB_,sC_])
   refine tkH 12 (.bool ok) rfl ?_ ?_
   ·intro wx hSw;clear zc_ hSw;go_simp
   simp only [Act.put,sA_,sB_,sC_];clear zc_;refine wpAnyH_done (by kernel_rfl) ?_ _;go_wp2_with fail;go_meet
   case rel=>exact⟨a1,n1,d1,a2,n2,d2,a3,n3,d3,rfl,X8,Z,hT0,hB,hS8⟩
  ·clear zc_;obtain⟨xl,x0,x1,x2⟩:=X.c3;go_simp;clear xl x0 x1 x2;refine hK.out _ va Y (fun zc_=> ?_);clear hK K
   try (simp only [Act.put,sA_,sB_,sC_])
   refine rd1 2 rfl (fun K hK=> ?_);clear zc_;go_simp;refine (KO va).mono ?_;rintro e w3 ⟨rfl,hb3⟩;replace X:=X.below hb3;replace Y:=Y.below hb3;replace Z:=Z.below hb3;replace hT0:=hT0.below hb3;replace hTc:=hTc.below hb3;replace h0:=h0.below hb3;replace hB:=za_ hB hb3;have hz3:=hb3.size;clear KO hb3;refine hK.out _ w3 Y (fun zc_=> ?_);clear hK K
   try (simp only [Act.put,sA_,sB_,sC_])
   refine tkH 3 (.func (.func H) #[] #[]) rfl ?_ ?_
   ·intro wx hSw;have e:=px_ H wx;clear zc_ hSw;go_simp
   simp only [Act.put,sA_,sB_,sC_];refine rd1 5 rfl (fun K hK=> ?_);clear zc_;go_simp;refine (xL_ lo hi _ _ _ N M L w3 h0 hcs).mono ?_;rintro e w5 ⟨⟨un0,um0,ul0,N5,M5,rfl,h5,hn5,hm5⟩,hb5⟩;replace X:=X.below hb5;replace Y:=Y.below hb5;replace Z:=Z.below hb5;replace hT0:=hT0.below hb5;replace hTc:=hTc.below hb5;replace hB:=za_ hB hb5;have hz5:=hb5.size;clear hb5 h0;refine hK.out _ w5 Y (fun zc_=> ?_);clear hK K
   try (simp only [Act.put,sA_,sB_,sC_])
   refine rd1 7 rfl (fun K hK=> ?_);clear zc_;go_simp
   try (simp only [HKF.out,Oper.upon_enter])
   refine (KM w5 w3.heap.size w5.heap.size un0 um0 ul0 N5 M5 h5 (Nat.le_refl _) hn5 hm5).mono ?_;rintro e w7 ⟨hS,hb7⟩;have hS2:=yr_ hS;clear hS;obtain⟨a1,n1,d1,a2,n2,d2,a3,n3,d3,rfl,hS⟩:=hS2;replace X:=X.under hb7 (by omega);replace Y:=Y.under hb7 (by omega);replace Z:=Z.under hb7 (by omega);replace hT0:=hT0.chg (S:=fun b=>w3.heap.size≤b) ⟨hb7.os,hb7.tape,hb7.output,hb7.size,fun k hk hs=>hb7.block k (by omega)⟩ (by omega);replace hTc:=hTc.chg (S:=fun b=>w3.heap.size≤b) ⟨hb7.os,hb7.tape,hb7.output,hb7.size,fun k hk hs=>hb7.block k (by omega)⟩ (by omega);replace hB:=hB.trans (hb7.mono (by omega));have hz7:=hb7.size;clear hb7 h5 KM;refine hK.out _ w7 Y (fun zc_=> ?_);clear hK K
   try (simp only [Act.put,sA_,sB_,sC_])
   refine tkH 8 (.tuple #[.agg #[.slice a1 n1 d1,.slice a2 n2 d2,.slice a3 n3 d3],ok]) rfl ?_ ?_
   ·intro wx hSw;clear zc_ hSw;go_simp
   simp only [Act.put,sA_,sB_,sC_];refine tkH 9 (.agg #[.slice a1 n1 d1,.slice a2 n2 d2,.slice a3 n3 d3]) rfl ?_ ?_
   ·intro wx hSw;clear zc_ hSw;go_simp
   simp only [Act.put,sA_,sB_,sC_];refine tkH 10 (.bool ok) rfl ?_ ?_
   ·intro wx hSw;clear zc_ hSw;go_simp
   simp only [Act.put,sA_,sB_,sC_];refine rd1 11 rfl (fun K hK=> ?_);clear zc_;obtain⟨w8,hw8,hC8,X8⟩:=zi_ w7 X (.slice a1 n1 d1) (.slice a2 n2 d2) (.slice a3 n3 d3);have hz8:=hC8.size;replace Y:=hC8.box Y (by omega);replace Z:=hC8.box Z (by omega);replace hT0:=hT0.chg hC8 (by omega);replace hB:=hB.trans (hC8.b1 (B:=w.heap.size) (by omega) (by omega));have hS8:ok=true→∃N' M',OwnC w8 w.heap.size w8.heap.size (.slice a1 n1 d1) (.slice a2 n2 d2) (.slice a3 n3 d3) N' M' L2∧N'.map Nv.n=N2∧M'.map Mv.q=M2:=fun q=>by
    obtain⟨N',M',q1,q2,q3⟩:=hS q;exact⟨N',M',(((q1.keep hTc hC8).hiN (by omega)).loN (by omega)),q2,q3⟩
   obtain⟨xl,x0,x1,x2,f0,f1,f2⟩:=X.c3f;unfold put3 at hw8;go_simp;rw [←hw8];clear hw8 hC8 xl x0 x1 x2 f0 f1 f2 X hS hTc;refine hK.out _ w8 Y (fun zc_=> ?_);clear hK K
   try (simp only [Act.put,sA_,sB_,sC_])
   refine tkH 12 (.bool ok) rfl ?_ ?_
   ·intro wx hSw;clear zc_ hSw;go_simp
   simp only [Act.put,sA_,sB_,sC_];clear zc_;refine wpAnyH_done (by kernel_rfl) ?_ _;go_wp2_with fail;go_meet
   case rel=>exact⟨a1,n1,d1,a2,n2,d2,a3,n3,d3,rfl,X8,Z,hT0,hB,hS8⟩
 case rest=>
  obtain⟨a1,n1,d1,a2,n2,d2,a3,n3,d3,rfl,X,Z,hT0,hB,hS⟩:=hcut;clear KO KM h0 hTc Y hcs;obtain⟨xl,x0,x1,x2⟩:=X.c3;obtain⟨ztl,z0,z1,z2,f0,f1,f2⟩:=Z.c3f;have hzc:=hB.size;have hrw:=Z.1
  cases ok with
  | false=>
   obtain⟨W5,hW5,hC5,Z5⟩:=zi_ wc Z () () ();have hBF:Hid (Below w.heap.size w W5):=hB.trans (hC5.b1 (B:=w.heap.size) (by omega) (by omega));clear hC5 Z hS;obtain⟨tl,t0,t1,t2⟩:=Z5.c3;clear Z5;unfold put3 at*;go_wp2;rw [←hW5];exact bodyPost_ret (v:= .tuple #[.agg z3,false]) (by simp [results,Tryz.results15,go_sem,t0,t1,t2]) rfl ⟨⟨_,_,_,rfl,fun q=>(by cases q),fun _=>⟨rfl,rfl,rfl⟩⟩,hBF.out⟩
  | true=>
   obtain⟨N',M',q1,q2,q3⟩:=hS rfl;obtain⟨W5,hW5,hC5,Z5⟩:=zi_ wc Z (.slice a1 n1 d1) (.slice a2 n2 d2) (.slice a3 n3 d3);have hz5:=hC5.size;have hFF:Hid (OwnC W5 w.heap.size W5.heap.size (.slice a1 n1 d1) (.slice a2 n2 d2) (.slice a3 n3 d3) N' M' L2):=(q1.keep hT0 hC5).hiN (by omega);have hq2:Hid _:=q2;have hq3:Hid _:=q3;have hBF:Hid (Below w.heap.size w W5):=hB.trans (hC5.b1 (B:=w.heap.size) (by omega) (by omega));clear hC5 Z hS q1 q2 q3;obtain⟨tl,t0,t1,t2⟩:=Z5.c3;clear Z5;unfold put3 at*;go_wp2;rw [←hW5];exact bodyPost_ret (v:= .tuple #[.agg #[.slice a1 n1 d1,.slice a2 n2 d2,.slice a3 n3 d3],true]) (by simp [results,Tryz.results15,go_sem,t0,t1,t2]) rfl ⟨⟨_,_,_,rfl,fun _=>⟨N',M',hFF.out,hq2.out,hq3.out⟩,fun q=>(by cases q)⟩,hBF.out⟩
set_option maxHeartbeats 200000
theorem callF_77 (args:Array Value) (W:World):(callFunc 77 args).run Tryz.prog W= .ok (.enter 77 args) W:=by simp [go_sem]
theorem callF_78 (args:Array Value) (W:World):(callFunc 78 args).run Tryz.prog W= .ok (.enter 78 args) W:=by simp [go_sem]
theorem callF_79 (args:Array Value) (W:World):(callFunc 79 args).run Tryz.prog W= .ok (.enter 79 args) W:=by simp [go_sem]
theorem callF_80 (args:Array Value) (W:World):(callFunc 80 args).run Tryz.prog W= .ok (.enter 80 args) W:=by simp [go_sem]
theorem callF_81 (args:Array Value) (W:World):(callFunc 81 args).run Tryz.prog W= .ok (.enter 81 args) W:=by simp [go_sem]
theorem callF_82 (args:Array Value) (W:World):(callFunc 82 args).run Tryz.prog W= .ok (.enter 82 args) W:=by simp [go_sem]
theorem callF_83 (args:Array Value) (W:World):(callFunc 83 args).run Tryz.prog W= .ok (.enter 83 args) W:=by simp [go_sem]
theorem callF_84 (args:Array Value) (W:World):(callFunc 84 args).run Tryz.prog W= .ok (.enter 84 args) W:=by simp [go_sem]
theorem vG_ (p lo hi:Nat) (vn vm vl:Value) (N:List Nv) (M:List Mv) (L:List Ld) (ki no k mn:Int) (d:ByteArray) (w:World) (h:OwnC w lo hi vn vm vl N M L) (hG:PG p (N.map Nv.n) (M.map Mv.q) L) (hd:d.size≤1048576):
  Calls Tryz.prog 15 #[.agg #[vn,vm,vl],.agg #[ki,no,k,mn,d]] w fun e w'=>StepR w' w.heap.size (stB (N.map Nv.n) (M.map Mv.q) ⟨ki,no,k,mn,d⟩) (stN (N.map Nv.n) (M.map Mv.q) ⟨ki,no,k,mn,d⟩) (stM (N.map Nv.n) (M.map Mv.q) ⟨ki,no,k,mn,d⟩) (stL (N.map Nv.n) (M.map Mv.q) L ⟨ki,no,k,mn,d⟩) e∧Below w.heap.size w w':=by
 by_cases h1:ki=1
 ·refine yp_ 77 p lo hi vn vm vl N M L ki no k mn d w h hG (fun W=>by rw [h1];exact moveOf_1 W) callF_77 fun W lo2 hi2 un um ul N2 M2 q1 q2 q3 q4=> ?_;have:=ue_ p lo2 hi2 un um ul N2 M2 L ki no k mn d W q1 q2 (by rw [q3,q4];exact hG) h1;rw [q3,q4] at this;exact this
 by_cases h2:ki=2
 ·refine yp_ 78 p lo hi vn vm vl N M L ki no k mn d w h hG (fun W=>by rw [h2];exact moveOf_2 W) callF_78 fun W lo2 hi2 un um ul N2 M2 q1 q2 q3 q4=> ?_;have:=uh_ p lo2 hi2 un um ul N2 M2 L ki no k mn d W q1 q2 (by rw [q3,q4];exact hG) h2;rw [q3,q4] at this;exact this
 by_cases h3:ki=3
 ·refine yp_ 79 p lo hi vn vm vl N M L ki no k mn d w h hG (fun W=>by rw [h3];exact moveOf_3 W) callF_79 fun W lo2 hi2 un um ul N2 M2 q1 q2 q3 q4=> ?_;have:=tG_ p lo2 hi2 un um ul N2 M2 L ki no k mn d W q1 q2 (by rw [q3,q4];exact hG) h3;rw [q3,q4] at this;exact this
 by_cases h4:ki=4
 ·refine yp_ 80 p lo hi vn vm vl N M L ki no k mn d w h hG (fun W=>by rw [h4];exact moveOf_4 W) callF_80 fun W lo2 hi2 un um ul N2 M2 q1 q2 q3 q4=> ?_;have:=ut_ p lo2 hi2 un um ul N2 M2 L ki no k mn d W q1 q2 (by rw [q3,q4];exact hG) h4;rw [q3,q4] at this;exact this
 by_cases h5:ki=5
 ·refine yp_ 81 p lo hi vn vm vl N M L ki no k mn d w h hG (fun W=>by rw [h5];exact moveOf_5 W) callF_81 fun W lo2 hi2 un um ul N2 M2 q1 q2 q3 q4=> ?_;have:=uf_ p lo2 hi2 un um ul N2 M2 L ki no k mn d W q1 q2 (by rw [q3,q4];exact hG) h5 hd;rw [q3,q4] at this;exact this
 by_cases h6:ki=6
 ·refine yp_ 82 p lo hi vn vm vl N M L ki no k mn d w h hG (fun W=>by rw [h6];exact moveOf_6 W) callF_82 fun W lo2 hi2 un um ul N2 M2 q1 q2 q3 q4=> ?_;have:=tF_ p lo2 hi2 un um ul N2 M2 L ki no k mn d W q1 q2 (by rw [q3,q4];exact hG) h6;rw [q3,q4] at this;exact this
 by_cases h7:ki=7
 ·refine yp_ 83 p lo hi vn vm vl N M L ki no k mn d w h hG (fun W=>by rw [h7];exact moveOf_7 W) callF_83 fun W lo2 hi2 un um ul N2 M2 q1 q2 q3 q4=> ?_;have:=tc_ p lo2 hi2 un um ul N2 M2 L ki no k mn d W q1 q2 (by rw [q3,q4];exact hG) h7;rw [q3,q4] at this;exact this
 refine yp_ 84 p lo hi vn vm vl N M L ki no k mn d w h hG (fun W=>moveOf_x ki (by omega) W) callF_84 fun W lo2 hi2 un um ul N2 M2 q1 q2 q3 q4=> ?_;have:=ug_ lo2 hi2 un um ul N2 M2 L ki no k mn d W q1 q2 (by omega);rw [q3,q4] at this;exact this
set_option maxHeartbeats 16000000
theorem Tryz.info4:(Tryz.prog.info? 4).map (fun i=>(i.zero,i.size,i.bytes))=some (some (.bool false),1,1):=by kernel_rfl
theorem vs_ {w:World} {b:Nat} {t:TypeId} (h:TyB w b t) (o:Nat) (v:Value):TyB (w.setCell ⟨b,o,none⟩ v) b t:=by
 obtain⟨cur,h⟩:=h;refine⟨cur.set! o v,?_⟩;simp [World.setCell,Array.getElem?_modify,h]
theorem xY_ {α:Type} (l:List α) (k:Nat) (h:k<l.length):l.take (k+1)=l.take k++ [l[k]]:=List.take_succ_eq_append_getElem h
def PlA (w':World) (b0:Nat) (ok:Bool) (p:Nat) (l:List Sp) (e:Ending):Prop:=
 (ok=true∧∃un um ul N M du dc,e= .returned (.tuple #[.agg #[un,um,ul],.slice du l.length dc,true])∧OwnC w' b0 w'.heap.size un um ul N M (plGo (zG_ p) l).l∧N.map Nv.n=(plGo (zG_ p) l).n∧M.map Mv.q=(plGo (zG_ p) l).m∧w'.ownsRow b0 4 1 (.slice du l.length dc) l.length ((yQ_ (zG_ p) l).map Value.bool))∨
 (ok=false∧e= .returned (.tuple #[.agg z3,(),false]))
def plOk (p:Int) (l:List Sp):Bool:=inB p 1 7&&decide (l.length≤200)
theorem tO_ (p:Int) (l:List Sp) (v:Value) (w:World) (hS:yi_ w 5 v l.length (vR_ l)) (hd:∀i (h:i<l.length),l[i].d.size≤1048576) (hl:l.length≤1048576):
  Calls Tryz.prog 21 #[p,v] w fun e w'=>PlA w' w.heap.size (plOk p l) p.toNat l e∧Below w.heap.size w w':=by
 obtain⟨sa,sc,hv⟩:∃sa sc,v= .slice sa l.length sc:=by obtain⟨_,a,c,h,_⟩:=hS;exact⟨a,c,h⟩
 have HSA:=fun (hne:l≠ [])=>qF_ hS hne;clear hS;subst hv;obtain⟨W0,hW0,hB,Z,hz0⟩:=al1 w z3 30;have hT0:TyB W0 w.heap.size 30:=⟨_,by rw [hW0];exact heap_alloc_new w (.cells z3 30)⟩;have hzw:=hB.size;have KN:=tP_ p W0;have hno:∀wq:World,Box wq w.heap.size z3→Below w.heap.size w wq→True:=fun _ _ _=>trivial;clear hno;by_cases hok:plOk p l=true;rotate_left
 ·replace hok:plOk p l=false:=by simpa using hok
  rw [hok];have hcs:¬inB p 1 7=true∨200<l.length:=by
   unfold plOk at hok;simp only [Bool.and_eq_false_iff,decide_eq_false_iff_not] at hok;rcases hok with h | h
   ·exact .inl (by rw [h];simp)
   ·exact .inr (by omega)
  obtain⟨bb,hbb⟩:∃bb,inB p 1 7=bb:=⟨_,rfl⟩;rw [hbb] at KN hcs;clear hok HSA hd hT0;go_enter Tryz.func21,Tryz.ntmps21;go_upto_region 1 with fail;rw [←hW0];clear hW0;go_wp2_with fail;refine KN.mono ?_;rintro e w1 ⟨u,rfl,o1,hb1⟩;obtain⟨ua,uc,rfl⟩:=ze_ o1;have hBA:=zb_ w1 (.cells #[.slice ua (ncN bb p).length uc,(),()] 30);have Z1:=(Z.below hb1).below hBA;have hB1:=za_ (za_ hB hb1) hBA;clear KN Z hb1 hBA hB o1;generalize (ncN bb p).length=nn at*;go_upto_region 2 with fail;obtain⟨W3,hW3⟩:∃W,W=w1.alloc (.cells #[.slice ua nn uc,(),()] 30):=⟨_,rfl⟩;rw [←hW3] at Z1 hB1 ⊢;clear hW3;obtain⟨W5,hW5,hC5,Z5⟩:=zi_ W3 Z1 () () ();have hBF:Hid (Below w.heap.size w W5):=hB1.trans (hC5.b1 hB1.size (by omega));clear hC5;obtain⟨zl,z0,z1,z2,f0,f1,f2⟩:=Z1.c3f;clear Z1;obtain⟨tl,t0,t1,t2⟩:=Z5.c3;clear Z5;unfold put3 at*
  cases bb with
  | false=>
   clear hcs;go_wp2;rw [←hW5];exact bodyPost_ret (v:= .tuple #[.agg z3,(),false]) (by simp [results,Tryz.results21,go_sem,t0,t1,t2]) rfl ⟨.inr ⟨rfl,rfl⟩,hBF.out⟩
  | true=>
   have h2:200<l.length:=by rcases hcs with h | h;exact absurd rfl h;exact h
   clear hcs;have h3:(200:Int)<(l.length:Int):=by omega
   go_wp2;rw [←hW5];exact bodyPost_ret (v:= .tuple #[.agg z3,(),false]) (by simp [results,Tryz.results21,go_sem,t0,t1,t2]) rfl ⟨.inr ⟨rfl,rfl⟩,hBF.out⟩
 rw [hok];obtain⟨hib,hl2⟩:inB p 1 7=true∧l.length≤200:=by
  unfold plOk at hok;simpa only [Bool.and_eq_true,decide_eq_true_eq] using hok
 have hp:1≤p∧p≤7:=by simpa [inB] using hib
 obtain⟨pn,rfl⟩:=Int.eq_ofNat_of_zero_le (show 0≤p from by omega);rw [hib,show ncN true (pn:Int)=yo_ pn pn from by simp [ncN]] at KN;rw [show ((pn:Int)).toNat=pn from by simp];have HPF:Hid (∀q:List Sp,PF pn (plGo (zG_ pn) q)):=fun q=>(newPF pn (by omega) (by omega)).go q;clear hok hib hp;go_enter Tryz.func21,Tryz.ntmps21;go_upto_region 1 with fail;rw [←hW0];clear hW0;go_wp2_with fail;refine KN.mono ?_;rintro e w1 ⟨u,rfl,o1,hb1⟩;obtain⟨ua,uc,rfl⟩:=ze_ o1;have hOC:OwnC w1 W0.heap.size w1.heap.size (.slice ua (yo_ pn pn).length uc) (.slice none 0 0) (.slice none 0 0) (yo_ pn pn) [] []:=
  OwnC.of (mid:=w1.heap.size) o1 (World.ownsRow_nil _ _ _ _) (World.ownsRow_nil _ _ _ _) ⟨hb1.size,fun i hi=>by
   rw [vf_];exact⟨⟨W0.heap.size,Nat.le_refl _,OwnN.nil _ _⟩,fun b hb=>by rcases hb with hb | hb | hb <;>cases hb⟩,fun i j h1 h2 _ b hb=>by rw [vf_] at hb;rcases hb with hb | hb | hb <;>cases hb⟩ (zr_.nil (Nat.le_refl _)) (fun b hb=>zh_ o1 b hb) (fun b hb=>by cases hb) (fun b hb=>by cases hb)
 obtain⟨nn,hnn⟩:∃nn,Hid ((yo_ (pn:Int) pn).length=nn):=⟨_,rfl⟩;rw [hnn.out] at hOC ⊢;have hBA:=zb_ w1 (.cells #[.slice ua nn uc,(),()] 30);have X:=Box.new w1 #[.slice ua nn uc,(),()] 30;have hTx:TyB (w1.alloc (.cells #[.slice ua nn uc,(),()] 30)) w1.heap.size 30:=⟨_,heap_alloc_new w1 _⟩;have Z1:=(Z.below hb1).below hBA;have hT1:=(hT0.below hb1).below hBA;have hO1:=hOC.below hBA;have hB1:=za_ (za_ hB hb1) hBA;have hz1:=hb1.size;have hz2:(w1.alloc (.cells #[.slice ua nn uc,(),()] 30)).heap.size=w1.heap.size+1:=by simp
 clear KN Z hb1 hBA hB o1 hOC hT0;go_upto_region 2 with fail;obtain⟨W3,hW3⟩:∃W,W=w1.alloc (.cells #[.slice ua nn uc,(),()] 30):=⟨_,rfl⟩;rw [←hW3] at X hTx Z1 hT1 hO1 hB1 hz2 ⊢;clear hW3;have h3:¬(200:Int)<(l.length:Int):=by omega
 obtain⟨i0,hi,hi0,hi1,hi2⟩:=info_parts Tryz.info4;have hM0:(madeCells (Value.bool false).cells (l.length*1)).toList=didV [] l.length:=by
  apply List.ext_getElem
  ·simp [madeCells,didV]
  ·intro i h1 h2;simp [madeCells,Value.cells,Nat.mod_one,didV]
 go_wp2_with (at_make;refine zs_.go ?_);unfold zs_;refine wpList_make_full _ rfl _ _ 56 rfl W3.heap.size 4 i0 _ 1 Tryz.underlying56 hi hi0 hi1 .i64 .i64 _ _ l.length rfl rfl rfl rfl (by rw [hi2];omega) (by unfold maxLen;omega) (Nat.le_refl _) ?_;intro w4 o4 hgr;rw [hM0] at o4;have hb4:Below W3.heap.size W3 w4:=(Below.refl _ _).grown hgr (Nat.le_refl _) (by simp);replace X:=X.below hb4;replace Z1:=Z1.below hb4;replace hTx:=hTx.below hb4;replace hT1:=hT1.below hb4;replace hO1:=hO1.below hb4;replace hB1:=za_ hB1 hb4;have hz4:=(xk_ o4).2;replace o4:=zf_ o4 (show w.heap.size≤W3.heap.size from by omega);clear hgr hi hi0 hi1 hi2 hM0 hb4;obtain⟨bd,hbd⟩:∃bd,Hid (W3.heap.size=bd):=⟨_,rfl⟩;have hbd1:w1.heap.size<bd:=by have:=hbd.out;omega
 have hbd2:bd<w4.heap.size:=by have:=hbd.out;omega
 rw [hbd.out] at o4 ⊢;obtain⟨bc,hbc⟩:∃bc,Hid (w1.heap.size=bc):=⟨_,rfl⟩;rw [hbc.out] at X hTx hbd1 ⊢;have hbc1:w.heap.size<bc:=by have:=hbc.out;omega
 have hO2:OwnC w4 w.heap.size w4.heap.size (.slice ua nn uc) (.slice none 0 0) (.slice none 0 0) (yo_ pn pn) [] []:=(hO1.hiN (by omega)).loN (by omega);clear hbd hbc hO1 hz2 hz4 hz1 hnn;go_wp2
 go_loopw [32] (fun i wr=>∃(k:Nat) (vn vm vl:Value) (N:List Nv) (M:List Mv),i= .int .i64 k∧k≤l.length∧Box wr bc [vn,vm,vl]∧Box wr w.heap.size z3∧TyB wr bc 30∧TyB wr w.heap.size 30∧OwnC wr w.heap.size wr.heap.size vn vm vl N M (plGo (zG_ pn) (l.take k)).l∧N.map Nv.n=(plGo (zG_ pn) (l.take k)).n∧M.map Mv.q=(plGo (zG_ pn) (l.take k)).m∧wr.ownsRow w.heap.size 4 1 (.slice (some ⟨bd,0,none⟩) l.length l.length) l.length (didV (yQ_ (zG_ pn) (l.take k)) l.length)∧Below w.heap.size w wr) (fun i _=>l.length-(intOf i).toNat)
 case atStart=>exact⟨0,_,_,_,yo_ pn pn,[],rfl,Nat.zero_le _,X,Z1,hTx,hT1,hO2,rfl,rfl,o4,hB1⟩
 case round=>
  clear X Z1 hTx hT1 hO2 o4 hB1 h3;obtain⟨k,vn,vm,vl,N,M,rfl,hk,X,Z,hTx,hT0,hO,hN,hM,oD,hB⟩:=hrel;obtain⟨ck,hck⟩:∃ck,plGo (zG_ pn) (l.take k)=ck:=⟨_,rfl⟩;rw [hck] at hO hN hM;have HN:Hid (N.map Nv.n=ck.n):=hN;have HM:Hid (M.map Mv.q=ck.m):=hM;have HG:Hid (PG pn (N.map Nv.n) (M.map Mv.q) ck.l):=by show PG _ _ _ _;rw [hN,hM,←hck];exact (HPF.out _).g
  have HCK:Hid (plGo (zG_ pn) (l.take k)=ck):=hck;clear hN hM hck;obtain⟨⟨na,nc,rfl⟩,⟨ma,mc,rfl⟩,ya,yc,rfl⟩:=hO.shapes;have hrz:=hB.size;have hxr:=X.1;have hdr:=(xk_ oD).2;have hTd:=TyB.of_own oD;by_cases hlt:k<l.length
  ·obtain⟨sb,so,sc',hse,hsb,hcell⟩:=HSA (by intro e;rw [e] at hlt;simp at hlt);simp only [Value.slice.injEq,true_and] at hse;obtain⟨rfl,rfl⟩:=hse;obtain⟨y,HY⟩:∃y,Hid (l[k]=y):=⟨l[k],(rfl:l[k]=l[k])⟩;have c0:=hcell k hlt;rw [HY.out,←hB.cell (p:=⟨sb,so+k*5,none⟩) hsb,←hB.cell (p:=⟨sb,so+k*5+1,none⟩) hsb,←hB.cell (p:=⟨sb,so+k*5+2,none⟩) hsb,←hB.cell (p:=⟨sb,so+k*5+3,none⟩) hsb,←hB.cell (p:=⟨sb,so+k*5+4,none⟩) hsb] at c0;obtain⟨c0,c1,c2,c3,c4⟩:=c0;have hyd:y.d.size≤1048576:=by rw [←HY.out];exact hd k hlt
   clear hcell HSA;have HDS:Hid (yQ_ (zG_ pn) (l.take (k+1))=yQ_ (zG_ pn) (l.take k)++ [stB ck.n ck.m y]):=by
    show _=_;rw [xY_ l k hlt,ux_,HCK.out,HY.out]
   have HGS:Hid (plGo (zG_ pn) (l.take (k+1))=yt_ ck y):=by
    show _=_;rw [xY_ l k hlt,tA_,HCK.out,HY.out]
   have HDL:Hid ((yQ_ (zG_ pn) (l.take k)).length=k):=by show _=_;rw [yE_,List.length_take];omega
   generalize yQ_ (zG_ pn) (l.take k)=DD at*;have YC:=y;clear YC;have hBA:=zb_ wr (.cells #[y.ki,y.no,y.k,y.ma,y.d] 51);have Y:=Box.new wr #[y.ki,y.no,y.k,y.ma,y.d] 51;have hbl:sb<wr.heap.size:=by omega
   go_upto_region 8 with fail;obtain⟨W4,hW4⟩:∃W,W=wr.alloc (.cells #[y.ki,y.no,y.k,y.ma,y.d] 51):=⟨_,rfl⟩;rw [←hW4] at hBA Y ⊢;clear hW4 c0 c1 c2 c3 c4;replace X:=X.below hBA;replace Z:=Z.below hBA;replace hTx:=hTx.below hBA;replace hT0:=hT0.below hBA;replace hTd:=hTd.below hBA;replace hO:=hO.below hBA;replace oD:=zd_ oD hBA;replace hB:=za_ hB hBA;have hz4:=hBA.size;clear hBA;have KS:=vG_ pn w.heap.size wr.heap.size _ _ _ N M ck.l y.ki y.no y.k y.ma y.d W4 hO HG.out hyd;rw [HN.out,HM.out] at KS;obtain⟨xl,x0,x1,x2⟩:=X.c3;obtain⟨yl,y0,y1,y2,y3,y4⟩:=Y.c5;go_wp2_with fail;refine KS.mono ?_;rintro e w5 ⟨⟨un,um,ul,rfl,hT,hF⟩,hb5⟩;replace X:=X.below hb5;replace Z:=Z.below hb5;replace hTx:=hTx.below hb5;replace hT0:=hT0.below hb5;replace hTd:=hTd.below hb5;replace hO:=hO.below hb5;replace oD:=zd_ oD hb5;replace hB:=za_ hB hb5;have hz5:=hb5.size;clear KS hb5 xl x0 x1 x2 yl y0 y1 y2 y3 y4 Y;obtain⟨ok,hok⟩:∃ok,stB ck.n ck.m y=ok:=⟨_,rfl⟩;rw [show stB ck.n ck.m ⟨y.ki,y.no,y.k,y.ma,y.d⟩=ok from hok] at hT hF ⊢;rw [hok] at HDS;have HOK:Hid (stB ck.n ck.m y=ok):=hok;clear hok;have hDk:∃u0,w5.cell? ⟨bd,k,none⟩=some u0:=Option.isSome_iff_exists.1 (yf_ oD k (by omega))
   cases ok with
   | true=>
    have hT2:=hT rfl;clear hT hF hO;obtain⟨N2,hN2⟩:∃N2,Hid (stN ck.n ck.m y=N2):=⟨_,rfl⟩;obtain⟨M2,hM2⟩:∃M2,Hid (stM ck.n ck.m y=M2):=⟨_,rfl⟩;obtain⟨L2,hL2⟩:∃L2,Hid (stL ck.n ck.m ck.l y=L2):=⟨_,rfl⟩;rw [show stN ck.n ck.m ⟨y.ki,y.no,y.k,y.ma,y.d⟩=N2 from hN2.out,show stM ck.n ck.m ⟨y.ki,y.no,y.k,y.ma,y.d⟩=M2 from hM2.out,show stL ck.n ck.m ck.l ⟨y.ki,y.no,y.k,y.ma,y.d⟩=L2 from hL2.out] at hT2;obtain⟨N',M',q1,q2,q3⟩:=hT2;have Q2:Hid (N'.map Nv.n=N2):=q2;have Q3:Hid (M'.map Mv.q=M2):=q3;clear q2 q3;obtain⟨⟨xa,xc,rfl⟩,⟨xb,xd,rfl⟩,xe,xf,rfl⟩:=q1.shapes;have hBA:=zb_ w5 (.cells #[.slice xa N'.length xc,.slice xb M'.length xd,.slice xe L2.length xf] 30);have T:=Box.new w5 #[.slice xa N'.length xc,.slice xb M'.length xd,.slice xe L2.length xf] 30;replace q1:=(q1.below hBA).loN (show w.heap.size≤W4.heap.size from by omega);replace X:=X.below hBA;replace Z:=Z.below hBA;replace hTx:=hTx.below hBA;replace hT0:=hT0.below hBA;replace hTd:=hTd.below hBA;replace oD:=zd_ oD hBA;replace hB:=za_ hB hBA;have hz6:=hBA.size;clear hBA hDk;go_upto_region 9 with fail;obtain⟨W6,hW6⟩:∃W,W=w5.alloc (.cells #[.slice xa N'.length xc,.slice xb M'.length xd,.slice xe L2.length xf] 30):=⟨_,rfl⟩;rw [←hW6] at q1 T X Z hTx hT0 hTd oD hB hz6 ⊢;clear hW6;obtain⟨W7,hW7,hC7,X7⟩:=zi_ W6 X (.slice xa N'.length xc) (.slice xb M'.length xd) (.slice xe L2.length xf);obtain⟨xl,x0,x1,x2,xf0,xf1,xf2⟩:=X.c3f;obtain⟨tl,t0,t1,t2⟩:=T.c3;have hz7:=hC7.size;have Z7:=hC7.box Z (by omega);have q7:=(q1.keep hTx hC7);have hTx7:TyB W7 bc 30:=by
     obtain⟨cur,hc⟩:=hTx;rw [hW7];unfold put3;exact vs_ (vs_ (vs_ ⟨cur,hc⟩ 0 _) 1 _) 2 _
    have hT7:=hT0.chg hC7 (by omega);have hTd7:=hTd.chg hC7 (by omega);have o7:=hC7.owns oD (fun b hb hh=>by simp only [Value.ownBlock,Option.some.injEq] at hb;have hh:b=bc:=hh;omega);have hB7:=hB.trans (hC7.b1 (B:=w.heap.size) (by omega) (by omega));unfold put3 at hW7;go_upto_region 11 with fail;rw [←hW7];clear hW7 hC7 X Z q1 hTx hT0 hTd oD hB xl x0 x1 x2 xf0 xf1 xf2 tl t0 t1 t2 T;have X:=X7;have Z:=Z7;have q1:=q7;have hTx:=hTx7;have hT0:=hT7;have hTd:=hTd7;have oD:=o7;have hB:=hB7;clear X7 Z7 q7 hTx7 hT7 hTd7 o7 hB7;obtain⟨u7,d7⟩:∃u0,W7.cell? ⟨bd,k,none⟩=some u0:=Option.isSome_iff_exists.1 (yf_ oD k (by omega));have f7:=oD.frozenAt k;have o8:=(oD.stored k (.bool true)).1;have hds:=rQ_ DD l.length true (by rw [HDL.out];exact hlt);rw [HDL.out] at hds;rw [hds] at o8;obtain⟨W8,hW8⟩:∃W,W=W7.setCell ⟨bd,k,none⟩ (.bool true):=⟨_,rfl⟩;rw [←hW8] at o8;have hC8:Chg (fun b=>b=bd) W7 W8:=by rw [hW8];exact Chg.setCell (S:=fun b=>b=bd) (Chg.refl _ _) rfl _
    have X8:=hC8.box X (by omega);have Z8:=hC8.box Z (by omega);have hTx8:=hTx.chg hC8 (by omega);have hT8:=hT0.chg hC8 (by omega);have hz8:=hC8.size;have hO8:=((q1.hiN (show _≤W7.heap.size from by omega)).keepT hTd (by decide) (by decide) (by decide) (by decide) (by decide) hC8).hiN (show _≤W8.heap.size from by omega);have hB8:=hB.trans (hC8.b1 (B:=w.heap.size) (by omega) (by omega));have HR:Hid (∃(k2:Nat) (vn vm vl:Value) (N:List Nv) (M:List Mv),.int .i64 ((k:Int)+1)=(.int .i64 k2:Value)∧k2≤l.length∧Box W8 bc [vn,vm,vl]∧Box W8 w.heap.size z3∧TyB W8 bc 30∧TyB W8 w.heap.size 30∧OwnC W8 w.heap.size W8.heap.size vn vm vl N M (plGo (zG_ pn) (l.take k2)).l∧N.map Nv.n=(plGo (zG_ pn) (l.take k2)).n∧M.map Mv.q=(plGo (zG_ pn) (l.take k2)).m∧W8.ownsRow w.heap.size 4 1 (.slice (some ⟨bd,0,none⟩) l.length l.length) l.length (didV (yQ_ (zG_ pn) (l.take k2)) l.length)∧Below w.heap.size w W8):=by
     refine⟨k+1,_,_,_,N',M',by go_num,by omega,X8,Z8,hTx8,hT8,?_,?_,?_,?_,hB8⟩
     ·rw [HGS.out];unfold yt_;rw [HOK.out,if_pos rfl];show OwnC _ _ _ _ _ _ _ _ (stL _ _ _ _);rw [hL2.out];exact hO8
     ·rw [HGS.out];unfold yt_;rw [HOK.out];exact (by rw [if_pos rfl];exact Q2.out.trans hN2.out.symm)
     ·rw [HGS.out];unfold yt_;rw [HOK.out];exact (by rw [if_pos rfl];exact Q3.out.trans hM2.out.symm)
     ·rw [HDS.out];exact o8
    clear X Z hTx hT0 hTd oD hB o8 hC8 X8 Z8 hTx8 hT8 hO8 hB8 hds;go_wp2;rw [←hW8];clear hW8;go_roundw
    case rel=>exact HR.out
    case measure=>simp [intOf];omega
   | false=>
    obtain⟨rfl,rfl,rfl⟩:=hF rfl;clear hT hF;have hBA:=zb_ w5 (.cells z3 30);have hO6:=hO.below hBA;replace X:=X.below hBA;replace Z:=Z.below hBA;replace hTx:=hTx.below hBA;replace hT0:=hT0.below hBA;replace hTd:=hTd.below hBA;replace oD:=zd_ oD hBA;replace hB:=za_ hB hBA;have hz6:=hBA.size;clear hBA hDk hO;go_upto_region 9 with fail;obtain⟨W7,hW7⟩:∃W,W=w5.alloc (.cells z3 30):=⟨_,rfl⟩;rw [←hW7] at hO6 X Z hTx hT0 hTd oD hB hz6 ⊢;clear hW7;obtain⟨u7,d7⟩:∃u0,W7.cell? ⟨bd,k,none⟩=some u0:=Option.isSome_iff_exists.1 (yf_ oD k (by omega));have f7:=oD.frozenAt k;have o8:=(oD.stored k (.bool false)).1;have hds:=rQ_ DD l.length false (by rw [HDL.out];exact hlt);rw [HDL.out] at hds;rw [hds] at o8;obtain⟨W8,hW8⟩:∃W,W=W7.setCell ⟨bd,k,none⟩ (.bool false):=⟨_,rfl⟩;rw [←hW8] at o8;have hC8:Chg (fun b=>b=bd) W7 W8:=by rw [hW8];exact Chg.setCell (S:=fun b=>b=bd) (Chg.refl _ _) rfl _
    have X8:=hC8.box X (by omega);have Z8:=hC8.box Z (by omega);have hTx8:=hTx.chg hC8 (by omega);have hT8:=hT0.chg hC8 (by omega);have hz8:=hC8.size;have hO8:=((hO6.hiN (show _≤W7.heap.size from by omega)).keepT hTd (by decide) (by decide) (by decide) (by decide) (by decide) hC8).hiN (show _≤W8.heap.size from by omega);have hB8:=hB.trans (hC8.b1 (B:=w.heap.size) (by omega) (by omega));have HR:Hid (∃(k2:Nat) (vn vm vl:Value) (N:List Nv) (M:List Mv),.int .i64 ((k:Int)+1)=(.int .i64 k2:Value)∧k2≤l.length∧Box W8 bc [vn,vm,vl]∧Box W8 w.heap.size z3∧TyB W8 bc 30∧TyB W8 w.heap.size 30∧OwnC W8 w.heap.size W8.heap.size vn vm vl N M (plGo (zG_ pn) (l.take k2)).l∧N.map Nv.n=(plGo (zG_ pn) (l.take k2)).n∧M.map Mv.q=(plGo (zG_ pn) (l.take k2)).m∧W8.ownsRow w.heap.size 4 1 (.slice (some ⟨bd,0,none⟩) l.length l.length) l.length (didV (yQ_ (zG_ pn) (l.take k2)) l.length)∧Below w.heap.size w W8):=by
     refine⟨k+1,_,_,_,N,M,by go_num,by omega,X8,Z8,hTx8,hT8,?_,?_,?_,?_,hB8⟩
     ·rw [HGS.out];unfold yt_;rw [HOK.out,if_neg (by simp)];exact hO8
     ·rw [HGS.out];unfold yt_;rw [HOK.out];exact (by rw [if_neg (by simp)];exact HN.out)
     ·rw [HGS.out];unfold yt_;rw [HOK.out];exact (by rw [if_neg (by simp)];exact HM.out)
     ·rw [HDS.out];exact o8
    clear X Z hTx hT0 hTd oD hB o8 hC8 X8 Z8 hTx8 hT8 hO8 hB8 hds;go_wp2;rw [←hW8];clear hW8;go_roundw
    case rel=>exact HR.out
    case measure=>simp [intOf];omega
  ·obtain rfl:k=l.length:=by omega
   rw [List.take_length] at HCK oD;rw [didV_all _ _ (yE_ _ _)] at oD;clear HSA hd hTd hlt;obtain⟨W5,hW5,hC5,Z5⟩:=zi_ wr Z (.slice na N.length nc) (.slice ma M.length mc) (.slice ya ck.l.length yc);have hz5:=hC5.size;have hFF:Hid (OwnC W5 w.heap.size W5.heap.size (.slice na N.length nc) (.slice ma M.length mc) (.slice ya ck.l.length yc) N M ck.l):=(hO.keep hT0 hC5).hiN hz5;have o5:Hid (W5.ownsRow w.heap.size 4 1 (.slice (some ⟨bd,0,none⟩) l.length l.length) l.length ((yQ_ (zG_ pn) l).map Value.bool)):=hC5.owns oD (fun b hb hh=>by simp only [Value.ownBlock,Option.some.injEq] at hb;have hh:b=w.heap.size:=hh;omega);have hBF:Hid (Below w.heap.size w W5):=hB.trans (hC5.b1 (B:=w.heap.size) hrz (by omega));obtain⟨xl,x0,x1,x2⟩:=X.c3;obtain⟨zl,z0,z1,z2,f0,f1,f2⟩:=Z.c3f;obtain⟨tl,t0,t1,t2⟩:=Z5.c3;clear hC5 X Z hTx hT0 hO oD hB Z5;unfold put3 at*;go_wp2;rw [←hW5];exact bodyPost_ret (v:= .tuple #[.agg #[.slice na N.length nc,.slice ma M.length mc,.slice ya ck.l.length yc],.slice (some ⟨bd,0,none⟩) l.length l.length,true]) (by simp [results,Tryz.results21,go_sem,t0,t1,t2]) rfl ⟨.inl ⟨rfl,_,_,_,N,M,_,_,rfl,by rw [HCK.out];exact hFF.out,by rw [HCK.out];exact HN.out,by rw [HCK.out];exact HM.out,o5.out⟩,hBF.out⟩
end Go.Proofs.YtapfhhmimkkhnaaGreat
