/-
  The draw of a play: DrawPlayCluster.
  The walk of FnMatching.
  What FnSafety says, plainly: what all have committed is as long as the least commit; a delivery keeps what was committed.
  The specification's StepCluster, where the step is done.
  CommonLog: the program's side.
-/
import Derived.Test.YtapfhhmimkkhnaaGreatTAToDF
namespace Go.Proofs.YtapfhhmimkkhnaaGreat
open Go.RowKit Go.Maps
set_option linter.unusedVariables false
set_option maxRecDepth 100000
set_option maxHeartbeats 8000000
theorem qo_ (v:Value) (l:List UInt8) (w:World) (h:YL w v l) (hl:l.length≤9223372036854775807):
  Calls Tryz.prog 8 #[v] w fun e w'=>(∃(pe:Int) (sv:Value) (L:List Sp),e= .returned (.tuple #[pe,sv])∧w'.ownsRow w.heap.size 51 5 sv L.length (flT L)∧L.length≤1000∧∀s∈L,s.d.size≤1)∧Below w.heap.size w w':=by
 obtain⟨a0,c0,hv⟩:∃a c,v= .slice a l.length c:=by obtain⟨a,c,h1,_⟩:=h;exact⟨a,c,h1⟩
 subst hv;have hc:=cur_new h;obtain⟨W0,hW0⟩:∃W,W=w.alloc (.cells #[.slice a0 l.length c0,(0:Int),.int .u64 0] 70):=⟨_,rfl⟩;have hB:Below w.heap.size w W0:=by rw [hW0];exact zb_ _ _
 have hz0:w.heap.size<W0.heap.size:=by rw [hW0];simp
 rw [←hW0] at hc;go_enter Tryz.func8,Tryz.ntmps8;go_upto_region 2 with fail;rw [←hW0];clear hW0 h;have V:=Box.new W0 #[(1:Int),(2:Int),(3:Int),(3:Int),(3:Int),(4:Int),(5:Int)] 3;have hBA:=zb_ W0 (.cells #[(1:Int),(2:Int),(3:Int),(3:Int),(3:Int),(4:Int),(5:Int)] 3);have hzA:W0.heap.size<(W0.alloc (.cells #[(1:Int),(2:Int),(3:Int),(3:Int),(3:Int),(4:Int),(5:Int)] 3)).heap.size:=by simp
 replace hc:=hc.chg hBA;have hB1:=za_ hB hBA;go_wp2_with fail;refine (rb_ w.heap.size l 0 W0.heap.size [1,2,3,3,3,4,5] _ hc hl (by omega) V (by omega) (by simp) (by simp)).mono ?_;rintro e w2 ⟨⟨x,rfl,hx⟩,hc1,hch1⟩;have hx5:1≤x∧x≤5:=by simp at hx;omega
 obtain⟨pe,rfl⟩:=Int.eq_ofNat_of_zero_le (show 0≤x from by omega);have hB2:=ra_ hB1 hch1;have hz2:=hch1.size;clear hc hch1 hB hB1 hBA V hx;go_wp2_with fail;refine (qE_ w.heap.size l _ pe _ hc1 hl (by omega) (by omega) (by omega)).mono ?_;rintro e w3 ⟨⟨sv,L,rfl,oL,hlen,hd⟩,hc2,hch2⟩;have hB3:=ra_ hB2 hch2;replace oL:=zf_ oL (show w.heap.size≤w2.heap.size from by omega);obtain⟨sa,sc,rfl⟩:=ze_ oL;clear hc1 hc2 hch2 hB2;go_wp2;go_ret2;exact⟨⟨_,_,L,rfl,oL,hlen,hd⟩,hB3⟩
set_option maxHeartbeats 200000
theorem plR_pf {p:Int} {l:List Sp} (h:plOk p l=true):1≤p∧p≤7∧PF p.toNat (plR true p.toNat l):=by
 have hp:1≤p∧p≤7:=by
  unfold plOk at h;simp only [Bool.and_eq_true] at h;simpa [inB] using h.1
 refine⟨hp.1,hp.2,?_⟩;show PF p.toNat (if true=true then plGo (zG_ p.toNat) l else⟨[],[],[]⟩);rw [if_pos rfl];exact (newPF p.toNat (by omega) (by omega)).go l
theorem sl_to26 (a:Option Addr) (n cap p:Nat) (w:World) (hp:p≤cap):(Instr.sliceAt 26 (.slice a n cap) none (some (.int .i64 p)) none).run Tryz.prog w= .ok (.slice a p cap) w:=by
 have h1:(p:Int)≤(cap:Int):=by omega
 have h2:(0:Int)≤(p:Int):=by omega
 have hA:(Instr.sliceAt 26 (.slice a n cap) none (some (.int .i64 p)) none).run Tryz.prog w=(Instr.slice 26 (.slice a n cap) none (some (.int .i64 p)) none).run Tryz.prog w:=by simp [Instr.sliceAt,run_underlying Tryz.underlying26]
 rw [hA];have e:a.map (fun x=>x.add (0*9))=a:=by cases a <;>simp [Addr.add]
 cases a <;>simp [Instr.slice,Instr.sliceBounds,Instr.sliceBound,asIntOf,run_underlying Tryz.underlying26,hp,h2,Tryz.sizeOf42,Addr.add]
theorem rB_ {L:List Sp} (h:∀s∈L,s.d.size≤1):∀i (hi:i<L.length),L[i].d.size≤1048576:=fun i hi=>by have:=h L[i] (List.getElem_mem hi);omega
theorem PG.co {p:Nat} {N:List Nd} {M:List Ms} {L:List Ld} (h:PG p N M L) (i:Nat) (hi:i<N.length):0≤N[i].co∧N[i].co≤(N[i].log.length:Int)∧N[i].log.length≤60:=by
 obtain⟨g,_⟩:=h.g i hi;have hg:=g.good;unfold gN at hg;exact⟨(xu_ hg).1,(xu_ hg).2,(yH_ hg).2.2.2.2⟩
theorem log0_at:∀(l:List Nd) (h:0<l.length),log0 l=l[0].log
 | [],h=>by simp at h
 | x::r,h=>rfl
theorem PF.common {p:Nat} {c:PS} (h:PF p c) (m:Nat) (hm:∀i (hi:i<c.n.length),(m:Int)≤c.n[i].co) (he:∃i,∃hi:i<c.n.length,c.n[i].co=(m:Int)):(cmL true c.n).length=m:=by
 have hp:0<c.n.length:=by have:=h.g.n;have:=h.g.p1;omega
 have h0:log0 c.n=c.n[0].log:=log0_at c.n hp;have hs:∀i (hi:i<c.n.length),Has c.n[0].log c.n[i].log m:=fun i hi=>h.f.safety 0 i m hp hi (by have:=hm 0 hp;omega) (by have:=hm i hi;omega);have hc:IsCm (log0 c.n) c.n m:=by
  refine⟨fun j hj i hi=> ?_,?_⟩
  ·obtain⟨a,b,e⟩:=hs i hi;have hmi:=hm i hi;have ee:c.n[0].log[j]'(by omega)=c.n[i].log[j]'(by omega):=by
    have h1:(c.n[0].log.take m)[j]'(by simp;omega)=c.n[0].log[j]'(by omega):=List.getElem_take;have h2:(c.n[i].log.take m)[j]'(by simp;omega)=c.n[i].log[j]'(by omega):=List.getElem_take;rw [←h1,←h2]
    congr 1
   unfold okN;rw [h0,pA_ (by omega) (by omega),ee];simp [enEq];omega
  ·obtain⟨i,hi,e⟩:=he;refine⟨i,hi,?_⟩;unfold okN;rw [e];simp
 have hl:m≤(log0 c.n).length:=by rw [h0];exact (hs 0 hp).1
 show (if true=true then (log0 c.n).take (cmM (log0 c.n) c.n) else []).length=m;rw [if_pos rfl,cmM_eq hc,List.length_take];omega
theorem PF.delivers {p:Nat} {c:PS} (h:PF p c) (k:Int) (s:Sp) (e2:s.ki=2) (ek:s.k=k) (hk:isP k c.m.length=true):
  stB c.n c.m s=true∧(stN c.n c.m s).length=c.n.length∧∀i (hi:i<c.n.length) (hi2:i<(stN c.n c.m s).length),c.n[i].co≤(stN c.n c.m s)[i].co∧Has (stN c.n c.m s)[i].log c.n[i].log c.n[i].co.toNat:=by
 subst ek;have hh:=h.handles s.k hk;have hb:stB c.n c.m s=true:=by
  simp only [stB,e2,if_true,show ¬(2:Int)=1 by decide,if_false,Bool.and_eq_true];exact⟨hk,hh⟩
 have hN':stN c.n c.m s=c.n.set (atM c.m s.k).dst.toNat (hmX (atN c.n (atM c.m s.k).dst) (atM c.m s.k)):=by
  simp only [stN,e2,if_true,show ¬(2:Int)=1 by decide,if_false]
 refine⟨hb,by rw [hN',List.length_set],fun i hi hi2=> ?_⟩;obtain⟨y,hS⟩:=h.f.to;obtain⟨hA,hn,hN,hM,hL⟩:=id hS;obtain⟨hk',ek,_⟩:=uM_ hk;have hgm:=h.g.m _ (List.getElem_mem hk');have hdst:=(zt_ hgm).2.2.1;have hid:isP (c.m[s.k.toNat]).dst c.n.length=true:=by simp only [isP,Bool.and_eq_true,decide_eq_true_eq];rw [h.g.n];exact hdst
 obtain⟨h2,ea,ei⟩:=xz_ hid;obtain⟨g1,g2,g3,g4⟩:=h.g.g _ h2;obtain⟨y',W,_,q⟩:=Went.msg hA (hN _ h2) g1 g2 g3 (hM _ (List.getElem_mem hk')) hgm (by rw [g2];exact ei.symm);have hco:=h.g.co i hi;by_cases hij:(c.m[s.k.toNat]).dst.toNat=i
 ·subst hij;have e:(stN c.n c.m s)[(c.m[s.k.toNat]).dst.toNat]=hmX c.n[(c.m[s.k.toNat]).dst.toNat] c.m[s.k.toNat]:=by
   simp only [hN',ek,ea];simp
  rw [e];exact⟨W.c,W.h⟩
 ·have e:(stN c.n c.m s)[i]=c.n[i]:=by
   simp only [hN',ek,ea];simp [hij]
  rw [e];exact⟨Int.le_refl _,Has.refl _ _ (by omega)⟩
set_option maxHeartbeats 16000000
theorem uT_ (p lo hi:Nat) (vn vm vl:Value) (N:List Nv) (M:List Mv) (L:List Ld) (ki no k mn:Int) (d:ByteArray) (w:World) (h:OwnC w lo hi vn vm vl N M L) (hG:PF p ⟨N.map Nv.n,M.map Mv.q,L⟩) (hd:d.size≤1048576) (hdone:stB (N.map Nv.n) (M.map Mv.q) ⟨ki,no,k,mn,d⟩=true):
  Calls Tryz.prog 16 #[.agg #[vn,vm,vl],.agg #[ki,no,k,mn,d]] w fun e w'=>(∃(a1:Option Addr) (n1 d1:Nat) (a2:Option Addr) (n2 d2:Nat) (a3:Option Addr) (n3 d3:Nat),e= .returned (.tuple #[.agg #[.slice a1 n1 d1,.slice a2 n2 d2,.slice a3 n3 d3],true]))∧Below w.heap.size w w':=by
 obtain⟨⟨na,nc,rfl⟩,⟨ma,mc,rfl⟩,ya,yc,rfl⟩:=h.shapes;have hCS:CS N M L:=vV_ (p:=p) hG.g;obtain⟨W0,hW0,hB,X,Y,Z,hz0⟩:=al3 w [.slice na N.length nc,.slice ma M.length mc,.slice ya L.length yc] 30 [ki,no,k,mn,d] 51 z3 30;have hO:=h.below hB;have K:=uU_ _ _ _ N M L W0 hO.cr hCS;rw [show zU_ (N.map Nv.n) (M.map Mv.q) L=true from hG.g.good] at K;obtain⟨xl,x0,x1,x2⟩:=X.c3;clear h;go_enter Tryz.func16,Tryz.ntmps16;go_wp2_with fail;rw [←hW0];clear hW0;refine K.mono ?_;rintro e W4 ⟨rfl,hb⟩;replace X:=X.below hb;replace Y:=Y.below hb;replace Z:=Z.below hb;replace hO:=hO.below hb;replace hB:=za_ hB hb;have hz4:=hb.size;clear K hb xl x0 x1 x2;go_upto_region 3 with fail;have hO2:OwnC W4 lo (max hi W4.heap.size) (.slice na N.length nc) (.slice ma M.length mc) (.slice ya L.length yc) N M L:=hO.hiN (Nat.le_max_left _ _);have KO:=fun W (q:Below W4.heap.size W4 W)=>vz_ lo hi _ _ _ N M L W (hO.below q) hCS;have KS:∀(W:World) (lo hi:Nat) (xn xm xl:Value) (NA:List Nv) (MA:List Mv),OwnC W lo hi xn xm xl NA MA L→hi≤W.heap.size→NA.map Nv.n=N.map Nv.n→MA.map Mv.q=M.map Mv.q→Calls Tryz.prog 46 #[.agg #[xn,xm,xl],.agg #[ki,no,k,mn,d]] W fun e w'=>yO_ w' lo true (stN (N.map Nv.n) (M.map Mv.q) ⟨ki,no,k,mn,d⟩) (stM (N.map Nv.n) (M.map Mv.q) ⟨ki,no,k,mn,d⟩) (stL (N.map Nv.n) (M.map Mv.q) L ⟨ki,no,k,mn,d⟩) e∧Chg (fun b=>lo≤b∧b<hi) W w':=fun W lo hi xn xm xl NA MA h1 h2 h3 h4=>by
  have K:=uj_ p lo hi xn xm xl NA MA L ki no k mn d W h1 h2 (by rw [h3,h4];exact hG) hd;rw [h3,h4,hdone] at K;exact K
 clear hO2 hO hG hdone hCS hd;have HZ:Hid (Box W4 (w.heap.size+1+1) z3):=Z;have HB:Hid (Below w.heap.size w W4):=hB;clear Z hB;have hx4:=X.1
 go_cut [6,7] from 8 (fun t6 t7 wq=>∃(b12:Nat) (a1:Option Addr) (n1 d1:Nat) (a2:Option Addr) (n2 d2:Nat) (a3:Option Addr) (n3 d3:Nat),t6= .pointer (some ⟨b12,0,none⟩)∧t7= .bool true∧Box wq b12 [.slice a1 n1 d1,.slice a2 n2 d2,.slice a3 n3 d3]∧W4.heap.size≤b12∧Below W4.heap.size W4 wq)
 case first=>
  clear HZ HB;have hva:Below W4.heap.size W4 W4.drew:=(Below.refl _ _).drew;replace X:=X.below hva;replace Y:=Y.below hva;refine wp_region_held_drew (S:=(fun w'=>Box w' w.heap.size [.slice na N.length nc,.slice ma M.length mc,.slice ya L.length yc]∧Box w' (w.heap.size+1) [ki,no,k,mn,d])) (by kernel_rfl) ⟨X,Y⟩ (fun zc_=> ?_);generalize W4.drew=va at*;refine tkH 0 (.agg #[.slice na N.length nc,.slice ma M.length mc,.slice ya L.length yc]) rfl ?_ ?_
  ·intro wx hSw;have e:=hSw.1.2.1 0 _ rfl;have e3:=hSw.1.2.1 1 _ rfl;have e4:=hSw.1.2.1 2 _ rfl;have e2:=hSw.1.1;clear zc_ hSw;go_simp
  simp only [Act.put,sA_,sB_,sC_];refine tkH 2 (.agg #[ki,no,k,mn,d]) rfl ?_ ?_
  ·intro wx hSw;obtain⟨sl,s0,s1,s2,s3,s4⟩:=hSw.2.c5;clear zc_ hSw;go_simp
  simp only [Act.put,sA_,sB_,sC_];refine rd2 1 7 rfl rfl (fun K hK=> ?_) (fun K hK=> ?_)
  ·clear zc_;go_simp;refine (KO va hva).mono ?_;rintro e w5 ⟨⟨xn,xm,xl,NA,MA,rfl,hOA,hNA,hMA⟩,hb5⟩;obtain⟨⟨xa,xc,rfl⟩,⟨xb,xd,rfl⟩,xe,xf,rfl⟩:=hOA.shapes;replace X:=X.below hb5;replace Y:=Y.below hb5;have hva5:=za_ hva hb5;have hz5:=hb5.size;have hlo:=hva.size;clear hb5;refine hK.out _ w5 ⟨X,Y⟩ (fun zc_=> ?_);clear hK K
   try (simp only [Act.put,sA_,sB_,sC_])
   refine rd2 3 7 rfl rfl (fun K hK=> ?_) (fun K hK=> ?_)
   ·clear zc_;go_simp;refine (KS w5 _ _ _ _ _ NA MA hOA (Nat.le_refl _) hNA hMA).mono ?_;rintro e w6 ⟨hS,hC6⟩;have hS2:=yr_ hS;clear hS;obtain⟨a1,n1,d1,a2,n2,d2,a3,n3,d3,rfl,hS⟩:=hS2;clear hS;replace X:=hC6.box X (by intro q;have:=q.1;omega);replace Y:=hC6.box Y (by intro q;have:=q.1;omega);have hva6:=Chg.below2 hva5 hC6 (by omega);have hz6:=hC6.size;clear hOA;refine hK.out _ w6 ⟨X,Y⟩ (fun zc_=> ?_);clear hK K
    try (simp only [Act.put,sA_,sB_,sC_])
    refine tkH 4 (.tuple #[.agg #[.slice a1 n1 d1,.slice a2 n2 d2,.slice a3 n3 d3],true]) rfl ?_ ?_
    ·intro wx hSw;clear zc_ hSw;go_simp
    simp only [Act.put,sA_,sB_,sC_];refine tkH 5 (.agg #[.slice a1 n1 d1,.slice a2 n2 d2,.slice a3 n3 d3]) rfl ?_ ?_
    ·intro wx hSw;clear zc_ hSw;go_simp
    simp only [Act.put,sA_,sB_,sC_];refine tkH 6 (.bool true) rfl ?_ ?_
    ·intro wx hSw;clear zc_ hSw;go_simp
    simp only [Act.put,sA_,sB_,sC_];refine rd1 7 rfl (fun K hK=> ?_);clear zc_;have hBA:=zb_ w6 (.cells z3 30);have T:=Box.new w6 z3 30;replace X:=X.below hBA;replace Y:=Y.below hBA;have hva7:=za_ hva6 hBA;clear hC6;go_simp;refine hK.out _ _ ⟨X,Y⟩ (fun zc_=> ?_);clear hK K
    try (simp only [Act.put,sA_,sB_,sC_])
    have hzb:w6.heap.size<(w6.alloc (.cells z3 30)).heap.size:=by simp
    generalize hw6:w6.alloc (.cells z3 30)=w7 at*;generalize hb6:w6.heap.size=b6 at*;clear hw6 hBA;refine rd1 8 rfl (fun K hK=> ?_);clear zc_;obtain⟨W7,hW7,hC7,T7⟩:=zi_ w7 T (.slice a1 n1 d1) (.slice a2 n2 d2) (.slice a3 n3 d3);have hz7:=hC7.size;obtain⟨zl,z0,z1,z2,f0,f1,f2⟩:=T.c3f;replace X:=hC7.box X (by omega);replace Y:=hC7.box Y (by omega);have hB7:=hva7.trans (hC7.b1 (B:=W4.heap.size) (by omega) (by omega));clear hC7 T;unfold put3 at hW7;go_simp;rw [←hW7];clear hW7 zl z0 z1 z2 f0 f1 f2;refine hK.out _ W7 ⟨X,Y⟩ (fun zc_=> ?_);clear hK K
    try (simp only [Act.put,sA_,sB_,sC_])
    refine tkH 9 (.bool true) rfl ?_ ?_
    ·intro wx hSw;clear zc_ hSw;go_simp
    simp only [Act.put,sA_,sB_,sC_];clear zc_;refine wpAnyH_done (by kernel_rfl) ?_ _;go_wp2_with fail;go_meet
    case rel=>exact⟨b6,_,_,_,_,_,_,_,_,_,rfl,rfl,T7,by omega,hB7⟩
   ·clear zc_;have hBA:=zb_ w5 (.cells z3 30);have T:=Box.new w5 z3 30;replace X:=X.below hBA;replace Y:=Y.below hBA;replace hOA:=hOA.below hBA;have hva7:=za_ hva5 hBA;have hhi:w5.heap.size≤(w5.alloc (.cells z3 30)).heap.size:=by simp
    go_simp;refine hK.out _ _ ⟨X,Y⟩ (fun zc_=> ?_);clear hK K
    try (simp only [Act.put,sA_,sB_,sC_])
    have hzb:w5.heap.size<(w5.alloc (.cells z3 30)).heap.size:=by simp
    generalize hw6:w5.alloc (.cells z3 30)=v6 at*;generalize hb6:w5.heap.size=b6 at*;clear hw6 hBA;refine rd1 3 rfl (fun K hK=> ?_);clear zc_;go_simp;refine (KS v6 _ _ _ _ _ NA MA hOA hhi hNA hMA).mono ?_;rintro e w6 ⟨hS,hC6⟩;have hS2:=yr_ hS;clear hS;obtain⟨a1,n1,d1,a2,n2,d2,a3,n3,d3,rfl,hS⟩:=hS2;clear hS;replace X:=hC6.box X (by intro q;have:=q.1;omega);replace Y:=hC6.box Y (by intro q;have:=q.1;omega);have hva6:=Chg.below2 hva7 hC6 (by omega);have hz6:=hC6.size;replace T:=hC6.box T (by intro q;have:=q.2;omega);clear hC6 hOA;refine hK.out _ w6 ⟨X,Y⟩ (fun zc_=> ?_);clear hK K
    try (simp only [Act.put,sA_,sB_,sC_])
    refine tkH 4 (.tuple #[.agg #[.slice a1 n1 d1,.slice a2 n2 d2,.slice a3 n3 d3],true]) rfl ?_ ?_
    ·intro wx hSw;clear zc_ hSw;go_simp
    simp only [Act.put,sA_,sB_,sC_];refine tkH 5 (.agg #[.slice a1 n1 d1,.slice a2 n2 d2,.slice a3 n3 d3]) rfl ?_ ?_
    ·intro wx hSw;clear zc_ hSw;go_simp
    simp only [Act.put,sA_,sB_,sC_];refine tkH 6 (.bool true) rfl ?_ ?_
    ·intro wx hSw;clear zc_ hSw;go_simp
    simp only [Act.put,sA_,sB_,sC_];refine rd1 8 rfl (fun K hK=> ?_);clear zc_;obtain⟨W7,hW7,hC7,T7⟩:=zi_ w6 T (.slice a1 n1 d1) (.slice a2 n2 d2) (.slice a3 n3 d3);have hz7:=hC7.size;obtain⟨zl,z0,z1,z2,f0,f1,f2⟩:=T.c3f;replace X:=hC7.box X (by omega);replace Y:=hC7.box Y (by omega);have hB7:=hva6.trans (hC7.b1 (B:=W4.heap.size) (by omega) (by omega));clear hC7 T;unfold put3 at hW7;go_simp;rw [←hW7];clear hW7 zl z0 z1 z2 f0 f1 f2;refine hK.out _ W7 ⟨X,Y⟩ (fun zc_=> ?_);clear hK K
    try (simp only [Act.put,sA_,sB_,sC_])
    refine tkH 9 (.bool true) rfl ?_ ?_
    ·intro wx hSw;clear zc_ hSw;go_simp
    simp only [Act.put,sA_,sB_,sC_];clear zc_;refine wpAnyH_done (by kernel_rfl) ?_ _;go_wp2_with fail;go_meet
    case rel=>exact⟨b6,_,_,_,_,_,_,_,_,_,rfl,rfl,T7,by omega,hB7⟩
  ·have hv4:=hva.size;clear zc_;have hBA:=zb_ va (.cells z3 30);have T:=Box.new va z3 30;replace X:=X.below hBA;replace Y:=Y.below hBA;replace hva:=za_ hva hBA;go_simp;refine hK.out _ _ ⟨X,Y⟩ (fun zc_=> ?_);clear hK K
   try (simp only [Act.put,sA_,sB_,sC_])
   have hzb:va.heap.size<(va.alloc (.cells z3 30)).heap.size:=by simp
   generalize hw6:va.alloc (.cells z3 30)=v2 at*;generalize hb6:va.heap.size=b6 at*;clear hw6 hBA;refine rd1 1 rfl (fun K hK=> ?_);clear zc_;go_simp;refine (KO v2 hva).mono ?_;rintro e w5 ⟨⟨xn,xm,xl,NA,MA,rfl,hOA,hNA,hMA⟩,hb5⟩;obtain⟨⟨xa,xc,rfl⟩,⟨xb,xd,rfl⟩,xe,xf,rfl⟩:=hOA.shapes;replace X:=X.below hb5;replace Y:=Y.below hb5;have hva5:=za_ hva hb5;have hz5:=hb5.size;have hlo:=hva.size;replace T:=T.below hb5;clear hb5;refine hK.out _ w5 ⟨X,Y⟩ (fun zc_=> ?_);clear hK K
   try (simp only [Act.put,sA_,sB_,sC_])
   refine rd1 3 rfl (fun K hK=> ?_);clear zc_;go_simp;refine (KS w5 _ _ _ _ _ NA MA hOA (Nat.le_refl _) hNA hMA).mono ?_;rintro e w6 ⟨hS,hC6⟩;have hS2:=yr_ hS;clear hS;obtain⟨a1,n1,d1,a2,n2,d2,a3,n3,d3,rfl,hS⟩:=hS2;clear hS;replace X:=hC6.box X (by intro q;have:=q.1;omega);replace Y:=hC6.box Y (by intro q;have:=q.1;omega);have hva6:=Chg.below2 hva5 hC6 (by omega);have hz6:=hC6.size;replace T:=hC6.box T (by intro q;have:=q.1;omega);clear hC6 hOA;refine hK.out _ w6 ⟨X,Y⟩ (fun zc_=> ?_);clear hK K
   try (simp only [Act.put,sA_,sB_,sC_])
   refine tkH 4 (.tuple #[.agg #[.slice a1 n1 d1,.slice a2 n2 d2,.slice a3 n3 d3],true]) rfl ?_ ?_
   ·intro wx hSw;clear zc_ hSw;go_simp
   simp only [Act.put,sA_,sB_,sC_];refine tkH 5 (.agg #[.slice a1 n1 d1,.slice a2 n2 d2,.slice a3 n3 d3]) rfl ?_ ?_
   ·intro wx hSw;clear zc_ hSw;go_simp
   simp only [Act.put,sA_,sB_,sC_];refine tkH 6 (.bool true) rfl ?_ ?_
   ·intro wx hSw;clear zc_ hSw;go_simp
   simp only [Act.put,sA_,sB_,sC_];refine rd1 8 rfl (fun K hK=> ?_);clear zc_;obtain⟨W7,hW7,hC7,T7⟩:=zi_ w6 T (.slice a1 n1 d1) (.slice a2 n2 d2) (.slice a3 n3 d3);have hz7:=hC7.size;obtain⟨zl,z0,z1,z2,f0,f1,f2⟩:=T.c3f;replace X:=hC7.box X (by omega);replace Y:=hC7.box Y (by omega);have hB7:=hva6.trans (hC7.b1 (B:=W4.heap.size) (by omega) (by omega));clear hC7 T;unfold put3 at hW7;go_simp;rw [←hW7];clear hW7 zl z0 z1 z2 f0 f1 f2;refine hK.out _ W7 ⟨X,Y⟩ (fun zc_=> ?_);clear hK K
   try (simp only [Act.put,sA_,sB_,sC_])
   refine tkH 9 (.bool true) rfl ?_ ?_
   ·intro wx hSw;clear zc_ hSw;go_simp
   simp only [Act.put,sA_,sB_,sC_];clear zc_;refine wpAnyH_done (by kernel_rfl) ?_ _;go_wp2_with fail;go_meet
   case rel=>exact⟨b6,_,_,_,_,_,_,_,_,_,rfl,rfl,T7,by omega,hB7⟩
 case rest=>
  obtain⟨b12,a1,n1,d1,a2,n2,d2,a3,n3,d3,rfl,rfl,T,hb12,hbq⟩:=hcut;generalize wc=wq at*;have Z:=HZ.out.below hbq;have hB:=za_ HB.out hbq;have hzq:=hbq.size;clear X Y KO KS HZ HB hbq hx4;obtain⟨W5,hW5,hC5,Z5⟩:=zi_ wq Z (.slice a1 n1 d1) (.slice a2 n2 d2) (.slice a3 n3 d3);have hBF:Hid (Below w.heap.size w W5):=hB.trans (hC5.b1 (B:=w.heap.size) (by omega) (by omega));obtain⟨zl,z0,z1,z2,f0,f1,f2⟩:=Z.c3f;obtain⟨tl,t0,t1,t2⟩:=Z5.c3;obtain⟨ql,q0,q1,q2⟩:=T.c3;clear hC5 Z hB Z5 T;unfold put3 at*;go_wp2;rw [←hW5];exact bodyPost_ret (v:= .tuple #[.agg #[.slice a1 n1 d1,.slice a2 n2 d2,.slice a3 n3 d3],true]) (by simp [results,Tryz.results16,go_sem,t0,t1,t2]) rfl ⟨⟨_,_,_,_,_,_,_,_,_,rfl⟩,hBF.out⟩
set_option maxHeartbeats 32000000
theorem ql_ (vn vm vl:Value) (N:List Nv) (M:List Mv) (L:List Ld) (w:World) (h:CR w vn vm vl N M L) (hs:CS N M L) (hq:CQ N):
  Calls Tryz.prog 14 #[.agg #[vn,vm,vl]] w fun e w'=>∃u,e= .returned (.tuple #[u,.bool (zU_ (N.map Nv.n) (M.map Mv.q) L)])∧w'.ownsRow w.heap.size 44 2 u (cmL (zU_ (N.map Nv.n) (M.map Mv.q) L) (N.map Nv.n)).length (zF_ (cmL (zU_ (N.map Nv.n) (M.map Mv.q) L) (N.map Nv.n)))∧Below w.heap.size w w':=by
 have K:=vn_ vn vm vl N M L _ (h.below (zb_ w (.cells #[vn,vm,vl] 30))) hs;obtain⟨⟨na,nc,hcn⟩,⟨xa,xc,hcm⟩,ya,yc,hcl⟩:=h.shapes;subst hcn;subst hcm;subst hcl;have hB:=zb_ w (.cells #[.slice na N.length nc,.slice xa M.length xc,.slice ya L.length yc] 30);have X:=Box.new w #[.slice na N.length nc,.slice xa M.length xc,.slice ya L.length yc] 30;have HEN:=fun k (hk:k<N.length) W (hb:Below w.heap.size w W)=>(h.ne k hk).below hb;have HEM:=fun k (hk:k<M.length) W (hb:Below w.heap.size w W)=>(h.me k hk).below hb;obtain⟨a1,c1,e1,hcN⟩:=h.n;obtain⟨a2,c2,e2,hcM⟩:=h.m;obtain⟨a3,c3,e3,hcL⟩:=h.l;simp only [Value.slice.injEq,true_and] at e1 e2 e3;obtain⟨rfl,rfl⟩:=e1;obtain⟨rfl,rfl⟩:=e2;obtain⟨rfl,rfl⟩:=e3;have hNl:=hs.n;have hMl:=hs.m;have hLl:=hs.l;clear h;have HCO:zU_ (N.map Nv.n) (M.map Mv.q) L=true→1≤N.length∧N.length≤7∧∀i (hi:i<N.length),0≤N[i].n.co∧N[i].n.co≤(N[i].n.log.length:Int)∧N[i].n.log.length≤60:=goodC_co;clear hcM hcL HEM hs;generalize zU_ (N.map Nv.n) (M.map Mv.q) L=ok at*
 cases ok with
 | false=>
  clear hcN HEN HCO hq;show Calls Tryz.prog 14 _ w fun e w'=>∃u,e= .returned (.tuple #[u,false])∧w'.ownsRow w.heap.size 44 2 u 0 (zF_ [])∧Below w.heap.size w w';go_enter Tryz.func14,Tryz.ntmps14;go_wp2
  go_step3
  go_wp2_with fail;refine K.mono ?_;rintro e w1 ⟨rfl,hb⟩;replace hB:=za_ hB hb;clear K hb X;go_wp2
  try rw [Exit.noGoto_ret]
  go_ret2;exact⟨_,rfl,World.ownsRow_nil _ _ _ _,hB⟩
 | true=>
 obtain⟨p1,p7,HC⟩:=HCO rfl;clear HCO;obtain⟨L0,HL0⟩:∃L0,Hid (log0 (N.map Nv.n)=L0):=⟨log0 (N.map Nv.n),rfl⟩;have HN0:Hid (N[0].n.log=L0):=by
  show _=_;rw [←HL0.out]
  cases N with
  | nil=>simp at p1
  | cons x r=>rfl
 obtain⟨R,HR⟩:∃R,Hid (cmL true (N.map Nv.n)=R):=⟨cmL true (N.map Nv.n),rfl⟩;rw [HR.out];have HRM:Hid (∀m,IsCm L0 (N.map Nv.n) m→R=L0.take m):=fun m hm=>by
  rw [←HR.out];simp only [cmL,if_true];rw [HL0.out,cmM_eq hm]
 clear HR HL0;obtain⟨b,off,rfl,hbl,hcell⟩:=hcN (by intro e;simp [e] at p1);have hco0:=HC 0 (by omega);have hE0:=fun W (h:Below w.heap.size w W)=>(HEN 0 (by omega) W h).1;have hq0:=hq 0 (by omega);have hc0:=hcell 0 (by omega);rw [HN0.out] at hco0 hE0 hq0 hc0;obtain⟨c0,hc0e⟩:=Int.eq_ofNat_of_zero_le hco0.1;rw [hc0e] at hco0 hc0;have HND:Hid (∀m,m=c0→okN L0 N[0].n m=false):=fun m hm=>by unfold okN;rw [hc0e,hm];simp
 simp only [Nat.zero_mul,Nat.add_zero] at hc0;have hl60:L0.length≤60:=hco0.2.2;have hc0l:c0≤L0.length:=by omega
 clear hco0;have HS0e:Hid (∀i (h:i<N.length),i=0→N[i].n.log=L0∧N[i].n.co=c0):=fun i h e=>by subst e;exact⟨HN0.out,hc0e⟩
 clear hc0e;generalize N[0].n.id=id0 at*;generalize N[0].n.pe=pe0 at*;generalize N[0].n.te=te0 at*;generalize N[0].n.vo=vo0 at*;generalize N[0].n.ro=ro0 at*;generalize N[0].n.vs=vs0 at*;generalize N[0].n.mt=mt0 at*;generalize N[0].la=la0 at*;generalize N[0].lc=lc0 at*;generalize N[0].va=va0 at*;generalize N[0].vc=vc0 at*;generalize N[0].ma=ma0 at*;generalize N[0].mc=mc0 at*;obtain⟨d0,d1,d2,d3,d4,d5,d6,d7,d8⟩:=hc0;go_enter Tryz.func14,Tryz.ntmps14;go_wp2
 go_step3
 go_wp2_with fail;refine K.mono ?_;rintro e w1 ⟨rfl,hb⟩;replace hB:=za_ hB hb;replace X:=X.below hb;clear K hb;replace d0:=(hB.cell (p:=⟨b,off,none⟩) hbl).trans d0;replace d1:=(hB.cell (p:=⟨b,off+1,none⟩) hbl).trans d1;replace d2:=(hB.cell (p:=⟨b,off+2,none⟩) hbl).trans d2;replace d3:=(hB.cell (p:=⟨b,off+3,none⟩) hbl).trans d3;replace d4:=(hB.cell (p:=⟨b,off+4,none⟩) hbl).trans d4;replace d5:=(hB.cell (p:=⟨b,off+5,none⟩) hbl).trans d5;replace d6:=(hB.cell (p:=⟨b,off+6,none⟩) hbl).trans d6;replace d7:=(hB.cell (p:=⟨b,off+7,none⟩) hbl).trans d7;replace d8:=(hB.cell (p:=⟨b,off+8,none⟩) hbl).trans d8;have hz1:=hB.size;have hbW:b<w1.heap.size:=by omega
 obtain⟨hxl,x0,x1,x2⟩:=X.c3;have p1i:(0:Int)<(N.length:Int):=by omega
 have BA:=zb_ w1 (.cells #[id0,pe0,te0,vo0,.slice la0 L0.length lc0,c0,ro0,.slice va0 vs0.length vc0,.slice ma0 mt0.length mc0] 42);have F:=Box.new w1 #[id0,pe0,te0,vo0,.slice la0 L0.length lc0,c0,ro0,.slice va0 vs0.length vc0,.slice ma0 mt0.length mc0] 42;replace X:=X.below BA;replace hB:=za_ hB BA;obtain⟨W1,hW1⟩:∃W1,W1=w1.alloc (.cells #[id0,pe0,te0,vo0,.slice la0 L0.length lc0,c0,ro0,.slice va0 vs0.length vc0,.slice ma0 mt0.length mc0] 42):=⟨_,rfl⟩;rw [←hW1] at X hB F;have hz2:=hB.size;clear BA;go_wp2
 go_step3
 go_wp2;rw [←hW1];clear hW1 d0 d1 d2 d3 d4 d5 d6 d7 d8 hxl x0 x1 x2 p1i hbW
 go_loopw [5] (fun i wr=>∃m:Nat,m≤c0∧i= .int .i64 m∧(∀j,j<m→∀i (h:i<N.length),okN L0 N[i].n j=true)∧Below w.heap.size w wr∧Box wr w.heap.size [.slice (some ⟨b,off,none⟩) N.length nc,.slice xa M.length xc,.slice ya L.length yc]∧Box wr w1.heap.size [id0,pe0,te0,vo0,.slice la0 L0.length lc0,c0,ro0,.slice va0 vs0.length vc0,.slice ma0 mt0.length mc0]) (fun i _=>c0-(intOf i).toNat)
 case atStart=>exact⟨0,Nat.zero_le _,rfl,fun j h=>absurd h (Nat.not_lt_zero j),hB,X,F⟩
 case round=>
  obtain⟨m,hm,rfl,hall,hb,Xr,Fr⟩:=hrel;clear X F hB;by_cases hmc:m<c0;rotate_left
  ·have HM:Hid (IsCm L0 (N.map Nv.n) m):=by
    refine⟨fun j hj i hi=> ?_,0,by simp;omega,?_⟩
    ·simp only [List.length_map] at hi;simpa using hall j hj i hi
    ·obtain⟨e1,e2⟩:=HS0e.out 0 (by omega) rfl;simp only [List.getElem_map];unfold okN;rw [e2];simp;omega
   have hmc2:¬(m:Int)<(c0:Int):=by omega
   have hBz:=hb;have Fz:=Fr;obtain⟨gl,g0,g1,g2,g3,g4,g5,g6,g7,g8⟩:=Fr.e9;clear hall HS0e Xr hb Fr;have HE:Hid (L0.take m=R):=(HRM.out m HM.out).symm;have CL:=xa_ (.slice la0 m lc0) R _ (by rw [←HE.out];exact vC_ (hE0 _ hBz) (by omega)) (hq0.1.sl (by omega)) (by rw [←HE.out];simp;omega);have HSm:=fun W=>tx_ la0 L0.length lc0 m W (by omega);clear HE HM HRM hE0 hq0 HEN hcell HC hq HND HN0;obtain⟨hxl,f0,f1,f2,f3,f4,f5,f6,f7,f8⟩:=Fz.e9;have hzz:=hBz.size;go_wp2_with (first | (refine zN_ _ rfl 23 _ _ _ _ rfl _ (HSm _) ?_;simp only [Act.put,sA_,sB_,sC_]));refine CL.mono ?_;rintro e w9 ⟨u,rfl,O,hb9⟩;have hB9:=hBz.trans (hb9.mono hBz.size);obtain⟨ua,uc,rfl⟩:=ze_ O;replace O:=zf_ O hzz;clear CL hb9 HSm hxl f0 f1 f2 f3 f4 f5 f6 f7 f8 Fz hBz;go_wp2
   try rw [Exit.noGoto_ret]
   go_ret2;exact⟨_,rfl,O,hB9⟩
  have hmci:(m:Int)<(c0:Int):=by omega
  obtain⟨gl,g0,g1,g2,g3,g4,g5,g6,g7,g8⟩:=Fr.e9;obtain⟨hxl,x0,x1,x2⟩:=Xr.c3;go_wp2;clear gl g0 g1 g2 g3 g4 g5 g6 g7 g8 hxl x0 x1 x2
  go_loopw [22] (fun i wr=>∃k:Nat,k≤N.length∧i= .int .i64 k∧(∀i (h:i<N.length),i<k→okN L0 N[i].n m=true)∧Below w.heap.size w wr∧Box wr w.heap.size [.slice (some ⟨b,off,none⟩) N.length nc,.slice xa M.length xc,.slice ya L.length yc]∧Box wr w1.heap.size [id0,pe0,te0,vo0,.slice la0 L0.length lc0,c0,ro0,.slice va0 vs0.length vc0,.slice ma0 mt0.length mc0]) (fun i _=>N.length-(intOf i).toNat)
  case atStart=>exact⟨0,Nat.zero_le _,rfl,fun i _ h=>absurd h (Nat.not_lt_zero i),hb,Xr,Fr⟩
  case round=>
   obtain⟨k,hk,rfl,hin,hbi,Xi,Fi⟩:=hrel;clear hb Xr Fr;by_cases hlt:k<N.length;rotate_left
   ·have HA:Hid (∀j,j<m+1→∀i (h:i<N.length),okN L0 N[i].n j=true):=fun j hj i hi=>by
     by_cases hjm:j<m
     ·exact hall j hjm i hi
     ·obtain rfl:j=m:=by omega
      exact hin i hi (by omega)
    have hkn:¬(k:Int)<(N.length:Int):=by omega
    clear hall hin HS0e HRM hE0 hq0 HEN hcell HC hq HND HN0;go_wp2;go_roundw
    case rel=>exact⟨m+1,by omega,by go_num,HA.out,hbi,Xi,Fi⟩
    case measure=>simp [intOf];omega
   obtain⟨z0,z1,z2,z3,z4,z5,z6,z7,z8⟩:=hcell k hlt;have hc0:=(hbi.cell (p:=⟨b,off+k*9,none⟩) hbl).trans z0;have hc1:=(hbi.cell (p:=⟨b,off+k*9+1,none⟩) hbl).trans z1;have hc2:=(hbi.cell (p:=⟨b,off+k*9+2,none⟩) hbl).trans z2;have hc3:=(hbi.cell (p:=⟨b,off+k*9+3,none⟩) hbl).trans z3;have hc4:=(hbi.cell (p:=⟨b,off+k*9+4,none⟩) hbl).trans z4;have hc5:=(hbi.cell (p:=⟨b,off+k*9+5,none⟩) hbl).trans z5;have hc6:=(hbi.cell (p:=⟨b,off+k*9+6,none⟩) hbl).trans z6;have hc7:=(hbi.cell (p:=⟨b,off+k*9+7,none⟩) hbl).trans z7;have hc8:=(hbi.cell (p:=⟨b,off+k*9+8,none⟩) hbl).trans z8;have hE:=(HEN k hlt _ hbi).1;have hEf:=hE0 _ hbi;have hCk:=HC k hlt;have HBAD:Hid (okN L0 N[k].n m=false→IsCm L0 (N.map Nv.n) m):=fun e=>by
    refine⟨fun j hj i hi=> ?_,k,by simpa using hlt,by simpa using e⟩;simp only [List.length_map] at hi;simpa using hall j hj i hi
   have HOK:Hid (okN L0 N[k].n m=true→∀i (h:i<N.length),i<k+1→okN L0 N[i].n m=true):=fun e i hi hik=>by
    by_cases hi2:i<k
    ·exact hin i hi hi2
    ·obtain rfl:i=k:=by omega
     exact e
   have HU:Hid (okN L0 N[k].n m=(decide ((m:Int)<N[k].n.co)&&eqAt L0 N[k].n.log m)):=rfl;have HALL:Hid (∀j,j<m→∀i (h:i<N.length),okN L0 N[i].n j=true):=hall;clear z0 z1 z2 z3 z4 z5 z6 z7 z8 hin hall HS0e;generalize HNk:N[k]=s at*;clear HNk;obtain⟨⟨id,pe,te,vo,co,ro,log,vs,mt⟩,la,lc,va,vc,ma,mc⟩:=s;dsimp only at hc0 hc1 hc2 hc3 hc4 hc5 hc6 hc7 hc8 hE hCk HBAD HOK HU;obtain⟨g0,g1,g2⟩:=hCk;obtain⟨c,rfl⟩:=Int.eq_ofNat_of_zero_le g0;have hz:=hbi.size;have hB0:=hbi.alloc hz (.cells #[id,pe,te,vo,.slice la log.length lc,c,ro,.slice va vs.length vc,.slice ma mt.length mc] 42);have X0:=Box.new wr #[id,pe,te,vo,.slice la log.length lc,c,ro,.slice va vs.length vc,.slice ma mt.length mc] 42;have hBw:=zb_ wr (.cells #[id,pe,te,vo,.slice la log.length lc,c,ro,.slice va vs.length vc,.slice ma mt.length mc] 42);replace hE:=hE.below hBw;replace hEf:=hEf.below hBw;replace Xi:=Xi.below hBw;replace Fi:=Fi.below hBw;obtain⟨hx0,v0,v1,v2,v3,v4,v5,v6,v7,v8⟩:=X0.e9;obtain⟨hf0,f0,f1,f2,f3,f4,f5,f6,f7,f8⟩:=Fi.e9;clear hBw X0;by_cases hmk:m<c;rotate_left
   ·have HM:Hid (IsCm L0 (N.map Nv.n) m):=HBAD.out (by rw [HU.out];simp;omega);have hmd:decide ((m:Int)<(c:Int))=false:=decide_eq_false (by omega);have hmd2:decide ((c:Int)≤(m:Int))=true:=decide_eq_true (by omega);clear HBAD HOK HU HALL hE hEf;go_wp2_with fail
    go_quiet (fail)
    clear v0 v1 v2 v3 v4 v5 v6 v7 v8 f0 f1 f2 f3 f4 f5 f6 f7 f8 hc0 hc1 hc2 hc3 hc4 hc5 hc6 hc7 hc8;have hBz:=fun q=>below_drewN hB0 q;have Fz:=fun q=>Fi.below (below_drewN (Below.refl _ _) q);clear hB0 Fi Xi hbi;have HE:Hid (L0.take m=R):=(HRM.out m HM.out).symm;have CL:=fun q=>xa_ (.slice la0 m lc0) R _ (by rw [←HE.out];exact vC_ (hE0 _ (hBz q)) (by omega)) (hq0.1.sl (by omega)) (by rw [←HE.out];simp;omega);have HSm:=fun W=>tx_ la0 L0.length lc0 m W (by omega);clear HE HM HRM hE0 hq0 HEN hcell HC hq HND HN0;have f0:=fun q=>(Fz q).2.1 0 _ rfl;have f1:=fun q=>(Fz q).2.1 1 _ rfl;have f2:=fun q=>(Fz q).2.1 2 _ rfl;have f3:=fun q=>(Fz q).2.1 3 _ rfl;have f4:=fun q=>(Fz q).2.1 4 _ rfl;have f5:=fun q=>(Fz q).2.1 5 _ rfl;have f6:=fun q=>(Fz q).2.1 6 _ rfl;have f7:=fun q=>(Fz q).2.1 7 _ rfl;have f8:=fun q=>(Fz q).2.1 8 _ rfl;have hxl:=fun q=>(Fz q).1;skip;go_wp2_with (first | (refine zN_ _ rfl 23 _ _ _ _ rfl _ (HSm _) ?_;simp only [Act.put,sA_,sB_,sC_]));refine (CL _).mono ?_;rintro e w9 ⟨u,rfl,O,hb9⟩;have hB9:=(hBz _).trans (hb9.mono (hBz _).size);obtain⟨ua,uc,rfl⟩:=ze_ O;replace O:=zf_ O (hBz _).size;clear CL hb9 HSm hxl f0 f1 f2 f3 f4 f5 f6 f7 f8 Fz hBz;go_wp2
    try rw [Exit.noGoto_ret]
    go_ret2;exact⟨_,rfl,O,hB9⟩
   have hmd:decide ((m:Int)<(c:Int))=true:=decide_eq_true (by omega);have hmd2:decide ((c:Int)≤(m:Int))=false:=decide_eq_false (by omega);have hml:m<log.length:=by omega
   have hmL:m<L0.length:=by omega
   have hmi:(m:Int)<(log.length:Int):=by omega
   have hmi2:(m:Int)<(L0.length:Int):=by omega
   obtain⟨a1,c1,e1,hce⟩:=hE;obtain⟨a2,c2,e2,hce2⟩:=hEf;simp only [Value.slice.injEq,true_and] at e1 e2;obtain⟨rfl,rfl⟩:=e1;obtain⟨ea2,ec2⟩:=e2;obtain⟨be,oe,rfl,hbe,hcle⟩:=hce (by intro e;simp [e] at hml);obtain⟨bf,of_,hae,hbf,hclf⟩:=hce2 (by intro e;simp [e] at hmL);rw [hae] at ea2;obtain⟨s0,s1⟩:=hcle m hml;obtain⟨r0,r1⟩:=hclf m hmL;have EV:=fun w=>qO_ log[m] L0[m] w;have EG:=eqG34;have HQ:Hid (eqAt L0 log m=enEq log[m] L0[m]):=by show _=_;rw [pA_ hmL hml,pB_]
   clear hcle hclf hce hce2 ec2 hae;generalize log[m]=se at*;generalize L0[m]=sf at*;generalize enEq se sf=eb at*;obtain⟨st,sd⟩:=se;obtain⟨st',sd'⟩:=sf;dsimp only at s0 s1 r0 r1 EV;subst ea2
   cases eb with
   | true=>
    have HO:=HOK.out (by rw [HU.out,hmd,HQ.out];rfl);have HO2:Hid _:=HO;clear HOK HBAD HU HQ HRM hE0 hq0 HEN HC hq HND HN0 HO;have EV2:∀w,(binOp .neq 44 (.agg #[st,sd]) (.agg #[st',sd'])).run Tryz.prog w= .ok (.bool false) w:=EV;clear EV;go_wp2_with fail
    go_quiet (fail)
    go_wp2;go_roundw
    case rel=>exact⟨k+1,by omega,by go_num,HO2.out,below_drewN hB0 _,Xi.below (below_drewN (Below.refl _ _) _),Fi.below (below_drewN (Below.refl _ _) _)⟩
    case measure=>simp [intOf];omega
   | false=>
    have HM:Hid (IsCm L0 (N.map Nv.n) m):=HBAD.out (by rw [HU.out,HQ.out];simp);have EV2:∀w,(binOp .neq 44 (.agg #[st,sd]) (.agg #[st',sd'])).run Tryz.prog w= .ok (.bool true) w:=EV;clear EV HOK HBAD HU HQ HALL;go_wp2_with fail
    go_quiet (fail)
    clear v0 v1 v2 v3 v4 v5 v6 v7 v8 f0 f1 f2 f3 f4 f5 f6 f7 f8 hc0 hc1 hc2 hc3 hc4 hc5 hc6 hc7 hc8 s0 s1 r0 r1 EV2;have hBz:=fun q=>below_drewN hB0 q;have Fz:=fun q=>Fi.below (below_drewN (Below.refl _ _) q);clear hB0 Fi Xi hbi;have HE:Hid (L0.take m=R):=(HRM.out m HM.out).symm;have CL:=fun q=>xa_ (.slice (some ⟨bf,of_,none⟩) m lc0) R _ (by rw [←HE.out];exact vC_ (hE0 _ (hBz q)) (by omega)) (hq0.1.sl (by omega)) (by rw [←HE.out];simp;omega);have HSm:=fun W=>tx_ (some ⟨bf,of_,none⟩) L0.length lc0 m W (by omega);clear HE HM HRM hE0 hq0 HEN hcell HC hq HND HN0;have f0:=fun q=>(Fz q).2.1 0 _ rfl;have f1:=fun q=>(Fz q).2.1 1 _ rfl;have f2:=fun q=>(Fz q).2.1 2 _ rfl;have f3:=fun q=>(Fz q).2.1 3 _ rfl;have f4:=fun q=>(Fz q).2.1 4 _ rfl;have f5:=fun q=>(Fz q).2.1 5 _ rfl;have f6:=fun q=>(Fz q).2.1 6 _ rfl;have f7:=fun q=>(Fz q).2.1 7 _ rfl;have f8:=fun q=>(Fz q).2.1 8 _ rfl;have hxl:=fun q=>(Fz q).1;skip;go_wp2_with (first | (refine zN_ _ rfl 23 _ _ _ _ rfl _ (HSm _) ?_;simp only [Act.put,sA_,sB_,sC_]));refine (CL _).mono ?_;rintro e w9 ⟨u,rfl,O,hb9⟩;have hB9:=(hBz _).trans (hb9.mono (hBz _).size);obtain⟨ua,uc,rfl⟩:=ze_ O;replace O:=zf_ O (hBz _).size;clear CL hb9 HSm hxl f0 f1 f2 f3 f4 f5 f6 f7 f8 Fz hBz;go_wp2
    try rw [Exit.noGoto_ret]
    go_ret2;exact⟨_,rfl,O,hB9⟩
end Go.Proofs.YtapfhhmimkkhnaaGreat
