/-
  slices.Clone of entries and of numbers; a node copied: copyNode, following, l11Own, l11Follow.
  A node copied: copyNode, following; l11Own, l11Follow.
  A node copied: the specification's l11Own.
  CrashNode: both sides.
  CommittedIn: both sides.
  A message as a struct: the law's own szRaftMsg, toRaftMsg, eqRaftMsg.
  UpToDate: both sides; the term at an index.
  What most have is committed: holdersOf, committing; l11Commit.
  What most have is committed: committing (of who leads).
  What most have is committed: l11Commit (of who leads).
-/
import Derived.Test.YtapfhhmimkkhnaaGreatP4ToA1
import Derived.Laws.OwnMore
import Derived.Deep.Cut
namespace Go.Proofs.YtapfhhmimkkhnaaGreat
open Go.RowKit Go.Maps
set_option linter.unusedVariables false
set_option maxRecDepth 100000
set_option maxHeartbeats 2000000
def zs_ (p:Prop):Prop:=p
theorem zs_.go {p:Prop} (h:zs_ p):p:=h
def Nn (v:Value):Prop:=∀n c,v= .slice none n c→n=0∧c=0
theorem Nn.own {w:World} {base:Nat} {e:TypeId} {size:Nat} {v:Value} {n:Nat} {xs:List Value} (h:w.ownsRow base e size v n xs):Nn v:=by
 intro m c hv;rcases h.2 with⟨h1,_⟩ | ⟨g,cap,cur,h1,_⟩
 ·rw [h1] at hv;simp at hv;omega
 ·rw [h1] at hv;simp at hv
theorem yg_ {w W w':World} {B g:Nat} (hb:Below B W w) (hg:w.grownBy w' (some g)) (hB:B≤w.heap.size) (h:B≤g):Below B W w':=hb.grown hg hB (fun k hk=>by cases hk;exact h)
theorem eqnil_0 (w:World):(binOp .eql 39 (.slice none 0 0) (.slice none 0 0)).run Tryz.prog w= .ok (.bool true) w:=by kernel_rfl
theorem eqnil_1 (ad:Addr) (n c:Nat) (w:World):(binOp .eql 39 (.slice (some ad) n c) (.slice none 0 0)).run Tryz.prog w= .ok (.bool false) w:=by kernel_rfl
theorem eqnil_2 (w:World):(binOp .eql 40 (.slice none 0 0) (.slice none 0 0)).run Tryz.prog w= .ok (.bool true) w:=by kernel_rfl
theorem eqnil_3 (ad:Addr) (n c:Nat) (w:World):(binOp .eql 40 (.slice (some ad) n c) (.slice none 0 0)).run Tryz.prog w= .ok (.bool false) w:=by kernel_rfl
theorem xa_ (v:Value) (l:List En) (w:World) (hv:ER w v l) (hs:Nn v) (hn:l.length≤1048576):
  Calls Tryz.prog 43 #[v] w fun e w'=>∃u,e= .returned u∧w'.ownsRow w.heap.size 44 2 u l.length (zF_ l)∧Below w.heap.size w w':=by
 have hv0:=hv;obtain⟨a,cap,rfl,hc⟩:=hv
 cases a with
 | none=>
  have hl:l= []:=by
   by_cases e:l= []
   ·exact e
   ·obtain⟨b,off,h,_⟩:=hc e;cases h
  obtain⟨_,rfl⟩:=hs _ _ rfl;subst hl;clear hc hv0 hs;have EN:=eqnil_0;go_enter Tryz.func43,Tryz.ntmps43;go_wp2;go_ret;exact⟨_,rfl,World.ownsRow_nil _ _ _ _,Below.refl _ _⟩
 | some ad=>
  have o0:(w.alloc (.cells #[] 44)).ownsRow w.heap.size 44 2 (.slice (some ⟨w.heap.size,0,none⟩) 0 0) 0 (zF_ []):=World.ownsRow_lit w #[] 0 (Nat.le_refl _) (by simp [maxLen]) (by simp);have hB:=zb_ w (.cells #[] 44);have h1:=hv0.below hB;clear hc hv0 hs;have EN:=eqnil_1 ad l.length cap;go_enter Tryz.func43,Tryz.ntmps43;go_wp2_with (at_builtin;refine zE_ _ rfl _ _ rfl rfl w.heap.size _ 0 [] rfl o0 _ l rfl h1 (by omega) (by simp) ?_;intro v' w' hown hgr;refine zs_.go ?_);have hB2:=yg_ hB hgr (by simp) (Nat.le_refl _);simp only [Nat.zero_add,List.nil_append] at hown;obtain⟨ua,uc,rfl⟩:=ze_ hown;clear hgr o0 h1 hB;unfold zs_;go_wp2;go_ret;exact⟨_,rfl,hown,hB2⟩
theorem uL_ (v:Value) (l:List Int) (w:World) (hv:IL w v l) (hs:Nn v) (hn:l.length≤1048576):
  Calls Tryz.prog 135 #[v] w fun e w'=>∃u,e= .returned u∧w'.ownsRow w.heap.size 3 1 u l.length (l.map (.int .i64))∧Below w.heap.size w w':=by
 have hv0:=hv;obtain⟨a,cap,rfl,hc⟩:=hv
 cases a with
 | none=>
  have hl:l= []:=by
   by_cases e:l= []
   ·exact e
   ·obtain⟨b,off,h,_⟩:=hc e;cases h
  obtain⟨_,rfl⟩:=hs _ _ rfl;subst hl;clear hc hv0 hs;have EN:=eqnil_2;go_enter Tryz.func135,Tryz.ntmps135;go_wp2;go_ret;exact⟨_,rfl,World.ownsRow_nil _ _ _ _,Below.refl _ _⟩
 | some ad=>
  have o0:(w.alloc (.cells #[] 3)).ownsRow w.heap.size 3 1 (.slice (some ⟨w.heap.size,0,none⟩) 0 0) 0 (([]:List Int).map (.int .i64)):=World.ownsRow_lit w #[] 0 (Nat.le_refl _) (by simp [maxLen]) (by simp);have hB:=zb_ w (.cells #[] 3);have h1:=hv0.below hB;clear hc hv0 hs;have EN:=eqnil_3 ad l.length cap;go_enter Tryz.func135,Tryz.ntmps135;go_wp2_with (at_builtin;refine zy_ _ rfl _ _ rfl rfl w.heap.size _ 0 [] rfl o0 _ l rfl h1 (by omega) (by simp) ?_;intro v' w' hown hgr;refine zs_.go ?_);have hB2:=yg_ hB hgr (by simp) (Nat.le_refl _);simp only [Nat.zero_add,List.nil_append] at hown;obtain⟨ua,uc,rfl⟩:=ze_ hown;clear hgr o0 h1 hB;unfold zs_;go_wp2;go_ret;exact⟨_,rfl,hown,hB2⟩
set_option maxHeartbeats 4000000
theorem yK_ (id pe te vo co ro:Int) (vl vv vm:Value) (log:List En) (vs mt:List Int) (w:World) (hl:ER w vl log) (hv:IL w vv vs) (hm:IL w vm mt) (sl:Nn vl) (sv:Nn vv) (sm:Nn vm) (nl:log.length≤1048576) (nv:vs.length≤1048576) (nm:mt.length≤1048576):
  Calls Tryz.prog 86 #[.agg #[id,pe,te,vo,vl,co,ro,vv,vm]] w fun e w'=>∃ul uv um,e= .returned (.agg #[id,pe,te,vo,ul,co,ro,uv,um])∧OwnN w' w.heap.size ul uv um log vs mt∧Below w.heap.size w w':=by
 obtain⟨W0,hW0,hB,X,Y,hz00⟩:=al2 w [id,pe,te,vo,vl,co,ro,vv,vm] 42 zN 42;have K1:=xa_ vl log _ (hl.below hB) sl nl;have K2:=fun W (h:Below w.heap.size w W)=>uL_ vv vs W (hv.below h) sv nv;have K3:=fun W (h:Below w.heap.size w W)=>uL_ vm mt W (hm.below h) sm nm;obtain⟨la,lc,rfl,hlc⟩:=hl;obtain⟨va,vc,rfl,hvc⟩:=hv;obtain⟨ma,mc,rfl,hmc⟩:=hm;clear hlc hvc hmc sl sv sm;obtain⟨xl,x0,x1,x2,x3,x4,x5,x6,x7,x8⟩:=X.e9;obtain⟨f0,f1,f2,f3,f4,f5,f6,f7,f8⟩:=X.f9;go_enter Tryz.func86,Tryz.ntmps86;go_wp2_with fail;rw [←hW0];clear hW0;refine K1.mono ?_;rintro e w1 ⟨u0,rfl,o1,hb⟩;clear K1;have hzb:=hB.size;replace hB:=za_ hB hb;replace X:=X.below hb;replace Y:=Y.below hb;clear xl x0 x1 x2 x3 x4 x5 x6 x7 x8 f0 f1 f2 f3 f4 f5 f6 f7 f8;have g0:=zg_ o1;have l0:=zh_ o1;have hz0:=hb.size;clear hb;obtain⟨ua,uc,rfl⟩:=ze_ o1;obtain⟨xl,x0,x1,x2,x3,x4,x5,x6,x7,x8⟩:=X.e9;obtain⟨f0,f1,f2,f3,f4,f5,f6,f7,f8⟩:=X.f9;obtain⟨W1,hW1⟩:∃W,W=w1.setCell ⟨w.heap.size,4,none⟩ (.slice ua log.length uc):=⟨_,rfl⟩;have hC:Chg (fun k=>k=w.heap.size) w1 W1:=by rw [hW1];exact Chg.setCell (S:=fun k=>k=w.heap.size) (Chg.refl _ _) rfl _
 replace hB:=hB.trans (hC.below (B:=w.heap.size) hB.size (fun k hk=>by omega));have hxb:=X.1;replace Y:=hC.box Y (by omega);replace X:Box W1 w.heap.size [id,pe,te,vo,.slice ua log.length uc,co,ro,.slice va vs.length vc,.slice ma mt.length mc]:=by rw [hW1];exact X.set 4 _ (by simp)
 replace o1:=hC.owns o1 (fun b hb hh=>by have:=g0 b hb;have hh:b=w.heap.size:=hh;omega);have hzz0:w1.heap.size≤W1.heap.size:=by rw [hW1];simp
 have hzy0:W1.heap.size≤w1.heap.size:=by rw [hW1];simp
 clear hC hxb;go_wp2_with fail;rw [←hW1];clear hW1;refine (K2 _ hB).mono ?_;rintro e w2 ⟨u1,rfl,o2,hb⟩;clear K2;have hzb:=hB.size;replace hB:=za_ hB hb;replace X:=X.below hb;replace Y:=Y.below hb;replace o1:=zd_ o1 hb;clear xl x0 x1 x2 x3 x4 x5 x6 x7 x8 f0 f1 f2 f3 f4 f5 f6 f7 f8;have g1:=zg_ o2;have l1:=zh_ o2;have hz1:=hb.size;clear hb;obtain⟨xa,xc,rfl⟩:=ze_ o2;obtain⟨xl,x0,x1,x2,x3,x4,x5,x6,x7,x8⟩:=X.e9;obtain⟨f0,f1,f2,f3,f4,f5,f6,f7,f8⟩:=X.f9;obtain⟨W2,hW2⟩:∃W,W=w2.setCell ⟨w.heap.size,7,none⟩ (.slice xa vs.length xc):=⟨_,rfl⟩;have hC:Chg (fun k=>k=w.heap.size) w2 W2:=by rw [hW2];exact Chg.setCell (S:=fun k=>k=w.heap.size) (Chg.refl _ _) rfl _
 replace hB:=hB.trans (hC.below (B:=w.heap.size) hB.size (fun k hk=>by omega));have hxb:=X.1;replace Y:=hC.box Y (by omega);replace X:Box W2 w.heap.size [id,pe,te,vo,.slice ua log.length uc,co,ro,.slice xa vs.length xc,.slice ma mt.length mc]:=by rw [hW2];exact X.set 7 _ (by simp)
 replace o1:=hC.owns o1 (fun b hb hh=>by have:=g0 b hb;have hh:b=w.heap.size:=hh;omega);replace o2:=hC.owns o2 (fun b hb hh=>by have:=g1 b hb;have hh:b=w.heap.size:=hh;omega);have hzz1:w2.heap.size≤W2.heap.size:=by rw [hW2];simp
 have hzy1:W2.heap.size≤w2.heap.size:=by rw [hW2];simp
 clear hC hxb;go_wp2_with fail;rw [←hW2];clear hW2;refine (K3 _ hB).mono ?_;rintro e w3 ⟨u2,rfl,o3,hb⟩;clear K3;have hzb:=hB.size;replace hB:=za_ hB hb;replace X:=X.below hb;replace Y:=Y.below hb;replace o1:=zd_ o1 hb;replace o2:=zd_ o2 hb;clear xl x0 x1 x2 x3 x4 x5 x6 x7 x8 f0 f1 f2 f3 f4 f5 f6 f7 f8;have g2:=zg_ o3;have l2:=zh_ o3;have hz2:=hb.size;clear hb;obtain⟨ya,yc,rfl⟩:=ze_ o3;obtain⟨xl,x0,x1,x2,x3,x4,x5,x6,x7,x8⟩:=X.e9;obtain⟨f0,f1,f2,f3,f4,f5,f6,f7,f8⟩:=X.f9;have hCa:Chg (fun k=>k=w.heap.size) w3 (w3.setCell ⟨w.heap.size,8,none⟩ (.slice ya mt.length yc)):=Chg.setCell (S:=fun k=>k=w.heap.size) (Chg.refl _ _) rfl _;have Ya:=hCa.box Y (by omega);have hCb:=zk_ (w3.setCell ⟨w.heap.size,8,none⟩ (.slice ya mt.length yc)) (w.heap.size+1) id pe te vo (.slice ua log.length uc) co ro (.slice xa vs.length xc) (.slice ya mt.length yc);have Z:=zl_ Ya id pe te vo (.slice ua log.length uc) co ro (.slice xa vs.length xc) (.slice ya mt.length yc);have hC:Chg (fun k=>k=w.heap.size∨k=w.heap.size+1) w3 _:=(hCa.mono fun k hk=>Or.inl hk).trans (hCb.mono fun k hk=>Or.inr hk);have O:OwnN w3 (w.heap.size+1+1) (.slice ua log.length uc) (.slice xa vs.length xc) (.slice ya mt.length yc) log vs mt:=⟨zf_ o1 (by omega),zf_ o2 (by omega),zf_ o3 (by omega),fun g hg hg'=>by have:=l1 g hg;have:=g2 g hg';omega⟩;have O':=(O.chg hC (fun b hb hh=>by have:=(O.lt b hb).1;have hh:b=w.heap.size∨b=w.heap.size+1:=hh;omega)).mono (show w.heap.size≤w.heap.size+1+1 from by omega);have hBE:=hB.trans (hC.below (B:=w.heap.size) hB.size (fun k hk=>by omega));obtain⟨ql,q0,q1,q2,q3,q4,q5,q6,q7,q8⟩:=Y.e9;obtain⟨h0,h1,h2,h3,h4,h5,h6,h7,h8⟩:=Y.f9;clear hCa hCb hC O o1 o2 o3 hB X Y Ya g0 g1 g2 l0 l1 l2;obtain⟨hzl,t0,t1,t2,t3,t4,t5,t6,t7,t8⟩:=Z.e9;clear Z;unfold put9 at*;go_wp2;exact bodyPost_ret (v:= .agg #[id,pe,te,vo,.slice ua log.length uc,co,ro,.slice xa vs.length xc,.slice ya mt.length yc]) (by simp [results,Tryz.results86,go_sem,t0,t1,t2,t3,t4,t5,t6,t7,t8]) rfl ⟨_,_,_,rfl,O',hBE⟩
theorem yU_ (id pe te vo co ro:Int) (vl vv vm:Value) (la:Option Addr) (ln lc:Nat) (hvl:vl= .slice la ln lc) (w:World) (sv:∃a n c,vv= .slice a n c) (sm:∃a n c,vm= .slice a n c):
  Calls Tryz.prog 152 #[.agg #[id,pe,te,vo,vl,co,ro,vv,vm]] w fun e w'=>e= .returned (.agg #[id,pe,te,vo,vl,co,(0:Int),(),()])∧Below w.heap.size w w':=by
 obtain⟨va,vn,vc,rfl⟩:=sv;obtain⟨ma,mn,mc,rfl⟩:=sm;subst hvl;go_enter Tryz.func152,Tryz.ntmps152;go_wp2;exact bodyPost_ret (v:= .agg #[id,pe,te,vo,.slice la ln lc,co,(0:Int),(),()]) (by simp [results,Tryz.results152,go_sem]) rfl ⟨rfl,below2 _ _ _⟩
theorem zK_ (id pe te vo co ro:Int) (vl vv vm:Value) (la:Option Addr) (ln lc:Nat) (hvl:vl= .slice la ln lc) (w:World) (sv:∃a n c,vv= .slice a n c) (sm:∃a n c,vm= .slice a n c):
  Calls Tryz.prog 140 #[.agg #[id,pe,te,vo,vl,co,ro,vv,vm]] w fun e w'=>e= .returned (.agg #[id,pe,te,vo,vl,co,(0:Int),(),()])∧Below w.heap.size w w':=by
 obtain⟨va,vn,vc,rfl⟩:=sv;obtain⟨ma,mn,mc,rfl⟩:=sm;subst hvl;go_enter Tryz.func140,Tryz.ntmps140;go_wp2;exact bodyPost_ret (v:= .agg #[id,pe,te,vo,.slice la ln lc,co,(0:Int),(),()]) (by simp [results,Tryz.results140,go_sem]) rfl ⟨rfl,below2 _ _ _⟩
theorem yk_ (id pe te vo co ro:Int) (vl vv vm:Value) (log:List En) (vs mt:List Int) (w:World) (hl:ER w vl log) (hv:IL w vv vs) (hm:IL w vm mt) (sl:Nn vl) (sv:Nn vv) (sm:Nn vm) (nl:log.length≤1048576) (nv:vs.length≤1048576) (nm:mt.length≤1048576):
  Calls Tryz.prog 97 #[.agg #[id,pe,te,vo,vl,co,ro,vv,vm]] w fun e w'=>∃ul uv um,e= .returned (.agg #[id,pe,te,vo,ul,co,ro,uv,um])∧OwnN w' w.heap.size ul uv um log vs mt∧Below w.heap.size w w':=by
 obtain⟨W0,hW0,hB,X,Y,hz00⟩:=al2 w [id,pe,te,vo,vl,co,ro,vv,vm] 42 zN 42;have E1:=fun W (h:Below w.heap.size w W)=>hl.below h;have E2:=fun W (h:Below w.heap.size w W)=>hv.below h;have E3:=fun W (h:Below w.heap.size w W)=>hm.below h;obtain⟨la,lc,rfl,hlc⟩:=hl;obtain⟨va,vc,rfl,hvc⟩:=hv;obtain⟨ma,mc,rfl,hmc⟩:=hm;clear hlc hvc hmc sl sv sm;obtain⟨xl,x0,x1,x2,x3,x4,x5,x6,x7,x8⟩:=X.e9;obtain⟨f0,f1,f2,f3,f4,f5,f6,f7,f8⟩:=X.f9;go_enter Tryz.func97,Tryz.ntmps97;have hzq:W0.heap.size=w.heap.size+1+1:=by rw [hW0];simp
 have o0:(W0.alloc (.cells #[] 44)).ownsRow (w.heap.size+1+1) 44 2 (.slice (some ⟨w.heap.size+1+1,0,none⟩) 0 0) 0 (zF_ []):=by rw [←hzq];exact World.ownsRow_lit W0 #[] 0 (Nat.le_refl _) (by simp [maxLen]) (by simp)
 have hzq1:W0.heap.size≤w.heap.size+1+1:=by omega
 have hzq2:w.heap.size+1+1≤W0.heap.size:=by omega
 clear hzq;have hBa:=zb_ W0 (.cells #[] 44);have hE:=E1 _ (za_ hB hBa);go_wp2_with (at_builtin;refine zs_.go ?_);rw [←hW0];unfold zs_;refine zE_ _ rfl _ _ rfl rfl (w.heap.size+1+1) _ 0 [] rfl o0 _ log rfl hE (by omega) (by simp;omega) ?_;intro u0 w1 o1 hgr;clear hW0;simp only [Nat.zero_add,List.nil_append] at o1;have hb:=yg_ hBa hgr (by simp) (show _≤w.heap.size+1+1 from hzq1);clear hgr o0 hE E1;have hzb:=hB.size;replace hB:=za_ hB hb;replace X:=X.below hb;replace Y:=Y.below hb;clear xl x0 x1 x2 x3 x4 x5 x6 x7 x8 f0 f1 f2 f3 f4 f5 f6 f7 f8;have g0:=zg_ o1;have l0:=zh_ o1;have hz0:=hb.size;clear hb hBa;obtain⟨ua,uc,rfl⟩:=ze_ o1;obtain⟨xl,x0,x1,x2,x3,x4,x5,x6,x7,x8⟩:=X.e9;obtain⟨f0,f1,f2,f3,f4,f5,f6,f7,f8⟩:=X.f9;obtain⟨W1,hW1⟩:∃W,W=w1.setCell ⟨w.heap.size,4,none⟩ (.slice ua log.length uc):=⟨_,rfl⟩;have hC:Chg (fun k=>k=w.heap.size) w1 W1:=by rw [hW1];exact Chg.setCell (S:=fun k=>k=w.heap.size) (Chg.refl _ _) rfl _
 replace hB:=hB.trans (hC.below (B:=w.heap.size) hB.size (fun k hk=>by omega));have hxb:=X.1;replace Y:=hC.box Y (by omega);replace X:Box W1 w.heap.size [id,pe,te,vo,.slice ua log.length uc,co,ro,.slice va vs.length vc,.slice ma mt.length mc]:=by rw [hW1];exact X.set 4 _ (by simp)
 replace o1:=hC.owns o1 (fun b hb hh=>by have:=g0 b hb;have hh:b=w.heap.size:=hh;omega);have hzz0:w1.heap.size≤W1.heap.size:=by rw [hW1];simp
 have hzy0:W1.heap.size≤w1.heap.size:=by rw [hW1];simp
 clear hC hxb;obtain⟨sl,s0,s1,s2,s3,s4,s5,s6,s7,s8⟩:=X.e9;have hzq:W1.heap.size=w1.heap.size:=by rw [hW1];simp
 have o0:(W1.alloc (.cells #[] 3)).ownsRow (w1.heap.size) 3 1 (.slice (some ⟨w1.heap.size,0,none⟩) 0 0) 0 (([]:List Int).map (.int .i64)):=by rw [←hzq];exact World.ownsRow_lit W1 #[] 0 (Nat.le_refl _) (by simp [maxLen]) (by simp)
 have hzq1:W1.heap.size≤w1.heap.size:=by omega
 have hzq2:w1.heap.size≤W1.heap.size:=by omega
 clear hzq;have hBa:=zb_ W1 (.cells #[] 3);have hE:=E2 _ (za_ hB hBa);go_wp2_with (at_builtin;refine zs_.go ?_);rw [←hW1];unfold zs_;refine zy_ _ rfl _ _ rfl rfl (w1.heap.size) _ 0 [] rfl o0 _ vs rfl hE (by omega) (by simp;omega) ?_;intro u1 w2 o2 hgr;clear hW1;simp only [Nat.zero_add,List.nil_append] at o2;have hb:=yg_ hBa hgr (by simp) (show _≤w1.heap.size from hzq1);clear hgr o0 hE E2;have hzb:=hB.size;replace hB:=za_ hB hb;replace X:=X.below hb;replace Y:=Y.below hb;replace o1:=zd_ o1 hb;clear xl x0 x1 x2 x3 x4 x5 x6 x7 x8 f0 f1 f2 f3 f4 f5 f6 f7 f8;clear sl s0 s1 s2 s3 s4 s5 s6 s7 s8;have g1:=zg_ o2;have l1:=zh_ o2;have hz1:=hb.size;clear hb hBa;obtain⟨xa,xc,rfl⟩:=ze_ o2;obtain⟨xl,x0,x1,x2,x3,x4,x5,x6,x7,x8⟩:=X.e9;obtain⟨f0,f1,f2,f3,f4,f5,f6,f7,f8⟩:=X.f9;obtain⟨W2,hW2⟩:∃W,W=w2.setCell ⟨w.heap.size,7,none⟩ (.slice xa vs.length xc):=⟨_,rfl⟩;have hC:Chg (fun k=>k=w.heap.size) w2 W2:=by rw [hW2];exact Chg.setCell (S:=fun k=>k=w.heap.size) (Chg.refl _ _) rfl _
 replace hB:=hB.trans (hC.below (B:=w.heap.size) hB.size (fun k hk=>by omega));have hxb:=X.1;replace Y:=hC.box Y (by omega);replace X:Box W2 w.heap.size [id,pe,te,vo,.slice ua log.length uc,co,ro,.slice xa vs.length xc,.slice ma mt.length mc]:=by rw [hW2];exact X.set 7 _ (by simp)
 replace o1:=hC.owns o1 (fun b hb hh=>by have:=g0 b hb;have hh:b=w.heap.size:=hh;omega);replace o2:=hC.owns o2 (fun b hb hh=>by have:=g1 b hb;have hh:b=w.heap.size:=hh;omega);have hzz1:w2.heap.size≤W2.heap.size:=by rw [hW2];simp
 have hzy1:W2.heap.size≤w2.heap.size:=by rw [hW2];simp
 clear hC hxb;obtain⟨sl,s0,s1,s2,s3,s4,s5,s6,s7,s8⟩:=X.e9;have hzq:W2.heap.size=w2.heap.size:=by rw [hW2];simp
 have o0:(W2.alloc (.cells #[] 3)).ownsRow (w2.heap.size) 3 1 (.slice (some ⟨w2.heap.size,0,none⟩) 0 0) 0 (([]:List Int).map (.int .i64)):=by rw [←hzq];exact World.ownsRow_lit W2 #[] 0 (Nat.le_refl _) (by simp [maxLen]) (by simp)
 have hzq1:W2.heap.size≤w2.heap.size:=by omega
 have hzq2:w2.heap.size≤W2.heap.size:=by omega
 clear hzq;have hBa:=zb_ W2 (.cells #[] 3);have hE:=E3 _ (za_ hB hBa);go_wp2_with (at_builtin;refine zs_.go ?_);rw [←hW2];unfold zs_;refine zy_ _ rfl _ _ rfl rfl (w2.heap.size) _ 0 [] rfl o0 _ mt rfl hE (by omega) (by simp;omega) ?_;intro u2 w3 o3 hgr;clear hW2;simp only [Nat.zero_add,List.nil_append] at o3;have hb:=yg_ hBa hgr (by simp) (show _≤w2.heap.size from hzq1);clear hgr o0 hE E3;have hzb:=hB.size;replace hB:=za_ hB hb;replace X:=X.below hb;replace Y:=Y.below hb;replace o1:=zd_ o1 hb;replace o2:=zd_ o2 hb;clear xl x0 x1 x2 x3 x4 x5 x6 x7 x8 f0 f1 f2 f3 f4 f5 f6 f7 f8;clear sl s0 s1 s2 s3 s4 s5 s6 s7 s8;have g2:=zg_ o3;have l2:=zh_ o3;have hz2:=hb.size;clear hb hBa;obtain⟨ya,yc,rfl⟩:=ze_ o3;obtain⟨xl,x0,x1,x2,x3,x4,x5,x6,x7,x8⟩:=X.e9;obtain⟨f0,f1,f2,f3,f4,f5,f6,f7,f8⟩:=X.f9;have hCa:Chg (fun k=>k=w.heap.size) w3 (w3.setCell ⟨w.heap.size,8,none⟩ (.slice ya mt.length yc)):=Chg.setCell (S:=fun k=>k=w.heap.size) (Chg.refl _ _) rfl _;have Ya:=hCa.box Y (by omega);have hCb:=zk_ (w3.setCell ⟨w.heap.size,8,none⟩ (.slice ya mt.length yc)) (w.heap.size+1) id pe te vo (.slice ua log.length uc) co ro (.slice xa vs.length xc) (.slice ya mt.length yc);have Z:=zl_ Ya id pe te vo (.slice ua log.length uc) co ro (.slice xa vs.length xc) (.slice ya mt.length yc);have hC:Chg (fun k=>k=w.heap.size∨k=w.heap.size+1) w3 _:=(hCa.mono fun k hk=>Or.inl hk).trans (hCb.mono fun k hk=>Or.inr hk);have O:OwnN w3 (w.heap.size+1+1) (.slice ua log.length uc) (.slice xa vs.length xc) (.slice ya mt.length yc) log vs mt:=⟨zf_ o1 (by omega),zf_ o2 (by omega),zf_ o3 (by omega),fun g hg hg'=>by have:=l1 g hg;have:=g2 g hg';omega⟩;have O':=(O.chg hC (fun b hb hh=>by have:=(O.lt b hb).1;have hh:b=w.heap.size∨b=w.heap.size+1:=hh;omega)).mono (show w.heap.size≤w.heap.size+1+1 from by omega);have hBE:=hB.trans (hC.below (B:=w.heap.size) hB.size (fun k hk=>by omega));obtain⟨ql,q0,q1,q2,q3,q4,q5,q6,q7,q8⟩:=Y.e9;obtain⟨h0,h1,h2,h3,h4,h5,h6,h7,h8⟩:=Y.f9;clear hCa hCb hC O o1 o2 o3 hB X Y Ya g0 g1 g2 l0 l1 l2;obtain⟨hzl,t0,t1,t2,t3,t4,t5,t6,t7,t8⟩:=Z.e9;clear Z;unfold put9 at*;go_wp2;exact bodyPost_ret (v:= .agg #[id,pe,te,vo,.slice ua log.length uc,co,ro,.slice xa vs.length xc,.slice ya mt.length yc]) (by simp [results,Tryz.results97,go_sem,t0,t1,t2,t3,t4,t5,t6,t7,t8]) rfl ⟨_,_,_,rfl,O',hBE⟩
end Go.Proofs.YtapfhhmimkkhnaaGreat
namespace Go.Proofs.YtapfhhmimkkhnaaGreat
open Go.RowKit
set_option linter.unusedVariables false
set_option maxRecDepth 100000
set_option maxHeartbeats 4000000
structure Nd where
 id:Int
 pe:Int
 te:Int
 vo:Int
 co:Int
 ro:Int
 log:List En
 vs:List Int
 mt:List Int
def Nd.zero:Nd:=⟨0,0,0,0,0,0,[],[],[]⟩
def yx_ (g:Bool) (id pe te vo:Int) (log:List En):Nd:=if g then⟨id,pe,te,vo,0,0,log,[],[]⟩ else Nd.zero
theorem OwnN.nns {w:World} {base:Nat} {vl vv vm:Value} {log:List En} {vs mt:List Int} (h:OwnN w base vl vv vm log vs mt):Nn vl∧Nn vv∧Nn vm:=⟨Nn.own h.l,Nn.own h.v,Nn.own h.m⟩
theorem uV_ (id pe te vo co ro:Int) (vl vv vm:Value) (log:List En) (vs mt:List Int) (base:Nat) (w:World) (ho:OwnN w base vl vv vm log vs mt) (nl:log.length≤1048576) (nv:vs.length≤1048576) (nm:mt.length≤1048576) (ns:∀i (h:i<log.length),log[i].d.size≤1048576):
  Calls Tryz.prog 93 #[.agg #[id,pe,te,vo,vl,co,ro,vv,vm]] w fun e w'=>∃ul uv um,e= .returned (.tuple #[.agg #[.int .i64 (yx_ (zm_ id pe te vo co ro log vs mt) id pe te vo log).id,.int .i64 (yx_ (zm_ id pe te vo co ro log vs mt) id pe te vo log).pe,.int .i64 (yx_ (zm_ id pe te vo co ro log vs mt) id pe te vo log).te,.int .i64 (yx_ (zm_ id pe te vo co ro log vs mt) id pe te vo log).vo,ul,.int .i64 (yx_ (zm_ id pe te vo co ro log vs mt) id pe te vo log).co,.int .i64 (yx_ (zm_ id pe te vo co ro log vs mt) id pe te vo log).ro,uv,um],.bool (zm_ id pe te vo co ro log vs mt)])∧OwnN w' w.heap.size ul uv um (yx_ (zm_ id pe te vo co ro log vs mt) id pe te vo log).log (yx_ (zm_ id pe te vo co ro log vs mt) id pe te vo log).vs (yx_ (zm_ id pe te vo co ro log vs mt) id pe te vo log).mt∧Below w.heap.size w w':=by
 obtain⟨W0,hW0,hB,X,Y,hz00⟩:=al2 w [id,pe,te,vo,vl,co,ro,vv,vm] 42 zN 42;have ho0:=ho.below hB;have K:=zx_ id pe te vo co ro vl vv vm log vs mt _ ho0.er ho0.iv ho0.im nl nv nm ns;have K2:=fun W (h:Below w.heap.size w W)=>yk_ id pe te vo co ro vl vv vm log vs mt W (ho.below h).er (ho.below h).iv (ho.below h).im ho.nns.1 ho.nns.2.1 ho.nns.2.2 nl nv nm;generalize zm_ id pe te vo co ro log vs mt=g at*;obtain⟨⟨la,lc,rfl⟩,⟨va,vc,rfl⟩,ma,mc,rfl⟩:=ho.shapes;clear ns ho0 ho
 cases g with
 | false=>
  show Calls Tryz.prog 93 _ w fun e w'=>∃ul uv um,e= .returned (.tuple #[.agg #[(0:Int),(0:Int),(0:Int),(0:Int),ul,(0:Int),(0:Int),uv,um],false])∧OwnN w' w.heap.size ul uv um [] [] []∧Below w.heap.size w w';go_enter Tryz.func93,Tryz.ntmps93;go_wp2_with fail;rw [←hW0];clear hW0;refine K.mono ?_;rintro e w1 ⟨rfl,hb⟩;replace hB:=za_ hB hb;replace Y:=Y.below hb;clear K hb K2 X;obtain⟨hyl,y0,y1,y2,y3,y4,y5,y6,y7,y8⟩:=Y.e9;obtain⟨f0,f1,f2,f3,f4,f5,f6,f7,f8⟩:=Y.f9;have hC:=zk_ w1 (w.heap.size+1) (0:Int) (0:Int) (0:Int) (0:Int) () (0:Int) (0:Int) () ();have Z:=zl_ Y (0:Int) (0:Int) (0:Int) (0:Int) () (0:Int) (0:Int) () ();have hBE:=hB.trans (hC.b1 hB.size (by omega));have O:=OwnN.nil (put9 w1 (w.heap.size+1) (.int .i64 0) (.int .i64 0) (.int .i64 0) (.int .i64 0) (.slice none 0 0) (.int .i64 0) (.int .i64 0) (.slice none 0 0) (.slice none 0 0)) w.heap.size;obtain⟨hzl,t0,t1,t2,t3,t4,t5,t6,t7,t8⟩:=Z.e9;clear Z hC hB Y;unfold put9 at*;go_wp2;exact bodyPost_ret (v:= .tuple #[.agg zN,false]) (by simp [results,Tryz.results93,go_sem,t0,t1,t2,t3,t4,t5,t6,t7,t8]) rfl ⟨_,_,_,rfl,O,hBE⟩
 | true=>
  show Calls Tryz.prog 93 _ w fun e w'=>∃ul uv um,e= .returned (.tuple #[.agg #[id,pe,te,vo,ul,(0:Int),(0:Int),uv,um],true])∧OwnN w' w.heap.size ul uv um log [] []∧Below w.heap.size w w';go_enter Tryz.func93,Tryz.ntmps93;go_wp2_with fail;rw [←hW0];clear hW0;refine K.mono ?_;rintro e w1 ⟨rfl,hb⟩;replace hB:=za_ hB hb;replace Y:=Y.below hb;replace X:=X.below hb;have hz1:=hb.size;clear K hb;obtain⟨hxl,x0,x1,x2,x3,x4,x5,x6,x7,x8⟩:=X.e9;go_wp2_with fail;refine (K2 _ hB).mono ?_;rintro e w2 ⟨u1,u2,u3,rfl,O,hb⟩;replace hB:=za_ hB hb;replace Y:=Y.below hb;replace X:=X.below hb;have hz2:=hb.size;have gO:=fun b hb=>(O.lt b hb).1;clear K2 hb hxl x0 x1 x2 x3 x4 x5 x6 x7 x8;obtain⟨⟨ua,uc,rfl⟩,⟨xa,xc,rfl⟩,ya,yc,rfl⟩:=O.shapes;go_wp2_with fail;refine (zK_ _ _ _ _ _ _ _ _ _ ua log.length uc rfl _ ⟨_,_,_,rfl⟩ ⟨_,_,_,rfl⟩).mono ?_;rintro e w3 ⟨rfl,hb⟩;replace hB:=za_ hB hb;replace Y:=Y.below hb;replace X:=X.below hb;replace O:=O.below hb;clear hb;obtain⟨hxl,x0,x1,x2,x3,x4,x5,x6,x7,x8⟩:=X.e9;obtain⟨e0,e1,e2,e3,e4,e5,e6,e7,e8⟩:=X.f9;obtain⟨hyl,y0,y1,y2,y3,y4,y5,y6,y7,y8⟩:=Y.e9;obtain⟨f0,f1,f2,f3,f4,f5,f6,f7,f8⟩:=Y.f9;have hC1:=zk_ w3 w.heap.size id pe te vo (.slice ua log.length uc) co (0:Int) () ();have Z1:=zl_ X id pe te vo (.slice ua log.length uc) co (0:Int) () ();have hC2:Chg (· =w.heap.size) w3 ((put9 w3 w.heap.size (.int .i64 id) (.int .i64 pe) (.int .i64 te) (.int .i64 vo) (.slice ua log.length uc) (.int .i64 co) (.int .i64 0) (.slice none 0 0) (.slice none 0 0)).setCell ⟨w.heap.size,5,none⟩ (.int .i64 0)):=Chg.setCell (S:=fun k=>k=w.heap.size) hC1 rfl _;have Z2:=Z1.set 5 (.int .i64 0) (by simp);have Ya:=hC2.box Y (by omega);have hC3:=zk_ ((put9 w3 w.heap.size id pe te vo (.slice ua log.length uc) co (0:Int) () ()).setCell ⟨w.heap.size,5,none⟩ (0:Int)) (w.heap.size+1) id pe te vo (.slice ua log.length uc) (0:Int) (0:Int) () ();have Z:=zl_ Ya id pe te vo (.slice ua log.length uc) (0:Int) (0:Int) () ();have hC:Chg (fun k=>k=w.heap.size∨k=w.heap.size+1) w3 _:=(hC2.mono fun k hk=>Or.inl hk).trans (hC3.mono fun k hk=>Or.inr hk);have hO:=hC.owns (zf_ O.l (show w.heap.size≤w1.heap.size from by omega)) (fun b hb hh=>by have:=gO b (.inl hb);have hh:b=w.heap.size∨b=w.heap.size+1:=hh;omega);have hBE:=hB.trans (hC.below (B:=w.heap.size) hB.size (fun k hk=>by omega));obtain⟨hsl,s0,s1,s2,s3,s4,s5,s6,s7,s8⟩:=Z2.e9;obtain⟨hzl,t0,t1,t2,t3,t4,t5,t6,t7,t8⟩:=Z.e9;clear Z hC hB Y X Z1 Z2 Ya hC1 hC2 hC3 gO O;unfold put9 at*;go_wp2;exact bodyPost_ret (v:= .tuple #[.agg #[id,pe,te,vo,.slice ua log.length uc,(0:Int),(0:Int),(),()],true]) (by simp [results,Tryz.results93,go_sem,t0,t1,t2,t3,t4,t5,t6,t7,t8]) rfl ⟨_,_,_,rfl,⟨hO,World.ownsRow_nil _ _ _ _,World.ownsRow_nil _ _ _ _,fun g hg=>by simp [Value.ownBlock] at hg⟩,hBE⟩
end Go.Proofs.YtapfhhmimkkhnaaGreat
namespace Go.Proofs.YtapfhhmimkkhnaaGreat
open Go.RowKit Go.Maps
set_option linter.unusedVariables false
set_option maxRecDepth 100000
theorem xi_ {w:World} {base:Nat} {e:TypeId} {size n m c:Nat} {a:Option Addr} {xs:List Value} (h:w.ownsRow base e size (.slice a m c) n xs):n≤c∧m=n:=by
 rcases h.2 with⟨h1,h0⟩ | ⟨g,cap,cur,h1,_,_,hcap,_⟩
 ·simp at h1;omega
 ·simp at h1;omega
theorem xu_ {id pe te vo co ro:Int} {log:List En} {vs mt:List Int} (h:zm_ id pe te vo co ro log vs mt=true):0≤co∧co≤(log.length:Int):=by
 rw [zL_] at h;simp [inB] at h;omega
theorem Nn.sl {a:Option Addr} {n c m:Nat} (h:Nn (.slice a n c)) (hm:m≤c):Nn (.slice a m c):=by
 intro x y he;simp only [Value.slice.injEq] at he;obtain⟨rfl,rfl,rfl⟩:=he;have:=(h _ _ rfl).2;omega
end Go.Proofs.YtapfhhmimkkhnaaGreat
namespace Go.Proofs.YtapfhhmimkkhnaaGreat
open Go.RowKit
set_option linter.unusedVariables false
set_option maxRecDepth 100000

set_option maxHeartbeats 2000000
def tmAt (log:List En) (i:Nat):Int:=if i=0 then 0 else (log.getD (i-1) En.zero).t
theorem ts_ (log:List En):tmAt log 0=0:=rfl
theorem xb_ (log:List En) (i:Nat) (h:i<log.length):tmAt log (i+1)=log[i].t:=by simp [tmAt,h]
def zO_ (log:List En) (ix tm:Int):Bool:=decide (tmAt log log.length<tm) || (decide (tm=tmAt log log.length)&&decide ((log.length:Int)≤ix))
theorem xN_ (id pe te vo co ro:Int) (vl vv vm:Value) (log:List En) (vs mt:List Int) (i:Nat) (w:World) (hl:ER w vl log) (hv:IL w vv vs) (hm:IL w vm mt) (hi:i≤log.length) (nl:log.length≤1048576):
  Calls Tryz.prog 159 #[.agg #[id,pe,te,vo,vl,co,ro,vv,vm],i] w fun e w'=>e= .returned (.int .i64 (tmAt log i))∧Below w.heap.size w w':=by
 have hB:=zb_ w (.cells #[id,pe,te,vo,vl,co,ro,vv,vm] 42);obtain⟨la,lc,rfl,hlc⟩:=hl;obtain⟨va,vc,rfl,hvc⟩:=hv;obtain⟨ma,mc,rfl,hmc⟩:=hm;clear hvc hmc
 cases i with
 | zero=>
  clear hlc;rw [ts_];go_enter Tryz.func159,Tryz.ntmps159;go_wp2;go_ret;exact⟨rfl,hB⟩
 | succ j=>
  rw [xb_ log j (by omega)];obtain⟨b,off,rfl,hbl,hcell⟩:=hlc (by intro e;rw [e] at hi;simp at hi);have c0:=(hcell j (by omega)).1;have hj0:(((j+1:Nat):Int)==0)=false:=by simp;omega
  have hj1:(((j+1:Nat):Int)-1)=(j:Int):=by omega
  have hj2:j<log.length:=by omega
  clear hcell;generalize log[j].t=s at*;go_enter Tryz.func159,Tryz.ntmps159;go_wp2;go_ret;exact⟨rfl,hB⟩
theorem xs_ (id pe te vo co ro:Int) (vl vv vm:Value) (log:List En) (vs mt:List Int) (i:Nat) (w:World) (hl:ER w vl log) (hv:IL w vv vs) (hm:IL w vm mt) (hi:i≤log.length) (nl:log.length≤1048576):
  Calls Tryz.prog 138 #[.agg #[id,pe,te,vo,vl,co,ro,vv,vm],i] w fun e w'=>e= .returned (.int .i64 (tmAt log i))∧Below w.heap.size w w':=by
 have hB:=zb_ w (.cells #[id,pe,te,vo,vl,co,ro,vv,vm] 42);obtain⟨la,lc,rfl,hlc⟩:=hl;obtain⟨va,vc,rfl,hvc⟩:=hv;obtain⟨ma,mc,rfl,hmc⟩:=hm;clear hvc hmc
 cases i with
 | zero=>
  clear hlc;rw [ts_];go_enter Tryz.func138,Tryz.ntmps138;go_wp2;go_ret;exact⟨rfl,hB⟩
 | succ j=>
  rw [xb_ log j (by omega)];obtain⟨b,off,rfl,hbl,hcell⟩:=hlc (by intro e;rw [e] at hi;simp at hi);have c0:=(hcell j (by omega)).1;have hj0:(((j+1:Nat):Int)==0)=false:=by simp;omega
  have hj1:(((j+1:Nat):Int)-1)=(j:Int):=by omega
  have hj2:j<log.length:=by omega
  clear hcell;generalize log[j].t=s at*;go_enter Tryz.func138,Tryz.ntmps138;go_wp2;go_ret;exact⟨rfl,hB⟩
theorem tE_ (id pe te vo co ro:Int) (vl vv vm:Value) (log:List En) (vs mt:List Int) (ix tm:Int) (w:World) (hl:ER w vl log) (hv:IL w vv vs) (hm:IL w vm mt) (nl:log.length≤1048576):
  Calls Tryz.prog 181 #[.agg #[id,pe,te,vo,vl,co,ro,vv,vm],ix,tm] w fun e w'=>e= .returned (.bool (zO_ log ix tm))∧Below w.heap.size w w':=by
 have hB:=zb_ w (.cells #[id,pe,te,vo,vl,co,ro,vv,vm] 42);have X:=Box.new w #[id,pe,te,vo,vl,co,ro,vv,vm] 42;have K:=xN_ id pe te vo co ro vl vv vm log vs mt log.length _ (hl.below hB) (hv.below hB) (hm.below hB) (Nat.le_refl _) nl;have HO:Hid (zO_ log ix tm=(decide (tmAt log log.length<tm) || (decide (tm=tmAt log log.length)&&decide ((log.length:Int)≤ix)))):=rfl;generalize zO_ log ix tm=R at*;generalize tmAt log log.length=z at*;obtain⟨la,lc,rfl,hlc⟩:=hl;obtain⟨va,vc,rfl,hvc⟩:=hv;obtain⟨ma,mc,rfl,hmc⟩:=hm;clear hlc hvc hmc;go_enter Tryz.func181,Tryz.ntmps181;go_wp2_with fail;refine K.mono ?_;rintro e w1 ⟨rfl,hb⟩;replace hB:=za_ hB hb;replace X:=X.below hb;clear K hb;obtain⟨hxl,x0,x1,x2,x3,x4,x5,x6,x7,x8⟩:=X.e9;by_cases c1:z<tm
 ·go_wp2;go_ret;exact⟨by rw [HO.out,decide_eq_true c1];rfl,hB⟩
 ·by_cases c2:tm=z
  ·subst c2;by_cases c3:(log.length:Int)≤ix
   ·go_wp2;go_ret;exact⟨by rw [HO.out,decide_eq_false (show ¬tm<tm from by omega),decide_eq_true c3];simp,hB⟩
   ·go_wp2;go_ret;exact⟨by rw [HO.out,decide_eq_false (show ¬tm<tm from by omega),decide_eq_false (show ¬(log.length:Int)≤ix from by omega)];simp,hB⟩
  ·have c4:(tm==z)=false:=by simp [c2]
   go_wp2;go_ret;exact⟨by rw [HO.out,decide_eq_false (show ¬z<tm from by omega),decide_eq_false c2];rfl,hB⟩
theorem ro_ (id pe te vo co ro:Int) (vl vv vm:Value) (log:List En) (vs mt:List Int) (ix tm:Int) (w:World) (hl:ER w vl log) (hv:IL w vv vs) (hm:IL w vm mt) (nl:log.length≤1048576):
  Calls Tryz.prog 160 #[.agg #[id,pe,te,vo,vl,co,ro,vv,vm],ix,tm] w fun e w'=>e= .returned (.bool (zO_ log ix tm))∧Below w.heap.size w w':=by
 have hB:=zb_ w (.cells #[id,pe,te,vo,vl,co,ro,vv,vm] 42);have X:=Box.new w #[id,pe,te,vo,vl,co,ro,vv,vm] 42;have K:=xs_ id pe te vo co ro vl vv vm log vs mt log.length _ (hl.below hB) (hv.below hB) (hm.below hB) (Nat.le_refl _) nl;have HO:Hid (zO_ log ix tm=(decide (tmAt log log.length<tm) || (decide (tm=tmAt log log.length)&&decide ((log.length:Int)≤ix)))):=rfl;generalize zO_ log ix tm=R at*;generalize tmAt log log.length=z at*;obtain⟨la,lc,rfl,hlc⟩:=hl;obtain⟨va,vc,rfl,hvc⟩:=hv;obtain⟨ma,mc,rfl,hmc⟩:=hm;clear hlc hvc hmc;go_enter Tryz.func160,Tryz.ntmps160;go_wp2_with fail;refine K.mono ?_;rintro e w1 ⟨rfl,hb⟩;replace hB:=za_ hB hb;replace X:=X.below hb;clear K hb;obtain⟨hxl,x0,x1,x2,x3,x4,x5,x6,x7,x8⟩:=X.e9;by_cases c1:z<tm
 ·go_wp2;go_ret;exact⟨by rw [HO.out,decide_eq_true c1];rfl,hB⟩
 ·by_cases c2:tm=z
  ·subst c2;by_cases c3:(log.length:Int)≤ix
   ·go_wp2;go_ret;exact⟨by rw [HO.out,decide_eq_false (show ¬tm<tm from by omega),decide_eq_true c3];simp,hB⟩
   ·go_wp2;go_ret;exact⟨by rw [HO.out,decide_eq_false (show ¬tm<tm from by omega),decide_eq_false (show ¬(log.length:Int)≤ix from by omega)];simp,hB⟩
  ·have c4:(tm==z)=false:=by simp [c2]
   go_wp2;go_ret;exact⟨by rw [HO.out,decide_eq_false (show ¬z<tm from by omega),decide_eq_false c2];rfl,hB⟩
set_option maxHeartbeats 4000000
def cI (x:Int):List Int→Nat
 | []=>0
 | m::r=>(if x≤m then 1 else 0)+cI x r
theorem pG_ (x:Int) (l:List Int) (k:Nat) (h:k<l.length):cI x (l.drop k)=(if x≤l[k] then 1 else 0)+cI x (l.drop (k+1)):=by
 rw [List.drop_eq_getElem_cons h];rfl
theorem cI_le (x:Int) (l:List Int):cI x l≤l.length:=by
 induction l with
 | nil=>simp [cI]
 | cons m r ih=>simp only [cI,List.length_cons];split <;>omega
def zv_ (te pe co:Int) (log:List En) (mt:List Int):Nat→Int
 | 0=>co
 | k+1=>if co<((k+1:Nat):Int) then (if (log.getD k En.zero).t=te∧pe<2*(cI ((k+1:Nat):Int) mt:Int) then ((k+1:Nat):Int) else zv_ te pe co log mt k) else co
theorem un_ (te pe co:Int) (log:List En) (mt:List Int) (k:Nat) (h:¬co<(k:Int)):zv_ te pe co log mt k=co:=by
 cases k with
 | zero=>rfl
 | succ k=>simp only [zv_];rw [if_neg h]
theorem tX_ (te pe co:Int) (log:List En) (mt:List Int) (k:Nat) (hk:k<log.length) (h:co<((k+1:Nat):Int)) (h1:log[k].t=te) (h2:pe<2*(cI ((k+1:Nat):Int) mt:Int)):zv_ te pe co log mt (k+1)=((k+1:Nat):Int):=by
 simp only [zv_];rw [if_pos h,if_pos ⟨by simp [hk,h1],h2⟩]
theorem uK_ (te pe co:Int) (log:List En) (mt:List Int) (k:Nat) (hk:k<log.length) (h:co<((k+1:Nat):Int)) (h1:¬(log[k].t=te∧pe<2*(cI ((k+1:Nat):Int) mt:Int))):zv_ te pe co log mt (k+1)=zv_ te pe co log mt k:=by
 simp only [zv_];rw [if_pos h,if_neg (by simpa [hk] using h1)]
theorem tg_ (id pe te vo co ro:Int) (vl vv vm:Value) (log:List En) (vs mt:List Int) (x:Int) (w:World) (hl:ER w vl log) (hv:IL w vv vs) (hm:IL w vm mt) (nm:mt.length≤1048576):
  Calls Tryz.prog 175 #[.agg #[id,pe,te,vo,vl,co,ro,vv,vm],x] w fun e w'=>e= .returned (.int .i64 (cI x mt))∧Below w.heap.size w w':=by
 obtain⟨la,lc,rfl,hlc⟩:=hl;obtain⟨va,vc,rfl,hvc⟩:=hv;obtain⟨ma,mc,rfl,hmc⟩:=hm;have hB:=zb_ w (.cells #[id,pe,te,vo,.slice la log.length lc,co,ro,.slice va vs.length vc,.slice ma mt.length mc] 42);have X:=Box.new w #[id,pe,te,vo,.slice la log.length lc,co,ro,.slice va vs.length vc,.slice ma mt.length mc] 42;obtain⟨W0,hW0⟩:∃W0,W0=w.alloc (.cells #[id,pe,te,vo,.slice la log.length lc,co,ro,.slice va vs.length vc,.slice ma mt.length mc] 42):=⟨_,rfl⟩;rw [←hW0] at hB X;obtain⟨hxl,x0,x1,x2,x3,x4,x5,x6,x7,x8⟩:=X.e9;clear hlc hvc;go_enter Tryz.func175,Tryz.ntmps175;go_wp2;rw [←hW0];clear hW0
 go_loopw [5,11] (fun z i wr=>∃k n:Nat,k≤mt.length∧i= .int .i64 k∧z= .int .i64 n∧n+cI x (mt.drop k)=cI x mt∧n≤k∧wr=W0) (fun _ i _=>mt.length-(intOf i).toNat)
 case atStart=>exact⟨0,0,Nat.zero_le _,rfl,rfl,by simp,Nat.le_refl _,rfl⟩
 case round=>
  obtain⟨k,n,hk,rfl,rfl,hg,hnk,rfl⟩:=hrel;by_cases hlt:k<mt.length
  ·obtain⟨b,off,rfl,hbl,hcell⟩:=hmc (by intro e;simp [e] at hlt);have hc0:=(hB.cell (p:=⟨b,off+k,none⟩) hbl).trans (hcell k hlt);have HD:Hid (n+((if x≤mt[k] then 1 else 0)+cI x (mt.drop (k+1)))=cI x mt):=by show _=_;rw [←pG_ x mt k hlt];exact hg
   clear hcell hmc hg;generalize mt[k]=s at*;by_cases hx:x≤s
   ·have HD2:Hid (n+1+cI x (mt.drop (k+1))=cI x mt):=by show _=_;rw [←HD.out,if_pos hx];omega
    clear HD;go_wp2;go_roundw
    case rel=>exact⟨k+1,n+1,by omega,by go_num,by go_num,HD2.out,by omega,by first | rfl | trivial⟩
    case measure=>simp [intOf];omega
   ·have HD2:Hid (n+cI x (mt.drop (k+1))=cI x mt):=by show _=_;rw [←HD.out,if_neg hx];omega
    clear HD;go_wp2;go_roundw
    case rel=>exact⟨k+1,n,by omega,by go_num,by go_num,HD2.out,by omega,by first | rfl | trivial⟩
    case measure=>simp [intOf];omega
  ·obtain rfl:k=mt.length:=by omega
   have HD:Hid (n=cI x mt):=by show _=_;rw [←hg,List.drop_length];simp [cI]
   clear hmc hg;go_wp2;go_ret;exact⟨by rw [HD.out];try rfl,hB⟩
set_option maxHeartbeats 8000000
theorem xT_ (id pe te vo co:Int) (vl vv vm:Value) (log:List En) (vs mt:List Int) (w:World) (hl:ER w vl log) (hv:IL w vv vs) (hm:IL w vm mt) (nl:log.length≤1048576) (nm:mt.length≤1048576) (hc0:0≤co):
  Calls Tryz.prog 156 #[.agg #[id,pe,te,vo,vl,co,(2:Int),vv,vm]] w fun e w'=>e= .returned (.agg #[id,pe,te,vo,vl,(zv_ te pe co log mt log.length:Int),(2:Int),vv,vm])∧Below w.heap.size w w':=by
 have hm0:=hm;have hl0:=hl;have hv0:=hv;obtain⟨la,lc,rfl,hlc⟩:=hl;obtain⟨va,vc,rfl,hvc⟩:=hv;obtain⟨ma,mc,rfl,hmc⟩:=hm;obtain⟨W0,hW0,hB,X,Y,hz00⟩:=al2 w [id,pe,te,vo,.slice la log.length lc,co,(2:Int),.slice va vs.length vc,.slice ma mt.length mc] 42 zN 42;clear hvc hmc;go_enter Tryz.func156,Tryz.ntmps156;go_wp2;rw [←hW0];clear hW0
 go_loopw [3] (fun i wr=>∃k:Nat,k≤log.length∧i= .int .i64 k∧zv_ te pe co log mt log.length=zv_ te pe co log mt k∧Below W0.heap.size W0 wr) (fun i _=>(intOf i).toNat)
 case atStart=>exact⟨log.length,Nat.le_refl _,rfl,rfl,Below.refl _ _⟩
 case round=>
  obtain⟨k,hk,rfl,hg,hb⟩:=hrel;have Xr:=X.below hb;have Yr:=Y.below hb;have hBr:=za_ hB hb;clear X Y;by_cases hgt:co<(k:Int)
  ·obtain⟨j,rfl⟩:∃j,k=j+1:=⟨k-1,by omega⟩;have hj:j<log.length:=by omega
   obtain⟨b,off,rfl,hbl,hcell⟩:=hlc (by intro e;simp [e] at hj);have d0:=(hBr.cell (p:=⟨b,off+j*2,none⟩) hbl).trans (hcell j hj).1;have hj1:(((j+1:Nat):Int)-1)=(j:Int):=by omega
   have hbW:b<wr.heap.size:=by have:=hBr.size;omega
   have HM:=uK_ te pe co log mt j hj hgt;have HH:=tX_ te pe co log mt j hj hgt;rw [←hg] at HM HH;have hcast:((j+1:Nat):Int)=(j:Int)+1:=by omega
   rw [hcast] at HM HH hgt hj1;clear hcast;have KH:=fun x:WC wr.heap.size wr=>tg_ id pe te vo co 2 _ _ _ log vs mt ((j:Int)+1) x.w (hl0.below (hBr.trans (x.ok.mono hBr.size))) (hv0.below (hBr.trans (x.ok.mono hBr.size))) (hm0.below (hBr.trans (x.ok.mono hBr.size))) nm;have hcl:=cI_le ((j:Int)+1) mt;have KA:=fun x:WC wr.heap.size wr=>yB_ id pe te vo co 2 ((cI ((j:Int)+1) mt:Nat):Int) (.slice (some ⟨b,off,none⟩) log.length lc) (.slice va vs.length vc) (.slice ma mt.length mc) x.w (by omega) (by omega);obtain⟨R,HR⟩:∃R,Hid (zv_ te pe co log mt log.length=R):=⟨_,rfl⟩;rw [HR.out] at HM HH;clear hlc hcell hg hl0 hv0 hm0;generalize log[j].t=s at*;generalize (cI ((j:Int)+1) mt:Nat)=n at*;by_cases h1:s=te
   ·replace h1:=h1.symm;subst h1;have hxb:=Xr.1;have q0:=fun x:WC wr.heap.size wr=>(x.ok.cell (p:=⟨w.heap.size,0,none⟩) hxb).trans (Xr.2.1 0 _ rfl);have q1:=fun x:WC wr.heap.size wr=>(x.ok.cell (p:=⟨w.heap.size,1,none⟩) hxb).trans (Xr.2.1 1 _ rfl);have q2:=fun x:WC wr.heap.size wr=>(x.ok.cell (p:=⟨w.heap.size,2,none⟩) hxb).trans (Xr.2.1 2 _ rfl);have q3:=fun x:WC wr.heap.size wr=>(x.ok.cell (p:=⟨w.heap.size,3,none⟩) hxb).trans (Xr.2.1 3 _ rfl);have q4:=fun x:WC wr.heap.size wr=>(x.ok.cell (p:=⟨w.heap.size,4,none⟩) hxb).trans (Xr.2.1 4 _ rfl);have q5:=fun x:WC wr.heap.size wr=>(x.ok.cell (p:=⟨w.heap.size,5,none⟩) hxb).trans (Xr.2.1 5 _ rfl);have q6:=fun x:WC wr.heap.size wr=>(x.ok.cell (p:=⟨w.heap.size,6,none⟩) hxb).trans (Xr.2.1 6 _ rfl);have q7:=fun x:WC wr.heap.size wr=>(x.ok.cell (p:=⟨w.heap.size,7,none⟩) hxb).trans (Xr.2.1 7 _ rfl);have q8:=fun x:WC wr.heap.size wr=>(x.ok.cell (p:=⟨w.heap.size,8,none⟩) hxb).trans (Xr.2.1 8 _ rfl);have qd:=fun x:WC wr.heap.size wr=>(x.ok.cell (p:=⟨b,off+j*2,none⟩) hbW).trans d0;have hne:Nonempty (WC wr.heap.size wr):=⟨⟨_,Below.refl _ _⟩⟩;obtain⟨xl,x0,x1,x2,x3,x4,x5,x6,x7,x8⟩:=Xr.e9;go_wp2_with fail;refine xj_ (B:=wr.heap.size) (W:=wr) (by kernel_rfl) (by kernel_rfl) (Below.refl _ _) ?_
    repeat (go_big_quiet_step (first | (go_at_call 175;with_reducible exact yW_ (Nat.le_refl _) (KH _)) | (go_at_call 167;with_reducible exact yW_ (Nat.le_refl _) (KA _))))
    refine wpQuiet_nil ?_;intro _ hw';obtain⟨x,hx⟩:=hw';subst hx;have hbx:=x.ok;replace Xr:=Xr.below hbx;replace Yr:=Yr.below hbx;replace hBr:=za_ hBr hbx;have hb2:=za_ hb hbx;clear KH KA q0 q1 q2 q3 q4 q5 q6 q7 q8 qd hne hbx hb d0 xl x0 x1 x2 x3 x4 x5 x6 x7 x8;generalize x.w=wr at*;clear x;by_cases h2:pe<2*(n:Int)
    ·have HE:Hid (R=(j:Int)+1):=HH (by first | rfl | trivial) h2;have hd3:decide (pe<2*(n:Int))=true:=by simp [h2]
     clear HM HH hb2;have xl:=Xr.1;have x5:=Xr.2.1 5 _ rfl;have e5:=Xr.2.2 5;go_upto_region 8 with fail;obtain⟨W2,hW2⟩:∃W2,W2=wr.setCell ⟨w.heap.size,5,none⟩ (.int .i64 ((j:Int)+1)):=⟨_,rfl⟩;have hCa:Chg (fun k=>k=w.heap.size) wr W2:=by rw [hW2];exact Chg.setCell (S:=fun k=>k=w.heap.size) (Chg.refl _ _) rfl _
     have X2:Box W2 w.heap.size [id,pe,te,vo,.slice (some ⟨b,off,none⟩) log.length lc,((j:Int)+1:Int),(2:Int),.slice va vs.length vc,.slice ma mt.length mc]:=by rw [hW2];exact Xr.set 5 _ (by simp)
     have Y2:=hCa.box Yr (by omega);have hB2:=hBr.trans (hCa.b1 hBr.size (by omega));rw [←hW2];clear hW2 hCa Xr Yr hBr xl x5 e5;have hC:=zk_ W2 (w.heap.size+1) id pe te vo (.slice (some ⟨b,off,none⟩) log.length lc) (.int .i64 ((j:Int)+1)) (.int .i64 2) (.slice va vs.length vc) (.slice ma mt.length mc);have Z:=zl_ Y2 id pe te vo (.slice (some ⟨b,off,none⟩) log.length lc) (.int .i64 ((j:Int)+1)) (.int .i64 2) (.slice va vs.length vc) (.slice ma mt.length mc);have hBE:=hB2.trans (hC.b1 hB2.size (by omega));clear hC;obtain⟨xl,x0,x1,x2,x3,x4,x5,x6,x7,x8⟩:=X2.e9;obtain⟨e0,e1,e2,e3,e4,e5,e6,e7,e8⟩:=X2.f9;obtain⟨yl,y0,y1,y2,y3,y4,y5,y6,y7,y8⟩:=Y2.e9;obtain⟨f0,f1,f2,f3,f4,f5,f6,f7,f8⟩:=Y2.f9;obtain⟨hzl,t0,t1,t2,t3,t4,t5,t6,t7,t8⟩:=Z.e9;clear Z X2 Y2 hB2;unfold put9 at*;go_wp2;exact bodyPost_ret (v:= .agg #[id,pe,te,vo,.slice (some ⟨b,off,none⟩) log.length lc,((j:Int)+1:Int),(2:Int),.slice va vs.length vc,.slice ma mt.length mc]) (by simp [results,Tryz.results156,go_sem,t0,t1,t2,t3,t4,t5,t6,t7,t8]) rfl ⟨by rw [HR.out,HE.out],hBE⟩
    ·have HE:Hid (R=zv_ te pe co log mt j):=HM (fun h=>h2 h.2);have hd3:decide (pe<2*(n:Int))=false:=by simp;omega
     clear HM HH Xr Yr;go_wp2;go_roundw
     case rel=>exact⟨j,by omega,by go_num,HR.out.trans HE.out,hb2⟩
     case measure=>simp [intOf]
   ·have hd1:decide (s=te)=false:=by simp [h1]
    have hd2:(s==te)=false:=by simp [h1]
    have HE:Hid (R=zv_ te pe co log mt j):=HM (fun h=>h1 h.1);obtain⟨xl,x0,x1,x2,x3,x4,x5,x6,x7,x8⟩:=Xr.e9;clear HM HH KH KA Yr;go_wp2_with fail
    go_quiet (fail)
    go_wp2;go_roundw
    case rel=>exact⟨j,by omega,by go_num,HR.out.trans HE.out,below_drewN hb _⟩
    case measure=>simp [intOf]
  ·have HE:Hid (zv_ te pe co log mt log.length=co):=by show _=_;rw [hg,un_ _ _ _ _ _ _ hgt]
   clear hlc hg hb;have hC:=zk_ wr (w.heap.size+1) id pe te vo (.slice la log.length lc) co (.int .i64 2) (.slice va vs.length vc) (.slice ma mt.length mc);have Z:=zl_ Yr id pe te vo (.slice la log.length lc) co (.int .i64 2) (.slice va vs.length vc) (.slice ma mt.length mc);have hBE:=hBr.trans (hC.b1 hBr.size (by omega));clear hC;obtain⟨xl,x0,x1,x2,x3,x4,x5,x6,x7,x8⟩:=Xr.e9;obtain⟨e0,e1,e2,e3,e4,e5,e6,e7,e8⟩:=Xr.f9;obtain⟨yl,y0,y1,y2,y3,y4,y5,y6,y7,y8⟩:=Yr.e9;obtain⟨f0,f1,f2,f3,f4,f5,f6,f7,f8⟩:=Yr.f9;obtain⟨hzl,t0,t1,t2,t3,t4,t5,t6,t7,t8⟩:=Z.e9;clear Z Xr Yr hBr;unfold put9 at*;go_wp2;exact bodyPost_ret (v:= .agg #[id,pe,te,vo,.slice la log.length lc,co,(2:Int),.slice va vs.length vc,.slice ma mt.length mc]) (by simp [results,Tryz.results156,go_sem,t0,t1,t2,t3,t4,t5,t6,t7,t8]) rfl ⟨by rw [HE.out],hBE⟩
theorem yS_ (id pe te vo co:Int) (vl vv vm:Value) (log:List En) (vs mt:List Int) (w:World) (hl:ER w vl log) (hv:IL w vv vs) (hm:IL w vm mt) (nl:log.length≤1048576) (nm:mt.length≤1048576) (hc0:0≤co):
  Calls Tryz.prog 139 #[.agg #[id,pe,te,vo,vl,co,(2:Int),vv,vm]] w fun e w'=>e= .returned (.agg #[id,pe,te,vo,vl,(zv_ te pe co log mt log.length:Int),(2:Int),vv,vm])∧Below w.heap.size w w':=by
 have hm0:=hm;have hl0:=hl;have hv0:=hv;obtain⟨la,lc,rfl,hlc⟩:=hl;obtain⟨va,vc,rfl,hvc⟩:=hv;obtain⟨ma,mc,rfl,hmc⟩:=hm;obtain⟨W0,hW0,hB,X,Y,hz00⟩:=al2 w [id,pe,te,vo,.slice la log.length lc,co,(2:Int),.slice va vs.length vc,.slice ma mt.length mc] 42 zN 42;clear hvc;go_enter Tryz.func139,Tryz.ntmps139;go_wp2;rw [←hW0];clear hW0
 go_loopw [3] (fun i wr=>∃k:Nat,k≤log.length∧i= .int .i64 k∧zv_ te pe co log mt log.length=zv_ te pe co log mt k∧Below W0.heap.size W0 wr) (fun i _=>(intOf i).toNat)
 case atStart=>exact⟨log.length,Nat.le_refl _,rfl,rfl,Below.refl _ _⟩
 case round=>
  obtain⟨k,hk,rfl,hg,hb⟩:=hrel;have Xr:=X.below hb;have Yr:=Y.below hb;have hBr:=za_ hB hb;clear X Y;by_cases hgt:co<(k:Int)
  ·obtain⟨j,rfl⟩:∃j,k=j+1:=⟨k-1,by omega⟩;have hj:j<log.length:=by omega
   obtain⟨b,off,rfl,hbl,hcell⟩:=hlc (by intro e;simp [e] at hj);have d0:=(hBr.cell (p:=⟨b,off+j*2,none⟩) hbl).trans (hcell j hj).1;have hj1:(((j+1:Nat):Int)-1)=(j:Int):=by omega
   have HM:=uK_ te pe co log mt j hj hgt;have HH:=tX_ te pe co log mt j hj hgt;rw [←hg] at HM HH;have hcast:((j+1:Nat):Int)=(j:Int)+1:=by omega
   rw [hcast] at HM HH hgt hj1;clear hcast;have hcl:=cI_le ((j:Int)+1) mt;obtain⟨R,HR⟩:∃R,Hid (zv_ te pe co log mt log.length=R):=⟨_,rfl⟩;rw [HR.out] at HM HH;have HM:Hid _:=HM;have HH:Hid _:=HH;clear hlc hcell hg hl0 hv0 hm0;generalize log[j].t=s at*;obtain⟨xl,x0,x1,x2,x3,x4,x5,x6,x7,x8⟩:=Xr.e9;go_wp2
   go_loopw [4,19] (fun z i wr2=>∃m n:Nat,m≤mt.length∧i= .int .i64 m∧z= .int .i64 n∧n+cI ((j:Int)+1) (mt.drop m)=cI ((j:Int)+1) mt∧n≤m∧wr2=wr) (fun _ i _=>mt.length-(intOf i).toNat)
   case atStart=>exact⟨0,0,Nat.zero_le _,rfl,rfl,by simp,Nat.le_refl _,rfl⟩
   case round=>
    obtain⟨m,n,hm,rfl,rfl,hi,hnm,rfl⟩:=hrel;by_cases hlt:m<mt.length
    ·obtain⟨b2,off2,rfl,hbl2,hcell2⟩:=hmc (by intro e;simp [e] at hlt);have hc2:=(hBr.cell (p:=⟨b2,off2+m,none⟩) hbl2).trans (hcell2 m hlt);have HD:Hid (n+((if (j:Int)+1≤mt[m] then 1 else 0)+cI ((j:Int)+1) (mt.drop (m+1)))=cI ((j:Int)+1) mt):=by show _=_;rw [←pG_ _ mt m hlt];exact hi
     clear hcell2 hmc hi;generalize mt[m]=q at*;by_cases hx:(j:Int)+1≤q
     ·have HD2:Hid (n+1+cI ((j:Int)+1) (mt.drop (m+1))=cI ((j:Int)+1) mt):=by show _=_;rw [←HD.out,if_pos hx];omega
      clear HD;go_wp2;go_roundw
      case rel=>exact⟨m+1,n+1,by omega,by go_num,by go_num,HD2.out,by omega,by first | rfl | trivial⟩
      case measure=>simp [intOf];omega
     ·have HD2:Hid (n+cI ((j:Int)+1) (mt.drop (m+1))=cI ((j:Int)+1) mt):=by show _=_;rw [←HD.out,if_neg hx];omega
      clear HD;go_wp2;go_roundw
      case rel=>exact⟨m+1,n,by omega,by go_num,by go_num,HD2.out,by omega,by first | rfl | trivial⟩
      case measure=>simp [intOf];omega
    ·obtain rfl:m=mt.length:=by omega
     have HN:cI ((j:Int)+1) mt=n:=by rw [←hi,List.drop_length];simp [cI]
     have HM2:=HM.out;have HH2:=HH.out;rw [HN] at HM2 HH2;clear hmc hi HN hcl HM HH;by_cases h2:pe<2*(n:Int)
     ·have hd3:decide (pe<2*(n:Int))=true:=by simp [h2]
      by_cases h1:s=te
      ·replace h1:=h1.symm;subst h1;have HE:Hid (R=(j:Int)+1):=HH2 (by first | rfl | trivial) h2;clear HM2 HH2;go_wp2_with fail
       go_quiet (fail)
       obtain⟨wd,hwd⟩:∃wd,wd=wr.drewN nq:=⟨_,rfl⟩;have Xd:=Xr.below (below_drewN (Below.refl wr.heap.size wr) nq);have Yd:=Yr.below (below_drewN (Below.refl wr.heap.size wr) nq);have hBd:=below_drewN hBr nq;rw [←hwd] at Xd Yd hBd ⊢;clear hwd hb Xr Yr hBr d0 xl x0 x1 x2 x3 x4 x5 x6 x7 x8;have xl:=Xd.1;have x5:=Xd.2.1 5 _ rfl;have e5:=Xd.2.2 5;go_upto_region 13 with fail;obtain⟨W2,hW2⟩:∃W2,W2=wd.setCell ⟨w.heap.size,5,none⟩ (.int .i64 ((j:Int)+1)):=⟨_,rfl⟩;have hCa:Chg (fun k=>k=w.heap.size) wd W2:=by rw [hW2];exact Chg.setCell (S:=fun k=>k=w.heap.size) (Chg.refl _ _) rfl _
       have X2:Box W2 w.heap.size [id,pe,te,vo,.slice (some ⟨b,off,none⟩) log.length lc,((j:Int)+1:Int),(2:Int),.slice va vs.length vc,.slice ma mt.length mc]:=by rw [hW2];exact Xd.set 5 _ (by simp)
       have Y2:=hCa.box Yd (by omega);have hB2:=hBd.trans (hCa.b1 hBd.size (by omega));rw [←hW2];clear hW2 hCa Xd Yd hBd xl x5 e5;have hC:=zk_ W2 (w.heap.size+1) id pe te vo (.slice (some ⟨b,off,none⟩) log.length lc) (.int .i64 ((j:Int)+1)) (.int .i64 2) (.slice va vs.length vc) (.slice ma mt.length mc);have Z:=zl_ Y2 id pe te vo (.slice (some ⟨b,off,none⟩) log.length lc) (.int .i64 ((j:Int)+1)) (.int .i64 2) (.slice va vs.length vc) (.slice ma mt.length mc);have hBE:=hB2.trans (hC.b1 hB2.size (by omega));clear hC;obtain⟨xl,x0,x1,x2,x3,x4,x5,x6,x7,x8⟩:=X2.e9;obtain⟨e0,e1,e2,e3,e4,e5,e6,e7,e8⟩:=X2.f9;obtain⟨yl,y0,y1,y2,y3,y4,y5,y6,y7,y8⟩:=Y2.e9;obtain⟨f0,f1,f2,f3,f4,f5,f6,f7,f8⟩:=Y2.f9;obtain⟨hzl,t0,t1,t2,t3,t4,t5,t6,t7,t8⟩:=Z.e9;clear Z X2 Y2 hB2;unfold put9 at*;go_wp2;exact bodyPost_ret (v:= .agg #[id,pe,te,vo,.slice (some ⟨b,off,none⟩) log.length lc,((j:Int)+1:Int),(2:Int),.slice va vs.length vc,.slice ma mt.length mc]) (by simp [results,Tryz.results139,go_sem,t0,t1,t2,t3,t4,t5,t6,t7,t8]) rfl ⟨by rw [HR.out,HE.out],hBE⟩
      ·have hd4:(s==te)=false:=by simp [h1]
       have HE:Hid (R=zv_ te pe co log mt j):=HM2 (fun h=>h1 h.1);clear HM2 HH2 Yr;go_wp2_with fail
       go_quiet (fail)
       go_wp2;go_roundw
       case rel=>exact⟨j,by omega,by go_num,HR.out.trans HE.out,below_drewN hb _⟩
       case measure=>simp [intOf]
     ·have hd3:decide (pe<2*(n:Int))=false:=by simp;omega
      have HE:Hid (R=zv_ te pe co log mt j):=HM2 (fun h=>h2 h.2);clear HM2 HH2 Yr;go_wp2_with fail
      go_quiet (fail)
      go_wp2;go_roundw
      case rel=>exact⟨j,by omega,by go_num,HR.out.trans HE.out,below_drewN hb _⟩
      case measure=>simp [intOf]
  ·have HE:Hid (zv_ te pe co log mt log.length=co):=by show _=_;rw [hg,un_ _ _ _ _ _ _ hgt]
   clear hlc hg hb hmc;have hC:=zk_ wr (w.heap.size+1) id pe te vo (.slice la log.length lc) co (.int .i64 2) (.slice va vs.length vc) (.slice ma mt.length mc);have Z:=zl_ Yr id pe te vo (.slice la log.length lc) co (.int .i64 2) (.slice va vs.length vc) (.slice ma mt.length mc);have hBE:=hBr.trans (hC.b1 hBr.size (by omega));clear hC;obtain⟨xl,x0,x1,x2,x3,x4,x5,x6,x7,x8⟩:=Xr.e9;obtain⟨e0,e1,e2,e3,e4,e5,e6,e7,e8⟩:=Xr.f9;obtain⟨yl,y0,y1,y2,y3,y4,y5,y6,y7,y8⟩:=Yr.e9;obtain⟨f0,f1,f2,f3,f4,f5,f6,f7,f8⟩:=Yr.f9;obtain⟨hzl,t0,t1,t2,t3,t4,t5,t6,t7,t8⟩:=Z.e9;clear Z Xr Yr hBr;unfold put9 at*;go_wp2;exact bodyPost_ret (v:= .agg #[id,pe,te,vo,.slice la log.length lc,co,(2:Int),.slice va vs.length vc,.slice ma mt.length mc]) (by simp [results,Tryz.results139,go_sem,t0,t1,t2,t3,t4,t5,t6,t7,t8]) rfl ⟨by rw [HE.out],hBE⟩
end Go.Proofs.YtapfhhmimkkhnaaGreat
