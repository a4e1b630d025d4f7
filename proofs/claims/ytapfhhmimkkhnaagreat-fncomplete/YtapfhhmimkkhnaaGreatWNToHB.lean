/-
  A node put in its place, who leads noted: impl's withNode.
  What a message leaves of a node in bounds; committing, whoever it is.
-/
import Derived.Test.YtapfhhmimkkhnaaGreatHDToCY
import Derived.Test.YtapfhhmimkkhnaaGreatRS1ToRS2
import Derived.Test.YtapfhhmimkkhnaaGreatI1ToKC3
namespace Go.Proofs.YtapfhhmimkkhnaaGreat
open Go.RowKit Go.Maps
set_option linter.unusedVariables false
set_option maxRecDepth 100000
set_option maxHeartbeats 16000000
theorem rowIn_box {w:World} {b size n:Nat} {vs:List Value} (h:Box w b vs) (hl:vs.length=n*size):yg_ w size (.slice (some ⟨b,0,none⟩) n n) n vs:=
 ⟨hl,_,n,rfl,.inr ⟨b,0,rfl,h.1,fun j u hj=>by rw [Nat.zero_add];exact h.2.1 j u hj⟩⟩
theorem withNode_any (lo hi:Nat) (vn vm vl:Value) (N:List Nv) (M:List Mv) (L:List Ld) (j:Nat) (hj:j<N.length) (pe te vo co ro:Int) (la:Option Addr) (lc:Nat) (va:Option Addr) (vc:Nat) (ma2:Option Addr) (mc2:Nat) (log:List En) (vs mt:List Int) (w:World) (h:OwnC w lo hi vn vm vl N M L) (hx:PN w hi ⟨⟨j,pe,te,vo,co,ro,log,vs,mt⟩,la,lc,va,vc,ma2,mc2⟩) (hh:hi≤w.heap.size) (hL:L.length≤1000):
  Calls Tryz.prog 127 #[.agg #[vn,vm,vl],.agg #[j,pe,te,vo,.slice la log.length lc,co,ro,.slice va vs.length vc,.slice ma2 mt.length mc2]] w fun e w'=>∃ul,e= .returned (.agg #[vn,vm,ul])∧OwnC w' lo w'.heap.size vn vm ul (N.set j ⟨⟨j,pe,te,vo,co,ro,log,vs,mt⟩,la,lc,va,vc,ma2,mc2⟩) M (zB_ L N[j].n ⟨j,pe,te,vo,co,ro,log,vs,mt⟩)∧Chg (fun b=>vn.ownBlock=some b∨vl.ownBlock=some b) w w':=by
 obtain⟨⟨na,nc,rfl⟩,⟨ma,mc,rfl⟩,ya,yc,rfl⟩:=h.shapes;obtain⟨g,rfl⟩:∃g,na=some ⟨g,0,none⟩:=by
  rcases h.n.2 with⟨_,h0⟩ | ⟨g,cap,cur,hv,_⟩
  ·omega
  ·simp only [Value.slice.injEq] at hv;exact⟨g,hv.1⟩
 obtain⟨W0,hW0,hB,X,Y,Z,hz0⟩:=al3 w [.slice (some ⟨g,0,none⟩) N.length nc,.slice ma M.length mc,.slice ya L.length yc] 30 [j,pe,te,vo,.slice la log.length lc,co,ro,.slice va vs.length vc,.slice ma2 mt.length mc2] 42 z3 30;have hzw:w.heap.size≤W0.heap.size:=hB.size;have hCB:Chg (fun b=>(.slice (some ⟨g,0,none⟩) N.length nc:Value).ownBlock=some b∨(.slice ya L.length yc:Value).ownBlock=some b) w W0:=Chg.of_below hB;have hgi:lo≤g∧g<hi:=⟨zg_ h.n g rfl,h.bn g rfl⟩;have hli:∀b,(Value.slice ya L.length yc).ownBlock=some b→lo≤b∧b<hi:=fun b hb=>⟨zg_ h.l b hb,h.bl b hb⟩;have h0:=h.below hB;have x0:PN W0 hi ⟨⟨j,pe,te,vo,co,ro,log,vs,mt⟩,la,lc,va,vc,ma2,mc2⟩:=OwnN.below hx hB;have hxb:∀b,BN ⟨⟨j,pe,te,vo,co,ro,log,vs,mt⟩,la,lc,va,vc,ma2,mc2⟩ b→hi≤b∧b<w.heap.size:=PN.in hx;clear h hx hB;obtain⟨y,HY⟩:∃y,Hid (N[j]=y):=⟨N[j],(rfl:N[j]=N[j])⟩;have hN:=h0.n;have hNl:j<N.length:=hj;have hbox:Box (W0.alloc (.cells y 42)) W0.heap.size y:=Box.new W0 y 42;have hBA:=zb_ W0 (.cells y 42);have hs1:(W0.alloc (.cells y 42)).heap.size=W0.heap.size+1:=by simp
 obtain⟨W1,hW1⟩:∃W,W=W0.alloc (.cells y 42):=⟨_,rfl⟩;rw [←hW1] at hbox hBA hs1;have o1:=zd_ hN hBA;have o2:=setNw_owns o1 j ⟨⟨j,pe,te,vo,co,ro,log,vs,mt⟩,la,lc,va,vc,ma2,mc2⟩;have hC2:=setNw_chg W1 g j ⟨⟨j,pe,te,vo,co,ro,log,vs,mt⟩,la,lc,va,vc,ma2,mc2⟩;obtain⟨W2,hW2⟩:∃W,W=setNw W1 g j ⟨⟨j,pe,te,vo,co,ro,log,vs,mt⟩,la,lc,va,vc,ma2,mc2⟩:=⟨_,rfl⟩;rw [←hW2] at o2 hC2;have V2:=hC2.box hbox (by omega);have X2:=hC2.box (X.below hBA) (by omega);have Y2:=hC2.box (Y.below hBA) (by omega);have Z2:=hC2.box (Z.below hBA) (by omega);have hz2:=hC2.size;have hO2:Hid (Chg (fun b=>b=g) W0 W2):=(Chg.of_below hBA).trans hC2;have HOV:Hid (OwnC W0 lo hi (.slice (some ⟨g,0,none⟩) N.length nc) (.slice ma M.length mc) (.slice ya L.length yc) N M L):=h0;have HXP:Hid (PN W0 hi ⟨⟨j,pe,te,vo,co,ro,log,vs,mt⟩,la,lc,va,vc,ma2,mc2⟩):=x0;have HCB:Hid (Chg (fun b=>(.slice (some ⟨g,0,none⟩) N.length nc:Value).ownBlock=some b∨(.slice ya L.length yc:Value).ownBlock=some b) w W0):=hCB;have o2l:W2.ownsRow lo 34 2 (.slice ya L.length yc) L.length (flatL L):=hO2.out.owns h0.l fun b hb e=>zm_ h0.l h0.n (by decide) b hb (by rw [e];rfl);have X1:=X.below hBA;have Y1:=Y.below hBA;have hS2:Chg (fun b=>b=g) W0 W2:=hO2.out;have HA:Hid (OwnC W2 lo w.heap.size (.slice (some ⟨g,0,none⟩) N.length nc) (.slice ma M.length mc) (.slice ya L.length yc) (N.set j ⟨⟨j,pe,te,vo,co,ro,log,vs,mt⟩,la,lc,va,vc,ma2,mc2⟩) M L):=h0.setN j _ o2 (hS2.mono fun b hb=> .inl (by rw [hb];rfl)) (OwnN.chg x0 hS2 (fun b hb q=>by have:=hxb b hb;have q:b=g:=q;omega)) (fun b hb=>(hxb b hb).2) hh;have HCA:Hid (Chg (fun b=>(.slice (some ⟨g,0,none⟩) N.length nc:Value).ownBlock=some b∨(.slice ya L.length yc:Value).ownBlock=some b) w W2):=hCB.nextC hS2 fun k q=> .inl (.inl (by have q:k=g:=q;rw [q];rfl));have hz02:=hS2.size;clear hS2;unfold setNw set9 at hW2;clear hbox hBA hC2 h0 x0 hCB;obtain⟨xl,x0,x1,x2,xf0,xf1,xf2⟩:=X.c3f;obtain⟨yyl,y0,y1,y2,y3,y4,y5,y6,y7,y8⟩:=Y.e9;go_enter Tryz.func127,Tryz.ntmps127;go_upto_region 1 with fail;rw [←hW0];clear hW0;obtain⟨hgl,c0,c1,c2,c3,c4,c5,c6,c7,c8⟩:=zQ_ hN j hj rfl;rw [HY.out] at c0 c1 c2 c3 c4 c5 c6 c7 c8;go_upto_region 2 with fail;have HY1:=HY;rw [←hW1];clear hW1 c0 c1 c2 c3 c4 c5 c6 c7 c8 hgl xl x0 x1 x2 xf0 xf1 xf2 yyl y0 y1 y2 y3 y4 y5 y6 y7 y8 hN;obtain⟨hgl,c0,c1,c2,c3,c4,c5,c6,c7,c8⟩:=zQ_ o1 j hj rfl;rw [HY.out] at c0 c1 c2 c3 c4 c5 c6 c7 c8;obtain⟨f0,f1,f2,f3,f4,f5,f6,f7,f8⟩:=frz9 o1 (j*9);obtain⟨xl,x0,x1,x2,xf0,xf1,xf2⟩:=X1.c3f;obtain⟨yyl,y0,y1,y2,y3,y4,y5,y6,y7,y8⟩:=Y1.e9;go_upto_region 3 with fail;rw [←hW2];clear hW2 c0 c1 c2 c3 c4 c5 c6 c7 c8 hgl f0 f1 f2 f3 f4 f5 f6 f7 f8 xl x0 x1 x2 xf0 xf1 xf2 yyl y0 y1 y2 y3 y4 y5 y6 y7 y8 o1 X1 Y1;obtain⟨xl,x0,x1,x2,xf0,xf1,xf2⟩:=X2.c3f;obtain⟨yyl,y0,y1,y2,y3,y4,y5,y6,y7,y8⟩:=Y2.e9;obtain⟨vvl,v0,v1,v2,v3,v4,v5,v6,v7,v8⟩:=V2.e9;obtain⟨led,hled⟩:∃led:Bool,Hid (led=(decide (y.n.ro=2)&&decide (y.n.te=te))):=⟨_,rfl⟩
 go_cut [6] from 7 (fun t wq=>t= .bool led∧wq=W2)
 case first=>
  have hl:=hled.out;clear hled;by_cases q1:y.n.ro=2
  ·by_cases q2:y.n.te=te
   ·go_wp2_with fail;go_meet
    case rel=>exact⟨by rw [hl];simp [q1,q2],by first | trivial | rfl⟩
   ·go_wp2_with fail;go_meet
    case rel=>exact⟨by rw [hl];simp [q1,q2],by first | trivial | rfl⟩
  ·go_wp2_with fail;go_meet
   case rel=>exact⟨by rw [hl];simp [q1],by first | trivial | rfl⟩
 case rest=>
  obtain⟨rfl,hwc⟩:=hcut;rw [hwc];clear hwc vvl v0 v1 v2 v3 v4 v5 v6 v7 v8 V2 HY;have HNL:Hid (zB_ L N[j].n ⟨j,pe,te,vo,co,ro,log,vs,mt⟩=if ro=2∧led=false∧L.length<1000 then L++ [⟨te,j⟩] else L):=by
   show _=_;unfold zB_;have hl:=hled.out;have e1:(¬(N[j].n.ro=2∧N[j].n.te=te))↔led=false:=by
    rw [HY1.out,hl];simp only [Bool.and_eq_false_iff,decide_eq_false_iff_not];constructor
    ·intro q;by_cases q2:y.n.ro=2
     ·exact .inr fun e=>q ⟨q2,e⟩
     ·exact .inl q2
    ·rintro (q | q) ⟨a,b⟩
     ·exact q a
     ·exact q b
   simp only [e1]
  clear hled HY1;by_cases q1:ro=2
  ·by_cases q3:led=false∧L.length<1000
   ·obtain⟨q3,q4⟩:=q3;subst q3;obtain⟨LA,HLA⟩:∃LA:List Ld,Hid (LA=L++ [(⟨te,(j:Int)⟩:Ld)]):=⟨L++ [(⟨te,(j:Int)⟩:Ld)],(rfl:L++ [(⟨te,(j:Int)⟩:Ld)]=_)⟩;have HNN:Hid (zB_ L N[j].n ⟨j,pe,te,vo,co,ro,log,vs,mt⟩=LA):=by show _=_;rw [HNL.out,HLA.out];simp [q1,q4]
    clear HNL;have hBa:=zb_ W2 (.cells #[te,j] 34);have hMB:=Box.new W2 #[te,j] 34;have oa:=zd_ o2l hBa;have xa:=X2.below hBa;have za:=Z2.below hBa;go_wp2_with (at_builtin;refine zs_.go ?_);obtain⟨Wa,hWa⟩:∃W,W=W2.alloc (.cells #[te,j] 34):=⟨_,rfl⟩;rw [←hWa] at hBa hMB oa xa za ⊢;have hza:W2.heap.size<Wa.heap.size:=by rw [hWa];simp
    clear hWa xl x0 x1 x2 xf0 xf1 xf2;unfold zs_;refine wpList_app_34 _ rfl _ _ rfl rfl lo _ L.length (flatL L) rfl oa _ 1 (flatL [⟨te,(j:Int)⟩]) rfl (rowIn_box hMB (by rfl)) (flatL_one _) (by omega) (by omega) ?_;intro u w3 o3 hgr hat;rw [←flatL_append] at o3;have hll:L.length+1=LA.length:=by rw [HLA.out];simp
    rw [hll,←HLA.out] at o3;have hC3:=zz_ hgr;have hg3:∀b,u.ownBlock=some b→b<hi∨W2.heap.size<b:=fun b hb=>by
     rcases hat with q | q
     ·rw [q] at hb;exact .inl (hli b hb).2
     ·rw [q] at hb;injection hb with hb;omega
    have x3:=hC3.box xa (by intro hb;have:=hli _ hb;omega);have z3:=hC3.box za (by intro hb;have:=hli _ hb;omega);have hz3:=hC3.size;have HC3:Hid (Chg (fun b=>(Value.slice ya L.length yc).ownBlock=some b) W2 w3):=(Chg.of_below hBa).trans hC3;clear hgr hat hC3 hMB oa xa za hBa hll;obtain⟨ua,uc,rfl⟩:=ze_ o3;obtain⟨W4,hW4⟩:∃W,W=w3.setCell ⟨w.heap.size,2,none⟩ (.slice ua LA.length uc):=⟨_,rfl⟩;have hC4:Chg (fun b=>b=w.heap.size) w3 W4:=by rw [hW4];exact Chg.setCell (S:=fun b=>b=w.heap.size) (Chg.refl _ _) rfl _
    have X4:Box W4 w.heap.size [.slice (some ⟨g,0,none⟩) N.length nc,.slice ma M.length mc,.slice ua LA.length uc]:=by rw [hW4];exact x3.set 2 _ (by simp)
    have Z4:=hC4.box z3 (by omega);have o4:=hC4.owns o3 (fun b hb hh=>by have:=hg3 b hb;have hh:b=w.heap.size:=hh;omega);obtain⟨xl,x0,x1,x2,xf0,xf1,xf2⟩:=x3.c3f;clear X2 Z2 z3 x3;go_upto_region 6 with fail;rw [←hW4];clear hW4 xl x0 x1 x2 xf0 xf1 xf2 o3;obtain⟨xl,x0,x1,x2,xf0,xf1,xf2⟩:=X4.c3f;have hz4:=hC4.size;obtain⟨W5,hW5,hC5,Z5⟩:=zi_ W4 Z4 (.slice (some ⟨g,0,none⟩) N.length nc) (.slice ma M.length mc) (.slice ua LA.length uc);have hz5:=hC5.size;have hC45:Chg (fun b=>b=w.heap.size∨b=w.heap.size+1+1) w3 W5:=(hC4.mono fun b hb=> .inl hb).trans (hC5.mono fun b hb=> .inr hb);have o5:=hC5.owns o4 (fun b hb hh=>by have:=hg3 b hb;have hh:b=w.heap.size+1+1:=hh;omega);have hFF:Hid (OwnC W5 lo W5.heap.size (.slice (some ⟨g,0,none⟩) N.length nc) (.slice ma M.length mc) (.slice ua LA.length uc) (N.set j ⟨⟨j,pe,te,vo,co,ro,log,vs,mt⟩,la,lc,va,vc,ma2,mc2⟩) M LA):=HA.out.lead o5 ((HC3.out.mono fun b hb=> .inl hb).trans (hC45.mono fun b hb=> .inr (by omega))) (fun b hb=>zh_ o5 b hb) (by omega);have hCF:Hid (Chg (fun b=>(.slice (some ⟨g,0,none⟩) N.length nc:Value).ownBlock=some b∨(.slice ya L.length yc:Value).ownBlock=some b) w W5):=(HCA.out.nextC HC3.out fun k q=> .inl (.inr q)).nextC hC45 fun k q=> .inr (by omega);clear hC45 o5 hC4 o4 HC3;clear hC5 o2 o2l HOV HXP HA HCA;obtain⟨ztl,zz0,zz1,zz2,zf0,zf1,zf2⟩:=Z4.c3f;clear Z4;obtain⟨tl,t0,t1,t2⟩:=Z5.c3;clear Z5;unfold put3 at*;go_wp2;rw [←hW5];exact bodyPost_ret (v:= .agg #[.slice (some ⟨g,0,none⟩) N.length nc,.slice ma M.length mc,.slice ua LA.length uc]) (by simp [results,Tryz.results127,go_sem,t0,t1,t2]) rfl ⟨_,rfl,by rw [HNN.out];exact hFF.out,hCF.out⟩
   ·have HL3:led=true∨led=false∧¬L.length<1000:=by
     cases led
     ·exact .inr ⟨rfl,fun h=>q3 ⟨rfl,h⟩⟩
     ·exact .inl rfl
    clear q3;rcases HL3 with rfl | ⟨rfl,q3⟩
    ·have hNL:zB_ L N[j].n ⟨j,pe,te,vo,co,ro,log,vs,mt⟩=L:=by rw [HNL.out];simp [q1]
     have HNN:Hid (zB_ L N[j].n ⟨j,pe,te,vo,co,ro,log,vs,mt⟩=L):=hNL;clear hNL HNL;obtain⟨W5,hW5,hC5,Z5⟩:=zi_ W2 Z2 (.slice (some ⟨g,0,none⟩) N.length nc) (.slice ma M.length mc) (.slice ya L.length yc);have hz5:=hC5.size;have hFF:Hid (OwnC W5 lo W5.heap.size (.slice (some ⟨g,0,none⟩) N.length nc) (.slice ma M.length mc) (.slice ya L.length yc) (N.set j ⟨⟨j,pe,te,vo,co,ro,log,vs,mt⟩,la,lc,va,vc,ma2,mc2⟩) M L):=(HA.out.chg hC5 (fun b hb=> .inr (by have hb:b=w.heap.size+1+1:=hb;omega))).hiN (by omega);have hCF:Hid (Chg (fun b=>(.slice (some ⟨g,0,none⟩) N.length nc:Value).ownBlock=some b∨(.slice ya L.length yc:Value).ownBlock=some b) w W5):=HCA.out.nextC hC5 fun k q=> .inr (by have q:k=w.heap.size+1+1:=q;omega);clear hC5 o2 o2l HOV HXP HA HCA;obtain⟨ztl,zz0,zz1,zz2,zf0,zf1,zf2⟩:=Z2.c3f;clear Z2;obtain⟨tl,t0,t1,t2⟩:=Z5.c3;clear Z5;unfold put3 at*;go_wp2;rw [←hW5];exact bodyPost_ret (v:= .agg #[.slice (some ⟨g,0,none⟩) N.length nc,.slice ma M.length mc,.slice ya L.length yc]) (by simp [results,Tryz.results127,go_sem,t0,t1,t2]) rfl ⟨_,rfl,by rw [HNN.out];exact hFF.out,hCF.out⟩
    ·have hNL:zB_ L N[j].n ⟨j,pe,te,vo,co,ro,log,vs,mt⟩=L:=by rw [HNL.out];simp [q1,q3]
     have HNN:Hid (zB_ L N[j].n ⟨j,pe,te,vo,co,ro,log,vs,mt⟩=L):=hNL;clear hNL HNL;obtain⟨W5,hW5,hC5,Z5⟩:=zi_ W2 Z2 (.slice (some ⟨g,0,none⟩) N.length nc) (.slice ma M.length mc) (.slice ya L.length yc);have hz5:=hC5.size;have hFF:Hid (OwnC W5 lo W5.heap.size (.slice (some ⟨g,0,none⟩) N.length nc) (.slice ma M.length mc) (.slice ya L.length yc) (N.set j ⟨⟨j,pe,te,vo,co,ro,log,vs,mt⟩,la,lc,va,vc,ma2,mc2⟩) M L):=(HA.out.chg hC5 (fun b hb=> .inr (by have hb:b=w.heap.size+1+1:=hb;omega))).hiN (by omega);have hCF:Hid (Chg (fun b=>(.slice (some ⟨g,0,none⟩) N.length nc:Value).ownBlock=some b∨(.slice ya L.length yc:Value).ownBlock=some b) w W5):=HCA.out.nextC hC5 fun k q=> .inr (by have q:k=w.heap.size+1+1:=q;omega);clear hC5 o2 o2l HOV HXP HA HCA;obtain⟨ztl,zz0,zz1,zz2,zf0,zf1,zf2⟩:=Z2.c3f;clear Z2;obtain⟨tl,t0,t1,t2⟩:=Z5.c3;clear Z5;unfold put3 at*;go_wp2;rw [←hW5];exact bodyPost_ret (v:= .agg #[.slice (some ⟨g,0,none⟩) N.length nc,.slice ma M.length mc,.slice ya L.length yc]) (by simp [results,Tryz.results127,go_sem,t0,t1,t2]) rfl ⟨_,rfl,by rw [HNN.out];exact hFF.out,hCF.out⟩
  ·have hNL:zB_ L N[j].n ⟨j,pe,te,vo,co,ro,log,vs,mt⟩=L:=by rw [HNL.out];simp [q1]
   have HNN:Hid (zB_ L N[j].n ⟨j,pe,te,vo,co,ro,log,vs,mt⟩=L):=hNL;clear hNL HNL;obtain⟨W5,hW5,hC5,Z5⟩:=zi_ W2 Z2 (.slice (some ⟨g,0,none⟩) N.length nc) (.slice ma M.length mc) (.slice ya L.length yc);have hz5:=hC5.size;have hFF:Hid (OwnC W5 lo W5.heap.size (.slice (some ⟨g,0,none⟩) N.length nc) (.slice ma M.length mc) (.slice ya L.length yc) (N.set j ⟨⟨j,pe,te,vo,co,ro,log,vs,mt⟩,la,lc,va,vc,ma2,mc2⟩) M L):=(HA.out.chg hC5 (fun b hb=> .inr (by have hb:b=w.heap.size+1+1:=hb;omega))).hiN (by omega);have hCF:Hid (Chg (fun b=>(.slice (some ⟨g,0,none⟩) N.length nc:Value).ownBlock=some b∨(.slice ya L.length yc:Value).ownBlock=some b) w W5):=HCA.out.nextC hC5 fun k q=> .inr (by have q:k=w.heap.size+1+1:=q;omega);clear hC5 o2 o2l HOV HXP HA HCA;obtain⟨ztl,zz0,zz1,zz2,zf0,zf1,zf2⟩:=Z2.c3f;clear Z2;obtain⟨tl,t0,t1,t2⟩:=Z5.c3;clear Z5;unfold put3 at*;go_wp2;rw [←hW5];exact bodyPost_ret (v:= .agg #[.slice (some ⟨g,0,none⟩) N.length nc,.slice ma M.length mc,.slice ya L.length yc]) (by simp [results,Tryz.results127,go_sem,t0,t1,t2]) rfl ⟨_,rfl,by rw [HNN.out];exact hFF.out,hCF.out⟩
set_option maxHeartbeats 4000000
theorem lgW_le (P:List En) (es:List En) (ix:Nat):(lgW P ix es).length≤P.length+es.length:=by
 rw [lgW_fi]
 split
 ·simp only [List.length_append,List.length_take,List.length_drop];omega
 ·omega
theorem lgW_mem' {P:List En} {es:List En} {ix:Nat} {e:En} (h:e∈lgW P ix es):e∈P∨e∈es:=by
 rw [lgW_fi] at h
 split at h
 ·rcases List.mem_append.1 h with h | h
  ·exact .inl (List.mem_of_mem_take h)
  ·exact .inr (List.mem_of_mem_drop h)
 ·exact .inl h
structure Bnd (x:Nd):Prop where
 co:0≤x.co
 l:x.log.length≤1048576
 v:x.vs.length≤1048576
 m:x.mt.length≤1048576
 s:∀i (h:i<x.log.length),x.log[i].d.size≤1048576
theorem Gd.vl {x:Nd} (h:Gd x):x.vs.length≤7∧x.mt.length≤7:=by
 have h7:=h.p7;have hin:=ro_in h.ro;by_cases r0:x.ro=0
 ·have:=h.r0 r0;rw [this.1,this.2];simp
 ·by_cases r1:x.ro=1
  ·have:=h.r1 r1;rw [this.2.2.2.2.2];simp;omega
  ·have:=h.r2 (by omega);rw [this.2.2.1];simp;omega
theorem Gd.sz {x:Nd} (h:Gd x):∀e∈x.log,e.d.size≤1048576:=fun e he=>by
 obtain⟨i,hi,rfl⟩:=List.getElem_of_mem he;have:=(gE_all h.lg i hi).1;simp only [yl_,Bool.and_eq_true,decide_eq_true_eq] at this;omega
theorem Gd.bnd {x:Nd} (h:Gd x):Bnd x:=⟨h.c0,by have:=h.ll;omega,by have:=h.vl;omega,by have:=h.vl;omega,fun i hi=>h.sz _ (List.getElem_mem hi)⟩
theorem vbN_bnd {x:Nd} (h:Gd x) (f:Int):Bnd (vbN x f):=by
 have hb:=h.bnd;have hv:=h.vl;have h7:=h.p7;unfold vbN
 split
 ·exact hb
 ·split
  ·exact⟨hb.co,hb.l,by simp [leN],by simp [leN,mtZ];omega,hb.s⟩
  ·exact⟨hb.co,hb.l,by show (putV x.vs f).length≤_;rw [putV_length];omega,hb.m,hb.s⟩
theorem hmN_bnd {x:Nd} (h:Gd x) (m:Ms) (ne:m.es.length≤60) (ns:∀e∈m.es,e.d.size≤1048576):Bnd (hmN x m):=by
 have hb:=h.bnd;have hv:=h.vl;have hl:=h.ll;unfold hmN
 split
 ·unfold askN;split <;>exact⟨hb.co,hb.l,hb.v,hb.m,hb.s⟩
 ·split
  ·unfold votN;split
   ·exact vbN_bnd h _
   ·exact hb
  ·split
   ·unfold appN;split
    ·exact hb
    ·split
     ·refine⟨?_,?_,by simp [foN],by simp [foN],fun i hi=> ?_⟩
      ·show 0≤apC x m;unfold apC;have:=h.c0;omega
      ·show (lgW x.log m.ix.toNat m.es).length≤_;have:=lgW_le x.log m.es m.ix.toNat;omega
      ·have:(lgW x.log m.ix.toNat m.es)[i]∈lgW x.log m.ix.toNat m.es:=List.getElem_mem hi;rcases lgW_mem' this with q | q
       ·exact h.sz _ q
       ·exact ns _ q
     ·exact⟨hb.co,hb.l,by simp [foN],by simp [foN],hb.s⟩
   ·unfold tolN;split
    ·exact⟨hb.co,hb.l,hb.v,by simp [tolX];have:=hb.m;omega,hb.s⟩
    ·exact hb
theorem cmN_bnd {x:Nd} (h:Bnd x):(cmN x).log=x.log∧(cmN x).vs=x.vs∧(cmN x).mt=x.mt∧(cmN x).id=x.id∧(cmN x).pe=x.pe∧(cmN x).te=x.te∧(cmN x).vo=x.vo∧(cmN x).ro=x.ro:=by
 unfold cmN;split <;>exact⟨rfl,rfl,rfl,rfl,rfl,rfl,rfl,rfl⟩
theorem committing_cm (id pe te vo co ro:Int) (la:Option Addr) (lc:Nat) (va:Option Addr) (vc:Nat) (ma:Option Addr) (mc:Nat) (log:List En) (vs mt:List Int) (w:World) (hl:ER w (.slice la log.length lc) log) (hv:IL w (.slice va vs.length vc) vs) (hm:IL w (.slice ma mt.length mc) mt) (hb:Bnd ⟨id,pe,te,vo,co,ro,log,vs,mt⟩) (c2:Int) (hc:c2=(cmN ⟨id,pe,te,vo,co,ro,log,vs,mt⟩).co):
  Calls Tryz.prog 156 #[.agg #[id,pe,te,vo,.slice la log.length lc,co,ro,.slice va vs.length vc,.slice ma mt.length mc]] w fun e w'=>e= .returned (.agg #[id,pe,te,vo,.slice la log.length lc,c2,ro,.slice va vs.length vc,.slice ma mt.length mc])∧Below w.heap.size w w':=by
 by_cases h2:ro=2
 ·subst h2;obtain rfl:c2=zt_ te pe co log mt log.length:=by rw [hc];simp [cmN]
  exact committing_any id pe te vo co _ _ _ log vs mt w hl hv hm hb.l hb.m hb.co
 ·obtain rfl:c2=co:=by rw [hc];simp [cmN,h2]
  exact committing_no id pe te vo c2 ro la lc va vc ma mc log vs mt w h2
end Go.Proofs.YtapfhhmimkkhnaaGreat
