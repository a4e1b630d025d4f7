/-
  A node put in its place, who leads noted: impl's withNode.
  What a message leaves of a node in bounds; committing, whoever it is.
  A message handled: impl.HandleMsg.
  A message handled: impl.HandleMsg, whatever the kind.
-/
import Derived.Test.YtapfhhmimkkhnaaGreatOAToCY
import Derived.Test.YtapfhhmimkkhnaaGreatRS3
namespace Go.Proofs.YtapfhhmimkkhnaaGreat
open Go.RowKit Go.Maps
set_option linter.unusedVariables false
set_option maxRecDepth 100000
set_option maxHeartbeats 16000000
theorem xC_ {w:World} {b size n:Nat} {vs:List Value} (h:Box w b vs) (hl:vs.length=n*size):yi_ w size (.slice (some ⟨b,0,none⟩) n n) n vs:=
 ⟨hl,_,n,rfl,.inr ⟨b,0,rfl,h.1,fun j u hj=>by rw [Nat.zero_add];exact h.2.1 j u hj⟩⟩
theorem tp_ (lo hi:Nat) (vn vm vl:Value) (N:List Nv) (M:List Mv) (L:List Ld) (j:Nat) (hj:j<N.length) (pe te vo co ro:Int) (la:Option Addr) (lc:Nat) (va:Option Addr) (vc:Nat) (ma2:Option Addr) (mc2:Nat) (log:List En) (vs mt:List Int) (w:World) (h:OwnC w lo hi vn vm vl N M L) (hx:PN w hi ⟨⟨j,pe,te,vo,co,ro,log,vs,mt⟩,la,lc,va,vc,ma2,mc2⟩) (hh:hi≤w.heap.size) (hL:L.length≤1000):
  Calls Tryz.prog 127 #[.agg #[vn,vm,vl],.agg #[j,pe,te,vo,.slice la log.length lc,co,ro,.slice va vs.length vc,.slice ma2 mt.length mc2]] w fun e w'=>∃ul,e= .returned (.agg #[vn,vm,ul])∧OwnC w' lo w'.heap.size vn vm ul (N.set j ⟨⟨j,pe,te,vo,co,ro,log,vs,mt⟩,la,lc,va,vc,ma2,mc2⟩) M (zB_ L N[j].n ⟨j,pe,te,vo,co,ro,log,vs,mt⟩)∧Chg (fun b=>vn.ownBlock=some b∨vl.ownBlock=some b) w w':=by
 obtain⟨⟨na,nc,rfl⟩,⟨ma,mc,rfl⟩,ya,yc,rfl⟩:=h.shapes;obtain⟨g,rfl⟩:∃g,na=some ⟨g,0,none⟩:=by
  rcases h.n.2 with⟨_,h0⟩ | ⟨g,cap,cur,hv,_⟩
  ·omega
  ·simp only [Value.slice.injEq] at hv;exact⟨g,hv.1⟩
 obtain⟨W0,hW0,hB,X,Y,Z,hz0⟩:=al3 w [.slice (some ⟨g,0,none⟩) N.length nc,.slice ma M.length mc,.slice ya L.length yc] 30 [j,pe,te,vo,.slice la log.length lc,co,ro,.slice va vs.length vc,.slice ma2 mt.length mc2] 42 z3 30;have hzw:w.heap.size≤W0.heap.size:=hB.size;have hCB:Chg (fun b=>(.slice (some ⟨g,0,none⟩) N.length nc:Value).ownBlock=some b∨(.slice ya L.length yc:Value).ownBlock=some b) w W0:=Chg.of_below hB;have hgi:lo≤g∧g<hi:=⟨zg_ h.n g rfl,h.bn g rfl⟩;have hli:∀b,(Value.slice ya L.length yc).ownBlock=some b→lo≤b∧b<hi:=fun b hb=>⟨zg_ h.l b hb,h.bl b hb⟩;have h0:=h.below hB;have x0:PN W0 hi ⟨⟨j,pe,te,vo,co,ro,log,vs,mt⟩,la,lc,va,vc,ma2,mc2⟩:=OwnN.below hx hB;have hxb:∀b,BN ⟨⟨j,pe,te,vo,co,ro,log,vs,mt⟩,la,lc,va,vc,ma2,mc2⟩ b→hi≤b∧b<w.heap.size:=PN.in hx;clear h hx hB;obtain⟨y,HY⟩:∃y,Hid (N[j]=y):=⟨N[j],(rfl:N[j]=N[j])⟩;have hN:=h0.n;have hNl:j<N.length:=hj;have hbox:Box (W0.alloc (.cells y 42)) W0.heap.size y:=Box.new W0 y 42;have hBA:=zb_ W0 (.cells y 42);have hs1:(W0.alloc (.cells y 42)).heap.size=W0.heap.size+1:=by simp
 obtain⟨W1,hW1⟩:∃W,W=W0.alloc (.cells y 42):=⟨_,rfl⟩;rw [←hW1] at hbox hBA hs1;have o1:=zd_ hN hBA;have o2:=xo_ o1 j ⟨⟨j,pe,te,vo,co,ro,log,vs,mt⟩,la,lc,va,vc,ma2,mc2⟩;have hC2:=xA_ W1 g j ⟨⟨j,pe,te,vo,co,ro,log,vs,mt⟩,la,lc,va,vc,ma2,mc2⟩;obtain⟨W2,hW2⟩:∃W,W=vt_ W1 g j ⟨⟨j,pe,te,vo,co,ro,log,vs,mt⟩,la,lc,va,vc,ma2,mc2⟩:=⟨_,rfl⟩;rw [←hW2] at o2 hC2;have V2:=hC2.box hbox (by omega);have X2:=hC2.box (X.below hBA) (by omega);have Y2:=hC2.box (Y.below hBA) (by omega);have Z2:=hC2.box (Z.below hBA) (by omega);have hz2:=hC2.size;have hO2:Hid (Chg (fun b=>b=g) W0 W2):=(Chg.of_below hBA).trans hC2;have HOV:Hid (OwnC W0 lo hi (.slice (some ⟨g,0,none⟩) N.length nc) (.slice ma M.length mc) (.slice ya L.length yc) N M L):=h0;have HXP:Hid (PN W0 hi ⟨⟨j,pe,te,vo,co,ro,log,vs,mt⟩,la,lc,va,vc,ma2,mc2⟩):=x0;have HCB:Hid (Chg (fun b=>(.slice (some ⟨g,0,none⟩) N.length nc:Value).ownBlock=some b∨(.slice ya L.length yc:Value).ownBlock=some b) w W0):=hCB;have o2l:W2.ownsRow lo 34 2 (.slice ya L.length yc) L.length (yN_ L):=hO2.out.owns h0.l fun b hb e=>zn_ h0.l h0.n (by decide) b hb (by rw [e];rfl);have X1:=X.below hBA;have Y1:=Y.below hBA;have hS2:Chg (fun b=>b=g) W0 W2:=hO2.out;have HA:Hid (OwnC W2 lo w.heap.size (.slice (some ⟨g,0,none⟩) N.length nc) (.slice ma M.length mc) (.slice ya L.length yc) (N.set j ⟨⟨j,pe,te,vo,co,ro,log,vs,mt⟩,la,lc,va,vc,ma2,mc2⟩) M L):=h0.setN j _ o2 (hS2.mono fun b hb=> .inl (by rw [hb];rfl)) (OwnN.chg x0 hS2 (fun b hb q=>by have:=hxb b hb;have q:b=g:=q;omega)) (fun b hb=>(hxb b hb).2) hh;have HCA:Hid (Chg (fun b=>(.slice (some ⟨g,0,none⟩) N.length nc:Value).ownBlock=some b∨(.slice ya L.length yc:Value).ownBlock=some b) w W2):=hCB.nextC hS2 fun k q=> .inl (.inl (by have q:k=g:=q;rw [q];rfl));have hz02:=hS2.size;clear hS2;unfold vt_ set9 at hW2;clear hbox hBA hC2 h0 x0 hCB;obtain⟨xl,x0,x1,x2,xf0,xf1,xf2⟩:=X.c3f;obtain⟨yyl,y0,y1,y2,y3,y4,y5,y6,y7,y8⟩:=Y.e9;go_enter Tryz.func127,Tryz.ntmps127;go_upto_region 1 with fail;rw [←hW0];clear hW0;obtain⟨hgl,c0,c1,c2,c3,c4,c5,c6,c7,c8⟩:=zR_ hN j hj rfl;rw [HY.out] at c0 c1 c2 c3 c4 c5 c6 c7 c8;go_upto_region 2 with fail;have HY1:=HY;rw [←hW1];clear hW1 c0 c1 c2 c3 c4 c5 c6 c7 c8 hgl xl x0 x1 x2 xf0 xf1 xf2 yyl y0 y1 y2 y3 y4 y5 y6 y7 y8 hN;obtain⟨hgl,c0,c1,c2,c3,c4,c5,c6,c7,c8⟩:=zR_ o1 j hj rfl;rw [HY.out] at c0 c1 c2 c3 c4 c5 c6 c7 c8;obtain⟨f0,f1,f2,f3,f4,f5,f6,f7,f8⟩:=frz9 o1 (j*9);obtain⟨xl,x0,x1,x2,xf0,xf1,xf2⟩:=X1.c3f;obtain⟨yyl,y0,y1,y2,y3,y4,y5,y6,y7,y8⟩:=Y1.e9;go_upto_region 3 with fail;rw [←hW2];clear hW2 c0 c1 c2 c3 c4 c5 c6 c7 c8 hgl f0 f1 f2 f3 f4 f5 f6 f7 f8 xl x0 x1 x2 xf0 xf1 xf2 yyl y0 y1 y2 y3 y4 y5 y6 y7 y8 o1 X1 Y1;obtain⟨xl,x0,x1,x2,xf0,xf1,xf2⟩:=X2.c3f;obtain⟨yyl,y0,y1,y2,y3,y4,y5,y6,y7,y8⟩:=Y2.e9;obtain⟨vvl,v0,v1,v2,v3,v4,v5,v6,v7,v8⟩:=V2.e9;obtain⟨led,hled⟩:∃led:Bool,Hid (led=(decide (y.n.ro=2)&&decide (y.n.te=te))):=⟨_,rfl⟩
 go_cut [6] from 7 (fun t wq=>t= .bool led∧wq=W2)
 case first=>
  have hl:=hled.out;clear hled;by_cases q1:y.n.ro=2
  ·by_cases q2:y.n.te=te
   ·go_wp2_with fail;go_meet
    case rel=>exact⟨by rw [hl];simp [q1,q2],by first | trivial | rfl⟩
   ·go_wp2_with fail;go_meet
    case rel=>exact⟨by rw [hl];simp [q1,q2],by first | trivial | rfl⟩
  ·go_wp2_with fail;go_meet
   case rel=>exact⟨by rw [hl];simp [q1],by first | trivial | rfl⟩
 case rest=>
  obtain⟨rfl,hwc⟩:=hcut;rw [hwc];clear hwc vvl v0 v1 v2 v3 v4 v5 v6 v7 v8 V2 HY;have HNL:Hid (zB_ L N[j].n ⟨j,pe,te,vo,co,ro,log,vs,mt⟩=if ro=2∧led=false∧L.length<1000 then L++ [⟨te,j⟩] else L):=by
   show _=_;unfold zB_;have hl:=hled.out;have e1:(¬(N[j].n.ro=2∧N[j].n.te=te))↔led=false:=by
    rw [HY1.out,hl];simp only [Bool.and_eq_false_iff,decide_eq_false_iff_not];constructor
    ·intro q;by_cases q2:y.n.ro=2
     ·exact .inr fun e=>q ⟨q2,e⟩
     ·exact .inl q2
    ·rintro (q | q) ⟨a,b⟩
     ·exact q a
     ·exact q b
   simp only [e1]
  clear hled HY1;by_cases q1:ro=2
  ·by_cases q3:led=false∧L.length<1000
   ·obtain⟨q3,q4⟩:=q3;subst q3;obtain⟨LA,HLA⟩:∃LA:List Ld,Hid (LA=L++ [(⟨te,(j:Int)⟩:Ld)]):=⟨L++ [(⟨te,(j:Int)⟩:Ld)],(rfl:L++ [(⟨te,(j:Int)⟩:Ld)]=_)⟩;have HNN:Hid (zB_ L N[j].n ⟨j,pe,te,vo,co,ro,log,vs,mt⟩=LA):=by show _=_;rw [HNL.out,HLA.out];simp [q1,q4]
    clear HNL;have hBa:=zb_ W2 (.cells #[te,j] 34);have hMB:=Box.new W2 #[te,j] 34;have oa:=zd_ o2l hBa;have xa:=X2.below hBa;have za:=Z2.below hBa;go_wp2_with (at_builtin;refine zs_.go ?_);obtain⟨Wa,hWa⟩:∃W,W=W2.alloc (.cells #[te,j] 34):=⟨_,rfl⟩;rw [←hWa] at hBa hMB oa xa za ⊢;have hza:W2.heap.size<Wa.heap.size:=by rw [hWa];simp
    clear hWa xl x0 x1 x2 xf0 xf1 xf2;unfold zs_;refine yP_ _ rfl _ _ rfl rfl lo _ L.length (yN_ L) rfl oa _ 1 (yN_ [⟨te,(j:Int)⟩]) rfl (xC_ hMB (by rfl)) (vq_ _) (by omega) (by omega) ?_;intro u w3 o3 hgr hat;rw [←vJ_] at o3;have hll:L.length+1=LA.length:=by rw [HLA.out];simp
    rw [hll,←HLA.out] at o3;have hC3:=zz_ hgr;have hg3:∀b,u.ownBlock=some b→b<hi∨W2.heap.size<b:=fun b hb=>by
     rcases hat with q | q
     ·rw [q] at hb;exact .inl (hli b hb).2
     ·rw [q] at hb;injection hb with hb;omega
    have x3:=hC3.box xa (by intro hb;have:=hli _ hb;omega);have z3:=hC3.box za (by intro hb;have:=hli _ hb;omega);have hz3:=hC3.size;have HC3:Hid (Chg (fun b=>(Value.slice ya L.length yc).ownBlock=some b) W2 w3):=(Chg.of_below hBa).trans hC3;clear hgr hat hC3 hMB oa xa za hBa hll;obtain⟨ua,uc,rfl⟩:=ze_ o3;obtain⟨W4,hW4⟩:∃W,W=w3.setCell ⟨w.heap.size,2,none⟩ (.slice ua LA.length uc):=⟨_,rfl⟩;have hC4:Chg (fun b=>b=w.heap.size) w3 W4:=by rw [hW4];exact Chg.setCell (S:=fun b=>b=w.heap.size) (Chg.refl _ _) rfl _
    have X4:Box W4 w.heap.size [.slice (some ⟨g,0,none⟩) N.length nc,.slice ma M.length mc,.slice ua LA.length uc]:=by rw [hW4];exact x3.set 2 _ (by simp)
    have Z4:=hC4.box z3 (by omega);have o4:=hC4.owns o3 (fun b hb hh=>by have:=hg3 b hb;have hh:b=w.heap.size:=hh;omega);obtain⟨xl,x0,x1,x2,xf0,xf1,xf2⟩:=x3.c3f;clear X2 Z2 z3 x3;go_upto_region 6 with fail;rw [←hW4];clear hW4 xl x0 x1 x2 xf0 xf1 xf2 o3;obtain⟨xl,x0,x1,x2,xf0,xf1,xf2⟩:=X4.c3f;have hz4:=hC4.size;obtain⟨W5,hW5,hC5,Z5⟩:=zi_ W4 Z4 (.slice (some ⟨g,0,none⟩) N.length nc) (.slice ma M.length mc) (.slice ua LA.length uc);have hz5:=hC5.size;have hC45:Chg (fun b=>b=w.heap.size∨b=w.heap.size+1+1) w3 W5:=(hC4.mono fun b hb=> .inl hb).trans (hC5.mono fun b hb=> .inr hb);have o5:=hC5.owns o4 (fun b hb hh=>by have:=hg3 b hb;have hh:b=w.heap.size+1+1:=hh;omega);have hFF:Hid (OwnC W5 lo W5.heap.size (.slice (some ⟨g,0,none⟩) N.length nc) (.slice ma M.length mc) (.slice ua LA.length uc) (N.set j ⟨⟨j,pe,te,vo,co,ro,log,vs,mt⟩,la,lc,va,vc,ma2,mc2⟩) M LA):=HA.out.lead o5 ((HC3.out.mono fun b hb=> .inl hb).trans (hC45.mono fun b hb=> .inr (by omega))) (fun b hb=>zh_ o5 b hb) (by omega);have hCF:Hid (Chg (fun b=>(.slice (some ⟨g,0,none⟩) N.length nc:Value).ownBlock=some b∨(.slice ya L.length yc:Value).ownBlock=some b) w W5):=(HCA.out.nextC HC3.out fun k q=> .inl (.inr q)).nextC hC45 fun k q=> .inr (by omega);clear hC45 o5 hC4 o4 HC3;clear hC5 o2 o2l HOV HXP HA HCA;obtain⟨ztl,zz0,zz1,zz2,zf0,zf1,zf2⟩:=Z4.c3f;clear Z4;obtain⟨tl,t0,t1,t2⟩:=Z5.c3;clear Z5;unfold put3 at*;go_wp2;rw [←hW5];exact bodyPost_ret (v:= .agg #[.slice (some ⟨g,0,none⟩) N.length nc,.slice ma M.length mc,.slice ua LA.length uc]) (by simp [results,Tryz.results127,go_sem,t0,t1,t2]) rfl ⟨_,rfl,by rw [HNN.out];exact hFF.out,hCF.out⟩
   ·have HL3:led=true∨led=false∧¬L.length<1000:=by
     cases led
     ·exact .inr ⟨rfl,fun h=>q3 ⟨rfl,h⟩⟩
     ·exact .inl rfl
    clear q3;rcases HL3 with rfl | ⟨rfl,q3⟩
    ·have hNL:zB_ L N[j].n ⟨j,pe,te,vo,co,ro,log,vs,mt⟩=L:=by rw [HNL.out];simp [q1]
     have HNN:Hid (zB_ L N[j].n ⟨j,pe,te,vo,co,ro,log,vs,mt⟩=L):=hNL;clear hNL HNL;obtain⟨W5,hW5,hC5,Z5⟩:=zi_ W2 Z2 (.slice (some ⟨g,0,none⟩) N.length nc) (.slice ma M.length mc) (.slice ya L.length yc);have hz5:=hC5.size;have hFF:Hid (OwnC W5 lo W5.heap.size (.slice (some ⟨g,0,none⟩) N.length nc) (.slice ma M.length mc) (.slice ya L.length yc) (N.set j ⟨⟨j,pe,te,vo,co,ro,log,vs,mt⟩,la,lc,va,vc,ma2,mc2⟩) M L):=(HA.out.chg hC5 (fun b hb=> .inr (by have hb:b=w.heap.size+1+1:=hb;omega))).hiN (by omega);have hCF:Hid (Chg (fun b=>(.slice (some ⟨g,0,none⟩) N.length nc:Value).ownBlock=some b∨(.slice ya L.length yc:Value).ownBlock=some b) w W5):=HCA.out.nextC hC5 fun k q=> .inr (by have q:k=w.heap.size+1+1:=q;omega);clear hC5 o2 o2l HOV HXP HA HCA;obtain⟨ztl,zz0,zz1,zz2,zf0,zf1,zf2⟩:=Z2.c3f;clear Z2;obtain⟨tl,t0,t1,t2⟩:=Z5.c3;clear Z5;unfold put3 at*;go_wp2;rw [←hW5];exact bodyPost_ret (v:= .agg #[.slice (some ⟨g,0,none⟩) N.length nc,.slice ma M.length mc,.slice ya L.length yc]) (by simp [results,Tryz.results127,go_sem,t0,t1,t2]) rfl ⟨_,rfl,by rw [HNN.out];exact hFF.out,hCF.out⟩
    ·have hNL:zB_ L N[j].n ⟨j,pe,te,vo,co,ro,log,vs,mt⟩=L:=by rw [HNL.out];simp [q1,q3]
     have HNN:Hid (zB_ L N[j].n ⟨j,pe,te,vo,co,ro,log,vs,mt⟩=L):=hNL;clear hNL HNL;obtain⟨W5,hW5,hC5,Z5⟩:=zi_ W2 Z2 (.slice (some ⟨g,0,none⟩) N.length nc) (.slice ma M.length mc) (.slice ya L.length yc);have hz5:=hC5.size;have hFF:Hid (OwnC W5 lo W5.heap.size (.slice (some ⟨g,0,none⟩) N.length nc) (.slice ma M.length mc) (.slice ya L.length yc) (N.set j ⟨⟨j,pe,te,vo,co,ro,log,vs,mt⟩,la,lc,va,vc,ma2,mc2⟩) M L):=(HA.out.chg hC5 (fun b hb=> .inr (by have hb:b=w.heap.size+1+1:=hb;omega))).hiN (by omega);have hCF:Hid (Chg (fun b=>(.slice (some ⟨g,0,none⟩) N.length nc:Value).ownBlock=some b∨(.slice ya L.length yc:Value).ownBlock=some b) w W5):=HCA.out.nextC hC5 fun k q=> .inr (by have q:k=w.heap.size+1+1:=q;omega);clear hC5 o2 o2l HOV HXP HA HCA;obtain⟨ztl,zz0,zz1,zz2,zf0,zf1,zf2⟩:=Z2.c3f;clear Z2;obtain⟨tl,t0,t1,t2⟩:=Z5.c3;clear Z5;unfold put3 at*;go_wp2;rw [←hW5];exact bodyPost_ret (v:= .agg #[.slice (some ⟨g,0,none⟩) N.length nc,.slice ma M.length mc,.slice ya L.length yc]) (by simp [results,Tryz.results127,go_sem,t0,t1,t2]) rfl ⟨_,rfl,by rw [HNN.out];exact hFF.out,hCF.out⟩
  ·have hNL:zB_ L N[j].n ⟨j,pe,te,vo,co,ro,log,vs,mt⟩=L:=by rw [HNL.out];simp [q1]
   have HNN:Hid (zB_ L N[j].n ⟨j,pe,te,vo,co,ro,log,vs,mt⟩=L):=hNL;clear hNL HNL;obtain⟨W5,hW5,hC5,Z5⟩:=zi_ W2 Z2 (.slice (some ⟨g,0,none⟩) N.length nc) (.slice ma M.length mc) (.slice ya L.length yc);have hz5:=hC5.size;have hFF:Hid (OwnC W5 lo W5.heap.size (.slice (some ⟨g,0,none⟩) N.length nc) (.slice ma M.length mc) (.slice ya L.length yc) (N.set j ⟨⟨j,pe,te,vo,co,ro,log,vs,mt⟩,la,lc,va,vc,ma2,mc2⟩) M L):=(HA.out.chg hC5 (fun b hb=> .inr (by have hb:b=w.heap.size+1+1:=hb;omega))).hiN (by omega);have hCF:Hid (Chg (fun b=>(.slice (some ⟨g,0,none⟩) N.length nc:Value).ownBlock=some b∨(.slice ya L.length yc:Value).ownBlock=some b) w W5):=HCA.out.nextC hC5 fun k q=> .inr (by have q:k=w.heap.size+1+1:=q;omega);clear hC5 o2 o2l HOV HXP HA HCA;obtain⟨ztl,zz0,zz1,zz2,zf0,zf1,zf2⟩:=Z2.c3f;clear Z2;obtain⟨tl,t0,t1,t2⟩:=Z5.c3;clear Z5;unfold put3 at*;go_wp2;rw [←hW5];exact bodyPost_ret (v:= .agg #[.slice (some ⟨g,0,none⟩) N.length nc,.slice ma M.length mc,.slice ya L.length yc]) (by simp [results,Tryz.results127,go_sem,t0,t1,t2]) rfl ⟨_,rfl,by rw [HNN.out];exact hFF.out,hCF.out⟩
set_option maxHeartbeats 4000000
theorem lgW_le (P:List En) (es:List En) (ix:Nat):(lgW P ix es).length≤P.length+es.length:=by
 rw [vE_]
 split
 ·simp only [List.length_append,List.length_take,List.length_drop];omega
 ·omega
theorem lgW_mem' {P:List En} {es:List En} {ix:Nat} {e:En} (h:e∈lgW P ix es):e∈P∨e∈es:=by
 rw [vE_] at h
 split at h
 ·rcases List.mem_append.1 h with h | h
  ·exact .inl (List.mem_of_mem_take h)
  ·exact .inr (List.mem_of_mem_drop h)
 ·exact .inl h
structure Bnd (x:Nd):Prop where
 co:0≤x.co
 l:x.log.length≤1048576
 v:x.vs.length≤1048576
 m:x.mt.length≤1048576
 s:∀i (h:i<x.log.length),x.log[i].d.size≤1048576
theorem Gd.vl {x:Nd} (h:Gd x):x.vs.length≤7∧x.mt.length≤7:=by
 have h7:=h.p7;have hin:=ro_in h.ro;by_cases r0:x.ro=0
 ·have:=h.r0 r0;rw [this.1,this.2];simp
 ·by_cases r1:x.ro=1
  ·have:=h.r1 r1;rw [this.2.2.2.2.2];simp;omega
  ·have:=h.r2 (by omega);rw [this.2.2.1];simp;omega
theorem Gd.sz {x:Nd} (h:Gd x):∀e∈x.log,e.d.size≤1048576:=fun e he=>by
 obtain⟨i,hi,rfl⟩:=List.getElem_of_mem he;have:=(xI_ h.lg i hi).1;simp only [yn_,Bool.and_eq_true,decide_eq_true_eq] at this;omega
theorem Gd.bnd {x:Nd} (h:Gd x):Bnd x:=⟨h.c0,by have:=h.ll;omega,by have:=h.vl;omega,by have:=h.vl;omega,fun i hi=>h.sz _ (List.getElem_mem hi)⟩
theorem vbN_bnd {x:Nd} (h:Gd x) (f:Int):Bnd (vbN x f):=by
 have hb:=h.bnd;have hv:=h.vl;have h7:=h.p7;unfold vbN
 split
 ·exact hb
 ·split
  ·exact⟨hb.co,hb.l,by simp [leN],by simp [leN,mtZ];omega,hb.s⟩
  ·exact⟨hb.co,hb.l,by show (putV x.vs f).length≤_;rw [xc_];omega,hb.m,hb.s⟩
theorem hmN_bnd {x:Nd} (h:Gd x) (m:Ms) (ne:m.es.length≤60) (ns:∀e∈m.es,e.d.size≤1048576):Bnd (hmN x m):=by
 have hb:=h.bnd;have hv:=h.vl;have hl:=h.ll;unfold hmN
 split
 ·unfold askN;split <;>exact⟨hb.co,hb.l,hb.v,hb.m,hb.s⟩
 ·split
  ·unfold votN;split
   ·exact vbN_bnd h _
   ·exact hb
  ·split
   ·unfold appN;split
    ·exact hb
    ·split
     ·refine⟨?_,?_,by simp [foN],by simp [foN],fun i hi=> ?_⟩
      ·show 0≤apC x m;unfold apC;have:=h.c0;omega
      ·show (lgW x.log m.ix.toNat m.es).length≤_;have:=lgW_le x.log m.es m.ix.toNat;omega
      ·have:(lgW x.log m.ix.toNat m.es)[i]∈lgW x.log m.ix.toNat m.es:=List.getElem_mem hi;rcases lgW_mem' this with q | q
       ·exact h.sz _ q
       ·exact ns _ q
     ·exact⟨hb.co,hb.l,by simp [foN],by simp [foN],hb.s⟩
   ·unfold tolN;split
    ·exact⟨hb.co,hb.l,hb.v,by simp [tolX];have:=hb.m;omega,hb.s⟩
    ·exact hb
theorem cmN_bnd {x:Nd} (h:Bnd x):(cmN x).log=x.log∧(cmN x).vs=x.vs∧(cmN x).mt=x.mt∧(cmN x).id=x.id∧(cmN x).pe=x.pe∧(cmN x).te=x.te∧(cmN x).vo=x.vo∧(cmN x).ro=x.ro:=by
 unfold cmN;split <;>exact⟨rfl,rfl,rfl,rfl,rfl,rfl,rfl,rfl⟩
theorem to_ (id pe te vo co ro:Int) (la:Option Addr) (lc:Nat) (va:Option Addr) (vc:Nat) (ma:Option Addr) (mc:Nat) (log:List En) (vs mt:List Int) (w:World) (hl:ER w (.slice la log.length lc) log) (hv:IL w (.slice va vs.length vc) vs) (hm:IL w (.slice ma mt.length mc) mt) (hb:Bnd ⟨id,pe,te,vo,co,ro,log,vs,mt⟩) (c2:Int) (hc:c2=(cmN ⟨id,pe,te,vo,co,ro,log,vs,mt⟩).co):
  Calls Tryz.prog 156 #[.agg #[id,pe,te,vo,.slice la log.length lc,co,ro,.slice va vs.length vc,.slice ma mt.length mc]] w fun e w'=>e= .returned (.agg #[id,pe,te,vo,.slice la log.length lc,c2,ro,.slice va vs.length vc,.slice ma mt.length mc])∧Below w.heap.size w w':=by
 by_cases h2:ro=2
 ·subst h2;obtain rfl:c2=zv_ te pe co log mt log.length:=by rw [hc];simp [cmN]
  exact xT_ id pe te vo co _ _ _ log vs mt w hl hv hm hb.l hb.m hb.co
 ·obtain rfl:c2=co:=by rw [hc];simp [cmN,h2]
  exact tn_ id pe te vo c2 ro la lc va vc ma mc log vs mt w h2
set_option maxHeartbeats 64000000
def HmA (w':World) (b0:Nat) (z:Nd) (A:List Ms) (ok:Bool) (e:Ending):Prop:=
 (ok=true∧∃ul uv um ua,e= .returned (.tuple #[.agg #[z.id,z.pe,z.te,z.vo,ul,z.co,z.ro,uv,um],ua,true])∧OwnN w' b0 ul uv um z.log z.vs z.mt∧w'.ownsRow b0 80 9 ua A.length (zW_ (A.map toQ)))∨
 (ok=false∧e= .returned (.tuple #[.agg zN,(),false]))
theorem vT_ (ki:Int) (H:Nat) (k p:Nat) (te vo co ro:Int) (la:Option Addr) (lc:Nat) (va:Option Addr) (vc:Nat) (ma:Option Addr) (mc:Nat) (log:List En) (vs mt:List Int) (f q:Nat) (mte be mco:Int) (ye:Bool) (ea:Option Addr) (ec:Nat) (es:List En) (w:World)
  (KF:∀(args:Array Value) (W:World),(callFunc H args).run Tryz.prog W= .ok (.enter H args) W)
  (KH:∀W,Calls Tryz.prog 155 #[ki] W fun e w'=>e= .returned (.func (.func H) #[] #[])∧Below W.heap.size W w')
  (KX:∀(te vo co ro:Int) (la:Option Addr) (lc:Nat) (va:Option Addr) (vc:Nat) (ma:Option Addr) (mc:Nat) (log:List En) (vs mt:List Int) (base:Nat) (W:World),OwnN W base (.slice la log.length lc) (.slice va vs.length vc) (.slice ma mt.length mc) log vs mt→base≤W.heap.size→ER W (.slice ea es.length ec) es→log.length≤60→(ro=1→vs≠ []∧vs.Pairwise (· ≤ ·)∧vs.length≤7∧¬(p:Int)<2*(vs.length:Int))→(ro=2→f<mt.length)→
   Calls Tryz.prog H #[.agg #[k,p,te,vo,.slice la log.length lc,co,ro,.slice va vs.length vc,.slice ma mt.length mc],.agg #[ki,f,k,mte,q,be,.slice ea es.length ec,mco,ye]] W fun e w'=>HanP W w' base k p te (hmN ⟨k,p,te,vo,co,ro,log,vs,mt⟩ ⟨ki,f,k,mte,q,be,mco,ye,es⟩) (hmA ⟨k,p,te,vo,co,ro,log,vs,mt⟩ ⟨ki,f,k,mte,q,be,mco,ye,es⟩) (hmB ⟨k,p,te,vo,co,ro,log,vs,mt⟩ ⟨ki,f,k,mte,q,be,mco,ye,es⟩) e)
  (hl:ER w (.slice la log.length lc) log) (hv:IL w (.slice va vs.length vc) vs) (hm:IL w (.slice ma mt.length mc) mt) (he:ER w (.slice ea es.length ec) es)
  (sl:Nn (.slice la log.length lc)) (sv:Nn (.slice va vs.length vc)) (sm:Nn (.slice ma mt.length mc))
  (hP:hmP ⟨k,p,te,vo,co,ro,log,vs,mt⟩ ⟨ki,f,k,mte,q,be,mco,ye,es⟩=true) (z:Nd) (hz:z=hmX ⟨k,p,te,vo,co,ro,log,vs,mt⟩ ⟨ki,f,k,mte,q,be,mco,ye,es⟩) (AA:List Ms) (hAA:AA=hmA (hmU ⟨k,p,te,vo,co,ro,log,vs,mt⟩ mte) ⟨ki,f,k,mte,q,be,mco,ye,es⟩) (bb:Bool) (hbb:bb=hmB (hmU ⟨k,p,te,vo,co,ro,log,vs,mt⟩ mte) ⟨ki,f,k,mte,q,be,mco,ye,es⟩) (ok:Bool) (hok:ok=(bb&&gN z)):
  Calls Tryz.prog 130 #[.agg #[k,p,te,vo,.slice la log.length lc,co,ro,.slice va vs.length vc,.slice ma mt.length mc],.agg #[ki,f,k,mte,q,be,.slice ea es.length ec,mco,ye]] w fun e w'=>HmA w' w.heap.size z AA ok e∧Below w.heap.size w w':=by
 have hPq:=hP;simp only [hmP,Bool.and_eq_true,decide_eq_true_eq] at hPq;obtain⟨hGN,hGM,_⟩:=hPq;clear hP;have gx:=Gd.of hGN;obtain⟨_,hm1,_,hm3,hm4,hm5,hm6⟩:=zt_ hGM;dsimp only at hm1 hm3 hm4 hm5 hm6;obtain⟨y,hy⟩:∃y,y=hmU ⟨k,p,te,vo,co,ro,log,vs,mt⟩ mte:=⟨_,rfl⟩;have gy:Gd y:=by rw [hy];exact gx.hmU hm5
 have hid:y.id=(k:Int)∧y.pe=(p:Int):=by rw [hy];exact vH_ _ _
 have HYE:Hid ((⟨k,p,y.te,y.vo,y.co,y.ro,y.log,y.vs,y.mt⟩:Nd)=y):=by
  show _=_;rw [←hid.1,←hid.2]
 have hes:es.length≤60∧∀e∈es,e.d.size≤1048576:=by
  rcases xd_ hm6 with h | h | h | h
  ·subst h;rw [(vk_ hm6).2.1];simp
  ·subst h;rw [(vj_ hm6).2.2.1];simp
  ·subst h;obtain⟨⟨k1,_⟩,k5,k6,_⟩:=xe_ hm6;refine⟨by omega,fun e hh=> ?_⟩;obtain⟨i,hi,rfl⟩:=List.getElem_of_mem hh;have:=(xI_ k6 i hi).1;simp only [yn_,Bool.and_eq_true,decide_eq_true_eq] at this;omega
  ·subst h;rw [(xR_ hm6).2.2.1];simp
 have HLL:y.log.length≤60:=gy.ll;have HASK:Hid (y.ro=1→y.vs≠ []∧y.vs.Pairwise (· ≤ ·)∧y.vs.length≤7∧¬(p:Int)<2*(y.vs.length:Int)):=fun h=>by
  obtain⟨_,_,a,b,c,_⟩:=gy.r1 h;refine⟨fun e=> ?_,(rO_.1 a).2.imp fun {a b} hab=>by omega,gy.vl.1,by rw [←hid.2];exact c⟩;rw [e] at b;simp [hsI] at b
 have HF:Hid (y.ro=2→f<y.mt.length):=fun h=>by
  have:=(gy.r2 h).2.2.2.1;rw [hid.2] at this;have:=hm1.2;omega
 obtain⟨r,hr⟩:∃r,r=hmN y ⟨ki,f,k,mte,q,be,mco,ye,es⟩:=⟨_,rfl⟩;have HR:Hid (hmN y ⟨ki,f,k,mte,q,be,mco,ye,es⟩=r):=hr.symm;have HAA:Hid (hmA y ⟨ki,f,k,mte,q,be,mco,ye,es⟩=AA):=by show _=_;rw [hAA,←hy]
 have HBB:Hid (hmB y ⟨ki,f,k,mte,q,be,mco,ye,es⟩=bb):=by show _=_;rw [hbb,←hy]
 have hzr:z=cmN r:=by rw [hz];unfold hmX;rw [hr,hy]
 have hrid:r.id=(k:Int)∧r.pe=(p:Int)∧r.te=y.te:=by rw [hr];have:=ul_ y ⟨ki,f,k,mte,q,be,mco,ye,es⟩;rw [hid.1,hid.2] at this;exact this
 have hbr:Bnd r:=by rw [hr];exact hmN_bnd gy _ hes.1 hes.2
 have HRE:Hid ((⟨k,p,y.te,r.vo,r.co,r.ro,r.log,r.vs,r.mt⟩:Nd)=r):=by
  show _=_;rw [←hrid.1,←hrid.2.1,←hrid.2.2]
 have hcz:=cmN_bnd hbr;rw [←hzr] at hcz;have ns1:=gx.bnd.s;have hll:=gx.ll;have hvl:=gx.vl;dsimp only at ns1 hll hvl;have ns2:∀i (h:i<es.length),es[i].d.size≤1048576:=fun i h=>hes.2 _ (List.getElem_mem h);have hHB:Hid (Bnd r):=hbr;have hHZ:Hid (z=cmN r):=hzr;have hHC:Hid ((z.log=r.log∧z.vs=r.vs∧z.mt=r.mt∧z.id=r.id∧z.pe=r.pe∧z.te=r.te∧z.vo=r.vo∧z.ro=r.ro)∧r.id=(k:Int)∧r.pe=(p:Int)∧r.te=y.te):=⟨hcz,hrid⟩;have hHO:Hid (ok=(bb&&gN z)):=hok;have nes:es.length≤60:=hes.1;clear gx gy hid hes hr hAA hbb hz hzr hrid hbr hcz hok hm1 hm3 hm4 hm5 hm6;obtain⟨W0,hW0,hB,X,M,R,hz0⟩:=al3 w [k,p,te,vo,.slice la log.length lc,co,ro,.slice va vs.length vc,.slice ma mt.length mc] 42 [ki,f,k,mte,q,be,.slice ea es.length ec,mco,ye] 80 zN 42;have K1:=zM_ k p te vo co ro _ _ _ log vs mt W0 (hl.below hB) (hv.below hB) (hm.below hB) (by omega) (by omega) (by omega) ns1;rw [show zm_ k p te vo co ro log vs mt=true from hGN] at K1;have K2:=fun W (h:Below w.heap.size w W)=>vm_ p ki f k mte q be mco ye _ es W (he.below h) (by omega) ns2;rw [show xg_ p ki f k mte q be mco ye es=true from hGM] at K2;have K3:=fun W (h:Below w.heap.size w W)=>yK_ k p te vo co ro _ _ _ log vs mt W (hl.below h) (hv.below h) (hm.below h) sl sv sm (by omega) (by omega) (by omega);clear hGN hGM ns1 ns2 hl hv hm sl sv sm;obtain⟨xl,x0,x1,x2,x3,x4,x5,x6,x7,x8⟩:=X.e9;obtain⟨ml,m0,m1,m2,m3,m4,m5,m6,m7,m8⟩:=M.e9;go_enter Tryz.func130,Tryz.ntmps130;go_wp2_with fail;rw [←hW0];clear hW0;refine K1.mono ?_;rintro e w1 ⟨rfl,hb⟩;replace X:=X.below hb;replace M:=M.below hb;replace R:=R.below hb;replace hB:=za_ hB hb;have hz1:=hb.size;clear K1 hb xl x0 x1 x2 x3 x4 x5 x6 x7 x8 ml m0 m1 m2 m3 m4 m5 m6 m7 m8;obtain⟨xl,x0,x1,x2,x3,x4,x5,x6,x7,x8⟩:=X.e9;obtain⟨ml,m0,m1,m2,m3,m4,m5,m6,m7,m8⟩:=M.e9;go_wp2_with fail;refine (K2 _ hB).mono ?_;rintro e w1b ⟨rfl,hb⟩;replace X:=X.below hb;replace M:=M.below hb;replace R:=R.below hb;replace hB:=za_ hB hb;have hz1b:=hb.size;clear K2 hb xl x0 x1 x2 x3 x4 x5 x6 x7 x8 ml m0 m1 m2 m3 m4 m5 m6 m7 m8;obtain⟨xl,x0,x1,x2,x3,x4,x5,x6,x7,x8⟩:=X.e9;obtain⟨ml,m0,m1,m2,m3,m4,m5,m6,m7,m8⟩:=M.e9;go_wp2_with fail;refine (K3 _ hB).mono ?_;rintro e w2 ⟨u1,u2,u3,rfl,O,hb⟩;replace X:=X.below hb;replace M:=M.below hb;replace R:=R.below hb;have hz2:=hb.size;replace O:=O.mono (base':=w.heap.size+1+1+1) (by omega);replace hB:=za_ hB hb;clear K3 hb xl x0 x1 x2 x3 x4 x5 x6 x7 x8 ml m0 m1 m2 m3 m4 m5 m6 m7 m8;have gO:=fun b hb=>(O.lt b hb).1;obtain⟨⟨ua,uc,rfl⟩,⟨pa,pc,rfl⟩,qa,qc,rfl⟩:=O.shapes;obtain⟨hxl,x0,x1,x2,x3,x4,x5,x6,x7,x8⟩:=X.e9;obtain⟨e0,e1,e2,e3,e4,e5,e6,e7,e8⟩:=X.f9;go_upto_region 4 with fail;obtain⟨W3,hW3,hC,put_⟩:=zj_ w2 X k p te vo (.slice ua log.length uc) co ro (.slice pa vs.length pc) (.slice qa mt.length qc);clear X;have X:=put_;clear put_;replace M:=hC.box M (by omega);replace R:=hC.box R (by omega);replace O:=O.chg hC (fun b hb hh=>by have h8:=gO b hb;have hh:b=w.heap.size:=hh;omega);replace hB:=hB.trans (hC.b1 hB.size (by omega));have hzW3:w2.heap.size≤W3.heap.size:=hC.size;unfold put9 at hW3;rw [←hW3];clear hW3 hC;clear hxl x0 x1 x2 x3 x4 x5 x6 x7 x8 e0 e1 e2 e3 e4 e5 e6 e7 e8 gO;obtain⟨hxl,x0,x1,x2,x3,x4,x5,x6,x7,x8⟩:=X.e9;obtain⟨ml,m0,m1,m2,m3,m4,m5,m6,m7,m8⟩:=M.e9;go_upto_if 33 with fail
 go_cut [] from 9 (fun w2=>∃(l1:Option Addr) (l2:Nat) (l3:Option Addr) (l4:Nat) (l5:Option Addr) (l6:Nat),Box w2 w.heap.size [k,p,y.te,y.vo,.slice l1 y.log.length l2,y.co,y.ro,.slice l3 y.vs.length l4,.slice l5 y.mt.length l6]∧Box w2 (w.heap.size+1) [ki,f,k,mte,q,be,.slice ea es.length ec,mco,ye]∧Box w2 (w.heap.size+1+1) zN∧OwnN w2 (w.heap.size+1+1+1) (.slice l1 y.log.length l2) (.slice l3 y.vs.length l4) (.slice l5 y.mt.length l6) y.log y.vs y.mt∧Below w.heap.size w w2)
 case first=>
  clear KF KH KX he HYE HLL HASK HF HR HAA HBB hHB hHZ hHC hHO HRE;by_cases hlt:te<mte
  ·obtain rfl:y=⟨k,p,mte,-1,co,0,log,[],[]⟩:=by rw [hy];simp [hmU,upN,hlt]
   clear hy;go_wp2_with fail;refine (yU_ k p te vo co ro _ _ _ ua log.length uc rfl _ ⟨_,_,_,rfl⟩ ⟨_,_,_,rfl⟩).mono ?_;rintro e w4 ⟨rfl,hb⟩;replace X:=X.below hb;replace M:=M.below hb;replace R:=R.below hb;replace O:=O.below hb;have hz4:=hb.size;replace hB:=za_ hB hb;clear hb ml m0 m1 m2 m3 m4 m5 m6 m7 m8 hxl x0 x1 x2 x3 x4 x5 x6 x7 x8;have OF:OwnN w4 (w.heap.size+1+1+1) (.slice ua log.length uc) (.slice none 0 0) (.slice none 0 0) log [] []:=⟨O.l,World.ownsRow_nil _ _ _ _,World.ownsRow_nil _ _ _ _,fun g hg=>by simp [Value.ownBlock] at hg⟩;clear O;have O:=OF;have gO:=fun b hb=>(O.lt b hb).1;obtain⟨hxl,x0,x1,x2,x3,x4,x5,x6,x7,x8⟩:=X.e9;obtain⟨e0,e1,e2,e3,e4,e5,e6,e7,e8⟩:=X.f9;go_upto_region 6 with fail;obtain⟨W5,hW5,hC,put_⟩:=zj_ w4 X k p te vo (.slice ua log.length uc) co (0:Int) () ();clear X;have X:=put_;clear put_;replace M:=hC.box M (by omega);replace R:=hC.box R (by omega);replace O:=O.chg hC (fun b hb hh=>by have h8:=gO b hb;have hh:b=w.heap.size:=hh;omega);replace hB:=hB.trans (hC.b1 hB.size (by omega));have hzW5:w4.heap.size≤W5.heap.size:=hC.size;unfold put9 at hW5;rw [←hW5];clear hW5 hC;clear hxl x0 x1 x2 x3 x4 x5 x6 x7 x8 e0 e1 e2 e3 e4 e5 e6 e7 e8;obtain⟨hxl,x0,x1,x2,x3,x4,x5,x6,x7,x8⟩:=X.e9;obtain⟨e0,e1,e2,e3,e4,e5,e6,e7,e8⟩:=X.f9;obtain⟨ml,m0,m1,m2,m3,m4,m5,m6,m7,m8⟩:=M.e9;have hC:Chg (fun k=>k=w.heap.size) W5 ((W5.setCell ⟨w.heap.size,2,none⟩ (.int .i64 mte)).setCell ⟨w.heap.size,3,none⟩ (.int .i64 (-1))):=Chg.setCell (S:=fun k=>k=w.heap.size) (Chg.setCell (S:=fun k=>k=w.heap.size) (Chg.refl _ _) rfl _) rfl _;have X6:Box ((W5.setCell ⟨w.heap.size,2,none⟩ (.int .i64 mte)).setCell ⟨w.heap.size,3,none⟩ (.int .i64 (-1))) w.heap.size [k,p,mte,(-1:Int),.slice ua log.length uc,co,(0:Int),(),()]:=(X.set 2 _ (by simp)).set 3 _ (by simp);have M6:=hC.box M (by omega);have R6:=hC.box R (by omega);have O6:=O.chg hC (fun b hb hh=>by have h8:=gO b hb;have hh:b=w.heap.size:=hh;omega);have B6:=hB.trans (hC.b1 hB.size (by omega));clear X M R O hB hC gO;go_wp2_with fail;go_meet
   case rel=>exact⟨_,_,_,_,_,_,X6,M6,R6,O6,B6⟩
  ·obtain rfl:y=⟨k,p,te,vo,co,ro,log,vs,mt⟩:=by rw [hy];simp [hmU,hlt]
   clear hy;go_wp2_with fail;go_meet
   case rel=>exact⟨_,_,_,_,_,_,X,M,R,O,hB⟩
 case rest=>
  clear X M R O hB hxl x0 x1 x2 x3 x4 x5 x6 x7 x8 ml m0 m1 m2 m3 m4 m5 m6 m7 m8;obtain⟨l1,l2,l3,l4,l5,l6,X,M,R,O,hB⟩:=hcut;have hzw:=hB.size;have hxw:=X.1;have hrw:=R.1;go_upto_region 8 with fail
  go_cut [7,8] from 9 (fun s7 s8 w3=>∃(q1:Option Addr) (q2:Nat) (r1:Option Addr) (r2:Nat) (r3:Option Addr) (r4:Nat) (r5:Option Addr) (r6:Nat),s7= .slice q1 AA.length q2∧s8= .bool bb∧Box w3 w.heap.size [k,p,y.te,r.vo,.slice r1 r.log.length r2,r.co,r.ro,.slice r3 r.vs.length r4,.slice r5 r.mt.length r6]∧Box w3 (w.heap.size+1+1) zN∧OwnN w3 (w.heap.size+1+1+1) (.slice r1 r.log.length r2) (.slice r3 r.vs.length r4) (.slice r5 r.mt.length r6) r.log r.vs r.mt∧w3.ownsRow (w.heap.size+1+1+1) 80 9 (.slice q1 AA.length q2) AA.length (zW_ (AA.map toQ))∧Below w.heap.size w w3)
  case first=>
   clear hy hHB hHZ hHC hHO HRE;have hD:Below wc.heap.size wc wc.drew:=(Below.refl _ _).drew;replace X:=X.below hD;replace M:=M.below hD;replace R:=R.below hD;replace O:=O.below hD;have heD:=he.below (za_ hB hD);replace hB:=za_ hB hD;have hzD:wc.heap.size≤wc.drew.heap.size:=hD.size;clear hD;refine wp_region_held_drew (S:=(fun w'=>Box w' (w.heap.size+1) [ki,f,k,mte,q,be,.slice ea es.length ec,mco,ye])) (by kernel_rfl) M (fun zc_=> ?_);generalize wc.drew=va at*;refine tkH 0 (.pointer (some ⟨w.heap.size+1,0,none⟩)) rfl ?_ ?_
   ·intro wx hSw;clear hSw zc_;go_simp
   simp only [Act.put,sA_,sB_,sC_];refine tkH 1 (.int .i64 ki) rfl ?_ ?_
   ·intro wx hSw;have hSw:Box wx (w.heap.size+1) [ki,f,k,mte,q,be,.slice ea es.length ec,mco,ye]:=hSw;have e:=hSw.2.1 0 _ rfl;clear zc_ hSw;go_simp
   simp only [Act.put,sA_,sB_,sC_];refine tkH 4 (.agg #[ki,f,k,mte,q,be,.slice ea es.length ec,mco,ye]) rfl ?_ ?_
   ·intro wx hSw;have hSw:Box wx (w.heap.size+1) [ki,f,k,mte,q,be,.slice ea es.length ec,mco,ye]:=hSw;obtain⟨sl,s0,s1,s2,s3,s4,s5,s6,s7,s8⟩:=hSw.e9;clear zc_ hSw;go_simp
   simp only [Act.put,sA_,sB_,sC_];refine rd2 2 3 rfl rfl (fun K hK=> ?_) (fun K hK=> ?_)
   ·clear zc_;go_simp;refine (KH va).mono ?_;rintro e vb ⟨rfl,hb⟩;replace X:=X.below hb;replace M:=M.below hb;replace R:=R.below hb;replace O:=O.below hb;replace heD:=heD.below hb;replace hB:=za_ hB hb;have hzb:=hb.size;clear hb;refine hK.out _ vb M (fun zc_=> ?_);clear hK K
    try (simp only [Act.put,sA_,sB_,sC_])
    refine rd1 3 rfl (fun K hK=> ?_);clear zc_;obtain⟨xl,x0,x1,x2,x3,x4,x5,x6,x7,x8⟩:=X.e9;go_simp;refine hK.out _ vb M (fun zc_=> ?_);clear hK K xl x0 x1 x2 x3 x4 x5 x6 x7 x8
    try (simp only [Act.put,sA_,sB_,sC_])
    refine rd1 5 rfl (fun K hK=> ?_);clear zc_;go_simp
    try (simp only [KF,Oper.upon_enter])
    have KY:=KX y.te y.vo y.co y.ro _ _ _ _ _ _ y.log y.vs y.mt (w.heap.size+1+1+1) vb O (by omega) heD HLL HASK.out HF.out;rw [HYE.out,HR.out,HAA.out,HBB.out] at KY;refine KY.mono ?_;rintro e vc' ⟨ul,uv,um,ua,rfl,O2,OA,hb⟩;clear KY O heD;replace X:=X.under hb (by omega);replace M:=M.under hb (by omega);replace R:=R.under hb (by omega);have hzc:=hb.size;replace hB:=hB.trans (hb.mono (by omega));clear hb;obtain⟨⟨r1,r2,rfl⟩,⟨r3,r4,rfl⟩,r5,r6,rfl⟩:=O2.shapes;obtain⟨q1,q2,rfl⟩:=ze_ OA;refine hK.out _ vc' M (fun zc_=> ?_);clear hK K
    try (simp only [Act.put,sA_,sB_,sC_])
    refine tkH 6 (.tuple #[.agg #[k,p,y.te,r.vo,.slice r1 r.log.length r2,r.co,r.ro,.slice r3 r.vs.length r4,.slice r5 r.mt.length r6],.slice q1 AA.length q2,bb]) rfl ?_ ?_
    ·intro wx hSw;clear hSw zc_;go_simp
    simp only [Act.put,sA_,sB_,sC_];refine tkH 7 (.agg #[k,p,y.te,r.vo,.slice r1 r.log.length r2,r.co,r.ro,.slice r3 r.vs.length r4,.slice r5 r.mt.length r6]) rfl ?_ ?_
    ·intro wx hSw;clear hSw zc_;go_simp
    simp only [Act.put,sA_,sB_,sC_];refine tkH 8 (.slice q1 AA.length q2) rfl ?_ ?_
    ·intro wx hSw;clear hSw zc_;go_simp
    simp only [Act.put,sA_,sB_,sC_];refine tkH 9 (.bool bb) rfl ?_ ?_
    ·intro wx hSw;clear hSw zc_;go_simp
    simp only [Act.put,sA_,sB_,sC_];refine rd1 10 rfl (fun K hK=> ?_);clear zc_;have gO:=fun b hb=>(O2.lt b hb).1;have gA:=zg_ OA;obtain⟨e0,e1,e2,e3,e4,e5,e6,e7,e8⟩:=X.f9;obtain⟨W8,hW8⟩:∃W,W=put9 vc' w.heap.size (.int .i64 k) (.int .i64 p) (.int .i64 y.te) (.int .i64 r.vo) (.slice r1 r.log.length r2) (.int .i64 r.co) (.int .i64 r.ro) (.slice r3 r.vs.length r4) (.slice r5 r.mt.length r6):=⟨_,rfl⟩;have hC:Chg (· =w.heap.size) vc' W8:=by rw [hW8];exact zk_ _ _ _ _ _ _ _ _ _ _ _
    have X2:Box W8 w.heap.size [k,p,y.te,r.vo,.slice r1 r.log.length r2,r.co,r.ro,.slice r3 r.vs.length r4,.slice r5 r.mt.length r6]:=by rw [hW8];exact zl_ X _ _ _ _ _ _ _ _ _
    replace M:=hC.box M (by omega);replace R:=hC.box R (by omega);replace O2:=O2.chg hC (fun b hb hh=>by have h8:=gO b hb;have hh:b=w.heap.size:=hh;omega);replace OA:=hC.owns OA (fun b hb hh=>by have h8:=gA b hb;have hh:b=w.heap.size:=hh;omega);replace hB:=hB.trans (hC.b1 hB.size (by omega));obtain⟨hxl,x0,x1,x2,x3,x4,x5,x6,x7,x8⟩:=X.e9;unfold put9 at hW8;go_simp;rw [←hW8];clear hW8 hC hxl x0 x1 x2 x3 x4 x5 x6 x7 x8 X e0 e1 e2 e3 e4 e5 e6 e7 e8;refine hK.out _ W8 M (fun zc_=> ?_);clear hK K
    try (simp only [Act.put,sA_,sB_,sC_])
    refine tkH 11 (.slice q1 AA.length q2) rfl ?_ ?_
    ·intro wx hSw;clear hSw zc_;go_simp
    simp only [Act.put,sA_,sB_,sC_];refine tkH 12 (.bool bb) rfl ?_ ?_
    ·intro wx hSw;clear hSw zc_;go_simp
    simp only [Act.put,sA_,sB_,sC_];clear zc_;refine wpAnyH_done (by kernel_rfl) ?_ _;go_wp2_with fail;go_meet
    case rel=>exact⟨_,_,_,_,_,_,_,_,rfl,rfl,X2,R,O2,OA,hB⟩
   ·clear zc_;obtain⟨xl,x0,x1,x2,x3,x4,x5,x6,x7,x8⟩:=X.e9;go_simp;refine hK.out _ va M (fun zc_=> ?_);clear hK K xl x0 x1 x2 x3 x4 x5 x6 x7 x8
    try (simp only [Act.put,sA_,sB_,sC_])
    refine rd1 2 rfl (fun K hK=> ?_);clear zc_;go_simp;refine (KH va).mono ?_;rintro e vb ⟨rfl,hb⟩;replace X:=X.below hb;replace M:=M.below hb;replace R:=R.below hb;replace O:=O.below hb;replace heD:=heD.below hb;replace hB:=za_ hB hb;have hzb:=hb.size;clear hb;refine hK.out _ vb M (fun zc_=> ?_);clear hK K
    try (simp only [Act.put,sA_,sB_,sC_])
    refine rd1 5 rfl (fun K hK=> ?_);clear zc_;go_simp
    try (simp only [KF,Oper.upon_enter])
    have KY:=KX y.te y.vo y.co y.ro _ _ _ _ _ _ y.log y.vs y.mt (w.heap.size+1+1+1) vb O (by omega) heD HLL HASK.out HF.out;rw [HYE.out,HR.out,HAA.out,HBB.out] at KY;refine KY.mono ?_;rintro e vc' ⟨ul,uv,um,ua,rfl,O2,OA,hb⟩;clear KY O heD;replace X:=X.under hb (by omega);replace M:=M.under hb (by omega);replace R:=R.under hb (by omega);have hzc:=hb.size;replace hB:=hB.trans (hb.mono (by omega));clear hb;obtain⟨⟨r1,r2,rfl⟩,⟨r3,r4,rfl⟩,r5,r6,rfl⟩:=O2.shapes;obtain⟨q1,q2,rfl⟩:=ze_ OA;refine hK.out _ vc' M (fun zc_=> ?_);clear hK K
    try (simp only [Act.put,sA_,sB_,sC_])
    refine tkH 6 (.tuple #[.agg #[k,p,y.te,r.vo,.slice r1 r.log.length r2,r.co,r.ro,.slice r3 r.vs.length r4,.slice r5 r.mt.length r6],.slice q1 AA.length q2,bb]) rfl ?_ ?_
    ·intro wx hSw;clear hSw zc_;go_simp
    simp only [Act.put,sA_,sB_,sC_];refine tkH 7 (.agg #[k,p,y.te,r.vo,.slice r1 r.log.length r2,r.co,r.ro,.slice r3 r.vs.length r4,.slice r5 r.mt.length r6]) rfl ?_ ?_
    ·intro wx hSw;clear hSw zc_;go_simp
    simp only [Act.put,sA_,sB_,sC_];refine tkH 8 (.slice q1 AA.length q2) rfl ?_ ?_
    ·intro wx hSw;clear hSw zc_;go_simp
    simp only [Act.put,sA_,sB_,sC_];refine tkH 9 (.bool bb) rfl ?_ ?_
    ·intro wx hSw;clear hSw zc_;go_simp
    simp only [Act.put,sA_,sB_,sC_];refine rd1 10 rfl (fun K hK=> ?_);clear zc_;have gO:=fun b hb=>(O2.lt b hb).1;have gA:=zg_ OA;obtain⟨e0,e1,e2,e3,e4,e5,e6,e7,e8⟩:=X.f9;obtain⟨W8,hW8⟩:∃W,W=put9 vc' w.heap.size (.int .i64 k) (.int .i64 p) (.int .i64 y.te) (.int .i64 r.vo) (.slice r1 r.log.length r2) (.int .i64 r.co) (.int .i64 r.ro) (.slice r3 r.vs.length r4) (.slice r5 r.mt.length r6):=⟨_,rfl⟩;have hC:Chg (· =w.heap.size) vc' W8:=by rw [hW8];exact zk_ _ _ _ _ _ _ _ _ _ _ _
    have X2:Box W8 w.heap.size [k,p,y.te,r.vo,.slice r1 r.log.length r2,r.co,r.ro,.slice r3 r.vs.length r4,.slice r5 r.mt.length r6]:=by rw [hW8];exact zl_ X _ _ _ _ _ _ _ _ _
    replace M:=hC.box M (by omega);replace R:=hC.box R (by omega);replace O2:=O2.chg hC (fun b hb hh=>by have h8:=gO b hb;have hh:b=w.heap.size:=hh;omega);replace OA:=hC.owns OA (fun b hb hh=>by have h8:=gA b hb;have hh:b=w.heap.size:=hh;omega);replace hB:=hB.trans (hC.b1 hB.size (by omega));obtain⟨hxl,x0,x1,x2,x3,x4,x5,x6,x7,x8⟩:=X.e9;unfold put9 at hW8;go_simp;rw [←hW8];clear hW8 hC hxl x0 x1 x2 x3 x4 x5 x6 x7 x8 X e0 e1 e2 e3 e4 e5 e6 e7 e8;refine hK.out _ W8 M (fun zc_=> ?_);clear hK K
    try (simp only [Act.put,sA_,sB_,sC_])
    refine tkH 11 (.slice q1 AA.length q2) rfl ?_ ?_
    ·intro wx hSw;clear hSw zc_;go_simp
    simp only [Act.put,sA_,sB_,sC_];refine tkH 12 (.bool bb) rfl ?_ ?_
    ·intro wx hSw;clear hSw zc_;go_simp
    simp only [Act.put,sA_,sB_,sC_];clear zc_;refine wpAnyH_done (by kernel_rfl) ?_ _;go_wp2_with fail;go_meet
    case rel=>exact⟨_,_,_,_,_,_,_,_,rfl,rfl,X2,R,O2,OA,hB⟩
  case rest=>
   clear X M R O hB hzw hxw hrw KF KH KX he hy HYE HASK HF HR HAA HBB;obtain⟨q1,q2,r1,r2,r3,r4,r5,r6,rfl,rfl,X,R,O,OA,hB⟩:=hcut;have hzw:=hB.size;have hxw:=X.1;have hrw:=R.1;have gO:=fun b hb=>(O.lt b hb).1;have gA:=zg_ OA;have KC:=fun W (h1:ER W (.slice r1 r.log.length r2) r.log) h2 h3=>to_ k p y.te r.vo r.co r.ro r1 r2 r3 r4 r5 r6 r.log r.vs r.mt W h1 h2 h3 (by rw [HRE.out];exact hHB.out) z.co (by rw [HRE.out,←hHZ.out]);obtain⟨hxl,x0,x1,x2,x3,x4,x5,x6,x7,x8⟩:=X.e9;go_wp2_with fail;refine (KC _ O.er O.iv O.im).mono ?_;rintro e w9 ⟨rfl,hb⟩;clear KC;replace X:=X.below hb;replace R:=R.below hb;replace O:=O.below hb;replace OA:=zd_ OA hb;have hz9:=hb.size;replace hB:=za_ hB hb;clear hb hxl x0 x1 x2 x3 x4 x5 x6 x7 x8;obtain⟨hxl,x0,x1,x2,x3,x4,x5,x6,x7,x8⟩:=X.e9;obtain⟨e0,e1,e2,e3,e4,e5,e6,e7,e8⟩:=X.f9;go_upto_region 10 with fail;obtain⟨W10,hW10,hC,put_⟩:=zj_ w9 X k p y.te r.vo (.slice r1 r.log.length r2) z.co r.ro (.slice r3 r.vs.length r4) (.slice r5 r.mt.length r6);clear X;have X:=put_;clear put_;replace R:=hC.box R (by omega);replace O:=O.chg hC (fun b hb hh=>by have h8:=gO b hb;have hh:b=w.heap.size:=hh;omega);replace hB:=hB.trans (hC.b1 hB.size (by omega));replace OA:=hC.owns OA (fun b hb hh=>by have h8:=gA b hb;have hh:b=w.heap.size:=hh;omega);have hzW10:w9.heap.size≤W10.heap.size:=hC.size;unfold put9 at hW10;rw [←hW10];clear hW10 hC;clear hxl x0 x1 x2 x3 x4 x5 x6 x7 x8 e0 e1 e2 e3 e4 e5 e6 e7 e8;obtain⟨hxl,x0,x1,x2,x3,x4,x5,x6,x7,x8⟩:=X.e9;have hg:zm_ k p y.te r.vo z.co r.ro r.log r.vs r.mt=gN z:=by
    obtain⟨⟨h1,h2,h3,h4,h5,h6,h7,h8⟩,h9,h10,h11⟩:=hHC.out;unfold gN;rw [h1,h2,h3,h4,h5,h6,h7,h8,h9,h10,h11]
   have KG:=fun W (h1:ER W (.slice r1 r.log.length r2) r.log) h2 h3=>zM_ k p y.te r.vo z.co r.ro (.slice r1 r.log.length r2) (.slice r3 r.vs.length r4) (.slice r5 r.mt.length r6) r.log r.vs r.mt W h1 h2 h3 hHB.out.l hHB.out.v hHB.out.m hHB.out.s;rw [hg] at KG;clear hg;have hoq:=hHO.out
   cases bb with
   | false=>
    replace hoq:ok=false:=hoq;clear KG;go_upto_region 11 with fail;have hC:=zk_ W10 (w.heap.size+1+1) (0:Int) (0:Int) (0:Int) (0:Int) () (0:Int) (0:Int) () ();have Z:=zl_ R (0:Int) (0:Int) (0:Int) (0:Int) () (0:Int) (0:Int) () ();have hBE:=hB.trans (hC.b1 hB.size (by omega));obtain⟨rl,y0,y1,y2,y3,y4,y5,y6,y7,y8⟩:=R.e9;obtain⟨f0,f1,f2,f3,f4,f5,f6,f7,f8⟩:=R.f9;clear hC X R hB O OA gO gA hHC hHO hHZ hHB HRE;obtain⟨tl,t0,t1,t2,t3,t4,t5,t6,t7,t8⟩:=Z.e9;clear Z;unfold put9 at*;go_wp2;exact bodyPost_ret (v:= .tuple #[.agg zN,(),false]) (by simp [results,Tryz.results130,go_sem,t0,t1,t2,t3,t4,t5,t6,t7,t8]) rfl ⟨.inr ⟨hoq,rfl⟩,hBE⟩
   | true=>
    replace hoq:ok=gN z:=by rw [hoq];rfl
    generalize gN z=gz at*;go_wp2_with fail;refine (KG _ O.er O.iv O.im).mono ?_;rintro e w11 ⟨rfl,hb⟩;clear KG;replace X:=X.below hb;replace R:=R.below hb;replace O:=O.below hb;replace OA:=zd_ OA hb;have hz11:=hb.size;replace hB:=za_ hB hb;clear hb hxl x0 x1 x2 x3 x4 x5 x6 x7 x8
    cases gz with
    | false=>
     go_upto_region 11 with fail;have hC:=zk_ w11 (w.heap.size+1+1) (0:Int) (0:Int) (0:Int) (0:Int) () (0:Int) (0:Int) () ();have Z:=zl_ R (0:Int) (0:Int) (0:Int) (0:Int) () (0:Int) (0:Int) () ();have hBE:=hB.trans (hC.b1 hB.size (by omega));obtain⟨rl,y0,y1,y2,y3,y4,y5,y6,y7,y8⟩:=R.e9;obtain⟨f0,f1,f2,f3,f4,f5,f6,f7,f8⟩:=R.f9;clear hC X R hB O OA gO gA hHC hHO hHZ hHB HRE;obtain⟨tl,t0,t1,t2,t3,t4,t5,t6,t7,t8⟩:=Z.e9;clear Z;unfold put9 at*;go_wp2;exact bodyPost_ret (v:= .tuple #[.agg zN,(),false]) (by simp [results,Tryz.results130,go_sem,t0,t1,t2,t3,t4,t5,t6,t7,t8]) rfl ⟨.inr ⟨hoq,rfl⟩,hBE⟩
    | true=>
     go_upto_region 12 with fail;have hC:=zk_ w11 (w.heap.size+1+1) k p y.te r.vo (.slice r1 r.log.length r2) z.co r.ro (.slice r3 r.vs.length r4) (.slice r5 r.mt.length r6);have Z:=zl_ R k p y.te r.vo (.slice r1 r.log.length r2) z.co r.ro (.slice r3 r.vs.length r4) (.slice r5 r.mt.length r6);have hBE:=hB.trans (hC.b1 hB.size (by omega));have OE:=(O.chg hC (fun b hb hh=>by have h8:=gO b hb;have hh:b=w.heap.size+1+1:=hh;omega)).mono (base':=w.heap.size) (by omega);have OAE:=zf_ (hC.owns OA (fun b hb hh=>by have h8:=gA b hb;have hh:b=w.heap.size+1+1:=hh;omega)) (show w.heap.size≤w.heap.size+1+1+1 by omega);obtain⟨hxl,x0,x1,x2,x3,x4,x5,x6,x7,x8⟩:=X.e9;obtain⟨rl,y0,y1,y2,y3,y4,y5,y6,y7,y8⟩:=R.e9;obtain⟨f0,f1,f2,f3,f4,f5,f6,f7,f8⟩:=R.f9;clear hC X R hB O OA gO gA hHO hHZ hHB HRE;obtain⟨tl,t0,t1,t2,t3,t4,t5,t6,t7,t8⟩:=Z.e9;clear Z;have HOE:Hid (OwnN (put9 w11 (w.heap.size+1+1) (.int .i64 k) (.int .i64 p) (.int .i64 y.te) (.int .i64 r.vo) (.slice r1 r.log.length r2) (.int .i64 z.co) (.int .i64 r.ro) (.slice r3 r.vs.length r4) (.slice r5 r.mt.length r6)) w.heap.size (.slice r1 r.log.length r2) (.slice r3 r.vs.length r4) (.slice r5 r.mt.length r6) r.log r.vs r.mt):=OE;have HOA:Hid (World.ownsRow (put9 w11 (w.heap.size+1+1) (.int .i64 k) (.int .i64 p) (.int .i64 y.te) (.int .i64 r.vo) (.slice r1 r.log.length r2) (.int .i64 z.co) (.int .i64 r.ro) (.slice r3 r.vs.length r4) (.slice r5 r.mt.length r6)) w.heap.size 80 9 (.slice q1 AA.length q2) AA.length (zW_ (AA.map toQ))):=OAE;have HBE:Hid (Below w.heap.size w (put9 w11 (w.heap.size+1+1) (.int .i64 k) (.int .i64 p) (.int .i64 y.te) (.int .i64 r.vo) (.slice r1 r.log.length r2) (.int .i64 z.co) (.int .i64 r.ro) (.slice r3 r.vs.length r4) (.slice r5 r.mt.length r6))):=hBE;clear OE OAE hBE;unfold put9 at*;go_wp2;refine bodyPost_ret (v:= .tuple #[.agg #[k,p,y.te,r.vo,.slice r1 r.log.length r2,z.co,r.ro,.slice r3 r.vs.length r4,.slice r5 r.mt.length r6],.slice q1 AA.length q2,true]) (by simp [results,Tryz.results130,go_sem,t0,t1,t2,t3,t4,t5,t6,t7,t8]) rfl ⟨.inl ⟨hoq,?_⟩,HBE.out⟩;obtain⟨⟨h1,h2,h3,h4,h5,h6,h7,h8⟩,h9,h10,h11⟩:=hHC.out;rw [h1,h2,h3,h4,h5,h6,h7,h8,h9,h10,h11];exact⟨_,_,_,_,rfl,HOE.out,HOA.out⟩
set_option maxHeartbeats 200000
theorem pF_ (args:Array Value) (W:World):(callFunc 171 args).run Tryz.prog W= .ok (.enter 171 args) W:=by simp [go_sem]
theorem pE_ (args:Array Value) (W:World):(callFunc 172 args).run Tryz.prog W= .ok (.enter 172 args) W:=by simp [go_sem]
theorem pD_ (args:Array Value) (W:World):(callFunc 173 args).run Tryz.prog W= .ok (.enter 173 args) W:=by simp [go_sem]
theorem pC_ (args:Array Value) (W:World):(callFunc 174 args).run Tryz.prog W= .ok (.enter 174 args) W:=by simp [go_sem]
theorem qj_ (ki:Int) (k p:Nat) (te vo co ro:Int) (la:Option Addr) (lc:Nat) (va:Option Addr) (vc:Nat) (ma:Option Addr) (mc:Nat) (log:List En) (vs mt:List Int) (f q:Nat) (mte be mco:Int) (ye:Bool) (ea:Option Addr) (ec:Nat) (es:List En) (w:World)
  (hl:ER w (.slice la log.length lc) log) (hv:IL w (.slice va vs.length vc) vs) (hm:IL w (.slice ma mt.length mc) mt) (he:ER w (.slice ea es.length ec) es) (hce:es.length≤ec)
  (sl:Nn (.slice la log.length lc)) (sv:Nn (.slice va vs.length vc)) (sm:Nn (.slice ma mt.length mc))
  (hP:hmP ⟨k,p,te,vo,co,ro,log,vs,mt⟩ ⟨ki,f,k,mte,q,be,mco,ye,es⟩=true) (z:Nd) (hz:z=hmX ⟨k,p,te,vo,co,ro,log,vs,mt⟩ ⟨ki,f,k,mte,q,be,mco,ye,es⟩) (AA:List Ms) (hAA:AA=hmA (hmU ⟨k,p,te,vo,co,ro,log,vs,mt⟩ mte) ⟨ki,f,k,mte,q,be,mco,ye,es⟩) (ok:Bool) (hok:ok=hmOk ⟨k,p,te,vo,co,ro,log,vs,mt⟩ ⟨ki,f,k,mte,q,be,mco,ye,es⟩):
  Calls Tryz.prog 130 #[.agg #[k,p,te,vo,.slice la log.length lc,co,ro,.slice va vs.length vc,.slice ma mt.length mc],.agg #[ki,f,k,mte,q,be,.slice ea es.length ec,mco,ye]] w fun e w'=>HmA w' w.heap.size z AA ok e∧Below w.heap.size w w':=by
 have hPq:=hP;simp only [hmP,Bool.and_eq_true,decide_eq_true_eq] at hPq;obtain⟨hGN,hGM,_⟩:=hPq;obtain⟨g1,g2,g3,g4,g5,g6,g7⟩:=zt_ hGM;dsimp only at g2 g7;have gx:=Gd.of hGN;have hk:k<p:=by have:=gx.ip;dsimp only at this;omega
 have hp:p≤7:=by have:=gx.p7;dsimp only at this;omega
 have hok':ok=(hmB (hmU ⟨k,p,te,vo,co,ro,log,vs,mt⟩ mte) ⟨ki,f,k,mte,q,be,mco,ye,es⟩&&gN z):=by rw [hok,hz];unfold hmOk;rw [hP];rfl
 have hq:q≤60∧es.length≤60:=by
  rcases xd_ g7 with h | h | h | h
  ·subst h;have:=vk_ g7;rw [this.2.1];simp;omega
  ·subst h;have:=vj_ g7;rw [this.2.2.1];simp;omega
  ·subst h;have:=xe_ g7;omega
  ·subst h;have:=xR_ g7;rw [this.2.2.1];simp;omega
 obtain⟨hq,ne⟩:=hq;rcases xd_ g7 with h | h | h | h
 ·subst h;exact vT_ 1 171 k p te vo co ro la lc va vc ma mc log vs mt f q mte be mco ye ea ec es w pF_ rx_ (fun te vo co ro la lc va vc ma mc log vs mt base W ho hb he nl ha hf=>pk_ k p hk hp te vo co ro la lc va vc ma mc log vs mt f q k mte be mco ye ea ec es base W ho hb he hce nl ne hq ha hf) hl hv hm he sl sv sm hP z hz AA hAA _ rfl ok hok'
 ·subst h;exact vT_ 2 172 k p te vo co ro la lc va vc ma mc log vs mt f q mte be mco ye ea ec es w pE_ rw_ (fun te vo co ro la lc va vc ma mc log vs mt base W ho hb he nl ha hf=>pj_ k p hk hp te vo co ro la lc va vc ma mc log vs mt f q k mte be mco ye ea ec es base W ho hb he hce nl ne hq ha hf) hl hv hm he sl sv sm hP z hz AA hAA _ rfl ok hok'
 ·subst h;exact vT_ 3 173 k p te vo co ro la lc va vc ma mc log vs mt f q mte be mco ye ea ec es w pD_ rv_ (fun te vo co ro la lc va vc ma mc log vs mt base W ho hb he nl ha hf=>pi_ k p hk hp te vo co ro la lc va vc ma mc log vs mt f q k mte be mco ye ea ec es base W ho hb he hce nl ne hq ha hf) hl hv hm he sl sv sm hP z hz AA hAA _ rfl ok hok'
 ·subst h;exact vT_ 4 174 k p te vo co ro la lc va vc ma mc log vs mt f q mte be mco ye ea ec es w pC_ ru_ (fun te vo co ro la lc va vc ma mc log vs mt base W ho hb he nl ha hf=>ph_ k p hk hp te vo co ro la lc va vc ma mc log vs mt f q k mte be mco ye ea ec es base W ho hb he hce nl ne hq ha hf) hl hv hm he sl sv sm hP z hz AA hAA _ rfl ok hok'
end Go.Proofs.YtapfhhmimkkhnaaGreat
