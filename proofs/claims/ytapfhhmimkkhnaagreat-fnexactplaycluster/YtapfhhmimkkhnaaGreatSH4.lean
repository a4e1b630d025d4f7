/-
  What was told handled, the specification's way.
-/
import Derived.Test.YtapfhhmimkkhnaaGreatSH0ToSH2
import Derived.Deep.Cut
import Derived.Deep.CutBlock
import Derived.Deep.RegionHeld3
namespace Go.Proofs.YtapfhhmimkkhnaaGreat
open Go.RowKit Go.Maps
set_option maxHeartbeats 64000000
set_option linter.unusedVariables false
set_option maxRecDepth 100000
theorem specHM_4 (k p:Nat) (te vo co ro:Int) (la:Option Addr) (lc:Nat) (va:Option Addr) (vc:Nat) (ma:Option Addr) (mc:Nat) (log:List En) (vs mt:List Int) (f q:Nat) (mte be mco:Int) (ye:Bool) (ea:Option Addr) (ec:Nat) (es:List En) (w:World)
  (hl:ER w (.slice la log.length lc) log) (hv:IL w (.slice va vs.length vc) vs) (hm:IL w (.slice ma mt.length mc) mt) (he:ER w (.slice ea es.length ec) es) (hce:es.length≤ec)
  (sl:Nn (.slice la log.length lc)) (sv:Nn (.slice va vs.length vc)) (sm:Nn (.slice ma mt.length mc))
  (hS:zA_ ⟨k,p,te,vo,co,ro,log,vs,mt⟩) (hO:hmOk ⟨k,p,te,vo,co,ro,log,vs,mt⟩ ⟨4,f,k,mte,q,be,mco,ye,es⟩=true) (z:Nd) (hz:z=hmX ⟨k,p,te,vo,co,ro,log,vs,mt⟩ ⟨4,f,k,mte,q,be,mco,ye,es⟩) (AA:List Ms) (hAA:AA=hmA (hmU ⟨k,p,te,vo,co,ro,log,vs,mt⟩ mte) ⟨4,f,k,mte,q,be,mco,ye,es⟩):
  Calls Tryz.prog 136 #[.agg #[k,p,te,vo,.slice la log.length lc,co,ro,.slice va vs.length vc,.slice ma mt.length mc],.agg #[.int .i64 4,f,k,mte,q,be,.slice ea es.length ec,mco,ye]] w fun e w'=>HmA w' w.heap.size z AA true e∧Below w.heap.size w w':=by
 simp only [hmOk,hmP,Bool.and_eq_true,decide_eq_true_eq] at hO;obtain⟨⟨hGN,hGM,_⟩,hbB,hgz⟩:=hO;rw [←hz] at hgz;have gx:=Gd.of hGN;obtain⟨_,hm1,_,hm3,hm4,hm5,hm6⟩:=zt_ hGM;dsimp only at hm1 hm3 hm4 hm5 hm6;have hSy:=hmU_settled hS mte;obtain⟨y,hy⟩:∃y,y=hmU ⟨k,p,te,vo,co,ro,log,vs,mt⟩ mte:=⟨_,rfl⟩;have gy:Gd y:=by rw [hy];exact gx.hmU hm5
 have hid:y.id=(k:Int)∧y.pe=(p:Int):=by rw [hy];exact hmU_id _ _
 have hzy:z=cmN (hmN y ⟨4,f,k,mte,q,be,mco,ye,es⟩):=by rw [hz,hy];rfl
 rw [←hy] at hSy hAA hbB;have hzi:=hmX_id ⟨k,p,te,vo,co,ro,log,vs,mt⟩ ⟨4,f,k,mte,q,be,mco,ye,es⟩;rw [←hz] at hzi;have hzt:z.te=y.te:=by rw [hzy,(cmN_id _).2.2,(hmN_id _ _).2.2]
 have hge:mte≤y.te:=by have:=hmU_te ⟨k,p,te,vo,co,ro,log,vs,mt⟩ mte;rw [←hy] at this;omega
 clear hz hS;rcases y with⟨yi,yp,yt,yv,yc,yr,yl,ys,ym⟩;obtain rfl:yi=(k:Int):=hid.1;obtain rfl:yp=(p:Int):=hid.2;dsimp only at hzt hge;have gz:=Gd.of hgz;have ns1:=gx.bnd.s;have hll:=gx.ll;have hvl:=gx.vl;dsimp only at ns1 hll hvl;have HGZ:Hid (gN z=true∧Bnd z∧z.id=(k:Int)∧z.pe=(p:Int)∧z.te=yt):=⟨hgz,gz.bnd,hzi.1,hzi.2,hzt⟩;have HY:Hid ((⟨k,p,yt,yv,yc,yr,yl,ys,ym⟩:Nd)=hmU ⟨k,p,te,vo,co,ro,log,vs,mt⟩ mte):=hy;have HGY:Hid (Gd ⟨k,p,yt,yv,yc,yr,yl,ys,ym⟩∧zA_ ⟨k,p,yt,yv,yc,yr,yl,ys,ym⟩):=⟨gy,hSy⟩;have HZY:Hid (z=cmN (hmN ⟨k,p,yt,yv,yc,yr,yl,ys,ym⟩ ⟨4,f,k,mte,q,be,mco,ye,es⟩)):=hzy;have HAA:Hid (AA=hmA ⟨k,p,yt,yv,yc,yr,yl,ys,ym⟩ ⟨4,f,k,mte,q,be,mco,ye,es⟩):=hAA;have HBB:Hid (hmB ⟨k,p,yt,yv,yc,yr,yl,ys,ym⟩ ⟨4,f,k,mte,q,be,mco,ye,es⟩=true):=hbB;have HM6:Hid (zX_ 4 mte q be mco ye es=true∧(f:Int)<(p:Int)∧(f:Int)≠(k:Int)):=⟨hm6,hm1.2,hm3⟩;have HKP:Hid (k<p∧p≤7):=⟨by have:=gx.ip;dsimp only at this;omega,by have:=gx.p7;dsimp only at this;omega⟩;have hes:es.length≤60∧∀e∈es,e.d.size≤1048576:=by
  rw [(kind_4 hm6).2.2.1];simp
 have ns2:∀i (h:i<es.length),es[i].d.size≤1048576:=fun i h=>hes.2 _ (List.getElem_mem h);have nes:es.length≤60:=hes.1;clear gx gy hid hes hSy hzi hzt hgz gz hzy hAA hbB hy hm1 hm3 hm4 hm5 hm6;obtain⟨W0,hW0,hB,X,M,R,hz0⟩:=al3 w [k,p,te,vo,.slice la log.length lc,co,ro,.slice va vs.length vc,.slice ma mt.length mc] 42 [.int .i64 4,f,k,mte,q,be,.slice ea es.length ec,mco,ye] 80 zN 42;have K1:=zy_ k p te vo co ro _ _ _ log vs mt W0 (hl.below hB) (hv.below hB) (hm.below hB) (by omega) (by omega) (by omega) ns1;rw [show zn_ k p te vo co ro log vs mt=true from hGN] at K1;have K2:=fun W (h:Below w.heap.size w W)=>specGoodM_any p 4 f k mte q be mco ye _ es W (he.below h) (by omega) ns2;rw [show goodM p 4 f k mte q be mco ye es=true from hGM] at K2;have K3:=fun W (h:Below w.heap.size w W)=>ym_ k p te vo co ro _ _ _ log vs mt W (hl.below h) (hv.below h) (hm.below h) sl sv sm (by omega) (by omega) (by omega);clear hGN hGM ns1 ns2 hl hv hm sl sv sm;obtain⟨hxl,x0,x1,x2,x3,x4,x5,x6,x7,x8⟩:=X.e9;obtain⟨hml,m0,m1,m2,m3,m4,m5,m6,m7,m8⟩:=M.e9;go_enter Tryz.func136,Tryz.ntmps136
 go_wp2_with fail
 rw [←hW0];clear hW0;refine K1.mono ?_;rintro e w1 ⟨rfl,hb⟩;replace X:=X.below hb;replace M:=M.below hb;replace R:=R.below hb;replace hB:=za_ hB hb;have hz1:=hb.size;clear K1 hb;clear hxl x0 x1 x2 x3 x4 x5 x6 x7 x8;clear hml m0 m1 m2 m3 m4 m5 m6 m7 m8;obtain⟨hxl,x0,x1,x2,x3,x4,x5,x6,x7,x8⟩:=X.e9;obtain⟨hml,m0,m1,m2,m3,m4,m5,m6,m7,m8⟩:=M.e9
 go_wp2_with fail
 refine (K2 _ hB).mono ?_;rintro e w1b ⟨rfl,hb⟩;replace X:=X.below hb;replace M:=M.below hb;replace R:=R.below hb;replace hB:=za_ hB hb;have hz1b:=hb.size;clear K2 hb;clear hxl x0 x1 x2 x3 x4 x5 x6 x7 x8;clear hml m0 m1 m2 m3 m4 m5 m6 m7 m8;obtain⟨hxl,x0,x1,x2,x3,x4,x5,x6,x7,x8⟩:=X.e9;obtain⟨hml,m0,m1,m2,m3,m4,m5,m6,m7,m8⟩:=M.e9
 go_wp2_with fail
 refine (K3 _ hB).mono ?_;rintro e w2 ⟨u1,u2,u3,rfl,O,hb⟩;replace X:=X.below hb;replace M:=M.below hb;replace R:=R.below hb;have hz2:=hb.size;replace O:=O.mono (base':=(w.heap.size+1+1+1)) (by omega);replace hB:=za_ hB hb;clear K3 hb;clear hxl x0 x1 x2 x3 x4 x5 x6 x7 x8;clear hml m0 m1 m2 m3 m4 m5 m6 m7 m8;have gO:=fun b hb=>(O.lt b hb).1;obtain⟨⟨ua,uc,rfl⟩,⟨pa,pc,rfl⟩,qa,qc,rfl⟩:=O.shapes;obtain⟨hxl,x0,x1,x2,x3,x4,x5,x6,x7,x8⟩:=X.e9;obtain⟨e0,e1,e2,e3,e4,e5,e6,e7,e8⟩:=X.f9
 go_upto_region 4 with fail
 have hx8:=X.1;obtain⟨W3,hW3,hC,put_⟩:=zk_ w2 X k p te vo (.slice ua log.length uc) co ro (.slice pa vs.length pc) (.slice qa mt.length qc);clear X;have X:=put_;clear put_;replace M:=hC.box M (by omega);replace R:=hC.box R (by omega);replace hB:=hB.trans (hC.b1 hB.size (by omega));replace O:=O.chg hC (fun b hb hh=>by have h8:=gO b hb;have hh:b=w.heap.size:=hh;omega);unfold put9 at hW3;rw [←hW3];clear hW3 hC;clear hxl x0 x1 x2 x3 x4 x5 x6 x7 x8;clear e0 e1 e2 e3 e4 e5 e6 e7 e8;clear gO;obtain⟨hxl,x0,x1,x2,x3,x4,x5,x6,x7,x8⟩:=X.e9;obtain⟨hml,m0,m1,m2,m3,m4,m5,m6,m7,m8⟩:=M.e9
 go_upto_if 36 with fail
 go_cut [] from 12 (fun wc=>∃(l1:Option Addr) (l2:Nat) (l3:Option Addr) (l4:Nat) (l5:Option Addr) (l6:Nat),Box wc w.heap.size [k,p,yt,yv,.slice l1 yl.length l2,yc,yr,.slice l3 ys.length l4,.slice l5 ym.length l6]∧Box wc (w.heap.size+1) [.int .i64 4,f,k,mte,q,be,.slice ea es.length ec,mco,ye]∧Box wc (w.heap.size+1+1) zN∧OwnN wc (w.heap.size+1+1+1) (.slice l1 yl.length l2) (.slice l3 ys.length l4) (.slice l5 ym.length l6) yl ys ym∧Below w.heap.size w wc)
 case first kk hbig J K2 hj1 hj2=>
  clear hbig;clear he HGZ HGY HZY HAA HBB HM6;have hy:=HY.out.symm;by_cases hlt:te<mte
  ·simp only [hmU,hlt,if_true,upN,Nd.mk.injEq,true_and] at hy;obtain⟨hy1,hy2,hy3,hy4,hy5,hy6,hy7⟩:=hy;subst hy1 hy2 hy3 hy4 hy5 hy6 hy7;clear HY hge
   go_upto_region 5 with fail
   clear hlt hll hvl nes hce hx8
   go_wp2_with fail
   refine (zL_ k p te vo co ro _ _ _ ua log.length uc rfl _ ⟨_,_,_,rfl⟩ ⟨_,_,_,rfl⟩).mono ?_;rintro e w4 ⟨rfl,hb⟩;replace X:=X.below hb;replace M:=M.below hb;replace R:=R.below hb;replace O:=O.below hb;have hz4:=hb.size;replace hB:=za_ hB hb;clear hb;clear hml m0 m1 m2 m3 m4 m5 m6 m7 m8;clear hxl x0 x1 x2 x3 x4 x5 x6 x7 x8;have OF:OwnN w4 (w.heap.size+1+1+1) (.slice ua log.length uc) (.slice none 0 0) (.slice none 0 0) log [] []:=⟨O.l,World.ownsRow_nil _ _ _ _,World.ownsRow_nil _ _ _ _,fun g hg=>by simp [Value.ownBlock] at hg⟩;clear O;have O:=OF;have gO:=fun b hb=>(O.lt b hb).1;obtain⟨hxl,x0,x1,x2,x3,x4,x5,x6,x7,x8⟩:=X.e9;obtain⟨e0,e1,e2,e3,e4,e5,e6,e7,e8⟩:=X.f9
   go_upto_region 6 with fail
   have hx8:=X.1;obtain⟨W5,hW5,hC,put_⟩:=zk_ w4 X k p te vo (.slice ua log.length uc) co (0:Int) () ();clear X;have X:=put_;clear put_;replace M:=hC.box M (by omega);replace R:=hC.box R (by omega);replace hB:=hB.trans (hC.b1 hB.size (by omega));replace O:=O.chg hC (fun b hb hh=>by have h8:=gO b hb;have hh:b=w.heap.size:=hh;omega);unfold put9 at hW5;rw [←hW5];clear hW5 hC;clear hxl x0 x1 x2 x3 x4 x5 x6 x7 x8;clear e0 e1 e2 e3 e4 e5 e6 e7 e8;obtain⟨hxl,x0,x1,x2,x3,x4,x5,x6,x7,x8⟩:=X.e9;obtain⟨e0,e1,e2,e3,e4,e5,e6,e7,e8⟩:=X.f9;obtain⟨hml,m0,m1,m2,m3,m4,m5,m6,m7,m8⟩:=M.e9;have hC:Chg (fun k=>k=w.heap.size) W5 ((W5.setCell ⟨w.heap.size,2,none⟩ (.int .i64 mte)).setCell ⟨w.heap.size,3,none⟩ (.int .i64 (-1))):=Chg.setCell (S:=fun k=>k=w.heap.size) (Chg.setCell (S:=fun k=>k=w.heap.size) (Chg.refl _ _) rfl _) rfl _;have X6:Box ((W5.setCell ⟨w.heap.size,2,none⟩ (.int .i64 mte)).setCell ⟨w.heap.size,3,none⟩ (.int .i64 (-1))) w.heap.size [k,p,mte,.int .i64 (-1),.slice ua log.length uc,co,.int .i64 0,(),()]:=(X.set 2 _ (by simp)).set 3 _ (by simp);have M6:=hC.box M (by omega);have R6:=hC.box R (by omega);have O6:=O.chg hC (fun b hb hh=>by have h8:=gO b hb;have hh:b=w.heap.size:=hh;omega);have B6:=hB.trans (hC.b1 hB.size (by omega));clear X M R O hB hC gO
   go_wp2_with fail
   go_meet
   case rel=>exact⟨_,_,_,_,_,_,X6,M6,R6,O6,B6⟩
  ·simp only [hmU,hlt,if_false,Nd.mk.injEq,true_and] at hy;obtain⟨hy1,hy2,hy3,hy4,hy5,hy6,hy7⟩:=hy;subst hy1 hy2 hy3 hy4 hy5 hy6 hy7;clear HY hge hll hvl nes hce hx8
   go_wp2_with fail
   go_meet
   case rel=>exact⟨_,_,_,_,_,_,X,M,R,O,hB⟩
 case rest=>
  clear X M R O hB HY;clear hxl x0 x1 x2 x3 x4 x5 x6 x7 x8;clear hml m0 m1 m2 m3 m4 m5 m6 m7 m8;obtain⟨l1,l2,l3,l4,l5,l6,X,M,R,O,hB⟩:=hcut;generalize wc=w4 at*;have hzw:=hB.size;have hxw:=X.1;have hrw:=R.1;have gO:=fun b hb=>(O.lt b hb).1;obtain⟨hml,m0,m1,m2,m3,m4,m5,m6,m7,m8⟩:=M.e9
  go_upto_block 0 with fail
  clear hml m0 m1 m2 m3 m4 m5 m6 m7 m8
  go_cut [7] from 8 (fun s7 wd=>∃(q1:Option Addr) (q2:Nat) (r1:Option Addr) (r2:Nat) (r3:Option Addr) (r4:Nat) (r5:Option Addr) (r6:Nat),s7= .slice q1 AA.length q2∧Box wd w.heap.size [k,p,yt,z.vo,.slice r1 z.log.length r2,z.co,z.ro,.slice r3 z.vs.length r4,.slice r5 z.mt.length r6]∧Box wd (w.heap.size+1+1) zN∧OwnN wd (w.heap.size+1+1+1) (.slice r1 z.log.length r2) (.slice r3 z.vs.length r4) (.slice r5 z.mt.length r6) z.log z.vs z.mt∧wd.ownsRow (w.heap.size+1+1+1) 80 9 (.slice q1 AA.length q2) AA.length (zZ_ (AA.map toQ))∧Below w.heap.size w wd)
  case first=>
   have hz1:z=if tolY ⟨k,p,yt,yv,yc,yr,yl,ys,ym⟩ ⟨4,f,k,mte,q,be,mco,ye,es⟩=true then⟨k,p,yt,yv,zs_ yt p yc yl (tolX ym f q ye) yl.length,2,yl,ys,(tolX ym f q ye)⟩ else⟨k,p,yt,yv,yc,yr,yl,ys,ym⟩:=by rw [HZY.out,hmX_tol HGY.out.2 rfl]
   have HZ1:Hid (z=if (decide (mte=yt)&&decide (yr=2))=true then⟨k,p,yt,yv,zs_ yt p yc yl (tolX ym f q ye) yl.length,2,yl,ys,(tolX ym f q ye)⟩ else⟨k,p,yt,yv,yc,yr,yl,ys,ym⟩):=hz1;obtain rfl:AA= []:=HAA.out;have HL60:Hid (yl.length≤1048576∧0≤yc∧ym.length≤1048576):=⟨by have:=HGY.out.1.ll;dsimp only at this;omega,HGY.out.1.c0,by have:=HGY.out.1.vl.2;dsimp only at this;omega⟩;have HFM:Hid (yr=2→f<ym.length):=fun h=>by
    have h1:=(HGY.out.1.r2 h).2.2.2.1;have h2:=HM6.out.2.1;dsimp only at h1;omega
   have HQ:Hid (mte=yt→yr=2→ye=true→(q:Int)≤(yl.length:Int)):=fun h1 h2 h3=>by
    have hf:=HFM.out h2;have hg:=Gd.of HGZ.out.1;rw [hz1] at hg;simp only [tolY,h1,h2,decide_true,Bool.and_self,if_true] at hg;have:=gM_all (hg.r2 rfl).2.2.2.2.1 f (by simp [tolX];exact hf);simp only [tolX,Int.toNat_natCast,List.getElem_set_self,h3,if_true] at this;omega
   have KC:=fun W c m (h:ER W (.slice l1 yl.length l2) yl) h2 h3 h4=>l11Commit_any k p yt yv yc (.slice l1 yl.length l2) (.slice l3 ys.length l4) c yl ys m W h h2 h3 HL60.out.1 h4 HL60.out.2.1;clear hz1 HZY HAA HBB HM6 HGY HGZ HKP hll hvl hce nes he;obtain⟨hxl,x0,x1,x2,x3,x4,x5,x6,x7,x8⟩:=X.e9;obtain⟨hml,m0,m1,m2,m3,m4,m5,m6,m7,m8⟩:=M.e9
   go_upto_region 10 with fail
   by_cases c1:mte=yt;rotate_left
   ·have HE:Hid (z=⟨k,p,yt,yv,yc,yr,yl,ys,ym⟩):=by show _=_;rw [HZ1.out];simp [c1]
    obtain rfl:z=⟨k,p,yt,yv,yc,yr,yl,ys,ym⟩:=HE.out;clear HE HZ1 KC HQ HFM
    go_wp2_with fail
    go_meet
    case rel=>exact⟨none,0,_,_,_,_,_,_,rfl,X,R,O,World.ownsRow_nil _ _ _ _,hB⟩
   by_cases c3:yr=2;rotate_left
   ·have HE:Hid (z=⟨k,p,yt,yv,yc,yr,yl,ys,ym⟩):=by show _=_;rw [HZ1.out];simp [c3]
    subst c1;obtain rfl:z=⟨k,p,mte,yv,yc,yr,yl,ys,ym⟩:=HE.out;clear HE HZ1 KC HQ HFM
    go_wp2_with fail
    go_meet
    case rel=>exact⟨none,0,_,_,_,_,_,_,rfl,X,R,O,World.ownsRow_nil _ _ _ _,hB⟩
   subst c3;have hf:=HFM.out rfl;have hq9:=HQ.out c1 rfl;have HE:Hid (z=⟨k,p,yt,yv,zs_ yt p yc yl (tolX ym f q ye) yl.length,2,yl,ys,(tolX ym f q ye)⟩):=by show _=_;rw [HZ1.out];simp [c1]
   clear HZ1 HFM HQ;obtain⟨g,rfl⟩:∃g,l5=some ⟨g,0,none⟩:=by
    rcases O.m.2 with⟨h,h0⟩ | ⟨g,cap,cur,h,_⟩
    ·omega
    ·simp only [Value.slice.injEq,true_and] at h;exact⟨g,h.1⟩
   have hg0:=gO g (.inr (.inr rfl));have d0:w4.cell? ⟨g,f,none⟩=some (.int .i64 ym[f]):=by rw [O.m.cellAt f (by omega)];simp [hf]
   have e9:=O.m.frozenAt f;have hgd:ym.getD f 0=ym[f]:=by simp [hf]
   have HTX:Hid (tolX ym f q ye=if (ye==decide (ym[f]<(q:Int)))=true then ym.set f q else ym):=by
    show _=_;simp only [tolX,Int.toNat_natCast,hgd]
    cases ye
    ·by_cases h:ym[f]<(q:Int)
     ·simp [h];rw [show min ym[f] (q:Int)=ym[f] from by omega];simp
     ·simp [h];rw [show min ym[f] (q:Int)=(q:Int) from by omega]
    ·by_cases h:ym[f]<(q:Int)
     ·simp [h];rw [show max ym[f] (q:Int)=(q:Int) from by omega]
     ·simp [h];rw [show max ym[f] (q:Int)=ym[f] from by omega];simp
   clear hgd;generalize ym[f]=z0 at*;generalize tolX ym f q ye=mx2 at*;have hf0:(0:Int)≤(f:Int):=by omega
   have hf1:(f:Int)<(ym.length:Int):=by omega
   have hmf:f<ym.length:=hf;have hmt2:((f:Int)).toNat=f:=by omega
   subst c1;have hgl:g<w4.heap.size:=(O.lt g (.inr (.inr rfl))).2
   cases ye with
   | false=>
    by_cases hcz0:z0<(q:Int)
    ·have HM2:Hid (mx2=ym):=by show _=_;rw [HTX.out];simp [hcz0]
     clear HTX;clear hq9 hf hmf;clear hxl x0 x1 x2 x3 x4 x5 x6 x7 x8;clear hml m0 m1 m2 m3 m4 m5 m6 m7 m8;obtain⟨hxl,x0,x1,x2,x3,x4,x5,x6,x7,x8⟩:=X.e9;obtain⟨hml,m0,m1,m2,m3,m4,m5,m6,m7,m8⟩:=M.e9
     go_upto_region 13 with fail
     go_quiet (fail)
     have hbq:=yn_ w4 nq;replace X:=X.below hbq;replace M:=M.below hbq;replace R:=R.below hbq;replace O:=O.below hbq;replace hB:=za_ hB hbq;have d1:=(hbq.cell (p:=⟨g,f,none⟩) hgl).trans d0;have e1':=O.m.frozenAt f;generalize w4.drewN nq=w5 at*;clear hbq d0 e9;clear hxl x0 x1 x2 x3 x4 x5 x6 x7 x8;clear hml m0 m1 m2 m3 m4 m5 m6 m7 m8;obtain⟨hxl,x0,x1,x2,x3,x4,x5,x6,x7,x8⟩:=X.e9;obtain⟨hml,m0,m1,m2,m3,m4,m5,m6,m7,m8⟩:=M.e9
     go_upto_region 15 with fail
     have HEX:z=⟨k,p,mte,yv,zs_ mte p yc yl ym yl.length,2,yl,ys,ym⟩:=by rw [HE.out,HM2.out]
     have IMX:=O.im;have NMX:=HL60.out.2.2;clear HE HM2 d1 e1';obtain⟨cz,hcz⟩:∃c,c=zs_ mte p yc yl ym yl.length:=⟨_,rfl⟩;have KC2:=KC w5 (.slice (some ⟨g,0,none⟩) ym.length l6) ym O.er O.iv IMX NMX;rw [←hcz] at KC2 HEX;clear hcz KC;clear hxl x0 x1 x2 x3 x4 x5 x6 x7 x8;obtain⟨hxl,x0,x1,x2,x3,x4,x5,x6,x7,x8⟩:=X.e9
     go_wp2_with fail
     refine KC2.mono ?_;rintro e w7 ⟨rfl,hb⟩;clear KC2;replace X:=X.below hb;replace M:=M.below hb;replace R:=R.below hb;replace O:=O.below hb;replace hB:=za_ hB hb;clear hb;clear hxl x0 x1 x2 x3 x4 x5 x6 x7 x8;obtain⟨hxl,x0,x1,x2,x3,x4,x5,x6,x7,x8⟩:=X.e9;obtain⟨e0,e1,e2,e3,e4,e5,e6,e7,e8⟩:=X.f9;have hC:=zl_ w7 w.heap.size k p mte yv (.slice l1 yl.length l2) cz (.int .i64 2) (.slice l3 ys.length l4) (.slice (some ⟨g,0,none⟩) ym.length l6);have X6:=zm_ X k p mte yv (.slice l1 yl.length l2) cz (.int .i64 2) (.slice l3 ys.length l4) (.slice (some ⟨g,0,none⟩) ym.length l6);have R6:=hC.box R (by omega);have O6:=O.chg hC (fun b hb hh=>by have h8:=gO b hb;have hh:b=w.heap.size:=hh;omega);have B6:=hB.trans (hC.b1 hB.size (by omega));clear X M R O hB hC gO;unfold put9 at X6 R6 O6 B6;go_simp
     go_wp2_with fail
     go_meet
     case rel=>
      rw [HEX];exact⟨none,0,l1,l2,l3,l4,some ⟨g,0,none⟩,l6,rfl,X6,R6,O6,World.ownsRow_nil _ _ _ _,B6⟩
    ·have HM2:Hid (mx2=ym.set f q):=by show _=_;rw [HTX.out];simp [hcz0]
     clear HTX;clear hq9 hf hmf;clear hxl x0 x1 x2 x3 x4 x5 x6 x7 x8;clear hml m0 m1 m2 m3 m4 m5 m6 m7 m8;obtain⟨hxl,x0,x1,x2,x3,x4,x5,x6,x7,x8⟩:=X.e9;obtain⟨hml,m0,m1,m2,m3,m4,m5,m6,m7,m8⟩:=M.e9
     go_upto_region 13 with fail
     go_quiet (fail)
     have hbq:=yn_ w4 nq;replace X:=X.below hbq;replace M:=M.below hbq;replace R:=R.below hbq;replace O:=O.below hbq;replace hB:=za_ hB hbq;have d1:=(hbq.cell (p:=⟨g,f,none⟩) hgl).trans d0;have e1':=O.m.frozenAt f;generalize w4.drewN nq=w5 at*;clear hbq d0 e9;clear hxl x0 x1 x2 x3 x4 x5 x6 x7 x8;clear hml m0 m1 m2 m3 m4 m5 m6 m7 m8;obtain⟨hxl,x0,x1,x2,x3,x4,x5,x6,x7,x8⟩:=X.e9;obtain⟨hml,m0,m1,m2,m3,m4,m5,m6,m7,m8⟩:=M.e9
     go_upto_region 15 with fail
     have hC1:Chg (fun b=>b=g) w5 (w5.setCell ⟨g,f,none⟩ (.int .i64 q)):=Chg.setCell (S:=fun b=>b=g) (Chg.refl _ _) rfl _;have om:=(O.m.stored f (.int .i64 q)).1;rw [List.map_set_eq f ym q] at om;obtain⟨WQ,hWQ⟩:∃W,W=w5.setCell ⟨g,f,none⟩ (.int .i64 q):=⟨_,rfl⟩;rw [←hWQ] at hC1 om ⊢;clear hWQ;replace X:=hC1.box X (by omega);replace M:=hC1.box M (by omega);replace R:=hC1.box R (by omega);replace hB:=hB.trans (hC1.b1 hB.size (by omega));have om2:WQ.ownsRow (w.heap.size+1+1+1) 3 1 (.slice (some ⟨g,0,none⟩) ym.length l6) (ym.set f q).length ((ym.set f q).map (.int .i64)):=by rw [List.length_set];exact om
     have OE:OwnN WQ (w.heap.size+1+1+1) (.slice l1 yl.length l2) (.slice l3 ys.length l4) (.slice (some ⟨g,0,none⟩) ym.length l6) yl ys (ym.set f q):=⟨hC1.owns O.l (fun b h1 h2=>by have h2:b=g:=h2;subst h2;exact zi_ O.l O.m (by decide) b h1 rfl),hC1.owns O.v (fun b h1 h2=>by have h2:b=g:=h2;subst h2;exact O.ne b h1 rfl),om2,O.ne⟩;have hl9:(ym.set f (q:Int)).length=ym.length:=List.length_set;clear O om om2 hC1;have O:=OE;clear OE;have HEX:z=⟨k,p,mte,yv,zs_ mte p yc yl (ym.set f q) yl.length,2,yl,ys,ym.set f q⟩:=by rw [HE.out,HM2.out]
     have IMX:=O.im;have NMX:(ym.set f (q:Int)).length≤1048576:=by rw [hl9];exact HL60.out.2.2
     have HL9:Hid ((ym.set f (q:Int)).length=ym.length):=hl9;clear hl9 HE HM2 d1 e1';generalize hm3:ym.set f (q:Int)=m3 at*;obtain⟨cz,hcz⟩:∃c,c=zs_ mte p yc yl m3 yl.length:=⟨_,rfl⟩;have KC2:=KC WQ (.slice (some ⟨g,0,none⟩) ym.length l6) m3 O.er O.iv IMX NMX;rw [←hcz] at KC2 HEX;clear hcz KC;clear hxl x0 x1 x2 x3 x4 x5 x6 x7 x8;obtain⟨hxl,x0,x1,x2,x3,x4,x5,x6,x7,x8⟩:=X.e9
     go_wp2_with fail
     refine KC2.mono ?_;rintro e w7 ⟨rfl,hb⟩;clear KC2;replace X:=X.below hb;replace M:=M.below hb;replace R:=R.below hb;replace O:=O.below hb;replace hB:=za_ hB hb;clear hb;clear hxl x0 x1 x2 x3 x4 x5 x6 x7 x8;obtain⟨hxl,x0,x1,x2,x3,x4,x5,x6,x7,x8⟩:=X.e9;obtain⟨e0,e1,e2,e3,e4,e5,e6,e7,e8⟩:=X.f9;have hC:=zl_ w7 w.heap.size k p mte yv (.slice l1 yl.length l2) cz (.int .i64 2) (.slice l3 ys.length l4) (.slice (some ⟨g,0,none⟩) ym.length l6);have X6:=zm_ X k p mte yv (.slice l1 yl.length l2) cz (.int .i64 2) (.slice l3 ys.length l4) (.slice (some ⟨g,0,none⟩) ym.length l6);have R6:=hC.box R (by omega);have O6:=O.chg hC (fun b hb hh=>by have h8:=gO b hb;have hh:b=w.heap.size:=hh;omega);have B6:=hB.trans (hC.b1 hB.size (by omega));clear X M R O hB hC gO;unfold put9 at X6 R6 O6 B6;go_simp
     go_wp2_with fail
     go_meet
     case rel=>
      rw [HEX];exact⟨none,0,l1,l2,l3,l4,some ⟨g,0,none⟩,l6,rfl,by rw [HL9.out];exact X6,R6,by rw [HL9.out];exact O6,World.ownsRow_nil _ _ _ _,B6⟩
   | true=>
    by_cases hcz0:z0<(q:Int)
    ·have HM2:Hid (mx2=ym.set f q):=by show _=_;rw [HTX.out];simp [hcz0]
     clear HTX;have hq10:¬(yl.length:Int)<(q:Int):=by have:=hq9 rfl;omega
     clear hq9 hf hmf;clear hxl x0 x1 x2 x3 x4 x5 x6 x7 x8;clear hml m0 m1 m2 m3 m4 m5 m6 m7 m8;obtain⟨hxl,x0,x1,x2,x3,x4,x5,x6,x7,x8⟩:=X.e9;obtain⟨hml,m0,m1,m2,m3,m4,m5,m6,m7,m8⟩:=M.e9
     go_upto_region 13 with fail
     go_quiet (fail)
     have hbq:=yn_ w4 nq;replace X:=X.below hbq;replace M:=M.below hbq;replace R:=R.below hbq;replace O:=O.below hbq;replace hB:=za_ hB hbq;have d1:=(hbq.cell (p:=⟨g,f,none⟩) hgl).trans d0;have e1':=O.m.frozenAt f;generalize w4.drewN nq=w5 at*;clear hbq d0 e9;clear hxl x0 x1 x2 x3 x4 x5 x6 x7 x8;clear hml m0 m1 m2 m3 m4 m5 m6 m7 m8;obtain⟨hxl,x0,x1,x2,x3,x4,x5,x6,x7,x8⟩:=X.e9;obtain⟨hml,m0,m1,m2,m3,m4,m5,m6,m7,m8⟩:=M.e9
     go_upto_region 15 with fail
     have hC1:Chg (fun b=>b=g) w5 (w5.setCell ⟨g,f,none⟩ (.int .i64 q)):=Chg.setCell (S:=fun b=>b=g) (Chg.refl _ _) rfl _;have om:=(O.m.stored f (.int .i64 q)).1;rw [List.map_set_eq f ym q] at om;obtain⟨WQ,hWQ⟩:∃W,W=w5.setCell ⟨g,f,none⟩ (.int .i64 q):=⟨_,rfl⟩;rw [←hWQ] at hC1 om ⊢;clear hWQ;replace X:=hC1.box X (by omega);replace M:=hC1.box M (by omega);replace R:=hC1.box R (by omega);replace hB:=hB.trans (hC1.b1 hB.size (by omega));have om2:WQ.ownsRow (w.heap.size+1+1+1) 3 1 (.slice (some ⟨g,0,none⟩) ym.length l6) (ym.set f q).length ((ym.set f q).map (.int .i64)):=by rw [List.length_set];exact om
     have OE:OwnN WQ (w.heap.size+1+1+1) (.slice l1 yl.length l2) (.slice l3 ys.length l4) (.slice (some ⟨g,0,none⟩) ym.length l6) yl ys (ym.set f q):=⟨hC1.owns O.l (fun b h1 h2=>by have h2:b=g:=h2;subst h2;exact zi_ O.l O.m (by decide) b h1 rfl),hC1.owns O.v (fun b h1 h2=>by have h2:b=g:=h2;subst h2;exact O.ne b h1 rfl),om2,O.ne⟩;have hl9:(ym.set f (q:Int)).length=ym.length:=List.length_set;clear O om om2 hC1;have O:=OE;clear OE;have HEX:z=⟨k,p,mte,yv,zs_ mte p yc yl (ym.set f q) yl.length,2,yl,ys,ym.set f q⟩:=by rw [HE.out,HM2.out]
     have IMX:=O.im;have NMX:(ym.set f (q:Int)).length≤1048576:=by rw [hl9];exact HL60.out.2.2
     have HL9:Hid ((ym.set f (q:Int)).length=ym.length):=hl9;clear hl9 HE HM2 d1 e1';generalize hm3:ym.set f (q:Int)=m3 at*;obtain⟨cz,hcz⟩:∃c,c=zs_ mte p yc yl m3 yl.length:=⟨_,rfl⟩;have KC2:=KC WQ (.slice (some ⟨g,0,none⟩) ym.length l6) m3 O.er O.iv IMX NMX;rw [←hcz] at KC2 HEX;clear hcz KC;clear hxl x0 x1 x2 x3 x4 x5 x6 x7 x8;obtain⟨hxl,x0,x1,x2,x3,x4,x5,x6,x7,x8⟩:=X.e9
     go_wp2_with fail
     refine KC2.mono ?_;rintro e w7 ⟨rfl,hb⟩;clear KC2;replace X:=X.below hb;replace M:=M.below hb;replace R:=R.below hb;replace O:=O.below hb;replace hB:=za_ hB hb;clear hb;clear hxl x0 x1 x2 x3 x4 x5 x6 x7 x8;obtain⟨hxl,x0,x1,x2,x3,x4,x5,x6,x7,x8⟩:=X.e9;obtain⟨e0,e1,e2,e3,e4,e5,e6,e7,e8⟩:=X.f9;have hC:=zl_ w7 w.heap.size k p mte yv (.slice l1 yl.length l2) cz (.int .i64 2) (.slice l3 ys.length l4) (.slice (some ⟨g,0,none⟩) ym.length l6);have X6:=zm_ X k p mte yv (.slice l1 yl.length l2) cz (.int .i64 2) (.slice l3 ys.length l4) (.slice (some ⟨g,0,none⟩) ym.length l6);have R6:=hC.box R (by omega);have O6:=O.chg hC (fun b hb hh=>by have h8:=gO b hb;have hh:b=w.heap.size:=hh;omega);have B6:=hB.trans (hC.b1 hB.size (by omega));clear X M R O hB hC gO;unfold put9 at X6 R6 O6 B6;go_simp
     go_wp2_with fail
     go_meet
     case rel=>
      rw [HEX];exact⟨none,0,l1,l2,l3,l4,some ⟨g,0,none⟩,l6,rfl,by rw [HL9.out];exact X6,R6,by rw [HL9.out];exact O6,World.ownsRow_nil _ _ _ _,B6⟩
    ·have HM2:Hid (mx2=ym):=by show _=_;rw [HTX.out];simp [hcz0]
     clear HTX;have hq10:¬(yl.length:Int)<(q:Int):=by have:=hq9 rfl;omega
     clear hq9 hf hmf;clear hxl x0 x1 x2 x3 x4 x5 x6 x7 x8;clear hml m0 m1 m2 m3 m4 m5 m6 m7 m8;obtain⟨hxl,x0,x1,x2,x3,x4,x5,x6,x7,x8⟩:=X.e9;obtain⟨hml,m0,m1,m2,m3,m4,m5,m6,m7,m8⟩:=M.e9
     go_upto_region 13 with fail
     go_quiet (fail)
     have hbq:=yn_ w4 nq;replace X:=X.below hbq;replace M:=M.below hbq;replace R:=R.below hbq;replace O:=O.below hbq;replace hB:=za_ hB hbq;have d1:=(hbq.cell (p:=⟨g,f,none⟩) hgl).trans d0;have e1':=O.m.frozenAt f;generalize w4.drewN nq=w5 at*;clear hbq d0 e9;clear hxl x0 x1 x2 x3 x4 x5 x6 x7 x8;clear hml m0 m1 m2 m3 m4 m5 m6 m7 m8;obtain⟨hxl,x0,x1,x2,x3,x4,x5,x6,x7,x8⟩:=X.e9;obtain⟨hml,m0,m1,m2,m3,m4,m5,m6,m7,m8⟩:=M.e9
     go_upto_region 15 with fail
     have HEX:z=⟨k,p,mte,yv,zs_ mte p yc yl ym yl.length,2,yl,ys,ym⟩:=by rw [HE.out,HM2.out]
     have IMX:=O.im;have NMX:=HL60.out.2.2;clear HE HM2 d1 e1';obtain⟨cz,hcz⟩:∃c,c=zs_ mte p yc yl ym yl.length:=⟨_,rfl⟩;have KC2:=KC w5 (.slice (some ⟨g,0,none⟩) ym.length l6) ym O.er O.iv IMX NMX;rw [←hcz] at KC2 HEX;clear hcz KC;clear hxl x0 x1 x2 x3 x4 x5 x6 x7 x8;obtain⟨hxl,x0,x1,x2,x3,x4,x5,x6,x7,x8⟩:=X.e9
     go_wp2_with fail
     refine KC2.mono ?_;rintro e w7 ⟨rfl,hb⟩;clear KC2;replace X:=X.below hb;replace M:=M.below hb;replace R:=R.below hb;replace O:=O.below hb;replace hB:=za_ hB hb;clear hb;clear hxl x0 x1 x2 x3 x4 x5 x6 x7 x8;obtain⟨hxl,x0,x1,x2,x3,x4,x5,x6,x7,x8⟩:=X.e9;obtain⟨e0,e1,e2,e3,e4,e5,e6,e7,e8⟩:=X.f9;have hC:=zl_ w7 w.heap.size k p mte yv (.slice l1 yl.length l2) cz (.int .i64 2) (.slice l3 ys.length l4) (.slice (some ⟨g,0,none⟩) ym.length l6);have X6:=zm_ X k p mte yv (.slice l1 yl.length l2) cz (.int .i64 2) (.slice l3 ys.length l4) (.slice (some ⟨g,0,none⟩) ym.length l6);have R6:=hC.box R (by omega);have O6:=O.chg hC (fun b hb hh=>by have h8:=gO b hb;have hh:b=w.heap.size:=hh;omega);have B6:=hB.trans (hC.b1 hB.size (by omega));clear X M R O hB hC gO;unfold put9 at X6 R6 O6 B6;go_simp
     go_wp2_with fail
     go_meet
     case rel=>
      rw [HEX];exact⟨none,0,l1,l2,l3,l4,some ⟨g,0,none⟩,l6,rfl,X6,R6,O6,World.ownsRow_nil _ _ _ _,B6⟩
  case rest=>
   clear X M R O hB hzw hxw hrw gO HAA HBB HM6 HGY HZY he;obtain⟨q1,q2,r1,r2,r3,r4,r5,r6,rfl,X,R,O,OA,hB⟩:=hcut;have hzw:=hB.size;have hrw:=R.1;have gO:=fun b hb=>(O.lt b hb).1;have gA:=zh_ OA;have hb:=HGZ.out.2.1;have hg:zn_ k p yt z.vo z.co z.ro z.log z.vs z.mt=true:=by
    obtain⟨h1,_,h2,h3,h4⟩:=HGZ.out;rw [←h2,←h3,←h4];exact h1
   have KG:=fun W (h1:ER W (.slice r1 z.log.length r2) z.log) h2 h3=>zy_ k p yt z.vo z.co z.ro (.slice r1 z.log.length r2) (.slice r3 z.vs.length r4) (.slice r5 z.mt.length r6) z.log z.vs z.mt W h1 h2 h3 hb.l hb.v hb.m hb.s;rw [hg] at KG;clear hb hg;obtain⟨hxl,x0,x1,x2,x3,x4,x5,x6,x7,x8⟩:=X.e9
   go_wp2_with fail
   refine (KG _ O.er O.iv O.im).mono ?_;rintro e w11 ⟨rfl,hb⟩;clear KG;replace X:=X.below hb;replace R:=R.below hb;replace O:=O.below hb;replace OA:=zd_ OA hb;have hz11:=hb.size;replace hB:=za_ hB hb;clear hb;clear hxl x0 x1 x2 x3 x4 x5 x6 x7 x8
   go_upto_region 36 with fail
   have hC:=zl_ w11 (w.heap.size+1+1) k p yt z.vo (.slice r1 z.log.length r2) z.co z.ro (.slice r3 z.vs.length r4) (.slice r5 z.mt.length r6);have Z:=zm_ R k p yt z.vo (.slice r1 z.log.length r2) z.co z.ro (.slice r3 z.vs.length r4) (.slice r5 z.mt.length r6);have hBE:=hB.trans (hC.b1 hB.size (by omega));have OE:=(O.chg hC (fun b hb hh=>by have h8:=gO b hb;have hh:b=w.heap.size+1+1:=hh;omega)).mono (base':=w.heap.size) (by omega);have OAE:=zf_ (hC.owns OA (fun b hb hh=>by have h8:=gA b hb;have hh:b=w.heap.size+1+1:=hh;omega)) (show w.heap.size≤w.heap.size+1+1+1 by omega);obtain⟨hxl,x0,x1,x2,x3,x4,x5,x6,x7,x8⟩:=X.e9;obtain⟨rl,y0,y1,y2,y3,y4,y5,y6,y7,y8⟩:=R.e9;obtain⟨f0,f1,f2,f3,f4,f5,f6,f7,f8⟩:=R.f9;clear hC X R hB O OA gO gA;obtain⟨tl,t0,t1,t2,t3,t4,t5,t6,t7,t8⟩:=Z.e9;clear Z;have HOE:Hid (OwnN (put9 w11 (w.heap.size+1+1) (.int .i64 k) (.int .i64 p) (.int .i64 yt) (.int .i64 z.vo) (.slice r1 z.log.length r2) (.int .i64 z.co) (.int .i64 z.ro) (.slice r3 z.vs.length r4) (.slice r5 z.mt.length r6)) w.heap.size (.slice r1 z.log.length r2) (.slice r3 z.vs.length r4) (.slice r5 z.mt.length r6) z.log z.vs z.mt):=OE;have HOA:Hid (World.ownsRow (put9 w11 (w.heap.size+1+1) (.int .i64 k) (.int .i64 p) (.int .i64 yt) (.int .i64 z.vo) (.slice r1 z.log.length r2) (.int .i64 z.co) (.int .i64 z.ro) (.slice r3 z.vs.length r4) (.slice r5 z.mt.length r6)) w.heap.size 80 9 (.slice q1 AA.length q2) AA.length (zZ_ (AA.map toQ))):=OAE;have HBE:Hid (Below w.heap.size w (put9 w11 (w.heap.size+1+1) (.int .i64 k) (.int .i64 p) (.int .i64 yt) (.int .i64 z.vo) (.slice r1 z.log.length r2) (.int .i64 z.co) (.int .i64 z.ro) (.slice r3 z.vs.length r4) (.slice r5 z.mt.length r6))):=hBE;clear OE OAE hBE;unfold put9 at*;go_wp2;refine bodyPost_ret (v:= .tuple #[.agg #[k,p,yt,z.vo,.slice r1 z.log.length r2,z.co,z.ro,.slice r3 z.vs.length r4,.slice r5 z.mt.length r6],.slice q1 AA.length q2,true]) (by simp [results,Tryz.results136,go_sem,t0,t1,t2,t3,t4,t5,t6,t7,t8]) rfl ⟨.inl ⟨rfl,?_⟩,HBE.out⟩;obtain⟨h1,_,h2,h3,h4⟩:=HGZ.out;rw [h2,h3,h4];exact⟨_,_,_,_,rfl,HOE.out,HOA.out⟩
end Go.Proofs.YtapfhhmimkkhnaaGreat
