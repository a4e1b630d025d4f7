/-
  A message that a settled node handles, plainly.
  An ask handled, the specification's way.
-/
import Derived.Test.YtapfhhmimkkhnaaCWToHM
import Derived.Test.YtapfhhmimkkhnaaSA
import Derived.Deep.Cut
import Derived.Deep.CutBlock
import Derived.Deep.RegionHeld3
namespace Go.Proofs.Ytapfhhmimkkhnaa
open Go.RowKit Go.Maps
set_option linter.unusedVariables false
set_option maxRecDepth 100000
theorem hmX_ask {y:Nd} {m:Ms} (hS:zv_ y) (hk:m.ki=1):cmN (hmN y m)=askN y m:=by
 simp only [hmN,hk,if_true,askN]
 split
 ·exact settled_vo hS m.fr
 ·exact hS
theorem cmN_ne {x:Nd} (h:¬x.ro=2):cmN x=x:=by unfold cmN;rw [if_neg h]
theorem hmX_vote {y:Nd} {m:Ms} (hS:zv_ y) (hk:m.ki=2):cmN (hmN y m)=if (votY y m&& !hsI y.vs m.fr)=true then (if y.pe<2*((y.vs.length+1:Nat):Int) then⟨y.id,y.pe,y.te,y.vo,zr_ y.te y.pe y.co y.log (mtZ y.pe y.id y.log.length) y.log.length,2,y.log,[],mtZ y.pe y.id y.log.length⟩ else⟨y.id,y.pe,y.te,y.vo,y.co,1,y.log,putV y.vs m.fr,y.mt⟩) else y:=by
 simp only [hmN,hk,show ¬(2:Int)=1 by decide,if_false,if_true,votN]
 cases hy:votY y m with
 | false=>simp only [Bool.false_and,Bool.false_eq_true,if_false];exact hS
 | true=>
  simp only [if_true,Bool.true_and,vbN];have hr:y.ro=1:=by simp only [votY,Bool.and_eq_true,decide_eq_true_eq] at hy;exact hy.2.2
  cases hh:hsI y.vs m.fr with
  | true=>simp only [if_true,Bool.not_true,Bool.false_eq_true,if_false];exact hS
  | false=>
   simp only [Bool.false_eq_true,if_false,Bool.not_false,if_true]
   split
   ·simp [cmN,leN]
   ·rw [cmN_ne (by show ¬y.ro=2;omega)];rw [hr]
theorem hmX_app {y:Nd} {m:Ms} (hS:zv_ y) (hk:m.ki=3):cmN (hmN y m)=appN y m:=by
 simp only [hmN,hk,show ¬(3:Int)=1 by decide,show ¬(3:Int)=2 by decide,if_false,if_true];unfold appN
 split
 ·exact hS
 ·split <;>simp [cmN,foN]
theorem hmX_tol {y:Nd} {m:Ms} (hS:zv_ y) (hk:m.ki=4):cmN (hmN y m)=if tolY y m=true then⟨y.id,y.pe,y.te,y.vo,zr_ y.te y.pe y.co y.log (tolX y.mt m.fr m.ix m.ye) y.log.length,2,y.log,y.vs,tolX y.mt m.fr m.ix m.ye⟩ else y:=by
 simp only [hmN,hk,show ¬(4:Int)=1 by decide,show ¬(4:Int)=2 by decide,show ¬(4:Int)=3 by decide,if_false,tolN]
 cases hy:tolY y m with
 | false=>simp only [Bool.false_eq_true,if_false];exact hS
 | true=>
  have hr:y.ro=2:=by simp only [tolY,Bool.and_eq_true,decide_eq_true_eq] at hy;exact hy.2
  simp [cmN,hr]
set_option maxHeartbeats 64000000
theorem specHM_1 (k p:Nat) (te vo co ro:Int) (la:Option Addr) (lc:Nat) (va:Option Addr) (vc:Nat) (ma:Option Addr) (mc:Nat) (log:List En) (vs mt:List Int) (f q:Nat) (mte be mco:Int) (ye:Bool) (ea:Option Addr) (ec:Nat) (es:List En) (w:World)
  (hl:ER w (.slice la log.length lc) log) (hv:IL w (.slice va vs.length vc) vs) (hm:IL w (.slice ma mt.length mc) mt) (he:ER w (.slice ea es.length ec) es) (hce:es.length≤ec)
  (sl:Nn (.slice la log.length lc)) (sv:Nn (.slice va vs.length vc)) (sm:Nn (.slice ma mt.length mc))
  (hS:zv_ ⟨k,p,te,vo,co,ro,log,vs,mt⟩) (hO:hmOk ⟨k,p,te,vo,co,ro,log,vs,mt⟩ ⟨1,f,k,mte,q,be,mco,ye,es⟩=true) (z:Nd) (hz:z=hmX ⟨k,p,te,vo,co,ro,log,vs,mt⟩ ⟨1,f,k,mte,q,be,mco,ye,es⟩) (AA:List Ms) (hAA:AA=hmA (hmU ⟨k,p,te,vo,co,ro,log,vs,mt⟩ mte) ⟨1,f,k,mte,q,be,mco,ye,es⟩):
  Calls Try.prog 171 #[.agg #[k,p,te,vo,.slice la log.length lc,co,ro,.slice va vs.length vc,.slice ma mt.length mc],.agg #[(1:Int),f,k,mte,q,be,.slice ea es.length ec,mco,ye]] w fun e w'=>HmA w' w.heap.size z AA true e∧Below w.heap.size w w':=by
 simp only [hmOk,hmP,Bool.and_eq_true,decide_eq_true_eq] at hO;obtain⟨⟨hGN,hGM,_⟩,hbB,hgz⟩:=hO;rw [←hz] at hgz;have gx:=Gd.of hGN;obtain⟨_,hm1,_,hm3,hm4,hm5,hm6⟩:=zD_ hGM;dsimp only at hm1 hm3 hm4 hm5 hm6;have hSy:=hmU_settled hS mte;obtain⟨y,hy⟩:∃y,y=hmU ⟨k,p,te,vo,co,ro,log,vs,mt⟩ mte:=⟨_,rfl⟩;have gy:Gd y:=by rw [hy];exact gx.hmU hm5
 have hid:y.id=(k:Int)∧y.pe=(p:Int):=by rw [hy];exact hmU_id _ _
 have hzy:z=cmN (hmN y ⟨1,f,k,mte,q,be,mco,ye,es⟩):=by rw [hz,hy];rfl
 rw [←hy] at hSy hAA hbB;have hzi:=hmX_id ⟨k,p,te,vo,co,ro,log,vs,mt⟩ ⟨1,f,k,mte,q,be,mco,ye,es⟩;rw [←hz] at hzi;have hzt:z.te=y.te:=by rw [hzy,(cmN_id _).2.2,(hmN_id _ _).2.2]
 have hge:mte≤y.te:=by have:=hmU_te ⟨k,p,te,vo,co,ro,log,vs,mt⟩ mte;rw [←hy] at this;omega
 clear hz hS;rcases y with⟨yi,yp,yt,yv,yc,yr,yl,ys,ym⟩;obtain rfl:yi=(k:Int):=hid.1;obtain rfl:yp=(p:Int):=hid.2;dsimp only at hzt hge;have gz:=Gd.of hgz;have ns1:=gx.bnd.s;have hll:=gx.ll;have hvl:=gx.vl;dsimp only at ns1 hll hvl;have HGZ:Hid (gN z=true∧Bnd z∧z.id=(k:Int)∧z.pe=(p:Int)∧z.te=yt):=⟨hgz,gz.bnd,hzi.1,hzi.2,hzt⟩;have HY:Hid ((⟨k,p,yt,yv,yc,yr,yl,ys,ym⟩:Nd)=hmU ⟨k,p,te,vo,co,ro,log,vs,mt⟩ mte):=hy;have HGY:Hid (Gd ⟨k,p,yt,yv,yc,yr,yl,ys,ym⟩∧zv_ ⟨k,p,yt,yv,yc,yr,yl,ys,ym⟩):=⟨gy,hSy⟩;have HZY:Hid (z=cmN (hmN ⟨k,p,yt,yv,yc,yr,yl,ys,ym⟩ ⟨1,f,k,mte,q,be,mco,ye,es⟩)):=hzy;have HAA:Hid (AA=hmA ⟨k,p,yt,yv,yc,yr,yl,ys,ym⟩ ⟨1,f,k,mte,q,be,mco,ye,es⟩):=hAA;have HBB:Hid (hmB ⟨k,p,yt,yv,yc,yr,yl,ys,ym⟩ ⟨1,f,k,mte,q,be,mco,ye,es⟩=true):=hbB;have HM6:Hid (zR_ 1 mte q be mco ye es=true∧(f:Int)<(p:Int)∧(f:Int)≠(k:Int)):=⟨hm6,hm1.2,hm3⟩;have HKP:Hid (k<p∧p≤7):=⟨by have:=gx.ip;dsimp only at this;omega,by have:=gx.p7;dsimp only at this;omega⟩;have hes:es.length≤60∧∀e∈es,e.d.size≤1048576:=by
  rw [(kind_1 hm6).2.1];simp
 have ns2:∀i (h:i<es.length),es[i].d.size≤1048576:=fun i h=>hes.2 _ (List.getElem_mem h);have nes:es.length≤60:=hes.1;clear gx gy hid hes hSy hzi hzt hgz gz hzy hAA hbB hy hm1 hm3 hm4 hm5 hm6;obtain⟨W0,hW0,hB,X,M,R,hz0⟩:=al3 w [k,p,te,vo,.slice la log.length lc,co,ro,.slice va vs.length vc,.slice ma mt.length mc] 26 [(1:Int),f,k,mte,q,be,.slice ea es.length ec,mco,ye] 38 zN 26;have K1:=zt_ k p te vo co ro _ _ _ log vs mt W0 (hl.below hB) (hv.below hB) (hm.below hB) (by omega) (by omega) (by omega) ns1;rw [show zk_ k p te vo co ro log vs mt=true from hGN] at K1;have K2:=fun W (h:Below w.heap.size w W)=>specGoodM_any p 1 f k mte q be mco ye _ es W (he.below h) (by omega) ns2;rw [show goodM p 1 f k mte q be mco ye es=true from hGM] at K2;have K3:=fun W (h:Below w.heap.size w W)=>yd_ k p te vo co ro _ _ _ log vs mt W (hl.below h) (hv.below h) (hm.below h) sl sv sm (by omega) (by omega) (by omega);clear hGN hGM ns1 ns2 hl hv hm sl sv sm;obtain⟨hxl,x0,x1,x2,x3,x4,x5,x6,x7,x8⟩:=X.e9;obtain⟨hml,m0,m1,m2,m3,m4,m5,m6,m7,m8⟩:=M.e9;go_enter Try.func171,Try.ntmps171;go_wp2_with fail;rw [←hW0];clear hW0;refine K1.mono ?_;rintro e w1 ⟨rfl,hb⟩;replace X:=X.below hb;replace M:=M.below hb;replace R:=R.below hb;replace hB:=za_ hB hb;have hz1:=hb.size;clear K1 hb;clear hxl x0 x1 x2 x3 x4 x5 x6 x7 x8;clear hml m0 m1 m2 m3 m4 m5 m6 m7 m8;obtain⟨hxl,x0,x1,x2,x3,x4,x5,x6,x7,x8⟩:=X.e9;obtain⟨hml,m0,m1,m2,m3,m4,m5,m6,m7,m8⟩:=M.e9;go_wp2_with fail;refine (K2 _ hB).mono ?_;rintro e w1b ⟨rfl,hb⟩;replace X:=X.below hb;replace M:=M.below hb;replace R:=R.below hb;replace hB:=za_ hB hb;have hz1b:=hb.size;clear K2 hb;clear hxl x0 x1 x2 x3 x4 x5 x6 x7 x8;clear hml m0 m1 m2 m3 m4 m5 m6 m7 m8;obtain⟨hxl,x0,x1,x2,x3,x4,x5,x6,x7,x8⟩:=X.e9;obtain⟨hml,m0,m1,m2,m3,m4,m5,m6,m7,m8⟩:=M.e9;go_wp2_with fail;refine (K3 _ hB).mono ?_;rintro e w2 ⟨u1,u2,u3,rfl,O,hb⟩;replace X:=X.below hb;replace M:=M.below hb;replace R:=R.below hb;have hz2:=hb.size;replace O:=O.mono (base':=(w.heap.size+1+1+1)) (by omega);replace hB:=za_ hB hb;clear K3 hb;clear hxl x0 x1 x2 x3 x4 x5 x6 x7 x8;clear hml m0 m1 m2 m3 m4 m5 m6 m7 m8;have gO:=fun b hb=>(O.lt b hb).1;obtain⟨⟨ua,uc,rfl⟩,⟨pa,pc,rfl⟩,qa,qc,rfl⟩:=O.shapes;obtain⟨hxl,x0,x1,x2,x3,x4,x5,x6,x7,x8⟩:=X.e9;obtain⟨e0,e1,e2,e3,e4,e5,e6,e7,e8⟩:=X.f9;go_upto_region 4 with fail;have hx8:=X.1;obtain⟨W3,hW3,hC,put_⟩:=zj_ w2 X k p te vo (.slice ua log.length uc) co ro (.slice pa vs.length pc) (.slice qa mt.length qc);clear X;have X:=put_;clear put_;replace M:=hC.box M (by omega);replace R:=hC.box R (by omega);replace hB:=hB.trans (hC.b1 hB.size (by omega));replace O:=O.chg hC (fun b hb hh=>by have h8:=gO b hb;have hh:b=w.heap.size:=hh;omega);unfold put9 at hW3;rw [←hW3];clear hW3 hC;clear hxl x0 x1 x2 x3 x4 x5 x6 x7 x8;clear e0 e1 e2 e3 e4 e5 e6 e7 e8;clear gO;obtain⟨hxl,x0,x1,x2,x3,x4,x5,x6,x7,x8⟩:=X.e9;obtain⟨hml,m0,m1,m2,m3,m4,m5,m6,m7,m8⟩:=M.e9;go_upto_if 36 with fail
 go_cut [] from 12 (fun wc=>∃(l1:Option Addr) (l2:Nat) (l3:Option Addr) (l4:Nat) (l5:Option Addr) (l6:Nat),Box wc w.heap.size [k,p,yt,yv,.slice l1 yl.length l2,yc,yr,.slice l3 ys.length l4,.slice l5 ym.length l6]∧Box wc (w.heap.size+1) [(1:Int),f,k,mte,q,be,.slice ea es.length ec,mco,ye]∧Box wc (w.heap.size+1+1) zN∧OwnN wc (w.heap.size+1+1+1) (.slice l1 yl.length l2) (.slice l3 ys.length l4) (.slice l5 ym.length l6) yl ys ym∧Below w.heap.size w wc)
 case first kk hbig J K2 hj1 hj2=>
  clear hbig;clear he HGZ HGY HZY HAA HBB HM6;have hy:=HY.out.symm;by_cases hlt:te<mte
  ·simp only [hmU,hlt,if_true,upN,Nd.mk.injEq,true_and] at hy;obtain⟨hy1,hy2,hy3,hy4,hy5,hy6,hy7⟩:=hy;subst hy1 hy2 hy3 hy4 hy5 hy6 hy7;clear HY hge;go_upto_region 5 with fail;clear hlt hll hvl nes hce hx8;go_wp2_with fail;refine (zG_ k p te vo co ro _ _ _ ua log.length uc rfl _ ⟨_,_,_,rfl⟩ ⟨_,_,_,rfl⟩).mono ?_;rintro e w4 ⟨rfl,hb⟩;replace X:=X.below hb;replace M:=M.below hb;replace R:=R.below hb;replace O:=O.below hb;have hz4:=hb.size;replace hB:=za_ hB hb;clear hb;clear hml m0 m1 m2 m3 m4 m5 m6 m7 m8;clear hxl x0 x1 x2 x3 x4 x5 x6 x7 x8;have OF:OwnN w4 (w.heap.size+1+1+1) (.slice ua log.length uc) (.slice none 0 0) (.slice none 0 0) log [] []:=⟨O.l,World.ownsRow_nil _ _ _ _,World.ownsRow_nil _ _ _ _,fun g hg=>by simp [Value.ownBlock] at hg⟩;clear O;have O:=OF;have gO:=fun b hb=>(O.lt b hb).1;obtain⟨hxl,x0,x1,x2,x3,x4,x5,x6,x7,x8⟩:=X.e9;obtain⟨e0,e1,e2,e3,e4,e5,e6,e7,e8⟩:=X.f9;go_upto_region 6 with fail;have hx8:=X.1;obtain⟨W5,hW5,hC,put_⟩:=zj_ w4 X k p te vo (.slice ua log.length uc) co (0:Int) () ();clear X;have X:=put_;clear put_;replace M:=hC.box M (by omega);replace R:=hC.box R (by omega);replace hB:=hB.trans (hC.b1 hB.size (by omega));replace O:=O.chg hC (fun b hb hh=>by have h8:=gO b hb;have hh:b=w.heap.size:=hh;omega);unfold put9 at hW5;rw [←hW5];clear hW5 hC;clear hxl x0 x1 x2 x3 x4 x5 x6 x7 x8;clear e0 e1 e2 e3 e4 e5 e6 e7 e8;obtain⟨hxl,x0,x1,x2,x3,x4,x5,x6,x7,x8⟩:=X.e9;obtain⟨e0,e1,e2,e3,e4,e5,e6,e7,e8⟩:=X.f9;obtain⟨hml,m0,m1,m2,m3,m4,m5,m6,m7,m8⟩:=M.e9;have hC:Chg (fun k=>k=w.heap.size) W5 ((W5.setCell ⟨w.heap.size,2,none⟩ (.int .i64 mte)).setCell ⟨w.heap.size,3,none⟩ (.int .i64 (-1))):=Chg.setCell (S:=fun k=>k=w.heap.size) (Chg.setCell (S:=fun k=>k=w.heap.size) (Chg.refl _ _) rfl _) rfl _;have X6:Box ((W5.setCell ⟨w.heap.size,2,none⟩ (.int .i64 mte)).setCell ⟨w.heap.size,3,none⟩ (.int .i64 (-1))) w.heap.size [k,p,mte,(-1:Int),.slice ua log.length uc,co,(0:Int),(),()]:=(X.set 2 _ (by simp)).set 3 _ (by simp);have M6:=hC.box M (by omega);have R6:=hC.box R (by omega);have O6:=O.chg hC (fun b hb hh=>by have h8:=gO b hb;have hh:b=w.heap.size:=hh;omega);have B6:=hB.trans (hC.b1 hB.size (by omega));clear X M R O hB hC gO;go_wp2_with fail;go_meet
   case rel=>exact⟨_,_,_,_,_,_,X6,M6,R6,O6,B6⟩
  ·simp only [hmU,hlt,if_false,Nd.mk.injEq,true_and] at hy;obtain⟨hy1,hy2,hy3,hy4,hy5,hy6,hy7⟩:=hy;subst hy1 hy2 hy3 hy4 hy5 hy6 hy7;clear HY hge hll hvl nes hce hx8;go_wp2_with fail;go_meet
   case rel=>exact⟨_,_,_,_,_,_,X,M,R,O,hB⟩
 case rest=>
  clear X M R O hB HY;clear hxl x0 x1 x2 x3 x4 x5 x6 x7 x8;clear hml m0 m1 m2 m3 m4 m5 m6 m7 m8;obtain⟨l1,l2,l3,l4,l5,l6,X,M,R,O,hB⟩:=hcut;generalize wc=w4 at*;have hzw:=hB.size;have hxw:=X.1;have hrw:=R.1;have gO:=fun b hb=>(O.lt b hb).1;obtain⟨hml,m0,m1,m2,m3,m4,m5,m6,m7,m8⟩:=M.e9;go_upto_block 0 with fail;clear hml m0 m1 m2 m3 m4 m5 m6 m7 m8
  go_cut [7] from 8 (fun s7 wd=>∃(q1:Option Addr) (q2:Nat) (r1:Option Addr) (r2:Nat) (r3:Option Addr) (r4:Nat) (r5:Option Addr) (r6:Nat),s7= .slice q1 AA.length q2∧Box wd w.heap.size [k,p,yt,z.vo,.slice r1 z.log.length r2,z.co,z.ro,.slice r3 z.vs.length r4,.slice r5 z.mt.length r6]∧Box wd (w.heap.size+1+1) zN∧OwnN wd (w.heap.size+1+1+1) (.slice r1 z.log.length r2) (.slice r3 z.vs.length r4) (.slice r5 z.mt.length r6) z.log z.vs z.mt∧wd.ownsRow (w.heap.size+1+1+1) 38 9 (.slice q1 AA.length q2) AA.length (flat9 (AA.map toQ))∧Below w.heap.size w wd)
  case first=>
   obtain⟨yy,hyy⟩:∃b,b=askY ⟨k,p,yt,yv,yc,yr,yl,ys,ym⟩ ⟨1,f,k,mte,q,be,mco,ye,es⟩:=⟨_,rfl⟩;have HYY:Hid (yy=(decide (mte=yt)&&((decide (yv= -1) || decide (yv=(f:Int)))&&zM_ yl q be))):=hyy;have hz1:z=if yy=true then⟨k,p,yt,f,yc,yr,yl,ys,ym⟩ else⟨k,p,yt,yv,yc,yr,yl,ys,ym⟩:=by rw [HZY.out,hmX_ask HGY.out.2 rfl,hyy];rfl
   have HZ1:Hid (z=if yy=true then⟨k,p,yt,f,yc,yr,yl,ys,ym⟩ else⟨k,p,yt,yv,yc,yr,yl,ys,ym⟩):=hz1;have ha1:AA= [msN 2 k f yt 0 yy]:=by rw [HAA.out,hyy];rfl
   have HA1:Hid (AA= [msN 2 k f yt 0 yy]):=ha1;have hl60:yl.length≤1048576:=by have:=HGY.out.1.ll;dsimp only at this;omega
   have KU:=fun W (h:Below w4.heap.size w4 W)=>l11UpTo_any k p yt yv yc yr _ _ _ yl ys ym q be W (O.below h).er (O.below h).iv (O.below h).im hl60;clear hyy hz1 ha1 HZY HAA HBB HM6 HGY HGZ HKP hl60 hll hvl hce nes he;obtain⟨hxl,x0,x1,x2,x3,x4,x5,x6,x7,x8⟩:=X.e9;obtain⟨hml,m0,m1,m2,m3,m4,m5,m6,m7,m8⟩:=M.e9;go_upto_region 17 with fail
   go_cut [8] from 12 (fun s8 w5=>s8= .bool yy∧Below w4.heap.size w4 w5)
   case first=>
    clear HZ1 HA1;by_cases c1:mte=yt;rotate_left
    ·have HE:Hid (yy=false):=by show _=_;rw [HYY.out];simp [c1]
     have b1:(mte==yt)=false:=by simp [c1]
     clear c1 HYY KU;go_wp2_with fail;go_meet
     case rel=>exact⟨by rw [HE.out],Below.refl _ _⟩
    have b1:(mte==yt)=true:=by simp [c1]
    by_cases c2:yv= -1
    ·have HE:Hid (yy=zM_ yl q be):=by show _=_;rw [HYY.out];simp [c1,c2]
     have b2:(yv== -1)=true:=by simp [c2]
     clear c1 c2 HYY;go_wp2_with fail;refine (KU _ (Below.refl _ _)).mono ?_;rintro e w5 ⟨rfl,hb⟩;clear KU;go_wp2_with fail;go_meet
     case rel=>exact⟨by rw [HE.out],hb⟩
    have b2:(yv== -1)=false:=by simp [c2]
    by_cases c3:yv=(f:Int)
    ·have HE:Hid (yy=zM_ yl q be):=by show _=_;rw [HYY.out];simp [c1,c3]
     have b3:(yv==(f:Int))=true:=by simp [c3]
     clear c1 c2 c3 HYY;go_wp2_with fail;refine (KU _ (Below.refl _ _)).mono ?_;rintro e w5 ⟨rfl,hb⟩;clear KU;go_wp2_with fail;go_meet
     case rel=>exact⟨by rw [HE.out],hb⟩
    ·have HE:Hid (yy=false):=by show _=_;rw [HYY.out];simp [c2,c3]
     have b3:(yv==(f:Int))=false:=by simp [c3]
     clear c1 c2 c3 HYY KU;go_wp2_with fail;go_meet
     case rel=>exact⟨by rw [HE.out],Below.refl _ _⟩
   case rest=>
    clear KU HYY;clear hxl x0 x1 x2 x3 x4 x5 x6 x7 x8;clear hml m0 m1 m2 m3 m4 m5 m6 m7 m8;obtain⟨rfl,hb5⟩:=hcut;obtain rfl:=HA1.out;replace X:=X.below hb5;replace M:=M.below hb5;replace R:=R.below hb5;replace O:=O.below hb5;replace hB:=za_ hB hb5;clear hb5
    cases yy with
    | false=>
     obtain rfl:z=⟨k,p,yt,yv,yc,yr,yl,ys,ym⟩:=HZ1.out;clear HZ1 HA1;go_upto_region 20 with fail;obtain⟨WV,hWV⟩:∃W,W=wc:=⟨_,rfl⟩;rw [←hWV] at X M R O hB ⊢;clear hWV;have hD:Below WV.heap.size WV WV.drew:=(Below.refl _ _).drew;replace X:=X.below hD;replace M:=M.below hD;replace R:=R.below hD;replace O:=O.below hD;replace hB:=za_ hB hD;clear hD;refine wp_region_held_drew (S:=(fun w'=>Box w' w.heap.size [k,p,yt,yv,.slice l1 yl.length l2,yc,yr,.slice l3 ys.length l4,.slice l5 ym.length l6]∧Box w' (w.heap.size+1) [(1:Int),f,k,mte,q,be,.slice ea es.length ec,mco,ye])) (by kernel_rfl) ⟨X,M⟩ (fun zb_=> ?_);generalize WV.drew=va at*;refine tkH 0 (.pointer (some ⟨w.heap.size,0,none⟩)) rfl ?_ ?_
     ·intro wx hSw;clear hSw zb_;go_simp
     simp only [Act.put,sA_,sB_,sC_];refine tkH 1 (.int .i64 k) rfl ?_ ?_
     ·intro wx hSw;have e:=hSw.1.2.1 0 _ rfl;clear zb_ hSw;go_simp
     simp only [Act.put,sA_,sB_,sC_];refine tkH 2 (.pointer (some ⟨w.heap.size+1,1,none⟩)) rfl ?_ ?_
     ·intro wx hSw;clear hSw zb_;go_simp
     simp only [Act.put,sA_,sB_,sC_];refine tkH 3 (.int .i64 f) rfl ?_ ?_
     ·intro wx hSw;have e:=hSw.2.2.1 1 _ rfl;clear zb_ hSw;go_simp
     simp only [Act.put,sA_,sB_,sC_];refine tkH 4 (.agg #[k,p,yt,yv,.slice l1 yl.length l2,yc,yr,.slice l3 ys.length l4,.slice l5 ym.length l6]) rfl ?_ ?_
     ·intro wx hSw;obtain⟨sl,s0,s1,s2,s3,s4,s5,s6,s7,s8⟩:=hSw.1.e9;clear zb_ hSw;go_simp
     simp only [Act.put,sA_,sB_,sC_];refine tkH 6 (.bool false) rfl ?_ ?_
     ·intro wx hSw;clear hSw zb_;go_simp
     simp only [Act.put,sA_,sB_,sC_];refine rd1 5 rfl (fun K hK=> ?_);clear zb_;go_simp;refine (l11Told_any k p yt yv yc yr l1 yl.length l2 l3 ys.length l4 l5 ym.length l6 va).mono ?_;rintro e vb ⟨rfl,hb⟩;replace X:=X.below hb;replace M:=M.below hb;replace R:=R.below hb;replace O:=O.below hb;replace hB:=za_ hB hb;clear hb;refine hK.out _ vb ⟨X,M⟩ (fun zb_=> ?_);clear hK K
     try (simp only [Act.put,sA_,sB_,sC_])
     refine tkH 7 (.agg #[(2:Int),k,f,yt,(0:Int),(0:Int),(),(0:Int),false]) rfl ?_ ?_
     ·intro wx hSw;clear hSw zb_;go_simp
     simp only [Act.put,sA_,sB_,sC_];refine rd1 8 rfl (fun K hK=> ?_);clear zb_;have R9:=row9_new vb 2 k f yt 0 0 0 false;have hb:=zc_ vb (.cells #[(2:Int),k,f,yt,(0:Int),(0:Int),(),(0:Int),false] 38);have hzb:=R.1;replace X:=X.below hb;replace M:=M.below hb;replace R:=R.below hb;replace O:=O.below hb;replace hB:=za_ hB hb;clear hb;have hbz:(w.heap.size+1+1+1)≤vb.heap.size:=by omega
     have R10:=zg_ R9 hbz;clear R9;go_simp;refine hK.out _ _ ⟨X,M⟩ (fun zb_=> ?_);clear hK K
     try (simp only [Act.put,sA_,sB_,sC_])
     refine tkH 9 (.slice (some ⟨vb.heap.size,0,none⟩) 1 1) rfl ?_ ?_
     ·intro wx hSw;clear hSw zb_;go_simp
     simp only [Act.put,sA_,sB_,sC_];clear zb_;refine wpAnyH_done (by kernel_rfl) ?_ _;go_wp2_with fail;go_meet
     case rel=>exact⟨_,_,_,_,_,_,_,_,rfl,X,R,O,R10,hB⟩
    | true=>
     obtain rfl:z=⟨k,p,yt,f,yc,yr,yl,ys,ym⟩:=HZ1.out;clear HZ1 HA1;obtain⟨hxl,x0,x1,x2,x3,x4,x5,x6,x7,x8⟩:=X.e9;obtain⟨e0,e1,e2,e3,e4,e5,e6,e7,e8⟩:=X.f9;obtain⟨hml,m0,m1,m2,m3,m4,m5,m6,m7,m8⟩:=M.e9;go_upto_region 20 with fail;obtain⟨WV,hWV⟩:∃W,W=wc.setCell ⟨w.heap.size,3,none⟩ (.int .i64 f):=⟨_,rfl⟩;have hC:Chg (fun b=>b=w.heap.size) wc WV:=by rw [hWV];exact Chg.setCell (S:=fun b=>b=w.heap.size) (Chg.refl _ _) rfl _
     have hx8:=X.1;replace X:Box WV w.heap.size [k,p,yt,f,.slice l1 yl.length l2,yc,yr,.slice l3 ys.length l4,.slice l5 ym.length l6]:=by rw [hWV];exact X.set 3 _ (by simp)
     replace M:=hC.box M (by omega);replace R:=hC.box R (by omega);replace hB:=hB.trans (hC.b1 hB.size (by omega));replace O:=O.chg hC (fun b hb hh=>by have h8:=gO b hb;have hh:b=w.heap.size:=hh;omega);rw [←hWV];clear hWV hC hx8;clear hxl x0 x1 x2 x3 x4 x5 x6 x7 x8;clear e0 e1 e2 e3 e4 e5 e6 e7 e8;clear hml m0 m1 m2 m3 m4 m5 m6 m7 m8;have hD:Below WV.heap.size WV WV.drew:=(Below.refl _ _).drew;replace X:=X.below hD;replace M:=M.below hD;replace R:=R.below hD;replace O:=O.below hD;replace hB:=za_ hB hD;clear hD;refine wp_region_held_drew (S:=(fun w'=>Box w' w.heap.size [k,p,yt,f,.slice l1 yl.length l2,yc,yr,.slice l3 ys.length l4,.slice l5 ym.length l6]∧Box w' (w.heap.size+1) [(1:Int),f,k,mte,q,be,.slice ea es.length ec,mco,ye])) (by kernel_rfl) ⟨X,M⟩ (fun zb_=> ?_);generalize WV.drew=va at*;refine tkH 0 (.pointer (some ⟨w.heap.size,0,none⟩)) rfl ?_ ?_
     ·intro wx hSw;clear hSw zb_;go_simp
     simp only [Act.put,sA_,sB_,sC_];refine tkH 1 (.int .i64 k) rfl ?_ ?_
     ·intro wx hSw;have e:=hSw.1.2.1 0 _ rfl;clear zb_ hSw;go_simp
     simp only [Act.put,sA_,sB_,sC_];refine tkH 2 (.pointer (some ⟨w.heap.size+1,1,none⟩)) rfl ?_ ?_
     ·intro wx hSw;clear hSw zb_;go_simp
     simp only [Act.put,sA_,sB_,sC_];refine tkH 3 (.int .i64 f) rfl ?_ ?_
     ·intro wx hSw;have e:=hSw.2.2.1 1 _ rfl;clear zb_ hSw;go_simp
     simp only [Act.put,sA_,sB_,sC_];refine tkH 4 (.agg #[k,p,yt,f,.slice l1 yl.length l2,yc,yr,.slice l3 ys.length l4,.slice l5 ym.length l6]) rfl ?_ ?_
     ·intro wx hSw;obtain⟨sl,s0,s1,s2,s3,s4,s5,s6,s7,s8⟩:=hSw.1.e9;clear zb_ hSw;go_simp
     simp only [Act.put,sA_,sB_,sC_];refine tkH 6 (.bool true) rfl ?_ ?_
     ·intro wx hSw;clear hSw zb_;go_simp
     simp only [Act.put,sA_,sB_,sC_];refine rd1 5 rfl (fun K hK=> ?_);clear zb_;go_simp;refine (l11Told_any k p yt f yc yr l1 yl.length l2 l3 ys.length l4 l5 ym.length l6 va).mono ?_;rintro e vb ⟨rfl,hb⟩;replace X:=X.below hb;replace M:=M.below hb;replace R:=R.below hb;replace O:=O.below hb;replace hB:=za_ hB hb;clear hb;refine hK.out _ vb ⟨X,M⟩ (fun zb_=> ?_);clear hK K
     try (simp only [Act.put,sA_,sB_,sC_])
     refine tkH 7 (.agg #[(2:Int),k,f,yt,(0:Int),(0:Int),(),(0:Int),true]) rfl ?_ ?_
     ·intro wx hSw;clear hSw zb_;go_simp
     simp only [Act.put,sA_,sB_,sC_];refine rd1 8 rfl (fun K hK=> ?_);clear zb_;have R9:=row9_new vb 2 k f yt 0 0 0 true;have hb:=zc_ vb (.cells #[(2:Int),k,f,yt,(0:Int),(0:Int),(),(0:Int),true] 38);have hzb:=R.1;replace X:=X.below hb;replace M:=M.below hb;replace R:=R.below hb;replace O:=O.below hb;replace hB:=za_ hB hb;clear hb;have hbz:(w.heap.size+1+1+1)≤vb.heap.size:=by omega
     have R10:=zg_ R9 hbz;clear R9;go_simp;refine hK.out _ _ ⟨X,M⟩ (fun zb_=> ?_);clear hK K
     try (simp only [Act.put,sA_,sB_,sC_])
     refine tkH 9 (.slice (some ⟨vb.heap.size,0,none⟩) 1 1) rfl ?_ ?_
     ·intro wx hSw;clear hSw zb_;go_simp
     simp only [Act.put,sA_,sB_,sC_];clear zb_;refine wpAnyH_done (by kernel_rfl) ?_ _;go_wp2_with fail;go_meet
     case rel=>exact⟨_,_,_,_,_,_,_,_,rfl,X,R,O,R10,hB⟩
  case rest=>
   clear X M R O hB hzw hxw hrw gO HAA HBB HM6 HGY HZY he;obtain⟨q1,q2,r1,r2,r3,r4,r5,r6,rfl,X,R,O,OA,hB⟩:=hcut;have hzw:=hB.size;have hrw:=R.1;have gO:=fun b hb=>(O.lt b hb).1;have gA:=ze_ OA;have hb:=HGZ.out.2.1;have hg:zk_ k p yt z.vo z.co z.ro z.log z.vs z.mt=true:=by
    obtain⟨h1,_,h2,h3,h4⟩:=HGZ.out;rw [←h2,←h3,←h4];exact h1
   have KG:=fun W (h1:ER W (.slice r1 z.log.length r2) z.log) h2 h3=>zt_ k p yt z.vo z.co z.ro (.slice r1 z.log.length r2) (.slice r3 z.vs.length r4) (.slice r5 z.mt.length r6) z.log z.vs z.mt W h1 h2 h3 hb.l hb.v hb.m hb.s;rw [hg] at KG;clear hb hg;obtain⟨hxl,x0,x1,x2,x3,x4,x5,x6,x7,x8⟩:=X.e9;go_wp2_with fail;refine (KG _ O.er O.iv O.im).mono ?_;rintro e w11 ⟨rfl,hb⟩;clear KG;replace X:=X.below hb;replace R:=R.below hb;replace O:=O.below hb;replace OA:=zd_ OA hb;have hz11:=hb.size;replace hB:=za_ hB hb;clear hb;clear hxl x0 x1 x2 x3 x4 x5 x6 x7 x8;go_upto_region 36 with fail;have hC:=zo_ w11 (w.heap.size+1+1) k p yt z.vo (.slice r1 z.log.length r2) z.co z.ro (.slice r3 z.vs.length r4) (.slice r5 z.mt.length r6);have Z:=zp_ R k p yt z.vo (.slice r1 z.log.length r2) z.co z.ro (.slice r3 z.vs.length r4) (.slice r5 z.mt.length r6);have hBE:=hB.trans (hC.b1 hB.size (by omega));have OE:=(O.chg hC (fun b hb hh=>by have h8:=gO b hb;have hh:b=w.heap.size+1+1:=hh;omega)).mono (base':=w.heap.size) (by omega);have OAE:=zg_ (hC.owns OA (fun b hb hh=>by have h8:=gA b hb;have hh:b=w.heap.size+1+1:=hh;omega)) (show w.heap.size≤w.heap.size+1+1+1 by omega);obtain⟨hxl,x0,x1,x2,x3,x4,x5,x6,x7,x8⟩:=X.e9;obtain⟨rl,y0,y1,y2,y3,y4,y5,y6,y7,y8⟩:=R.e9;obtain⟨f0,f1,f2,f3,f4,f5,f6,f7,f8⟩:=R.f9;clear hC X R hB O OA gO gA;obtain⟨tl,t0,t1,t2,t3,t4,t5,t6,t7,t8⟩:=Z.e9;clear Z;have HOE:Hid (OwnN (put9 w11 (w.heap.size+1+1) (.int .i64 k) (.int .i64 p) (.int .i64 yt) (.int .i64 z.vo) (.slice r1 z.log.length r2) (.int .i64 z.co) (.int .i64 z.ro) (.slice r3 z.vs.length r4) (.slice r5 z.mt.length r6)) w.heap.size (.slice r1 z.log.length r2) (.slice r3 z.vs.length r4) (.slice r5 z.mt.length r6) z.log z.vs z.mt):=OE;have HOA:Hid (World.ownsRow (put9 w11 (w.heap.size+1+1) (.int .i64 k) (.int .i64 p) (.int .i64 yt) (.int .i64 z.vo) (.slice r1 z.log.length r2) (.int .i64 z.co) (.int .i64 z.ro) (.slice r3 z.vs.length r4) (.slice r5 z.mt.length r6)) w.heap.size 38 9 (.slice q1 AA.length q2) AA.length (flat9 (AA.map toQ))):=OAE;have HBE:Hid (Below w.heap.size w (put9 w11 (w.heap.size+1+1) (.int .i64 k) (.int .i64 p) (.int .i64 yt) (.int .i64 z.vo) (.slice r1 z.log.length r2) (.int .i64 z.co) (.int .i64 z.ro) (.slice r3 z.vs.length r4) (.slice r5 z.mt.length r6))):=hBE;clear OE OAE hBE;unfold put9 at*;go_wp2;refine bodyPost_ret (v:= .tuple #[.agg #[k,p,yt,z.vo,.slice r1 z.log.length r2,z.co,z.ro,.slice r3 z.vs.length r4,.slice r5 z.mt.length r6],.slice q1 AA.length q2,true]) (by simp [results,Try.results171,go_sem,t0,t1,t2,t3,t4,t5,t6,t7,t8]) rfl ⟨.inl ⟨rfl,?_⟩,HBE.out⟩;obtain⟨h1,_,h2,h3,h4⟩:=HGZ.out;rw [h2,h3,h4];exact⟨_,_,_,_,rfl,HOE.out,HOA.out⟩
end Go.Proofs.Ytapfhhmimkkhnaa
