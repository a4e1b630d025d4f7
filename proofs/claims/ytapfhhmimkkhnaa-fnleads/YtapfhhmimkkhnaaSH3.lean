/-
  An append handled, the specification's way.
-/
import Derived.Test.YtapfhhmimkkhnaaSH0ToSH1
import Derived.Deep.Cut
import Derived.Deep.CutBlock
import Derived.Deep.RegionHeld3
namespace Go.Proofs.Ytapfhhmimkkhnaa
open Go.RowKit Go.Maps
set_option maxHeartbeats 64000000
set_option linter.unusedVariables false
set_option maxRecDepth 100000
theorem via3 {G:Prop} {P H:World→Nat→Nat→Option Addr→Nat→Prop} (h1:∀v g9 g10 ua uc,H v g9 g10 ua uc→P v g9 g10 ua uc) (h2:(∀v g9 g10 ua uc,H v g9 g10 ua uc→P v g9 g10 ua uc)→G):G:=h2 h1
theorem specHM_3 (k p:Nat) (te vo co ro:Int) (la:Option Addr) (lc:Nat) (va:Option Addr) (vc:Nat) (ma:Option Addr) (mc:Nat) (log:List En) (vs mt:List Int) (f q:Nat) (mte be mco:Int) (ye:Bool) (ea:Option Addr) (ec:Nat) (es:List En) (w:World)
  (hl:ER w (.slice la log.length lc) log) (hv:IL w (.slice va vs.length vc) vs) (hm:IL w (.slice ma mt.length mc) mt) (he:ER w (.slice ea es.length ec) es) (hce:es.length≤ec)
  (sl:Nn (.slice la log.length lc)) (sv:Nn (.slice va vs.length vc)) (sm:Nn (.slice ma mt.length mc))
  (hS:zv_ ⟨k,p,te,vo,co,ro,log,vs,mt⟩) (hO:hmOk ⟨k,p,te,vo,co,ro,log,vs,mt⟩ ⟨3,f,k,mte,q,be,mco,ye,es⟩=true) (z:Nd) (hz:z=hmX ⟨k,p,te,vo,co,ro,log,vs,mt⟩ ⟨3,f,k,mte,q,be,mco,ye,es⟩) (AA:List Ms) (hAA:AA=hmA (hmU ⟨k,p,te,vo,co,ro,log,vs,mt⟩ mte) ⟨3,f,k,mte,q,be,mco,ye,es⟩):
  Calls Try.prog 171 #[.agg #[k,p,te,vo,.slice la log.length lc,co,ro,.slice va vs.length vc,.slice ma mt.length mc],.agg #[(3:Int),f,k,mte,q,be,.slice ea es.length ec,mco,ye]] w fun e w'=>HmA w' w.heap.size z AA true e∧Below w.heap.size w w':=by
 simp only [hmOk,hmP,Bool.and_eq_true,decide_eq_true_eq] at hO;obtain⟨⟨hGN,hGM,_⟩,hbB,hgz⟩:=hO;rw [←hz] at hgz;have gx:=Gd.of hGN;obtain⟨_,hm1,_,hm3,hm4,hm5,hm6⟩:=zD_ hGM;dsimp only at hm1 hm3 hm4 hm5 hm6;have hSy:=hmU_settled hS mte;obtain⟨y,hy⟩:∃y,y=hmU ⟨k,p,te,vo,co,ro,log,vs,mt⟩ mte:=⟨_,rfl⟩;have gy:Gd y:=by rw [hy];exact gx.hmU hm5
 have hid:y.id=(k:Int)∧y.pe=(p:Int):=by rw [hy];exact hmU_id _ _
 have hzy:z=cmN (hmN y ⟨3,f,k,mte,q,be,mco,ye,es⟩):=by rw [hz,hy];rfl
 rw [←hy] at hSy hAA hbB;have hzi:=hmX_id ⟨k,p,te,vo,co,ro,log,vs,mt⟩ ⟨3,f,k,mte,q,be,mco,ye,es⟩;rw [←hz] at hzi;have hzt:z.te=y.te:=by rw [hzy,(cmN_id _).2.2,(hmN_id _ _).2.2]
 have hge:mte≤y.te:=by have:=hmU_te ⟨k,p,te,vo,co,ro,log,vs,mt⟩ mte;rw [←hy] at this;omega
 clear hz hS;rcases y with⟨yi,yp,yt,yv,yc,yr,yl,ys,ym⟩;obtain rfl:yi=(k:Int):=hid.1;obtain rfl:yp=(p:Int):=hid.2;dsimp only at hzt hge;have gz:=Gd.of hgz;have ns1:=gx.bnd.s;have hll:=gx.ll;have hvl:=gx.vl;dsimp only at ns1 hll hvl;have HGZ:Hid (gN z=true∧Bnd z∧z.id=(k:Int)∧z.pe=(p:Int)∧z.te=yt):=⟨hgz,gz.bnd,hzi.1,hzi.2,hzt⟩;have HY:Hid ((⟨k,p,yt,yv,yc,yr,yl,ys,ym⟩:Nd)=hmU ⟨k,p,te,vo,co,ro,log,vs,mt⟩ mte):=hy;have HGY:Hid (Gd ⟨k,p,yt,yv,yc,yr,yl,ys,ym⟩∧zv_ ⟨k,p,yt,yv,yc,yr,yl,ys,ym⟩):=⟨gy,hSy⟩;have HZY:Hid (z=cmN (hmN ⟨k,p,yt,yv,yc,yr,yl,ys,ym⟩ ⟨3,f,k,mte,q,be,mco,ye,es⟩)):=hzy;have HAA:Hid (AA=hmA ⟨k,p,yt,yv,yc,yr,yl,ys,ym⟩ ⟨3,f,k,mte,q,be,mco,ye,es⟩):=hAA;have HBB:Hid (hmB ⟨k,p,yt,yv,yc,yr,yl,ys,ym⟩ ⟨3,f,k,mte,q,be,mco,ye,es⟩=true):=hbB;have HM6:Hid (zR_ 3 mte q be mco ye es=true∧(f:Int)<(p:Int)∧(f:Int)≠(k:Int)):=⟨hm6,hm1.2,hm3⟩;have HKP:Hid (k<p∧p≤7):=⟨by have:=gx.ip;dsimp only at this;omega,by have:=gx.p7;dsimp only at this;omega⟩;have hes:es.length≤60∧∀e∈es,e.d.size≤1048576:=by
  obtain⟨⟨k1,_⟩,k5,k6,_⟩:=kind_3 hm6;refine⟨by omega,fun e hh=> ?_⟩;obtain⟨i,hi,rfl⟩:=List.getElem_of_mem hh;have:=(gE_all k6 i hi).1;simp only [yf_,Bool.and_eq_true,decide_eq_true_eq] at this;omega
 have ns2:∀i (h:i<es.length),es[i].d.size≤1048576:=fun i h=>hes.2 _ (List.getElem_mem h);have nes:es.length≤60:=hes.1;clear gx gy hid hes hSy hzi hzt hgz gz hzy hAA hbB hy hm1 hm3 hm4 hm5 hm6;obtain⟨W0,hW0,hB,X,M,R,hz0⟩:=al3 w [k,p,te,vo,.slice la log.length lc,co,ro,.slice va vs.length vc,.slice ma mt.length mc] 26 [(3:Int),f,k,mte,q,be,.slice ea es.length ec,mco,ye] 38 zN 26;have K1:=zt_ k p te vo co ro _ _ _ log vs mt W0 (hl.below hB) (hv.below hB) (hm.below hB) (by omega) (by omega) (by omega) ns1;rw [show zk_ k p te vo co ro log vs mt=true from hGN] at K1;have K2:=fun W (h:Below w.heap.size w W)=>specGoodM_any p 3 f k mte q be mco ye _ es W (he.below h) (by omega) ns2;rw [show goodM p 3 f k mte q be mco ye es=true from hGM] at K2;have K3:=fun W (h:Below w.heap.size w W)=>yd_ k p te vo co ro _ _ _ log vs mt W (hl.below h) (hv.below h) (hm.below h) sl sv sm (by omega) (by omega) (by omega);clear hGN hGM ns1 ns2 hl hv hm sl sv sm;obtain⟨hxl,x0,x1,x2,x3,x4,x5,x6,x7,x8⟩:=X.e9;obtain⟨hml,m0,m1,m2,m3,m4,m5,m6,m7,m8⟩:=M.e9;go_enter Try.func171,Try.ntmps171;go_wp2_with fail;rw [←hW0];clear hW0;refine K1.mono ?_;rintro e w1 ⟨rfl,hb⟩;replace X:=X.below hb;replace M:=M.below hb;replace R:=R.below hb;replace hB:=za_ hB hb;have hz1:=hb.size;clear K1 hb;clear hxl x0 x1 x2 x3 x4 x5 x6 x7 x8;clear hml m0 m1 m2 m3 m4 m5 m6 m7 m8;obtain⟨hxl,x0,x1,x2,x3,x4,x5,x6,x7,x8⟩:=X.e9;obtain⟨hml,m0,m1,m2,m3,m4,m5,m6,m7,m8⟩:=M.e9;go_wp2_with fail;refine (K2 _ hB).mono ?_;rintro e w1b ⟨rfl,hb⟩;replace X:=X.below hb;replace M:=M.below hb;replace R:=R.below hb;replace hB:=za_ hB hb;have hz1b:=hb.size;clear K2 hb;clear hxl x0 x1 x2 x3 x4 x5 x6 x7 x8;clear hml m0 m1 m2 m3 m4 m5 m6 m7 m8;obtain⟨hxl,x0,x1,x2,x3,x4,x5,x6,x7,x8⟩:=X.e9;obtain⟨hml,m0,m1,m2,m3,m4,m5,m6,m7,m8⟩:=M.e9;go_wp2_with fail;refine (K3 _ hB).mono ?_;rintro e w2 ⟨u1,u2,u3,rfl,O,hb⟩;replace X:=X.below hb;replace M:=M.below hb;replace R:=R.below hb;have hz2:=hb.size;replace O:=O.mono (base':=(w.heap.size+1+1+1)) (by omega);replace hB:=za_ hB hb;clear K3 hb;clear hxl x0 x1 x2 x3 x4 x5 x6 x7 x8;clear hml m0 m1 m2 m3 m4 m5 m6 m7 m8;have gO:=fun b hb=>(O.lt b hb).1;obtain⟨⟨ua,uc,rfl⟩,⟨pa,pc,rfl⟩,qa,qc,rfl⟩:=O.shapes;obtain⟨hxl,x0,x1,x2,x3,x4,x5,x6,x7,x8⟩:=X.e9;obtain⟨e0,e1,e2,e3,e4,e5,e6,e7,e8⟩:=X.f9;go_upto_region 4 with fail;have hx8:=X.1;obtain⟨W3,hW3,hC,put_⟩:=zj_ w2 X k p te vo (.slice ua log.length uc) co ro (.slice pa vs.length pc) (.slice qa mt.length qc);clear X;have X:=put_;clear put_;replace M:=hC.box M (by omega);replace R:=hC.box R (by omega);replace hB:=hB.trans (hC.b1 hB.size (by omega));replace O:=O.chg hC (fun b hb hh=>by have h8:=gO b hb;have hh:b=w.heap.size:=hh;omega);unfold put9 at hW3;rw [←hW3];clear hW3 hC;clear hxl x0 x1 x2 x3 x4 x5 x6 x7 x8;clear e0 e1 e2 e3 e4 e5 e6 e7 e8;clear gO;obtain⟨hxl,x0,x1,x2,x3,x4,x5,x6,x7,x8⟩:=X.e9;obtain⟨hml,m0,m1,m2,m3,m4,m5,m6,m7,m8⟩:=M.e9;go_upto_if 36 with fail
 go_cut [] from 12 (fun wc=>∃(l1:Option Addr) (l2:Nat) (l3:Option Addr) (l4:Nat) (l5:Option Addr) (l6:Nat),Box wc w.heap.size [k,p,yt,yv,.slice l1 yl.length l2,yc,yr,.slice l3 ys.length l4,.slice l5 ym.length l6]∧Box wc (w.heap.size+1) [(3:Int),f,k,mte,q,be,.slice ea es.length ec,mco,ye]∧Box wc (w.heap.size+1+1) zN∧OwnN wc (w.heap.size+1+1+1) (.slice l1 yl.length l2) (.slice l3 ys.length l4) (.slice l5 ym.length l6) yl ys ym∧Below w.heap.size w wc)
 case first kk hbig J K2 hj1 hj2=>
  clear hbig;clear he HGZ HGY HZY HAA HBB HM6;have hy:=HY.out.symm;by_cases hlt:te<mte
  ·simp only [hmU,hlt,if_true,upN,Nd.mk.injEq,true_and] at hy;obtain⟨hy1,hy2,hy3,hy4,hy5,hy6,hy7⟩:=hy;subst hy1 hy2 hy3 hy4 hy5 hy6 hy7;clear HY hge;go_upto_region 5 with fail;clear hlt hll hvl nes hce hx8;go_wp2_with fail;refine (zG_ k p te vo co ro _ _ _ ua log.length uc rfl _ ⟨_,_,_,rfl⟩ ⟨_,_,_,rfl⟩).mono ?_;rintro e w4 ⟨rfl,hb⟩;replace X:=X.below hb;replace M:=M.below hb;replace R:=R.below hb;replace O:=O.below hb;have hz4:=hb.size;replace hB:=za_ hB hb;clear hb;clear hml m0 m1 m2 m3 m4 m5 m6 m7 m8;clear hxl x0 x1 x2 x3 x4 x5 x6 x7 x8;have OF:OwnN w4 (w.heap.size+1+1+1) (.slice ua log.length uc) (.slice none 0 0) (.slice none 0 0) log [] []:=⟨O.l,World.ownsRow_nil _ _ _ _,World.ownsRow_nil _ _ _ _,fun g hg=>by simp [Value.ownBlock] at hg⟩;clear O;have O:=OF;have gO:=fun b hb=>(O.lt b hb).1;obtain⟨hxl,x0,x1,x2,x3,x4,x5,x6,x7,x8⟩:=X.e9;obtain⟨e0,e1,e2,e3,e4,e5,e6,e7,e8⟩:=X.f9;go_upto_region 6 with fail;have hx8:=X.1;obtain⟨W5,hW5,hC,put_⟩:=zj_ w4 X k p te vo (.slice ua log.length uc) co (0:Int) () ();clear X;have X:=put_;clear put_;replace M:=hC.box M (by omega);replace R:=hC.box R (by omega);replace hB:=hB.trans (hC.b1 hB.size (by omega));replace O:=O.chg hC (fun b hb hh=>by have h8:=gO b hb;have hh:b=w.heap.size:=hh;omega);unfold put9 at hW5;rw [←hW5];clear hW5 hC;clear hxl x0 x1 x2 x3 x4 x5 x6 x7 x8;clear e0 e1 e2 e3 e4 e5 e6 e7 e8;obtain⟨hxl,x0,x1,x2,x3,x4,x5,x6,x7,x8⟩:=X.e9;obtain⟨e0,e1,e2,e3,e4,e5,e6,e7,e8⟩:=X.f9;obtain⟨hml,m0,m1,m2,m3,m4,m5,m6,m7,m8⟩:=M.e9;have hC:Chg (fun k=>k=w.heap.size) W5 ((W5.setCell ⟨w.heap.size,2,none⟩ (.int .i64 mte)).setCell ⟨w.heap.size,3,none⟩ (.int .i64 (-1))):=Chg.setCell (S:=fun k=>k=w.heap.size) (Chg.setCell (S:=fun k=>k=w.heap.size) (Chg.refl _ _) rfl _) rfl _;have X6:Box ((W5.setCell ⟨w.heap.size,2,none⟩ (.int .i64 mte)).setCell ⟨w.heap.size,3,none⟩ (.int .i64 (-1))) w.heap.size [k,p,mte,(-1:Int),.slice ua log.length uc,co,(0:Int),(),()]:=(X.set 2 _ (by simp)).set 3 _ (by simp);have M6:=hC.box M (by omega);have R6:=hC.box R (by omega);have O6:=O.chg hC (fun b hb hh=>by have h8:=gO b hb;have hh:b=w.heap.size:=hh;omega);have B6:=hB.trans (hC.b1 hB.size (by omega));clear X M R O hB hC gO;go_wp2_with fail;go_meet
   case rel=>exact⟨_,_,_,_,_,_,X6,M6,R6,O6,B6⟩
  ·simp only [hmU,hlt,if_false,Nd.mk.injEq,true_and] at hy;obtain⟨hy1,hy2,hy3,hy4,hy5,hy6,hy7⟩:=hy;subst hy1 hy2 hy3 hy4 hy5 hy6 hy7;clear HY hge hll hvl nes hce hx8;go_wp2_with fail;go_meet
   case rel=>exact⟨_,_,_,_,_,_,X,M,R,O,hB⟩
 case rest=>
  clear X M R O hB HY;clear hxl x0 x1 x2 x3 x4 x5 x6 x7 x8;clear hml m0 m1 m2 m3 m4 m5 m6 m7 m8;obtain⟨l1,l2,l3,l4,l5,l6,X,M,R,O,hB⟩:=hcut;generalize wc=w4 at*;have hzw:=hB.size;have hxw:=X.1;have hrw:=R.1;have gO:=fun b hb=>(O.lt b hb).1;obtain⟨hml,m0,m1,m2,m3,m4,m5,m6,m7,m8⟩:=M.e9;go_upto_block 0 with fail;clear hml m0 m1 m2 m3 m4 m5 m6 m7 m8
  go_cut [7] from 8 (fun s7 wd=>∃(q1:Option Addr) (q2:Nat) (r1:Option Addr) (r2:Nat) (r3:Option Addr) (r4:Nat) (r5:Option Addr) (r6:Nat),s7= .slice q1 AA.length q2∧Box wd w.heap.size [k,p,yt,z.vo,.slice r1 z.log.length r2,z.co,z.ro,.slice r3 z.vs.length r4,.slice r5 z.mt.length r6]∧Box wd (w.heap.size+1+1) zN∧OwnN wd (w.heap.size+1+1+1) (.slice r1 z.log.length r2) (.slice r3 z.vs.length r4) (.slice r5 z.mt.length r6) z.log z.vs z.mt∧wd.ownsRow (w.heap.size+1+1+1) 38 9 (.slice q1 AA.length q2) AA.length (flat9 (AA.map toQ))∧Below w.heap.size w wd)
  case first=>
   have hz1:z=appN ⟨k,p,yt,yv,yc,yr,yl,ys,ym⟩ ⟨3,f,k,mte,q,be,mco,ye,es⟩:=by rw [HZY.out,hmX_app HGY.out.2 rfl]
   have hkk:=kind_3 HM6.out.1;have hbb:appB ⟨k,p,yt,yv,yc,yr,yl,ys,ym⟩ ⟨3,f,k,mte,q,be,mco,ye,es⟩=true:=HBB.out;have heD:ER w4 (.slice ea es.length ec) es:=he.below hB;have nl60:yl.length≤60:=HGY.out.1.ll;have hyc:0≤yc:=HGY.out.1.c0;have hq60:q≤60:=by have:=hkk.1.2.1;omega
   obtain⟨hxl,x0,x1,x2,x3,x4,x5,x6,x7,x8⟩:=X.e9;obtain⟨hml,m0,m1,m2,m3,m4,m5,m6,m7,m8⟩:=M.e9;go_upto_region 27 with fail;by_cases c1:mte<yt
   ·obtain rfl:z=⟨k,p,yt,yv,yc,yr,yl,ys,ym⟩:=by rw [hz1];simp [appN,c1]
    obtain rfl:AA= [msN 4 k f yt 0 false]:=by rw [HAA.out];simp [hmA,appM,c1]
    clear hz1 hkk hbb HZY HAA HBB HM6 HGY HGZ HKP hll hvl hce nes he heD nl60 hyc hq60;have R9:=row9_new w4 4 k f yt 0 0 0 false;have hb:=zc_ w4 (.cells #[(4:Int),k,f,yt,(0:Int),(0:Int),(),(0:Int),false] 38);have hzb:=R.1;have hbz:(w.heap.size+1+1+1)≤w4.heap.size:=by omega
    have R10:=zg_ R9 hbz;have X6:=X.below hb;have R6:=R.below hb;have O6:=O.below hb;have B6:=za_ hB hb;clear X M R O hB R9 hb;go_wp2_with fail;go_meet
    case rel=>exact⟨_,_,_,_,_,_,_,_,rfl,X6,R6,O6,R10,B6⟩
   have htt:¬mte<yt:=c1;obtain⟨fb,hfb⟩:∃b,b=fitsB ⟨k,p,yt,yv,yc,0,yl,[],[]⟩ ⟨3,f,k,mte,q,be,mco,ye,es⟩:=⟨_,rfl⟩;have hfb2:fitsB ⟨k,p,yt,yv,yc,yr,yl,ys,ym⟩ ⟨3,f,k,mte,q,be,mco,ye,es⟩=fb:=by rw [hfb];rfl
   obtain⟨lg,hlg⟩:∃l,l=if fb=true then lgW yl q es else yl:=⟨_,rfl⟩;obtain⟨cc,hcc⟩:∃c,c=if fb=true then max yc (min mco ((q:Int)+(es.length:Int))) else yc:=⟨_,rfl⟩;obtain⟨ix,hix⟩:∃i,i=if fb=true then (q:Int)+(es.length:Int) else noIx yl.length q:=⟨_,rfl⟩;have hap:fb=true→apY ⟨k,p,yt,yv,yc,0,yl,[],[]⟩ ⟨3,f,k,mte,q,be,mco,ye,es⟩=true:=fun h=>by
    simp only [appB,decide_eq_false htt,Bool.false_or,hfb2,h,Bool.not_true] at hbb;exact hbb
   have hz2:z=⟨k,p,yt,yv,cc,0,lg,[],[]⟩:=by
    rw [hz1,hlg,hcc];unfold appN;rw [if_neg htt,hfb2]
    cases fb <;>rfl
   have ha2:AA= [msN 4 k f yt ix fb]:=by
    rw [HAA.out,hix];have e:appM ⟨k,p,yt,yv,yc,yr,yl,ys,ym⟩ ⟨3,f,k,mte,q,be,mco,ye,es⟩=msN 4 k f yt (if fb=true then (q:Int)+(es.length:Int) else noIx yl.length q) fb:=by
     unfold appM;rw [if_neg htt,hfb2]
     cases fb <;>rfl
    show [appM ⟨k,p,yt,yv,yc,yr,yl,ys,ym⟩ ⟨3,f,k,mte,q,be,mco,ye,es⟩]=_;rw [e]
   have KL:=fun W h1 h2 (h3:(w.heap.size+1+1+1)≤W.heap.size)=>l11Append_any k p yt yv yc l1 l2 yl 3 f k mte be mco ye ea ec es q (w.heap.size+1+1+1) W h1 h2 hce h3 nl60 nes hq60 hyc fb hfb hap lg hlg cc hcc ix hix;obtain rfl:=hz2;obtain rfl:=ha2;clear hz1 hkk hbb HZY HAA HBB HM6 HGY HGZ HKP hll hvl hce nes he nl60 hyc hq60 hfb hfb2 hlg hcc hix hap htt;go_upto_region 29 with fail;clear hxl x0 x1 x2 x3 x4 x5 x6 x7 x8;clear hml m0 m1 m2 m3 m4 m5 m6 m7 m8;have hrw2:=R.1
   go_cut [9,10,11] from 12 (fun s9 s10 s11 w5=>∃(g9 g10:Nat) (ua:Option Addr) (uc:Nat),s9= .pointer (some ⟨g9,0,none⟩)∧s10= .pointer (some ⟨g10,0,none⟩)∧s11= .bool true∧Box w5 g9 [k,p,yt,yv,.slice ua lg.length uc,cc,(0:Int),(),()]∧Box w5 g10 [(4:Int),k,f,yt,ix,(0:Int),(),(0:Int),fb]∧Box w5 w.heap.size [k,p,yt,yv,.slice l1 yl.length l2,yc,yr,.slice l3 ys.length l4,.slice l5 ym.length l6]∧Box w5 (w.heap.size+1+1) zN∧w5.ownsRow (w.heap.size+1+1+1) 34 2 (.slice ua lg.length uc) lg.length (zE_ lg)∧(w.heap.size+1+1+1)≤g9∧(w.heap.size+1+1+1)≤g10∧Below w.heap.size w w5)
   case first=>
    clear c1;have hlO:∀b,(Value.slice l1 yl.length l2).ownBlock=some b→b<w4.heap.size:=fun b hb=>zh_ O.l b hb;have hD:Below w4.heap.size w4 w4.drew:=(Below.refl _ _).drew;replace X:=X.below hD;replace M:=M.below hD;replace R:=R.below hD;replace O:=O.below hD;replace heD:=heD.below hD;replace hB:=za_ hB hD;have hws:w4.heap.size≤w4.drew.heap.size:=hD.size;clear hD;refine wp_region_held_drew (S:=(fun w'=>Box w' w.heap.size [k,p,yt,yv,.slice l1 yl.length l2,yc,yr,.slice l3 ys.length l4,.slice l5 ym.length l6]∧Box w' (w.heap.size+1) [(3:Int),f,k,mte,q,be,.slice ea es.length ec,mco,ye])) (by kernel_rfl) ⟨X,M⟩ (fun zb_=> ?_);generalize w4.drew=va at*;refine tkH 0 (.agg #[k,p,yt,yv,.slice l1 yl.length l2,yc,yr,.slice l3 ys.length l4,.slice l5 ym.length l6]) rfl ?_ ?_
    ·intro wx hSw;obtain⟨sl,s0,s1,s2,s3,s4,s5,s6,s7,s8⟩:=hSw.1.e9;clear zb_ hSw;go_simp
    simp only [Act.put,sA_,sB_,sC_];refine tkH 2 (.agg #[(3:Int),f,k,mte,q,be,.slice ea es.length ec,mco,ye]) rfl ?_ ?_
    ·intro wx hSw;obtain⟨sl,s0,s1,s2,s3,s4,s5,s6,s7,s8⟩:=hSw.2.e9;clear zb_ hSw;go_simp
    simp only [Act.put,sA_,sB_,sC_]
    revert X M R O heD hB hws zb_
    apply via3 (H:=fun v g9 g10 ua uc=>Box v w.heap.size [k,p,yt,yv,.slice l1 yl.length l2,yc,yr,.slice l3 ys.length l4,.slice l5 ym.length l6]∧Box v (w.heap.size+1) [(3:Int),f,k,mte,q,be,.slice ea es.length ec,mco,ye]∧Box v (w.heap.size+1+1) zN∧Box v g9 zN∧Box v g10 zM∧v.ownsRow (w.heap.size+1+1+1) 34 2 (.slice ua lg.length uc) lg.length (zE_ lg)∧Below w.heap.size w v∧w4.heap.size≤v.heap.size∧(∀b,(Value.slice ua lg.length uc).ownBlock=some b→¬b=g9)∧(∀b,(Value.slice ua lg.length uc).ownBlock=some b→¬b=g10)∧w4.heap.size≤g9∧w4.heap.size≤g10∧¬g9=g10)
    case h2=>
     intro LEAF X M R O heD hB hws zb_;refine rd3 1 8 9 rfl rfl rfl (fun K hK=> ?_) (fun K hK=> ?_) (fun K hK=> ?_)
     ·clear zb_;go_simp;refine (zG_ k p yt yv yc yr _ _ _ l1 yl.length l2 rfl _ ⟨_,_,_,rfl⟩ ⟨_,_,_,rfl⟩).mono ?_;rintro e v1 ⟨rfl,hb⟩;replace X:=X.below hb;replace M:=M.below hb;replace R:=R.below hb;replace O:=O.below hb;replace heD:=heD.below hb;replace hB:=za_ hB hb;replace hws:=Nat.le_trans hws hb.size;clear hb;refine hK.out _ v1 ⟨X,M⟩ (fun zb_=> ?_);clear hK K
      try (simp only [Act.put,sA_,sB_,sC_])
      refine rd3 3 8 9 rfl rfl rfl (fun K hK=> ?_) (fun K hK=> ?_) (fun K hK=> ?_)
      ·clear zb_;go_simp;refine (KL v1 O.l heD (by omega)).mono ?_;rintro e v2 ⟨⟨ul,rfl,OL,hfr⟩,hb⟩;obtain⟨ua,uc,rfl⟩:=zf_ OL;replace X:=X.below hb;replace M:=M.below hb;replace R:=R.below hb;replace O:=O.below hb;replace heD:=heD.below hb;replace hB:=za_ hB hb;replace hws:=Nat.le_trans hws hb.size;clear hb hfr;refine hK.out _ v2 ⟨X,M⟩ (fun zb_=> ?_);clear hK K
       try (simp only [Act.put,sA_,sB_,sC_])
       refine tkH 4 (.tuple #[.agg #[k,p,yt,yv,.slice ua lg.length uc,cc,(0:Int),(),()],.agg #[(4:Int),k,f,yt,ix,(0:Int),(),(0:Int),fb],true]) rfl ?_ ?_
       ·intro wx hSw;clear hSw zb_;go_simp
       simp only [Act.put,sA_,sB_,sC_];refine tkH 5 (.agg #[k,p,yt,yv,.slice ua lg.length uc,cc,(0:Int),(),()]) rfl ?_ ?_
       ·intro wx hSw;clear hSw zb_;go_simp
       simp only [Act.put,sA_,sB_,sC_];refine tkH 6 (.agg #[(4:Int),k,f,yt,ix,(0:Int),(),(0:Int),fb]) rfl ?_ ?_
       ·intro wx hSw;clear hSw zb_;go_simp
       simp only [Act.put,sA_,sB_,sC_];refine tkH 7 (.bool true) rfl ?_ ?_
       ·intro wx hSw;clear hSw zb_;go_simp
       simp only [Act.put,sA_,sB_,sC_];refine rd2 8 9 rfl rfl (fun K hK=> ?_) (fun K hK=> ?_)
       ·clear zb_;have AP9:=zh_ OL;have Z9:=Box.new v2 zN 26;have hA:=zc_ v2 (.cells zN 26);have hwg9:=hws;replace X:=X.below hA;replace M:=M.below hA;replace R:=R.below hA;replace O:=O.below hA;replace heD:=heD.below hA;replace OL:=zd_ OL hA;replace hB:=za_ hB hA;replace hws:=Nat.le_trans hws hA.size;clear hA;go_simp;refine hK.out _ _ ⟨X,M⟩ (fun zb_=> ?_);clear hK K
        try (simp only [Act.put,sA_,sB_,sC_])
        generalize v2.alloc (.cells zN 26)=v3 at*;generalize v2.heap.size=g9 at*;replace AP9:∀b,(Value.slice ua lg.length uc).ownBlock=some b→¬b=g9:=fun b hb9 e9=>by have:=AP9 b hb9;omega
        refine rd1 9 rfl (fun K hK=> ?_);clear zb_;have AP10:=zh_ OL;have h9x:=Z9.1;have Z10:=Box.new v3 zM 38;have hA:=zc_ v3 (.cells zM 38);have hwg10:=hws;replace X:=X.below hA;replace M:=M.below hA;replace R:=R.below hA;replace O:=O.below hA;replace heD:=heD.below hA;replace Z9:=Z9.below hA;replace OL:=zd_ OL hA;replace hB:=za_ hB hA;replace hws:=Nat.le_trans hws hA.size;clear hA;go_simp;refine hK.out _ _ ⟨X,M⟩ (fun zb_=> ?_);clear hK K
        try (simp only [Act.put,sA_,sB_,sC_])
        generalize v3.alloc (.cells zM 38)=v4 at*;generalize v3.heap.size=g10 at*;replace AP10:∀b,(Value.slice ua lg.length uc).ownBlock=some b→¬b=g10:=fun b hb9 e9=>by have:=AP10 b hb9;omega
        exact LEAF v4 g9 g10 ua uc ⟨X,M,R,Z9,Z10,OL,hB,hws,AP9,AP10,hwg9,hwg10,by have h9:=Z9.1;have h10:=Z10.1;omega⟩
       ·clear zb_;have AP10:=zh_ OL;have Z10:=Box.new v2 zM 38;have hA:=zc_ v2 (.cells zM 38);have hwg10:=hws;replace X:=X.below hA;replace M:=M.below hA;replace R:=R.below hA;replace O:=O.below hA;replace heD:=heD.below hA;replace OL:=zd_ OL hA;replace hB:=za_ hB hA;replace hws:=Nat.le_trans hws hA.size;clear hA;go_simp;refine hK.out _ _ ⟨X,M⟩ (fun zb_=> ?_);clear hK K
        try (simp only [Act.put,sA_,sB_,sC_])
        generalize v2.alloc (.cells zM 38)=v5 at*;generalize v2.heap.size=g10 at*;replace AP10:∀b,(Value.slice ua lg.length uc).ownBlock=some b→¬b=g10:=fun b hb9 e9=>by have:=AP10 b hb9;omega
        refine rd1 8 rfl (fun K hK=> ?_);clear zb_;have AP9:=zh_ OL;have h9x:=Z10.1;have Z9:=Box.new v5 zN 26;have hA:=zc_ v5 (.cells zN 26);have hwg9:=hws;replace X:=X.below hA;replace M:=M.below hA;replace R:=R.below hA;replace O:=O.below hA;replace heD:=heD.below hA;replace Z10:=Z10.below hA;replace OL:=zd_ OL hA;replace hB:=za_ hB hA;replace hws:=Nat.le_trans hws hA.size;clear hA;go_simp;refine hK.out _ _ ⟨X,M⟩ (fun zb_=> ?_);clear hK K
        try (simp only [Act.put,sA_,sB_,sC_])
        generalize v5.alloc (.cells zN 26)=v6 at*;generalize v5.heap.size=g9 at*;replace AP9:∀b,(Value.slice ua lg.length uc).ownBlock=some b→¬b=g9:=fun b hb9 e9=>by have:=AP9 b hb9;omega
        exact LEAF v6 g9 g10 ua uc ⟨X,M,R,Z9,Z10,OL,hB,hws,AP9,AP10,hwg9,hwg10,by have h9:=Z9.1;have h10:=Z10.1;omega⟩
      ·clear zb_;have Z9:=Box.new v1 zN 26;have hA:=zc_ v1 (.cells zN 26);have hwg9:=hws;replace X:=X.below hA;replace M:=M.below hA;replace R:=R.below hA;replace O:=O.below hA;replace heD:=heD.below hA;replace hB:=za_ hB hA;replace hws:=Nat.le_trans hws hA.size;clear hA;go_simp;refine hK.out _ _ ⟨X,M⟩ (fun zb_=> ?_);clear hK K
       try (simp only [Act.put,sA_,sB_,sC_])
       generalize v1.alloc (.cells zN 26)=v7 at*;generalize v1.heap.size=g9 at*;refine rd2 3 9 rfl rfl (fun K hK=> ?_) (fun K hK=> ?_)
       ·clear zb_;go_simp;refine (KL v7 O.l heD (by omega)).mono ?_;rintro e v8 ⟨⟨ul,rfl,OL,hfr⟩,hb⟩;obtain⟨ua,uc,rfl⟩:=zf_ OL;have AP9:∀b,(Value.slice ua lg.length uc).ownBlock=some b→¬b=g9:=fun b hb9 e9=>by
         have h9:=Z9.1;rcases hfr b hb9 with h | h
         ·have:=hlO b h;omega
         ·omega
        replace X:=X.below hb;replace M:=M.below hb;replace R:=R.below hb;replace O:=O.below hb;replace heD:=heD.below hb;replace Z9:=Z9.below hb;replace hB:=za_ hB hb;replace hws:=Nat.le_trans hws hb.size;clear hb hfr;refine hK.out _ v8 ⟨X,M⟩ (fun zb_=> ?_);clear hK K
        try (simp only [Act.put,sA_,sB_,sC_])
        refine tkH 4 (.tuple #[.agg #[k,p,yt,yv,.slice ua lg.length uc,cc,(0:Int),(),()],.agg #[(4:Int),k,f,yt,ix,(0:Int),(),(0:Int),fb],true]) rfl ?_ ?_
        ·intro wx hSw;clear hSw zb_;go_simp
        simp only [Act.put,sA_,sB_,sC_];refine tkH 5 (.agg #[k,p,yt,yv,.slice ua lg.length uc,cc,(0:Int),(),()]) rfl ?_ ?_
        ·intro wx hSw;clear hSw zb_;go_simp
        simp only [Act.put,sA_,sB_,sC_];refine tkH 6 (.agg #[(4:Int),k,f,yt,ix,(0:Int),(),(0:Int),fb]) rfl ?_ ?_
        ·intro wx hSw;clear hSw zb_;go_simp
        simp only [Act.put,sA_,sB_,sC_];refine tkH 7 (.bool true) rfl ?_ ?_
        ·intro wx hSw;clear hSw zb_;go_simp
        simp only [Act.put,sA_,sB_,sC_];refine rd1 9 rfl (fun K hK=> ?_);clear zb_;have AP10:=zh_ OL;have h9x:=Z9.1;have Z10:=Box.new v8 zM 38;have hA:=zc_ v8 (.cells zM 38);have hwg10:=hws;replace X:=X.below hA;replace M:=M.below hA;replace R:=R.below hA;replace O:=O.below hA;replace heD:=heD.below hA;replace Z9:=Z9.below hA;replace OL:=zd_ OL hA;replace hB:=za_ hB hA;replace hws:=Nat.le_trans hws hA.size;clear hA;go_simp;refine hK.out _ _ ⟨X,M⟩ (fun zb_=> ?_);clear hK K
        try (simp only [Act.put,sA_,sB_,sC_])
        generalize v8.alloc (.cells zM 38)=v9 at*;generalize v8.heap.size=g10 at*;replace AP10:∀b,(Value.slice ua lg.length uc).ownBlock=some b→¬b=g10:=fun b hb9 e9=>by have:=AP10 b hb9;omega
        exact LEAF v9 g9 g10 ua uc ⟨X,M,R,Z9,Z10,OL,hB,hws,AP9,AP10,hwg9,hwg10,by have h9:=Z9.1;have h10:=Z10.1;omega⟩
       ·clear zb_;have h9x:=Z9.1;have Z10:=Box.new v7 zM 38;have hA:=zc_ v7 (.cells zM 38);have hwg10:=hws;replace X:=X.below hA;replace M:=M.below hA;replace R:=R.below hA;replace O:=O.below hA;replace heD:=heD.below hA;replace Z9:=Z9.below hA;replace hB:=za_ hB hA;replace hws:=Nat.le_trans hws hA.size;clear hA;go_simp;refine hK.out _ _ ⟨X,M⟩ (fun zb_=> ?_);clear hK K
        try (simp only [Act.put,sA_,sB_,sC_])
        generalize v7.alloc (.cells zM 38)=v10 at*;generalize v7.heap.size=g10 at*;refine rd1 3 rfl (fun K hK=> ?_);clear zb_;go_simp;refine (KL v10 O.l heD (by omega)).mono ?_;rintro e v11 ⟨⟨ul,rfl,OL,hfr⟩,hb⟩;obtain⟨ua,uc,rfl⟩:=zf_ OL;have AP9:∀b,(Value.slice ua lg.length uc).ownBlock=some b→¬b=g9:=fun b hb9 e9=>by
         have h9:=Z9.1;rcases hfr b hb9 with h | h
         ·have:=hlO b h;omega
         ·omega
        have AP10:∀b,(Value.slice ua lg.length uc).ownBlock=some b→¬b=g10:=fun b hb9 e9=>by
         have h9:=Z10.1;rcases hfr b hb9 with h | h
         ·have:=hlO b h;omega
         ·omega
        replace X:=X.below hb;replace M:=M.below hb;replace R:=R.below hb;replace O:=O.below hb;replace heD:=heD.below hb;replace Z9:=Z9.below hb;replace Z10:=Z10.below hb;replace hB:=za_ hB hb;replace hws:=Nat.le_trans hws hb.size;clear hb hfr;refine hK.out _ v11 ⟨X,M⟩ (fun zb_=> ?_);clear hK K
        try (simp only [Act.put,sA_,sB_,sC_])
        refine tkH 4 (.tuple #[.agg #[k,p,yt,yv,.slice ua lg.length uc,cc,(0:Int),(),()],.agg #[(4:Int),k,f,yt,ix,(0:Int),(),(0:Int),fb],true]) rfl ?_ ?_
        ·intro wx hSw;clear hSw zb_;go_simp
        simp only [Act.put,sA_,sB_,sC_];refine tkH 5 (.agg #[k,p,yt,yv,.slice ua lg.length uc,cc,(0:Int),(),()]) rfl ?_ ?_
        ·intro wx hSw;clear hSw zb_;go_simp
        simp only [Act.put,sA_,sB_,sC_];refine tkH 6 (.agg #[(4:Int),k,f,yt,ix,(0:Int),(),(0:Int),fb]) rfl ?_ ?_
        ·intro wx hSw;clear hSw zb_;go_simp
        simp only [Act.put,sA_,sB_,sC_];refine tkH 7 (.bool true) rfl ?_ ?_
        ·intro wx hSw;clear hSw zb_;go_simp
        simp only [Act.put,sA_,sB_,sC_];exact LEAF v11 g9 g10 ua uc ⟨X,M,R,Z9,Z10,OL,hB,hws,AP9,AP10,hwg9,hwg10,by have h9:=Z9.1;have h10:=Z10.1;omega⟩
      ·clear zb_;have Z10:=Box.new v1 zM 38;have hA:=zc_ v1 (.cells zM 38);have hwg10:=hws;replace X:=X.below hA;replace M:=M.below hA;replace R:=R.below hA;replace O:=O.below hA;replace heD:=heD.below hA;replace hB:=za_ hB hA;replace hws:=Nat.le_trans hws hA.size;clear hA;go_simp;refine hK.out _ _ ⟨X,M⟩ (fun zb_=> ?_);clear hK K
       try (simp only [Act.put,sA_,sB_,sC_])
       generalize v1.alloc (.cells zM 38)=v12 at*;generalize v1.heap.size=g10 at*;refine rd2 3 8 rfl rfl (fun K hK=> ?_) (fun K hK=> ?_)
       ·clear zb_;go_simp;refine (KL v12 O.l heD (by omega)).mono ?_;rintro e v13 ⟨⟨ul,rfl,OL,hfr⟩,hb⟩;obtain⟨ua,uc,rfl⟩:=zf_ OL;have AP10:∀b,(Value.slice ua lg.length uc).ownBlock=some b→¬b=g10:=fun b hb9 e9=>by
         have h9:=Z10.1;rcases hfr b hb9 with h | h
         ·have:=hlO b h;omega
         ·omega
        replace X:=X.below hb;replace M:=M.below hb;replace R:=R.below hb;replace O:=O.below hb;replace heD:=heD.below hb;replace Z10:=Z10.below hb;replace hB:=za_ hB hb;replace hws:=Nat.le_trans hws hb.size;clear hb hfr;refine hK.out _ v13 ⟨X,M⟩ (fun zb_=> ?_);clear hK K
        try (simp only [Act.put,sA_,sB_,sC_])
        refine tkH 4 (.tuple #[.agg #[k,p,yt,yv,.slice ua lg.length uc,cc,(0:Int),(),()],.agg #[(4:Int),k,f,yt,ix,(0:Int),(),(0:Int),fb],true]) rfl ?_ ?_
        ·intro wx hSw;clear hSw zb_;go_simp
        simp only [Act.put,sA_,sB_,sC_];refine tkH 5 (.agg #[k,p,yt,yv,.slice ua lg.length uc,cc,(0:Int),(),()]) rfl ?_ ?_
        ·intro wx hSw;clear hSw zb_;go_simp
        simp only [Act.put,sA_,sB_,sC_];refine tkH 6 (.agg #[(4:Int),k,f,yt,ix,(0:Int),(),(0:Int),fb]) rfl ?_ ?_
        ·intro wx hSw;clear hSw zb_;go_simp
        simp only [Act.put,sA_,sB_,sC_];refine tkH 7 (.bool true) rfl ?_ ?_
        ·intro wx hSw;clear hSw zb_;go_simp
        simp only [Act.put,sA_,sB_,sC_];refine rd1 8 rfl (fun K hK=> ?_);clear zb_;have AP9:=zh_ OL;have h9x:=Z10.1;have Z9:=Box.new v13 zN 26;have hA:=zc_ v13 (.cells zN 26);have hwg9:=hws;replace X:=X.below hA;replace M:=M.below hA;replace R:=R.below hA;replace O:=O.below hA;replace heD:=heD.below hA;replace Z10:=Z10.below hA;replace OL:=zd_ OL hA;replace hB:=za_ hB hA;replace hws:=Nat.le_trans hws hA.size;clear hA;go_simp;refine hK.out _ _ ⟨X,M⟩ (fun zb_=> ?_);clear hK K
        try (simp only [Act.put,sA_,sB_,sC_])
        generalize v13.alloc (.cells zN 26)=v14 at*;generalize v13.heap.size=g9 at*;replace AP9:∀b,(Value.slice ua lg.length uc).ownBlock=some b→¬b=g9:=fun b hb9 e9=>by have:=AP9 b hb9;omega
        exact LEAF v14 g9 g10 ua uc ⟨X,M,R,Z9,Z10,OL,hB,hws,AP9,AP10,hwg9,hwg10,by have h9:=Z9.1;have h10:=Z10.1;omega⟩
       ·clear zb_;have h9x:=Z10.1;have Z9:=Box.new v12 zN 26;have hA:=zc_ v12 (.cells zN 26);have hwg9:=hws;replace X:=X.below hA;replace M:=M.below hA;replace R:=R.below hA;replace O:=O.below hA;replace heD:=heD.below hA;replace Z10:=Z10.below hA;replace hB:=za_ hB hA;replace hws:=Nat.le_trans hws hA.size;clear hA;go_simp;refine hK.out _ _ ⟨X,M⟩ (fun zb_=> ?_);clear hK K
        try (simp only [Act.put,sA_,sB_,sC_])
        generalize v12.alloc (.cells zN 26)=v15 at*;generalize v12.heap.size=g9 at*;refine rd1 3 rfl (fun K hK=> ?_);clear zb_;go_simp;refine (KL v15 O.l heD (by omega)).mono ?_;rintro e v16 ⟨⟨ul,rfl,OL,hfr⟩,hb⟩;obtain⟨ua,uc,rfl⟩:=zf_ OL;have AP9:∀b,(Value.slice ua lg.length uc).ownBlock=some b→¬b=g9:=fun b hb9 e9=>by
         have h9:=Z9.1;rcases hfr b hb9 with h | h
         ·have:=hlO b h;omega
         ·omega
        have AP10:∀b,(Value.slice ua lg.length uc).ownBlock=some b→¬b=g10:=fun b hb9 e9=>by
         have h9:=Z10.1;rcases hfr b hb9 with h | h
         ·have:=hlO b h;omega
         ·omega
        replace X:=X.below hb;replace M:=M.below hb;replace R:=R.below hb;replace O:=O.below hb;replace heD:=heD.below hb;replace Z9:=Z9.below hb;replace Z10:=Z10.below hb;replace hB:=za_ hB hb;replace hws:=Nat.le_trans hws hb.size;clear hb hfr;refine hK.out _ v16 ⟨X,M⟩ (fun zb_=> ?_);clear hK K
        try (simp only [Act.put,sA_,sB_,sC_])
        refine tkH 4 (.tuple #[.agg #[k,p,yt,yv,.slice ua lg.length uc,cc,(0:Int),(),()],.agg #[(4:Int),k,f,yt,ix,(0:Int),(),(0:Int),fb],true]) rfl ?_ ?_
        ·intro wx hSw;clear hSw zb_;go_simp
        simp only [Act.put,sA_,sB_,sC_];refine tkH 5 (.agg #[k,p,yt,yv,.slice ua lg.length uc,cc,(0:Int),(),()]) rfl ?_ ?_
        ·intro wx hSw;clear hSw zb_;go_simp
        simp only [Act.put,sA_,sB_,sC_];refine tkH 6 (.agg #[(4:Int),k,f,yt,ix,(0:Int),(),(0:Int),fb]) rfl ?_ ?_
        ·intro wx hSw;clear hSw zb_;go_simp
        simp only [Act.put,sA_,sB_,sC_];refine tkH 7 (.bool true) rfl ?_ ?_
        ·intro wx hSw;clear hSw zb_;go_simp
        simp only [Act.put,sA_,sB_,sC_];exact LEAF v16 g9 g10 ua uc ⟨X,M,R,Z9,Z10,OL,hB,hws,AP9,AP10,hwg9,hwg10,by have h9:=Z9.1;have h10:=Z10.1;omega⟩
     ·clear zb_;have Z9:=Box.new va zN 26;have hA:=zc_ va (.cells zN 26);have hwg9:=hws;replace X:=X.below hA;replace M:=M.below hA;replace R:=R.below hA;replace O:=O.below hA;replace heD:=heD.below hA;replace hB:=za_ hB hA;replace hws:=Nat.le_trans hws hA.size;clear hA;go_simp;refine hK.out _ _ ⟨X,M⟩ (fun zb_=> ?_);clear hK K
      try (simp only [Act.put,sA_,sB_,sC_])
      generalize va.alloc (.cells zN 26)=v17 at*;generalize va.heap.size=g9 at*;refine rd2 1 9 rfl rfl (fun K hK=> ?_) (fun K hK=> ?_)
      ·clear zb_;go_simp;refine (zG_ k p yt yv yc yr _ _ _ l1 yl.length l2 rfl _ ⟨_,_,_,rfl⟩ ⟨_,_,_,rfl⟩).mono ?_;rintro e v18 ⟨rfl,hb⟩;replace X:=X.below hb;replace M:=M.below hb;replace R:=R.below hb;replace O:=O.below hb;replace heD:=heD.below hb;replace Z9:=Z9.below hb;replace hB:=za_ hB hb;replace hws:=Nat.le_trans hws hb.size;clear hb;refine hK.out _ v18 ⟨X,M⟩ (fun zb_=> ?_);clear hK K
       try (simp only [Act.put,sA_,sB_,sC_])
       refine rd2 3 9 rfl rfl (fun K hK=> ?_) (fun K hK=> ?_)
       ·clear zb_;go_simp;refine (KL v18 O.l heD (by omega)).mono ?_;rintro e v19 ⟨⟨ul,rfl,OL,hfr⟩,hb⟩;obtain⟨ua,uc,rfl⟩:=zf_ OL;have AP9:∀b,(Value.slice ua lg.length uc).ownBlock=some b→¬b=g9:=fun b hb9 e9=>by
         have h9:=Z9.1;rcases hfr b hb9 with h | h
         ·have:=hlO b h;omega
         ·omega
        replace X:=X.below hb;replace M:=M.below hb;replace R:=R.below hb;replace O:=O.below hb;replace heD:=heD.below hb;replace Z9:=Z9.below hb;replace hB:=za_ hB hb;replace hws:=Nat.le_trans hws hb.size;clear hb hfr;refine hK.out _ v19 ⟨X,M⟩ (fun zb_=> ?_);clear hK K
        try (simp only [Act.put,sA_,sB_,sC_])
        refine tkH 4 (.tuple #[.agg #[k,p,yt,yv,.slice ua lg.length uc,cc,(0:Int),(),()],.agg #[(4:Int),k,f,yt,ix,(0:Int),(),(0:Int),fb],true]) rfl ?_ ?_
        ·intro wx hSw;clear hSw zb_;go_simp
        simp only [Act.put,sA_,sB_,sC_];refine tkH 5 (.agg #[k,p,yt,yv,.slice ua lg.length uc,cc,(0:Int),(),()]) rfl ?_ ?_
        ·intro wx hSw;clear hSw zb_;go_simp
        simp only [Act.put,sA_,sB_,sC_];refine tkH 6 (.agg #[(4:Int),k,f,yt,ix,(0:Int),(),(0:Int),fb]) rfl ?_ ?_
        ·intro wx hSw;clear hSw zb_;go_simp
        simp only [Act.put,sA_,sB_,sC_];refine tkH 7 (.bool true) rfl ?_ ?_
        ·intro wx hSw;clear hSw zb_;go_simp
        simp only [Act.put,sA_,sB_,sC_];refine rd1 9 rfl (fun K hK=> ?_);clear zb_;have AP10:=zh_ OL;have h9x:=Z9.1;have Z10:=Box.new v19 zM 38;have hA:=zc_ v19 (.cells zM 38);have hwg10:=hws;replace X:=X.below hA;replace M:=M.below hA;replace R:=R.below hA;replace O:=O.below hA;replace heD:=heD.below hA;replace Z9:=Z9.below hA;replace OL:=zd_ OL hA;replace hB:=za_ hB hA;replace hws:=Nat.le_trans hws hA.size;clear hA;go_simp;refine hK.out _ _ ⟨X,M⟩ (fun zb_=> ?_);clear hK K
        try (simp only [Act.put,sA_,sB_,sC_])
        generalize v19.alloc (.cells zM 38)=v20 at*;generalize v19.heap.size=g10 at*;replace AP10:∀b,(Value.slice ua lg.length uc).ownBlock=some b→¬b=g10:=fun b hb9 e9=>by have:=AP10 b hb9;omega
        exact LEAF v20 g9 g10 ua uc ⟨X,M,R,Z9,Z10,OL,hB,hws,AP9,AP10,hwg9,hwg10,by have h9:=Z9.1;have h10:=Z10.1;omega⟩
       ·clear zb_;have h9x:=Z9.1;have Z10:=Box.new v18 zM 38;have hA:=zc_ v18 (.cells zM 38);have hwg10:=hws;replace X:=X.below hA;replace M:=M.below hA;replace R:=R.below hA;replace O:=O.below hA;replace heD:=heD.below hA;replace Z9:=Z9.below hA;replace hB:=za_ hB hA;replace hws:=Nat.le_trans hws hA.size;clear hA;go_simp;refine hK.out _ _ ⟨X,M⟩ (fun zb_=> ?_);clear hK K
        try (simp only [Act.put,sA_,sB_,sC_])
        generalize v18.alloc (.cells zM 38)=v21 at*;generalize v18.heap.size=g10 at*;refine rd1 3 rfl (fun K hK=> ?_);clear zb_;go_simp;refine (KL v21 O.l heD (by omega)).mono ?_;rintro e v22 ⟨⟨ul,rfl,OL,hfr⟩,hb⟩;obtain⟨ua,uc,rfl⟩:=zf_ OL;have AP9:∀b,(Value.slice ua lg.length uc).ownBlock=some b→¬b=g9:=fun b hb9 e9=>by
         have h9:=Z9.1;rcases hfr b hb9 with h | h
         ·have:=hlO b h;omega
         ·omega
        have AP10:∀b,(Value.slice ua lg.length uc).ownBlock=some b→¬b=g10:=fun b hb9 e9=>by
         have h9:=Z10.1;rcases hfr b hb9 with h | h
         ·have:=hlO b h;omega
         ·omega
        replace X:=X.below hb;replace M:=M.below hb;replace R:=R.below hb;replace O:=O.below hb;replace heD:=heD.below hb;replace Z9:=Z9.below hb;replace Z10:=Z10.below hb;replace hB:=za_ hB hb;replace hws:=Nat.le_trans hws hb.size;clear hb hfr;refine hK.out _ v22 ⟨X,M⟩ (fun zb_=> ?_);clear hK K
        try (simp only [Act.put,sA_,sB_,sC_])
        refine tkH 4 (.tuple #[.agg #[k,p,yt,yv,.slice ua lg.length uc,cc,(0:Int),(),()],.agg #[(4:Int),k,f,yt,ix,(0:Int),(),(0:Int),fb],true]) rfl ?_ ?_
        ·intro wx hSw;clear hSw zb_;go_simp
        simp only [Act.put,sA_,sB_,sC_];refine tkH 5 (.agg #[k,p,yt,yv,.slice ua lg.length uc,cc,(0:Int),(),()]) rfl ?_ ?_
        ·intro wx hSw;clear hSw zb_;go_simp
        simp only [Act.put,sA_,sB_,sC_];refine tkH 6 (.agg #[(4:Int),k,f,yt,ix,(0:Int),(),(0:Int),fb]) rfl ?_ ?_
        ·intro wx hSw;clear hSw zb_;go_simp
        simp only [Act.put,sA_,sB_,sC_];refine tkH 7 (.bool true) rfl ?_ ?_
        ·intro wx hSw;clear hSw zb_;go_simp
        simp only [Act.put,sA_,sB_,sC_];exact LEAF v22 g9 g10 ua uc ⟨X,M,R,Z9,Z10,OL,hB,hws,AP9,AP10,hwg9,hwg10,by have h9:=Z9.1;have h10:=Z10.1;omega⟩
      ·clear zb_;have h9x:=Z9.1;have Z10:=Box.new v17 zM 38;have hA:=zc_ v17 (.cells zM 38);have hwg10:=hws;replace X:=X.below hA;replace M:=M.below hA;replace R:=R.below hA;replace O:=O.below hA;replace heD:=heD.below hA;replace Z9:=Z9.below hA;replace hB:=za_ hB hA;replace hws:=Nat.le_trans hws hA.size;clear hA;go_simp;refine hK.out _ _ ⟨X,M⟩ (fun zb_=> ?_);clear hK K
       try (simp only [Act.put,sA_,sB_,sC_])
       generalize v17.alloc (.cells zM 38)=v23 at*;generalize v17.heap.size=g10 at*;refine rd1 1 rfl (fun K hK=> ?_);clear zb_;go_simp;refine (zG_ k p yt yv yc yr _ _ _ l1 yl.length l2 rfl _ ⟨_,_,_,rfl⟩ ⟨_,_,_,rfl⟩).mono ?_;rintro e v24 ⟨rfl,hb⟩;replace X:=X.below hb;replace M:=M.below hb;replace R:=R.below hb;replace O:=O.below hb;replace heD:=heD.below hb;replace Z9:=Z9.below hb;replace Z10:=Z10.below hb;replace hB:=za_ hB hb;replace hws:=Nat.le_trans hws hb.size;clear hb;refine hK.out _ v24 ⟨X,M⟩ (fun zb_=> ?_);clear hK K
       try (simp only [Act.put,sA_,sB_,sC_])
       refine rd1 3 rfl (fun K hK=> ?_);clear zb_;go_simp;refine (KL v24 O.l heD (by omega)).mono ?_;rintro e v25 ⟨⟨ul,rfl,OL,hfr⟩,hb⟩;obtain⟨ua,uc,rfl⟩:=zf_ OL;have AP9:∀b,(Value.slice ua lg.length uc).ownBlock=some b→¬b=g9:=fun b hb9 e9=>by
        have h9:=Z9.1;rcases hfr b hb9 with h | h
        ·have:=hlO b h;omega
        ·omega
       have AP10:∀b,(Value.slice ua lg.length uc).ownBlock=some b→¬b=g10:=fun b hb9 e9=>by
        have h9:=Z10.1;rcases hfr b hb9 with h | h
        ·have:=hlO b h;omega
        ·omega
       replace X:=X.below hb;replace M:=M.below hb;replace R:=R.below hb;replace O:=O.below hb;replace heD:=heD.below hb;replace Z9:=Z9.below hb;replace Z10:=Z10.below hb;replace hB:=za_ hB hb;replace hws:=Nat.le_trans hws hb.size;clear hb hfr;refine hK.out _ v25 ⟨X,M⟩ (fun zb_=> ?_);clear hK K
       try (simp only [Act.put,sA_,sB_,sC_])
       refine tkH 4 (.tuple #[.agg #[k,p,yt,yv,.slice ua lg.length uc,cc,(0:Int),(),()],.agg #[(4:Int),k,f,yt,ix,(0:Int),(),(0:Int),fb],true]) rfl ?_ ?_
       ·intro wx hSw;clear hSw zb_;go_simp
       simp only [Act.put,sA_,sB_,sC_];refine tkH 5 (.agg #[k,p,yt,yv,.slice ua lg.length uc,cc,(0:Int),(),()]) rfl ?_ ?_
       ·intro wx hSw;clear hSw zb_;go_simp
       simp only [Act.put,sA_,sB_,sC_];refine tkH 6 (.agg #[(4:Int),k,f,yt,ix,(0:Int),(),(0:Int),fb]) rfl ?_ ?_
       ·intro wx hSw;clear hSw zb_;go_simp
       simp only [Act.put,sA_,sB_,sC_];refine tkH 7 (.bool true) rfl ?_ ?_
       ·intro wx hSw;clear hSw zb_;go_simp
       simp only [Act.put,sA_,sB_,sC_];exact LEAF v25 g9 g10 ua uc ⟨X,M,R,Z9,Z10,OL,hB,hws,AP9,AP10,hwg9,hwg10,by have h9:=Z9.1;have h10:=Z10.1;omega⟩
     ·clear zb_;have Z10:=Box.new va zM 38;have hA:=zc_ va (.cells zM 38);have hwg10:=hws;replace X:=X.below hA;replace M:=M.below hA;replace R:=R.below hA;replace O:=O.below hA;replace heD:=heD.below hA;replace hB:=za_ hB hA;replace hws:=Nat.le_trans hws hA.size;clear hA;go_simp;refine hK.out _ _ ⟨X,M⟩ (fun zb_=> ?_);clear hK K
      try (simp only [Act.put,sA_,sB_,sC_])
      generalize va.alloc (.cells zM 38)=v26 at*;generalize va.heap.size=g10 at*;refine rd2 1 8 rfl rfl (fun K hK=> ?_) (fun K hK=> ?_)
      ·clear zb_;go_simp;refine (zG_ k p yt yv yc yr _ _ _ l1 yl.length l2 rfl _ ⟨_,_,_,rfl⟩ ⟨_,_,_,rfl⟩).mono ?_;rintro e v27 ⟨rfl,hb⟩;replace X:=X.below hb;replace M:=M.below hb;replace R:=R.below hb;replace O:=O.below hb;replace heD:=heD.below hb;replace Z10:=Z10.below hb;replace hB:=za_ hB hb;replace hws:=Nat.le_trans hws hb.size;clear hb;refine hK.out _ v27 ⟨X,M⟩ (fun zb_=> ?_);clear hK K
       try (simp only [Act.put,sA_,sB_,sC_])
       refine rd2 3 8 rfl rfl (fun K hK=> ?_) (fun K hK=> ?_)
       ·clear zb_;go_simp;refine (KL v27 O.l heD (by omega)).mono ?_;rintro e v28 ⟨⟨ul,rfl,OL,hfr⟩,hb⟩;obtain⟨ua,uc,rfl⟩:=zf_ OL;have AP10:∀b,(Value.slice ua lg.length uc).ownBlock=some b→¬b=g10:=fun b hb9 e9=>by
         have h9:=Z10.1;rcases hfr b hb9 with h | h
         ·have:=hlO b h;omega
         ·omega
        replace X:=X.below hb;replace M:=M.below hb;replace R:=R.below hb;replace O:=O.below hb;replace heD:=heD.below hb;replace Z10:=Z10.below hb;replace hB:=za_ hB hb;replace hws:=Nat.le_trans hws hb.size;clear hb hfr;refine hK.out _ v28 ⟨X,M⟩ (fun zb_=> ?_);clear hK K
        try (simp only [Act.put,sA_,sB_,sC_])
        refine tkH 4 (.tuple #[.agg #[k,p,yt,yv,.slice ua lg.length uc,cc,(0:Int),(),()],.agg #[(4:Int),k,f,yt,ix,(0:Int),(),(0:Int),fb],true]) rfl ?_ ?_
        ·intro wx hSw;clear hSw zb_;go_simp
        simp only [Act.put,sA_,sB_,sC_];refine tkH 5 (.agg #[k,p,yt,yv,.slice ua lg.length uc,cc,(0:Int),(),()]) rfl ?_ ?_
        ·intro wx hSw;clear hSw zb_;go_simp
        simp only [Act.put,sA_,sB_,sC_];refine tkH 6 (.agg #[(4:Int),k,f,yt,ix,(0:Int),(),(0:Int),fb]) rfl ?_ ?_
        ·intro wx hSw;clear hSw zb_;go_simp
        simp only [Act.put,sA_,sB_,sC_];refine tkH 7 (.bool true) rfl ?_ ?_
        ·intro wx hSw;clear hSw zb_;go_simp
        simp only [Act.put,sA_,sB_,sC_];refine rd1 8 rfl (fun K hK=> ?_);clear zb_;have AP9:=zh_ OL;have h9x:=Z10.1;have Z9:=Box.new v28 zN 26;have hA:=zc_ v28 (.cells zN 26);have hwg9:=hws;replace X:=X.below hA;replace M:=M.below hA;replace R:=R.below hA;replace O:=O.below hA;replace heD:=heD.below hA;replace Z10:=Z10.below hA;replace OL:=zd_ OL hA;replace hB:=za_ hB hA;replace hws:=Nat.le_trans hws hA.size;clear hA;go_simp;refine hK.out _ _ ⟨X,M⟩ (fun zb_=> ?_);clear hK K
        try (simp only [Act.put,sA_,sB_,sC_])
        generalize v28.alloc (.cells zN 26)=v29 at*;generalize v28.heap.size=g9 at*;replace AP9:∀b,(Value.slice ua lg.length uc).ownBlock=some b→¬b=g9:=fun b hb9 e9=>by have:=AP9 b hb9;omega
        exact LEAF v29 g9 g10 ua uc ⟨X,M,R,Z9,Z10,OL,hB,hws,AP9,AP10,hwg9,hwg10,by have h9:=Z9.1;have h10:=Z10.1;omega⟩
       ·clear zb_;have h9x:=Z10.1;have Z9:=Box.new v27 zN 26;have hA:=zc_ v27 (.cells zN 26);have hwg9:=hws;replace X:=X.below hA;replace M:=M.below hA;replace R:=R.below hA;replace O:=O.below hA;replace heD:=heD.below hA;replace Z10:=Z10.below hA;replace hB:=za_ hB hA;replace hws:=Nat.le_trans hws hA.size;clear hA;go_simp;refine hK.out _ _ ⟨X,M⟩ (fun zb_=> ?_);clear hK K
        try (simp only [Act.put,sA_,sB_,sC_])
        generalize v27.alloc (.cells zN 26)=v30 at*;generalize v27.heap.size=g9 at*;refine rd1 3 rfl (fun K hK=> ?_);clear zb_;go_simp;refine (KL v30 O.l heD (by omega)).mono ?_;rintro e v31 ⟨⟨ul,rfl,OL,hfr⟩,hb⟩;obtain⟨ua,uc,rfl⟩:=zf_ OL;have AP9:∀b,(Value.slice ua lg.length uc).ownBlock=some b→¬b=g9:=fun b hb9 e9=>by
         have h9:=Z9.1;rcases hfr b hb9 with h | h
         ·have:=hlO b h;omega
         ·omega
        have AP10:∀b,(Value.slice ua lg.length uc).ownBlock=some b→¬b=g10:=fun b hb9 e9=>by
         have h9:=Z10.1;rcases hfr b hb9 with h | h
         ·have:=hlO b h;omega
         ·omega
        replace X:=X.below hb;replace M:=M.below hb;replace R:=R.below hb;replace O:=O.below hb;replace heD:=heD.below hb;replace Z9:=Z9.below hb;replace Z10:=Z10.below hb;replace hB:=za_ hB hb;replace hws:=Nat.le_trans hws hb.size;clear hb hfr;refine hK.out _ v31 ⟨X,M⟩ (fun zb_=> ?_);clear hK K
        try (simp only [Act.put,sA_,sB_,sC_])
        refine tkH 4 (.tuple #[.agg #[k,p,yt,yv,.slice ua lg.length uc,cc,(0:Int),(),()],.agg #[(4:Int),k,f,yt,ix,(0:Int),(),(0:Int),fb],true]) rfl ?_ ?_
        ·intro wx hSw;clear hSw zb_;go_simp
        simp only [Act.put,sA_,sB_,sC_];refine tkH 5 (.agg #[k,p,yt,yv,.slice ua lg.length uc,cc,(0:Int),(),()]) rfl ?_ ?_
        ·intro wx hSw;clear hSw zb_;go_simp
        simp only [Act.put,sA_,sB_,sC_];refine tkH 6 (.agg #[(4:Int),k,f,yt,ix,(0:Int),(),(0:Int),fb]) rfl ?_ ?_
        ·intro wx hSw;clear hSw zb_;go_simp
        simp only [Act.put,sA_,sB_,sC_];refine tkH 7 (.bool true) rfl ?_ ?_
        ·intro wx hSw;clear hSw zb_;go_simp
        simp only [Act.put,sA_,sB_,sC_];exact LEAF v31 g9 g10 ua uc ⟨X,M,R,Z9,Z10,OL,hB,hws,AP9,AP10,hwg9,hwg10,by have h9:=Z9.1;have h10:=Z10.1;omega⟩
      ·clear zb_;have h9x:=Z10.1;have Z9:=Box.new v26 zN 26;have hA:=zc_ v26 (.cells zN 26);have hwg9:=hws;replace X:=X.below hA;replace M:=M.below hA;replace R:=R.below hA;replace O:=O.below hA;replace heD:=heD.below hA;replace Z10:=Z10.below hA;replace hB:=za_ hB hA;replace hws:=Nat.le_trans hws hA.size;clear hA;go_simp;refine hK.out _ _ ⟨X,M⟩ (fun zb_=> ?_);clear hK K
       try (simp only [Act.put,sA_,sB_,sC_])
       generalize v26.alloc (.cells zN 26)=v32 at*;generalize v26.heap.size=g9 at*;refine rd1 1 rfl (fun K hK=> ?_);clear zb_;go_simp;refine (zG_ k p yt yv yc yr _ _ _ l1 yl.length l2 rfl _ ⟨_,_,_,rfl⟩ ⟨_,_,_,rfl⟩).mono ?_;rintro e v33 ⟨rfl,hb⟩;replace X:=X.below hb;replace M:=M.below hb;replace R:=R.below hb;replace O:=O.below hb;replace heD:=heD.below hb;replace Z9:=Z9.below hb;replace Z10:=Z10.below hb;replace hB:=za_ hB hb;replace hws:=Nat.le_trans hws hb.size;clear hb;refine hK.out _ v33 ⟨X,M⟩ (fun zb_=> ?_);clear hK K
       try (simp only [Act.put,sA_,sB_,sC_])
       refine rd1 3 rfl (fun K hK=> ?_);clear zb_;go_simp;refine (KL v33 O.l heD (by omega)).mono ?_;rintro e v34 ⟨⟨ul,rfl,OL,hfr⟩,hb⟩;obtain⟨ua,uc,rfl⟩:=zf_ OL;have AP9:∀b,(Value.slice ua lg.length uc).ownBlock=some b→¬b=g9:=fun b hb9 e9=>by
        have h9:=Z9.1;rcases hfr b hb9 with h | h
        ·have:=hlO b h;omega
        ·omega
       have AP10:∀b,(Value.slice ua lg.length uc).ownBlock=some b→¬b=g10:=fun b hb9 e9=>by
        have h9:=Z10.1;rcases hfr b hb9 with h | h
        ·have:=hlO b h;omega
        ·omega
       replace X:=X.below hb;replace M:=M.below hb;replace R:=R.below hb;replace O:=O.below hb;replace heD:=heD.below hb;replace Z9:=Z9.below hb;replace Z10:=Z10.below hb;replace hB:=za_ hB hb;replace hws:=Nat.le_trans hws hb.size;clear hb hfr;refine hK.out _ v34 ⟨X,M⟩ (fun zb_=> ?_);clear hK K
       try (simp only [Act.put,sA_,sB_,sC_])
       refine tkH 4 (.tuple #[.agg #[k,p,yt,yv,.slice ua lg.length uc,cc,(0:Int),(),()],.agg #[(4:Int),k,f,yt,ix,(0:Int),(),(0:Int),fb],true]) rfl ?_ ?_
       ·intro wx hSw;clear hSw zb_;go_simp
       simp only [Act.put,sA_,sB_,sC_];refine tkH 5 (.agg #[k,p,yt,yv,.slice ua lg.length uc,cc,(0:Int),(),()]) rfl ?_ ?_
       ·intro wx hSw;clear hSw zb_;go_simp
       simp only [Act.put,sA_,sB_,sC_];refine tkH 6 (.agg #[(4:Int),k,f,yt,ix,(0:Int),(),(0:Int),fb]) rfl ?_ ?_
       ·intro wx hSw;clear hSw zb_;go_simp
       simp only [Act.put,sA_,sB_,sC_];refine tkH 7 (.bool true) rfl ?_ ?_
       ·intro wx hSw;clear hSw zb_;go_simp
       simp only [Act.put,sA_,sB_,sC_];exact LEAF v34 g9 g10 ua uc ⟨X,M,R,Z9,Z10,OL,hB,hws,AP9,AP10,hwg9,hwg10,by have h9:=Z9.1;have h10:=Z10.1;omega⟩
    case h1=>
     clear hlO;rintro v g9 g10 ua uc ⟨X,M,R,Z9,Z10,OL,hB,hws,AP9,AP10,hwg9,hwg10,h9ne⟩;have h910:=Z9.1;have h911:=Z10.1;refine rd1 10 rfl (fun K hK=> ?_);obtain⟨W9,hW9,hC,Y9⟩:=zj_ v Z9 k p yt yv (.slice ua lg.length uc) cc (0:Int) () ();have X9:=hC.box X (by omega);have M9:=hC.box M (by omega);have R9:=hC.box R (by omega);have Z11:=hC.box Z10 (by omega);have O9:=hC.owns OL (fun b hb hh=>AP9 b hb hh);have B9:=hB.trans (hC.b1 hB.size (by omega));obtain⟨rl,r0,r1,r2,r3,r4,r5,r6,r7,r8⟩:=Z9.e9;obtain⟨f0,f1,f2,f3,f4,f5,f6,f7,f8⟩:=Z9.f9;clear hC X M R Z9 Z10 OL hB;unfold put9 at hW9;go_simp;rw [←hW9];refine hK.out _ W9 ⟨X9,M9⟩ (fun zb_=> ?_);clear hK K hW9 rl r0 r1 r2 r3 r4 r5 r6 r7 r8 f0 f1 f2 f3 f4 f5 f6 f7 f8
     try (simp only [Act.put,sA_,sB_,sC_])
     refine rd1 11 rfl (fun K hK=> ?_);clear zb_;obtain⟨W10,hW10,hC,Y10⟩:=zj_ W9 Z11 (.int .i64 4) k f yt ix (0:Int) () (0:Int) fb;have X10:=hC.box X9 (by omega);have M10:=hC.box M9 (by omega);have R10:=hC.box R9 (by omega);have Y11:=hC.box Y9 (by omega);have O10:=hC.owns O9 (fun b hb hh=>AP10 b hb hh);have B10:=B9.trans (hC.b1 B9.size (by omega));obtain⟨rl,r0,r1,r2,r3,r4,r5,r6,r7,r8⟩:=Z11.e9;obtain⟨f0,f1,f2,f3,f4,f5,f6,f7,f8⟩:=Z11.f9;clear hC X9 M9 R9 Z11 Y9 O9 B9;unfold put9 at hW10;go_simp;rw [←hW10];refine hK.out _ W10 ⟨X10,M10⟩ (fun zb_=> ?_);clear hK K hW10 rl r0 r1 r2 r3 r4 r5 r6 r7 r8 f0 f1 f2 f3 f4 f5 f6 f7 f8
     try (simp only [Act.put,sA_,sB_,sC_])
     refine tkH 12 (.bool true) rfl ?_ ?_
     ·intro wx hSw;clear hSw zb_;go_simp
     simp only [Act.put,sA_,sB_,sC_];clear zb_;refine wpAnyH_done (by kernel_rfl) ?_ _;go_wp2_with fail;go_meet
     case rel=>exact⟨_,_,_,_,rfl,rfl,rfl,Y11,Y10,X10,R10,O10,by omega,by omega,B10⟩
   case rest=>
    clear KL X M R O hB heD;obtain⟨g9,g10,ua,uc,rfl,rfl,rfl,Y9,Y10,X,R,OL,hg9,hg10,hB⟩:=hcut;have gl:=ze_ OL;have hzb:=R.1;obtain⟨hxl,x0,x1,x2,x3,x4,x5,x6,x7,x8⟩:=X.e9;obtain⟨e0,e1,e2,e3,e4,e5,e6,e7,e8⟩:=X.f9;obtain⟨rl,r0,r1,r2,r3,r4,r5,r6,r7,r8⟩:=Y9.e9;go_upto_region 33 with fail;have hx8:=X.1;obtain⟨W6,hW6,hC,put_⟩:=zj_ wc X k p yt yv (.slice ua lg.length uc) cc (0:Int) () ();clear X;have X:=put_;clear put_;replace R:=hC.box R (by omega);replace Y10:=hC.box Y10 (by omega);replace hB:=hB.trans (hC.b1 hB.size (by omega));replace OL:=hC.owns OL (fun b hb hh=>by have:=gl b hb;have hh:b=w.heap.size:=hh;omega);unfold put9 at hW6;rw [←hW6];clear hW6 hC rl r0 r1 r2 r3 r4 r5 r6 r7 r8 Y9;clear hxl x0 x1 x2 x3 x4 x5 x6 x7 x8;clear e0 e1 e2 e3 e4 e5 e6 e7 e8;have R9:=row9_new W6 4 k f yt ix 0 0 fb;have hb:=zc_ W6 (.cells #[(4:Int),k,f,yt,ix,(0:Int),(),(0:Int),fb] 38);have hbz:(w.heap.size+1+1+1)≤W6.heap.size:=by have:=R.1;omega
    have R10:=zg_ R9 hbz;have X6:=X.below hb;have R6:=R.below hb;have O6:OwnN (W6.alloc (.cells #[(4:Int),k,f,yt,ix,(0:Int),(),(0:Int),fb] 38)) (w.heap.size+1+1+1) (.slice ua lg.length uc) (.slice none 0 0) (.slice none 0 0) lg [] []:=⟨zd_ OL hb,World.ownsRow_nil _ _ _ _,World.ownsRow_nil _ _ _ _,fun g hg=>by simp [Value.ownBlock] at hg⟩;have B6:=za_ hB hb;obtain⟨rl,r0,r1,r2,r3,r4,r5,r6,r7,r8⟩:=Y10.e9;clear X R OL hB R9 hb Y10 gl;go_wp2_with fail;go_meet
    case rel=>exact⟨_,_,_,_,_,_,_,_,rfl,X6,R6,O6,R10,B6⟩
  case rest=>
   clear X M R O hB hzw hxw hrw gO HAA HBB HM6 HGY HZY he;obtain⟨q1,q2,r1,r2,r3,r4,r5,r6,rfl,X,R,O,OA,hB⟩:=hcut;have hzw:=hB.size;have hrw:=R.1;have gO:=fun b hb=>(O.lt b hb).1;have gA:=ze_ OA;have hb:=HGZ.out.2.1;have hg:zk_ k p yt z.vo z.co z.ro z.log z.vs z.mt=true:=by
    obtain⟨h1,_,h2,h3,h4⟩:=HGZ.out;rw [←h2,←h3,←h4];exact h1
   have KG:=fun W (h1:ER W (.slice r1 z.log.length r2) z.log) h2 h3=>zt_ k p yt z.vo z.co z.ro (.slice r1 z.log.length r2) (.slice r3 z.vs.length r4) (.slice r5 z.mt.length r6) z.log z.vs z.mt W h1 h2 h3 hb.l hb.v hb.m hb.s;rw [hg] at KG;clear hb hg;obtain⟨hxl,x0,x1,x2,x3,x4,x5,x6,x7,x8⟩:=X.e9;go_wp2_with fail;refine (KG _ O.er O.iv O.im).mono ?_;rintro e w11 ⟨rfl,hb⟩;clear KG;replace X:=X.below hb;replace R:=R.below hb;replace O:=O.below hb;replace OA:=zd_ OA hb;have hz11:=hb.size;replace hB:=za_ hB hb;clear hb;clear hxl x0 x1 x2 x3 x4 x5 x6 x7 x8;go_upto_region 36 with fail;have hC:=zo_ w11 (w.heap.size+1+1) k p yt z.vo (.slice r1 z.log.length r2) z.co z.ro (.slice r3 z.vs.length r4) (.slice r5 z.mt.length r6);have Z:=zp_ R k p yt z.vo (.slice r1 z.log.length r2) z.co z.ro (.slice r3 z.vs.length r4) (.slice r5 z.mt.length r6);have hBE:=hB.trans (hC.b1 hB.size (by omega));have OE:=(O.chg hC (fun b hb hh=>by have h8:=gO b hb;have hh:b=w.heap.size+1+1:=hh;omega)).mono (base':=w.heap.size) (by omega);have OAE:=zg_ (hC.owns OA (fun b hb hh=>by have h8:=gA b hb;have hh:b=w.heap.size+1+1:=hh;omega)) (show w.heap.size≤w.heap.size+1+1+1 by omega);obtain⟨hxl,x0,x1,x2,x3,x4,x5,x6,x7,x8⟩:=X.e9;obtain⟨rl,y0,y1,y2,y3,y4,y5,y6,y7,y8⟩:=R.e9;obtain⟨f0,f1,f2,f3,f4,f5,f6,f7,f8⟩:=R.f9;clear hC X R hB O OA gO gA;obtain⟨tl,t0,t1,t2,t3,t4,t5,t6,t7,t8⟩:=Z.e9;clear Z;have HOE:Hid (OwnN (put9 w11 (w.heap.size+1+1) (.int .i64 k) (.int .i64 p) (.int .i64 yt) (.int .i64 z.vo) (.slice r1 z.log.length r2) (.int .i64 z.co) (.int .i64 z.ro) (.slice r3 z.vs.length r4) (.slice r5 z.mt.length r6)) w.heap.size (.slice r1 z.log.length r2) (.slice r3 z.vs.length r4) (.slice r5 z.mt.length r6) z.log z.vs z.mt):=OE;have HOA:Hid (World.ownsRow (put9 w11 (w.heap.size+1+1) (.int .i64 k) (.int .i64 p) (.int .i64 yt) (.int .i64 z.vo) (.slice r1 z.log.length r2) (.int .i64 z.co) (.int .i64 z.ro) (.slice r3 z.vs.length r4) (.slice r5 z.mt.length r6)) w.heap.size 38 9 (.slice q1 AA.length q2) AA.length (flat9 (AA.map toQ))):=OAE;have HBE:Hid (Below w.heap.size w (put9 w11 (w.heap.size+1+1) (.int .i64 k) (.int .i64 p) (.int .i64 yt) (.int .i64 z.vo) (.slice r1 z.log.length r2) (.int .i64 z.co) (.int .i64 z.ro) (.slice r3 z.vs.length r4) (.slice r5 z.mt.length r6))):=hBE;clear OE OAE hBE;unfold put9 at*;go_wp2;refine bodyPost_ret (v:= .tuple #[.agg #[k,p,yt,z.vo,.slice r1 z.log.length r2,z.co,z.ro,.slice r3 z.vs.length r4,.slice r5 z.mt.length r6],.slice q1 AA.length q2,true]) (by simp [results,Try.results171,go_sem,t0,t1,t2,t3,t4,t5,t6,t7,t8]) rfl ⟨.inl ⟨rfl,?_⟩,HBE.out⟩;obtain⟨h1,_,h2,h3,h4⟩:=HGZ.out;rw [h2,h3,h4];exact⟨_,_,_,_,rfl,HOE.out,HOA.out⟩
end Go.Proofs.Ytapfhhmimkkhnaa
