/-
  A vote that came: onVote.
  An answer that came: onTold.
  What an append makes of a log: logWith.
-/
import Derived.Test.YtapfhhmimkkhnaaGreatHAToSP
import Derived.Test.YtapfhhmimkkhnaaGreatCWToCV
namespace Go.Proofs.YtapfhhmimkkhnaaGreat
open Go.RowKit Go.Maps
set_option linter.unusedVariables false
set_option maxRecDepth 100000
set_option maxHeartbeats 16000000
theorem qd_ (k p:Nat) (hk:k<p) (hp:p≤7) (te vo co ro:Int) (la:Option Addr) (lc:Nat) (va:Option Addr) (vc:Nat) (ma:Option Addr) (mc:Nat) (log:List En) (vs mt:List Int) (ki fr dst mte ix be mco:Int) (ye:Bool) (ea:Option Addr) (ec:Nat) (es:List En) (base:Nat) (w:World) (ho:OwnN w base (.slice la log.length lc) (.slice va vs.length vc) (.slice ma mt.length mc) log vs mt) (hbase:base≤w.heap.size) (hask:ro=1→vs≠ []∧vs.Pairwise (· ≤ ·)∧vs.length≤7∧¬(p:Int)<2*(vs.length:Int)) (r:Nd) (hr:r=votN ⟨k,p,te,vo,co,ro,log,vs,mt⟩ ⟨ki,fr,dst,mte,ix,be,mco,ye,es⟩):
  Calls Tryz.prog 172 #[.agg #[k,p,te,vo,.slice la log.length lc,co,ro,.slice va vs.length vc,.slice ma mt.length mc],.agg #[ki,fr,dst,mte,ix,be,.slice ea es.length ec,mco,ye]] w fun e w'=>∃uv um,e= .returned (.tuple #[.agg #[k,p,te,vo,.slice la log.length lc,co,r.ro,uv,um],(),true])∧OwnN w' base (.slice la log.length lc) uv um log r.vs r.mt∧Below base w w':=by
 obtain⟨W0,hW0,hB,X,M,Y,hz0⟩:=al3 w [k,p,te,vo,.slice la log.length lc,co,ro,.slice va vs.length vc,.slice ma mt.length mc] 42 [ki,fr,dst,mte,ix,be,.slice ea es.length ec,mco,ye] 80 zN 42;have O:=ho.below hB;have lto:=fun b hb=>(ho.lt b hb).2;have lto2:=fun b hb=>(ho.lt b hb).1;clear ho;go_enter Tryz.func172,Tryz.ntmps172;by_cases c1:te=mte;rotate_left
 ·have c1b:¬mte=te:=fun e=>c1 e.symm;clear c1 hask;obtain rfl:r=⟨k,p,te,vo,co,ro,log,vs,mt⟩:=by rw [hr];simp [votN,votY,c1b]
  clear hr;clear lto2;have apY:∀b,NB (.slice la log.length lc) (.slice va vs.length vc) (.slice ma mt.length mc) b→¬b=w.heap.size+1+1:=fun b hb e=>by have:=lto b hb;omega
  replace hB:=hB.mono hbase;obtain⟨WQ,hWQ⟩:∃W,W=W0:=⟨_,rfl⟩;rw [←hWQ] at hB X Y O;clear lto;obtain⟨xl,x0,x1,x2,x3,x4,x5,x6,x7,x8⟩:=X.e9;obtain⟨ml,m0,m1,m2,m3,m4,m5,m6,m7,m8⟩:=M.e9;go_upto_region 3 with fail;rw [←hW0,←hWQ];clear hW0 hWQ M xl x0 x1 x2 x3 x4 x5 x6 x7 x8 ml m0 m1 m2 m3 m4 m5 m6 m7 m8;have hC:=zk_ WQ (w.heap.size+1+1) k p te vo (.slice la log.length lc) co ro (.slice va vs.length vc) (.slice ma mt.length mc);have Z:=zl_ Y k p te vo (.slice la log.length lc) co ro (.slice va vs.length vc) (.slice ma mt.length mc);have hBE:=hB.trans (hC.b1 (B:=base) (Nat.le_trans hbase hB.size) (by omega));have OE:=O.chg hC (fun b hb hh=>by have hh:b=w.heap.size+1+1:=hh;exact apY b hb hh);obtain⟨xl,x0,x1,x2,x3,x4,x5,x6,x7,x8⟩:=X.e9;obtain⟨yl,y0,y1,y2,y3,y4,y5,y6,y7,y8⟩:=Y.e9;obtain⟨f0,f1,f2,f3,f4,f5,f6,f7,f8⟩:=Y.f9;clear hC X Y hB O apY;obtain⟨tl,t0,t1,t2,t3,t4,t5,t6,t7,t8⟩:=Z.e9;clear Z;unfold put9 at*;go_wp2;exact bodyPost_ret (v:= .tuple #[.agg #[k,p,te,vo,.slice la log.length lc,co,ro,.slice va vs.length vc,.slice ma mt.length mc],(),true]) (by simp [results,Tryz.results172,go_sem,t0,t1,t2,t3,t4,t5,t6,t7,t8]) rfl ⟨_,_,rfl,OE,hBE⟩
 subst c1
 cases ye with
 | false=>
  clear hask;obtain rfl:r=⟨k,p,te,vo,co,ro,log,vs,mt⟩:=by rw [hr];simp [votN,votY]
  clear hr;clear lto2;have apY:∀b,NB (.slice la log.length lc) (.slice va vs.length vc) (.slice ma mt.length mc) b→¬b=w.heap.size+1+1:=fun b hb e=>by have:=lto b hb;omega
  replace hB:=hB.mono hbase;obtain⟨WQ,hWQ⟩:∃W,W=W0:=⟨_,rfl⟩;rw [←hWQ] at hB X Y O;clear lto;obtain⟨xl,x0,x1,x2,x3,x4,x5,x6,x7,x8⟩:=X.e9;obtain⟨ml,m0,m1,m2,m3,m4,m5,m6,m7,m8⟩:=M.e9;go_upto_region 3 with fail;rw [←hW0,←hWQ];clear hW0 hWQ M xl x0 x1 x2 x3 x4 x5 x6 x7 x8 ml m0 m1 m2 m3 m4 m5 m6 m7 m8;have hC:=zk_ WQ (w.heap.size+1+1) k p te vo (.slice la log.length lc) co ro (.slice va vs.length vc) (.slice ma mt.length mc);have Z:=zl_ Y k p te vo (.slice la log.length lc) co ro (.slice va vs.length vc) (.slice ma mt.length mc);have hBE:=hB.trans (hC.b1 (B:=base) (Nat.le_trans hbase hB.size) (by omega));have OE:=O.chg hC (fun b hb hh=>by have hh:b=w.heap.size+1+1:=hh;exact apY b hb hh);obtain⟨xl,x0,x1,x2,x3,x4,x5,x6,x7,x8⟩:=X.e9;obtain⟨yl,y0,y1,y2,y3,y4,y5,y6,y7,y8⟩:=Y.e9;obtain⟨f0,f1,f2,f3,f4,f5,f6,f7,f8⟩:=Y.f9;clear hC X Y hB O apY;obtain⟨tl,t0,t1,t2,t3,t4,t5,t6,t7,t8⟩:=Z.e9;clear Z;unfold put9 at*;go_wp2;exact bodyPost_ret (v:= .tuple #[.agg #[k,p,te,vo,.slice la log.length lc,co,ro,.slice va vs.length vc,.slice ma mt.length mc],(),true]) (by simp [results,Tryz.results172,go_sem,t0,t1,t2,t3,t4,t5,t6,t7,t8]) rfl ⟨_,_,rfl,OE,hBE⟩
 | true=>
  by_cases c3:ro=1;rotate_left
  ·clear hask;obtain rfl:r=⟨k,p,te,vo,co,ro,log,vs,mt⟩:=by rw [hr];simp [votN,votY,c3]
   clear hr;clear lto2;have apY:∀b,NB (.slice la log.length lc) (.slice va vs.length vc) (.slice ma mt.length mc) b→¬b=w.heap.size+1+1:=fun b hb e=>by have:=lto b hb;omega
   replace hB:=hB.mono hbase;obtain⟨WQ,hWQ⟩:∃W,W=W0:=⟨_,rfl⟩;rw [←hWQ] at hB X Y O;clear lto;obtain⟨xl,x0,x1,x2,x3,x4,x5,x6,x7,x8⟩:=X.e9;obtain⟨ml,m0,m1,m2,m3,m4,m5,m6,m7,m8⟩:=M.e9;go_upto_region 3 with fail;rw [←hW0,←hWQ];clear hW0 hWQ M xl x0 x1 x2 x3 x4 x5 x6 x7 x8 ml m0 m1 m2 m3 m4 m5 m6 m7 m8;have hC:=zk_ WQ (w.heap.size+1+1) k p te vo (.slice la log.length lc) co ro (.slice va vs.length vc) (.slice ma mt.length mc);have Z:=zl_ Y k p te vo (.slice la log.length lc) co ro (.slice va vs.length vc) (.slice ma mt.length mc);have hBE:=hB.trans (hC.b1 (B:=base) (Nat.le_trans hbase hB.size) (by omega));have OE:=O.chg hC (fun b hb hh=>by have hh:b=w.heap.size+1+1:=hh;exact apY b hb hh);obtain⟨xl,x0,x1,x2,x3,x4,x5,x6,x7,x8⟩:=X.e9;obtain⟨yl,y0,y1,y2,y3,y4,y5,y6,y7,y8⟩:=Y.e9;obtain⟨f0,f1,f2,f3,f4,f5,f6,f7,f8⟩:=Y.f9;clear hC X Y hB O apY;obtain⟨tl,t0,t1,t2,t3,t4,t5,t6,t7,t8⟩:=Z.e9;clear Z;unfold put9 at*;go_wp2;exact bodyPost_ret (v:= .tuple #[.agg #[k,p,te,vo,.slice la log.length lc,co,ro,.slice va vs.length vc,.slice ma mt.length mc],(),true]) (by simp [results,Tryz.results172,go_sem,t0,t1,t2,t3,t4,t5,t6,t7,t8]) rfl ⟨_,_,rfl,OE,hBE⟩
  subst c3;obtain⟨a1,a2,a3,a4⟩:=hask rfl;replace hr:r=vbN ⟨k,p,te,vo,co,1,log,vs,mt⟩ fr:=by rw [hr];simp [votN,votY]
  have K:=tr_ k p hk hp te vo co 1 la lc va vc ma mc log vs mt fr base W0 O (Nat.le_trans hbase hB.size) a1 a2 a3 a4 r hr;clear a1 a2 a3 a4 hask O;obtain⟨xl,x0,x1,x2,x3,x4,x5,x6,x7,x8⟩:=X.e9;obtain⟨ml,m0,m1,m2,m3,m4,m5,m6,m7,m8⟩:=M.e9;go_wp2_with fail;rw [←hW0];refine K.mono ?_;rintro e w1 ⟨uv,um,rfl,O,hnb,hc⟩;clear K hW0;have HR:Hid (r=vbN ⟨k,p,te,vo,co,1,log,vs,mt⟩ fr):=hr;clear hr;have lv:∀b,(Value.slice va vs.length vc).ownBlock=some b→base≤b∧b<w.heap.size:=fun b hb=>⟨lto2 b (.inr (.inl hb)),lto b (.inr (.inl hb))⟩;have X1:=hc.box X (fun h=>by have:=lv _ h;omega);have Y1:=hc.box Y (fun h=>by have:=lv _ h;omega);have ntb:∀b,NB (.slice la log.length lc) uv um b→¬b=w.heap.size∧¬b=w.heap.size+1+1:=fun b hb=>by
   rcases hnb b hb with h | h
   ·have:=lto b h;omega
   ·omega
  have hB1:Below base w w1:=(hB.mono hbase).trans (hc.below (B:=base) (Nat.le_trans hbase hB.size) (fun b hb=>(lv b hb).1));have hz1:=hc.size;obtain⟨xa,xc,rfl⟩:=ze_ O.v;obtain⟨ya,yc,rfl⟩:=ze_ O.m;obtain⟨rro,hrro⟩:∃t,t=r.ro:=⟨_,rfl⟩;obtain⟨rvs,hrvs⟩:∃t,t=r.vs:=⟨_,rfl⟩;obtain⟨rmt,hrmt⟩:∃t,t=r.mt:=⟨_,rfl⟩;have HX:Hid (rro=r.ro∧rvs=r.vs∧rmt=r.mt):=⟨hrro,hrvs,hrmt⟩;rw [←hrvs,←hrmt] at O ntb;rw [←hrro,←hrvs,←hrmt];clear hnb hrro hrvs hrmt lto lto2 lv hc M X Y hB ml m0 m1 m2 m3 m4 m5 m6 m7 m8 xl x0 x1 x2 x3 x4 x5 x6 x7 x8;have hC1:=zk_ w1 w.heap.size k p te vo (.slice la log.length lc) co rro (.slice xa rvs.length xc) (.slice ya rmt.length yc);have X2:=zl_ X1 k p te vo (.slice la log.length lc) co rro (.slice xa rvs.length xc) (.slice ya rmt.length yc);have Y2:=hC1.box Y1 (by have:=Y1.1;omega);have O2:=O.chg hC1 (fun b hb hh=>(ntb b hb).1 hh);have hB2:=hB1.trans (hC1.b1 (B:=base) (Nat.le_trans hbase hB1.size) (by omega));have hzp:=hC1.size;obtain⟨WQ,hWQ⟩:∃W,W=put9 w1 w.heap.size (.int .i64 k) (.int .i64 p) (.int .i64 te) (.int .i64 vo) (.slice la log.length lc) (.int .i64 co) (.int .i64 rro) (.slice xa rvs.length xc) (.slice ya rmt.length yc):=⟨_,rfl⟩;rw [←hWQ] at X2 Y2 O2 hB2 hzp;obtain⟨xl,x0,x1,x2,x3,x4,x5,x6,x7,x8⟩:=X1.e9;obtain⟨f0,f1,f2,f3,f4,f5,f6,f7,f8⟩:=X1.f9;unfold put9 at hWQ;have HWQ:Hid _:=hWQ;clear hWQ hC1 X1 Y1 hB1 O;go_upto_region 3 with fail;rw [←HWQ.out];clear HWQ xl x0 x1 x2 x3 x4 x5 x6 x7 x8 f0 f1 f2 f3 f4 f5 f6 f7 f8;have apY:∀b,NB (.slice la log.length lc) (.slice xa rvs.length xc) (.slice ya rmt.length yc) b→¬b=w.heap.size+1+1:=fun b hb=>(ntb b hb).2;have X:=X2;have Y:=Y2;have O:=O2;have hB:=hB2;clear X2 Y2 O2 hB2 ntb;have hC:=zk_ WQ (w.heap.size+1+1) k p te vo (.slice la log.length lc) co rro (.slice xa rvs.length xc) (.slice ya rmt.length yc);have Z:=zl_ Y k p te vo (.slice la log.length lc) co rro (.slice xa rvs.length xc) (.slice ya rmt.length yc);have hBE:=hB.trans (hC.b1 (B:=base) (Nat.le_trans hbase hB.size) (by omega));have OE:=O.chg hC (fun b hb hh=>by have hh:b=w.heap.size+1+1:=hh;exact apY b hb hh);obtain⟨xl,x0,x1,x2,x3,x4,x5,x6,x7,x8⟩:=X.e9;obtain⟨yl,y0,y1,y2,y3,y4,y5,y6,y7,y8⟩:=Y.e9;obtain⟨f0,f1,f2,f3,f4,f5,f6,f7,f8⟩:=Y.f9;clear hC X Y hB O apY;obtain⟨tl,t0,t1,t2,t3,t4,t5,t6,t7,t8⟩:=Z.e9;clear Z;unfold put9 at*;go_wp2;exact bodyPost_ret (v:= .tuple #[.agg #[k,p,te,vo,.slice la log.length lc,co,rro,.slice xa rvs.length xc,.slice ya rmt.length yc],(),true]) (by simp [results,Tryz.results172,go_sem,t0,t1,t2,t3,t4,t5,t6,t7,t8]) rfl ⟨_,_,by rw [HX.out.1],by rw [←HX.out.2.1,←HX.out.2.2];exact OE,hBE⟩
theorem List.map_set_eq (f:Nat) (mt:List Int) (x:Int):(mt.map (Value.int .i64)).set f (.int .i64 x)=(mt.set f x).map (.int .i64):=by simp [List.map_set]
theorem qe_ (k p:Nat) (te vo co ro:Int) (la:Option Addr) (lc:Nat) (va:Option Addr) (vc:Nat) (ma:Option Addr) (mc:Nat) (log:List En) (vs mt:List Int) (f:Nat) (ki dst mte ix be mco:Int) (ye:Bool) (ea:Option Addr) (ec:Nat) (es:List En) (base:Nat) (w:World) (ho:OwnN w base (.slice la log.length lc) (.slice va vs.length vc) (.slice ma mt.length mc) log vs mt) (hbase:base≤w.heap.size) (hf:ro=2→f<mt.length) (r:Nd) (hr:r=tolN ⟨k,p,te,vo,co,ro,log,vs,mt⟩ ⟨ki,f,dst,mte,ix,be,mco,ye,es⟩):
  Calls Tryz.prog 174 #[.agg #[k,p,te,vo,.slice la log.length lc,co,ro,.slice va vs.length vc,.slice ma mt.length mc],.agg #[ki,f,dst,mte,ix,be,.slice ea es.length ec,mco,ye]] w fun e w'=>∃uv um,e= .returned (.tuple #[.agg #[k,p,te,vo,.slice la log.length lc,co,ro,uv,um],(),true])∧OwnN w' base (.slice la log.length lc) uv um log vs r.mt∧Below base w w':=by
 obtain⟨W0,hW0,hB,X,M,Y,hz0⟩:=al3 w [k,p,te,vo,.slice la log.length lc,co,ro,.slice va vs.length vc,.slice ma mt.length mc] 42 [ki,f,dst,mte,ix,be,.slice ea es.length ec,mco,ye] 80 zN 42;have O:=ho.below hB;have lto:=fun b hb=>(ho.lt b hb).2;have lto2:=fun b hb=>(ho.lt b hb).1;clear ho;go_enter Tryz.func174,Tryz.ntmps174;by_cases c1:te=mte;rotate_left
 ·have c1b:¬mte=te:=fun e=>c1 e.symm;clear c1;obtain rfl:r=⟨k,p,te,vo,co,ro,log,vs,mt⟩:=by rw [hr];simp [tolN,tolY,c1b]
  clear hr hf;have apY:∀b,NB (.slice la log.length lc) (.slice va vs.length vc) (.slice ma mt.length mc) b→¬b=w.heap.size+1+1:=fun b hb e=>by have:=lto b hb;omega
  replace hB:=hB.mono hbase;obtain⟨WQ,hWQ⟩:∃W,W=W0:=⟨_,rfl⟩;rw [←hWQ] at hB X Y O;clear lto lto2;obtain⟨xl,x0,x1,x2,x3,x4,x5,x6,x7,x8⟩:=X.e9;obtain⟨ml,m0,m1,m2,m3,m4,m5,m6,m7,m8⟩:=M.e9;go_upto_region 2 with fail;rw [←hW0,←hWQ];clear hW0 hWQ M xl x0 x1 x2 x3 x4 x5 x6 x7 x8 ml m0 m1 m2 m3 m4 m5 m6 m7 m8;have hC:=zk_ WQ (w.heap.size+1+1) k p te vo (.slice la log.length lc) co ro (.slice va vs.length vc) (.slice ma mt.length mc);have Z:=zl_ Y k p te vo (.slice la log.length lc) co ro (.slice va vs.length vc) (.slice ma mt.length mc);have hBE:=hB.trans (hC.b1 (B:=base) (Nat.le_trans hbase hB.size) (by omega));have OE:=O.chg hC (fun b hb hh=>by have hh:b=w.heap.size+1+1:=hh;exact apY b hb hh);obtain⟨xl,x0,x1,x2,x3,x4,x5,x6,x7,x8⟩:=X.e9;obtain⟨yl,y0,y1,y2,y3,y4,y5,y6,y7,y8⟩:=Y.e9;obtain⟨f0,f1,f2,f3,f4,f5,f6,f7,f8⟩:=Y.f9;clear hC X Y hB O apY;obtain⟨tl,t0,t1,t2,t3,t4,t5,t6,t7,t8⟩:=Z.e9;clear Z;unfold put9 at*;go_wp2;exact bodyPost_ret (v:= .tuple #[.agg #[k,p,te,vo,.slice la log.length lc,co,ro,.slice va vs.length vc,.slice ma mt.length mc],(),true]) (by simp [results,Tryz.results174,go_sem,t0,t1,t2,t3,t4,t5,t6,t7,t8]) rfl ⟨_,_,rfl,OE,hBE⟩
 subst c1;by_cases c3:ro=2;rotate_left
 ·skip;obtain rfl:r=⟨k,p,te,vo,co,ro,log,vs,mt⟩:=by rw [hr];simp [tolN,tolY,c3]
  clear hr hf;have apY:∀b,NB (.slice la log.length lc) (.slice va vs.length vc) (.slice ma mt.length mc) b→¬b=w.heap.size+1+1:=fun b hb e=>by have:=lto b hb;omega
  replace hB:=hB.mono hbase;obtain⟨WQ,hWQ⟩:∃W,W=W0:=⟨_,rfl⟩;rw [←hWQ] at hB X Y O;clear lto lto2;obtain⟨xl,x0,x1,x2,x3,x4,x5,x6,x7,x8⟩:=X.e9;obtain⟨ml,m0,m1,m2,m3,m4,m5,m6,m7,m8⟩:=M.e9;go_upto_region 2 with fail;rw [←hW0,←hWQ];clear hW0 hWQ M xl x0 x1 x2 x3 x4 x5 x6 x7 x8 ml m0 m1 m2 m3 m4 m5 m6 m7 m8;have hC:=zk_ WQ (w.heap.size+1+1) k p te vo (.slice la log.length lc) co ro (.slice va vs.length vc) (.slice ma mt.length mc);have Z:=zl_ Y k p te vo (.slice la log.length lc) co ro (.slice va vs.length vc) (.slice ma mt.length mc);have hBE:=hB.trans (hC.b1 (B:=base) (Nat.le_trans hbase hB.size) (by omega));have OE:=O.chg hC (fun b hb hh=>by have hh:b=w.heap.size+1+1:=hh;exact apY b hb hh);obtain⟨xl,x0,x1,x2,x3,x4,x5,x6,x7,x8⟩:=X.e9;obtain⟨yl,y0,y1,y2,y3,y4,y5,y6,y7,y8⟩:=Y.e9;obtain⟨f0,f1,f2,f3,f4,f5,f6,f7,f8⟩:=Y.f9;clear hC X Y hB O apY;obtain⟨tl,t0,t1,t2,t3,t4,t5,t6,t7,t8⟩:=Z.e9;clear Z;unfold put9 at*;go_wp2;exact bodyPost_ret (v:= .tuple #[.agg #[k,p,te,vo,.slice la log.length lc,co,ro,.slice va vs.length vc,.slice ma mt.length mc],(),true]) (by simp [results,Tryz.results174,go_sem,t0,t1,t2,t3,t4,t5,t6,t7,t8]) rfl ⟨_,_,rfl,OE,hBE⟩
 subst c3;replace hf:=hf rfl;obtain⟨g,rfl⟩:∃g,ma=some ⟨g,0,none⟩:=by
  rcases O.m.2 with⟨h,h0⟩ | ⟨g,cap,cur,h,_⟩
  ·omega
  ·simp only [Value.slice.injEq,true_and] at h;exact⟨g,h.1⟩
 have hg0:=lto2 g (.inr (.inr rfl));have hg1:=lto g (.inr (.inr rfl));clear lto2;have d0:W0.cell? ⟨g,f,none⟩=some (.int .i64 mt[f]):=by rw [O.m.cellAt f (by omega)];simp [hf]
 have e0:=O.m.frozenAt f;have hg:mt[f]?.getD 0=mt[f]:=by simp [hf]
 have hf0:(0:Int)≤(f:Int):=by omega
 have hf1:(f:Int)<(mt.length:Int):=by omega
 generalize mt[f]=z at*
 cases ye with
 | true=>
  obtain rfl:r=⟨k,p,te,vo,co,2,log,vs,mt.set f (max z ix)⟩:=by
   rw [hr];simp [tolN,tolY,tolX,hg]
  clear hr hg;have hC1:Chg (fun b=>b=g) W0 (W0.setCell ⟨g,f,none⟩ (.int .i64 (max z ix))):=Chg.setCell (S:=fun b=>b=g) (Chg.refl _ _) rfl _;have om:=(O.m.stored f (.int .i64 (max z ix))).1;rw [List.map_set_eq f mt (max z ix)] at om;obtain⟨WQ,hWQ⟩:∃W,W=W0.setCell ⟨g,f,none⟩ (.int .i64 (max z ix)):=⟨_,rfl⟩;rw [←hWQ] at hC1 om;have X1:=hC1.box X (by omega);have Y1:=hC1.box Y (by omega);have O1:OwnN WQ base (.slice la log.length lc) (.slice va vs.length vc) (.slice (some ⟨g,0,none⟩) mt.length mc) log vs (mt.set f (max z ix)):=⟨hC1.owns O.l (fun b h1 h2=>by have h2:b=g:=h2;subst h2;exact zn_ O.l O.m (by decide) b h1 rfl),hC1.owns O.v (fun b h1 h2=>by have h2:b=g:=h2;subst h2;exact O.ne b h1 rfl),by rw [List.length_set];exact om,O.ne⟩;have hB1:Below base w WQ:=(hB.mono hbase).trans (hC1.b1 (B:=base) (Nat.le_trans hbase hB.size) (by omega));replace O1:=O1;have hzp:=hC1.size;obtain⟨xl,x0,x1,x2,x3,x4,x5,x6,x7,x8⟩:=X.e9;obtain⟨ml,m0,m1,m2,m3,m4,m5,m6,m7,m8⟩:=M.e9;have HWQ:Hid _:=hWQ;clear hWQ hC1 om O hB X Y M;go_upto_region 4 with fail;rw [←hW0];clear hW0
  go_region
  rw [←HWQ.out];clear HWQ xl x0 x1 x2 x3 x4 x5 x6 x7 x8 ml m0 m1 m2 m3 m4 m5 m6 m7 m8 d0 e0;have X:=zq_ X1;have Y:=zq_ Y1;have O:OwnN WQ.drew base (.slice la log.length lc) (.slice va vs.length vc) (.slice (some ⟨g,0,none⟩) mt.length mc) log vs (mt.set f (max z ix)):=⟨O1.l.drew,O1.v.drew,O1.m.drew,O1.ne⟩;have hB:=hB1.drew;have hzp2:WQ.heap.size≤WQ.drew.heap.size:=Nat.le_refl _;generalize WQ.drew=WQ2 at*;clear X1 Y1 O1 hB1
  rename_i WQ0
  have apY:∀b,NB (.slice la log.length lc) (.slice va vs.length vc) (.slice (some ⟨g,0,none⟩) mt.length mc) b→¬b=w.heap.size+1+1:=fun b hb e=>by have:=lto b hb;omega
  clear lto;have hC:=zk_ WQ2 (w.heap.size+1+1) k p te vo (.slice la log.length lc) co (.int .i64 2) (.slice va vs.length vc) (.slice (some ⟨g,0,none⟩) mt.length mc);have Z:=zl_ Y k p te vo (.slice la log.length lc) co (.int .i64 2) (.slice va vs.length vc) (.slice (some ⟨g,0,none⟩) mt.length mc);have hBE:=hB.trans (hC.b1 (B:=base) (Nat.le_trans hbase hB.size) (by omega));have OE:=O.chg hC (fun b hb hh=>by have hh:b=w.heap.size+1+1:=hh;exact apY b hb hh);obtain⟨xl,x0,x1,x2,x3,x4,x5,x6,x7,x8⟩:=X.e9;obtain⟨yl,y0,y1,y2,y3,y4,y5,y6,y7,y8⟩:=Y.e9;obtain⟨f0,f1,f2,f3,f4,f5,f6,f7,f8⟩:=Y.f9;clear hC X Y hB O apY;obtain⟨tl,t0,t1,t2,t3,t4,t5,t6,t7,t8⟩:=Z.e9;clear Z;unfold put9 at*;go_wp2;exact bodyPost_ret (v:= .tuple #[.agg #[k,p,te,vo,.slice la log.length lc,co,(2:Int),.slice va vs.length vc,.slice (some ⟨g,0,none⟩) mt.length mc],(),true]) (by simp [results,Tryz.results174,go_sem,t0,t1,t2,t3,t4,t5,t6,t7,t8]) rfl ⟨_,_,rfl,OE,hBE⟩
 | false=>
  obtain rfl:r=⟨k,p,te,vo,co,2,log,vs,mt.set f (min z ix)⟩:=by
   rw [hr];simp [tolN,tolY,tolX,hg]
  clear hr hg;have hC1:Chg (fun b=>b=g) W0 (W0.setCell ⟨g,f,none⟩ (.int .i64 (min z ix))):=Chg.setCell (S:=fun b=>b=g) (Chg.refl _ _) rfl _;have om:=(O.m.stored f (.int .i64 (min z ix))).1;rw [List.map_set_eq f mt (min z ix)] at om;obtain⟨WQ,hWQ⟩:∃W,W=W0.setCell ⟨g,f,none⟩ (.int .i64 (min z ix)):=⟨_,rfl⟩;rw [←hWQ] at hC1 om;have X1:=hC1.box X (by omega);have Y1:=hC1.box Y (by omega);have O1:OwnN WQ base (.slice la log.length lc) (.slice va vs.length vc) (.slice (some ⟨g,0,none⟩) mt.length mc) log vs (mt.set f (min z ix)):=⟨hC1.owns O.l (fun b h1 h2=>by have h2:b=g:=h2;subst h2;exact zn_ O.l O.m (by decide) b h1 rfl),hC1.owns O.v (fun b h1 h2=>by have h2:b=g:=h2;subst h2;exact O.ne b h1 rfl),by rw [List.length_set];exact om,O.ne⟩;have hB1:Below base w WQ:=(hB.mono hbase).trans (hC1.b1 (B:=base) (Nat.le_trans hbase hB.size) (by omega));replace O1:=O1;have hzp:=hC1.size;obtain⟨xl,x0,x1,x2,x3,x4,x5,x6,x7,x8⟩:=X.e9;obtain⟨ml,m0,m1,m2,m3,m4,m5,m6,m7,m8⟩:=M.e9;have HWQ:Hid _:=hWQ;clear hWQ hC1 om O hB X Y M;go_upto_region 5 with fail;rw [←hW0];clear hW0
  go_region
  rw [←HWQ.out];clear HWQ xl x0 x1 x2 x3 x4 x5 x6 x7 x8 ml m0 m1 m2 m3 m4 m5 m6 m7 m8 d0 e0;have X:=zq_ X1;have Y:=zq_ Y1;have O:OwnN WQ.drew base (.slice la log.length lc) (.slice va vs.length vc) (.slice (some ⟨g,0,none⟩) mt.length mc) log vs (mt.set f (min z ix)):=⟨O1.l.drew,O1.v.drew,O1.m.drew,O1.ne⟩;have hB:=hB1.drew;have hzp2:WQ.heap.size≤WQ.drew.heap.size:=Nat.le_refl _;generalize WQ.drew=WQ2 at*;clear X1 Y1 O1 hB1
  rename_i WQ0
  have apY:∀b,NB (.slice la log.length lc) (.slice va vs.length vc) (.slice (some ⟨g,0,none⟩) mt.length mc) b→¬b=w.heap.size+1+1:=fun b hb e=>by have:=lto b hb;omega
  clear lto;have hC:=zk_ WQ2 (w.heap.size+1+1) k p te vo (.slice la log.length lc) co (.int .i64 2) (.slice va vs.length vc) (.slice (some ⟨g,0,none⟩) mt.length mc);have Z:=zl_ Y k p te vo (.slice la log.length lc) co (.int .i64 2) (.slice va vs.length vc) (.slice (some ⟨g,0,none⟩) mt.length mc);have hBE:=hB.trans (hC.b1 (B:=base) (Nat.le_trans hbase hB.size) (by omega));have OE:=O.chg hC (fun b hb hh=>by have hh:b=w.heap.size+1+1:=hh;exact apY b hb hh);obtain⟨xl,x0,x1,x2,x3,x4,x5,x6,x7,x8⟩:=X.e9;obtain⟨yl,y0,y1,y2,y3,y4,y5,y6,y7,y8⟩:=Y.e9;obtain⟨f0,f1,f2,f3,f4,f5,f6,f7,f8⟩:=Y.f9;clear hC X Y hB O apY;obtain⟨tl,t0,t1,t2,t3,t4,t5,t6,t7,t8⟩:=Z.e9;clear Z;unfold put9 at*;go_wp2;exact bodyPost_ret (v:= .tuple #[.agg #[k,p,te,vo,.slice la log.length lc,co,(2:Int),.slice va vs.length vc,.slice (some ⟨g,0,none⟩) mt.length mc],(),true]) (by simp [results,Tryz.results174,go_sem,t0,t1,t2,t3,t4,t5,t6,t7,t8]) rfl ⟨_,_,rfl,OE,hBE⟩
def LwP (w':World) (b0:Nat) (L:Value) (j n:Nat) (lg:List En) (co:Int) (q:Nat) (e:Ending):Prop:=∃u b,e= .returned (.tuple #[u,.bool b])∧((j=n∧u=L∧b=true)∨(j<n∧w'.ownsRow b0 44 2 u lg.length (zF_ lg)∧b=decide (co≤(q:Int)+(j:Int))))
theorem rl_ (id pe te vo co ro:Int) (la:Option Addr) (lc:Nat) (va:Option Addr) (vc:Nat) (ma:Option Addr) (mc:Nat) (log:List En) (vs mt:List Int) (ki fr dst mte be mco:Int) (ye:Bool) (ea:Option Addr) (ec:Nat) (es:List En) (q:Nat) (w:World) (hl:ER w (.slice la log.length lc) log) (he:ER w (.slice ea es.length ec) es) (hcl:log.length≤lc) (hce:es.length≤ec) (hq:q≤log.length) (nl:log.length≤60) (ne:es.length≤60):
  Calls Tryz.prog 182 #[.agg #[.int .i64 id,.int .i64 pe,.int .i64 te,.int .i64 vo,.slice la log.length lc,.int .i64 co,.int .i64 ro,.slice va vs.length vc,.slice ma mt.length mc],.agg #[.int .i64 ki,.int .i64 fr,.int .i64 dst,.int .i64 mte,.int .i64 q,.int .i64 be,.slice ea es.length ec,.int .i64 mco,.bool ye]] w fun e w'=>LwP w' w.heap.size (.slice la log.length lc) (fiK log q es) es.length (lgW log q es) co q e∧Below w.heap.size w w':=by
 obtain⟨W0,hW0,hB,X,M,hz0⟩:=al2 w [.int .i64 id,.int .i64 pe,.int .i64 te,.int .i64 vo,.slice la log.length lc,.int .i64 co,.int .i64 ro,.slice va vs.length vc,.slice ma mt.length mc] 42 [.int .i64 ki,.int .i64 fr,.int .i64 dst,.int .i64 mte,.int .i64 q,.int .i64 be,.slice ea es.length ec,.int .i64 mco,.bool ye] 80;have HF:=tm_ log es q;have HFL:=py_ log es q;have HFI:=pz_ log es q hq;have HLG:=vE_ log es q;generalize fiK log q es=j at*;generalize lgW log q es=lg at*;obtain⟨_,_,hle,hlc⟩:=hl;simp only [Value.slice.injEq,true_and] at hle;obtain⟨rfl,rfl⟩:=hle;obtain⟨_,_,hee,hec⟩:=he;simp only [Value.slice.injEq,true_and] at hee;obtain⟨rfl,rfl⟩:=hee;have EL:ER w (.slice la log.length lc) log:=⟨_,_,rfl,hlc⟩;have EE:ER w (.slice ea es.length ec) es:=⟨_,_,rfl,hec⟩;obtain⟨xl,x0,x1,x2,x3,x4,x5,x6,x7,x8⟩:=X.e9;obtain⟨ml,m0,m1,m2,m3,m4,m5,m6,m7,m8⟩:=M.e9;go_enter Tryz.func182,Tryz.ntmps182;go_upto_region 1 with fail;rw [←hW0];clear hW0;go_wp2;clear xl x0 x1 x2 x3 x4 x5 x6 x7 x8 ml m0 m1 m2 m3 m4 m5 m6 m7 m8
 go_loopw [12] (fun i wr=>∃k:Nat,k≤j∧i= .int .i64 k∧Below w.heap.size w wr∧Below W0.heap.size W0 wr) (fun i _=>es.length-(intOf i).toNat)
 case atStart=>exact⟨0,Nat.zero_le _,rfl,hB,Below.refl _ _⟩
 case round=>
  obtain⟨k,hk,rfl,hBw,hBr⟩:=hrel;clear hB;replace X:=X.below hBr;replace M:=M.below hBr;have hzr:=hBr.size;have hzw:=hBw.size;obtain⟨xl,x0,x1,x2,x3,x4,x5,x6,x7,x8⟩:=X.e9;obtain⟨ml,m0,m1,m2,m3,m4,m5,m6,m7,m8⟩:=M.e9;by_cases hlt:k<es.length;rotate_left
  ·have hkj:Hid (j=es.length):=by show _=_;omega
   have hki:¬((k:Int)<(es.length:Int)):=by omega
   clear HF HLG hlc hec EL EE HFI;go_wp2;go_ret2;exact⟨⟨_,_,rfl,.inl ⟨hkj.out,rfl,rfl⟩⟩,hBw⟩
  have hstep:=HF k hk hlt;clear HF;obtain⟨eb,eoff,rfl,heb,hcell⟩:=hec (by intro e;simp [e] at hlt);obtain⟨z0,z1⟩:=hcell k hlt;have y0:=(hBw.cell (p:=⟨eb,eoff+k*2,none⟩) heb).trans z0;have y1:=(hBw.cell (p:=⟨eb,eoff+k*2+1,none⟩) heb).trans z1;clear hec hcell z0 z1;have HD:Hid (es.drop k=es[k]::es.drop (k+1)):=List.drop_eq_getElem_cons hlt;generalize es[k]=s at*;obtain⟨t,d⟩:=s;dsimp only at hstep y0 y1;have hBa:=zb_ wr (.cells #[.int .i64 t,.string d] 44);have V:=Box.new wr #[.int .i64 t,.string d] 44;have hki:(k:Int)<(es.length:Int):=by omega
  have hwr:IntKind.i64.wrap ((q:Int)+(k:Int))=(q:Int)+(k:Int):=by rw [IntKind.wrap_i64];omega
  go_upto_region 5 with fail;obtain⟨W5,hW5⟩:∃W,W=wr.alloc (.cells #[.int .i64 t,.string d] 44):=⟨_,rfl⟩;obtain⟨g,hg⟩:∃g,g=wr.heap.size:=⟨_,rfl⟩;rw [←hW5] at hBa V;rw [←hg] at V;have X5:=X.below hBa;have M5:=M.below hBa;have hBw5:=za_ hBw hBa;have hBr5:=za_ hBr hBa;have hz5:=hBa.size;rw [←hW5,←hg];clear hW5 hg hBa hBw hBr X M y0 y1 xl x0 x1 x2 x3 x4 x5 x6 x7 x8 ml m0 m1 m2 m3 m4 m5 m6 m7 m8;have v0:=V.2.1 0 _ rfl;have vl:=V.1;obtain⟨xl,x0,x1,x2,x3,x4,x5,x6,x7,x8⟩:=X5.e9;obtain⟨ml,m0,m1,m2,m3,m4,m5,m6,m7,m8⟩:=M5.e9;by_cases hat:q+k=log.length
  ·have hai:((q:Int)+(k:Int)==(log.length:Int))=true:=by simp;omega
   have hat2:q+k≤log.length:=by omega
   have hjk:Hid (j=k):=by
    show _=_;by_cases h:k<j
    ·have:=(hstep.1 h).1;omega
    ·omega
   clear hstep hat
   go_quiet (fail)
   have hbq:=yl_ W5 nq;have X:=X5.below hbq;have M:=M5.below hbq;have hB:=za_ hBw5 hbq;generalize W5.drewN nq=W6 at*;clear hbq X5 M5 V v0 vl hBw5 hBr5 xl x0 x1 x2 x3 x4 x5 x6 x7 x8 ml m0 m1 m2 m3 m4 m5 m6 m7 m8;have hlt2:Hid (k<es.length):=hlt;have hlg:lg=log.take (q+k)++es.drop k:=by rw [HLG,hjk.out,if_pos hlt]
   have hln:(log.take (q+k)).length=q+k:=by rw [List.length_take];omega
   have hdn:(es.drop k).length=es.length-k:=by simp
   have SL:=fun w=>tx_ la log.length lc (q+k) w (by omega);obtain⟨e2,SE,EE2⟩:=vY_ w (some ⟨eb,eoff,none⟩) ec k es EE hce (by omega);have EL2:ER w (.slice la (q+k) lc) (log.take (q+k)):=vC_ EL (by omega);have HLG2:Hid (lg=log.take (q+k)++es.drop k):=hlg;have HLN:Hid ((log.take (q+k)).length=q+k):=hln;have HDN:Hid ((es.drop k).length=es.length-k):=hdn;have SL2:∀w,(Instr.sliceAt 39 (.slice la log.length lc) none (some (.int .i64 ((q:Int)+(k:Int)))) none).run Tryz.prog w= .ok (.slice la (q+k) lc) w:=fun w=>by have:=SL w;rw [show (((q+k:Nat)):Int)=(q:Int)+(k:Int) from by omega] at this;exact this
   clear hlg hln hdn SL HLG EL EE HD hlc;go_upto_region 6 with fail;refine wp_region_held_drew (S:=(fun w'=>Box w' w.heap.size [.int .i64 id,.int .i64 pe,.int .i64 te,.int .i64 vo,.slice la log.length lc,.int .i64 co,.int .i64 ro,.slice va vs.length vc,.slice ma mt.length mc]∧Box w' (w.heap.size+1) [.int .i64 ki,.int .i64 fr,.int .i64 dst,.int .i64 mte,.int .i64 q,.int .i64 be,.slice (some ⟨eb,eoff,none⟩) es.length ec,.int .i64 mco,.bool ye])) (by kernel_rfl) ⟨X,M⟩ (fun zc_=> ?_);refine tkH 0 (.pointer (some ⟨w.heap.size,4,none⟩)) rfl ?_ ?_
   ·intro wx hSw;clear hSw zc_;go_simp
   simp only [Act.put,sA_,sB_,sC_];refine tkH 1 (.slice la log.length lc) rfl ?_ ?_
   ·intro wx hSw;have e:=hSw.1.2.1 4 _ rfl;clear zc_ hSw;go_simp
   simp only [Act.put,sA_,sB_,sC_];refine tkH 2 (.int .i64 ((q:Int)+(k:Int))) rfl ?_ ?_
   ·intro wx hSw;clear hSw zc_;go_simp
   simp only [Act.put,sA_,sB_,sC_];refine tkH 3 (.slice la (q+k) lc) rfl ?_ ?_
   ·intro wx hSw;clear hSw zc_;go_simp
   simp only [Act.put,sA_,sB_,sC_];refine tkH 4 (.pointer (some ⟨w.heap.size+1,6,none⟩)) rfl ?_ ?_
   ·intro wx hSw;clear hSw zc_;go_simp
   simp only [Act.put,sA_,sB_,sC_];refine tkH 5 (.slice (some ⟨eb,eoff,none⟩) es.length ec) rfl ?_ ?_
   ·intro wx hSw;have e:=hSw.2.2.1 6 _ rfl;clear zc_ hSw;go_simp
   simp only [Act.put,sA_,sB_,sC_];refine tkH 6 (.int .i64 k) rfl ?_ ?_
   ·intro wx hSw;clear hSw zc_;go_simp
   simp only [Act.put,sA_,sB_,sC_];refine tkH 7 (.slice e2 (es.length-k) (ec-k)) rfl ?_ ?_
   ·intro wx hSw;clear hSw zc_;go_simp
   simp only [Act.put,sA_,sB_,sC_];refine tkH 10 (.int .i64 ((q:Int)+(k:Int))) rfl ?_ ?_
   ·intro wx hSw;clear hSw zc_;go_simp
   simp only [Act.put,sA_,sB_,sC_];refine tkH 11 (.pointer (some ⟨w.heap.size,5,none⟩)) rfl ?_ ?_
   ·intro wx hSw;clear hSw zc_;go_simp
   simp only [Act.put,sA_,sB_,sC_];refine tkH 12 (.int .i64 co) rfl ?_ ?_
   ·intro wx hSw;have e:=hSw.1.2.1 5 _ rfl;clear zc_ hSw;go_simp
   simp only [Act.put,sA_,sB_,sC_];refine tkH 13 (.bool (decide (co≤(q:Int)+(k:Int)))) rfl ?_ ?_
   ·intro wx hSw;clear hSw zc_;go_simp
   simp only [Act.put,sA_,sB_,sC_];refine rd1 8 rfl (fun K hK=> ?_);clear zc_;have hb:=Below.drew (zb_ W6 (.cells #[.slice la (q+k) lc,.slice e2 (es.length-k) (ec-k)] 39));have XB:=zq_ (Box.new W6 #[.slice la (q+k) lc,.slice e2 (es.length-k) (ec-k)] 39);replace X:=X.below hb;replace M:=M.below hb;replace hB:=za_ hB hb;obtain⟨g2,hg2⟩:∃g,g=W6.heap.size:=⟨_,rfl⟩;go_simp;rw [←hg2] at XB ⊢;obtain⟨W7,hW7⟩:∃W,W=(W6.alloc (.cells #[.slice la (q+k) lc,.slice e2 (es.length-k) (ec-k)] 39)).drew:=⟨_,rfl⟩;rw [←hW7] at X M hB XB ⊢;clear hW7 hg2 hb;refine hK.out _ _ ⟨X,M⟩ (fun zc_=> ?_);clear hK K;refine rd1 9 rfl (fun K hK=> ?_);clear zc_;rw [←HLN.out,←HDN.out] at XB;have KC:=uI_ g2 la e2 lc (ec-k) (log.take (q+k)) (es.drop k) W7 XB (by rw [HLN.out];exact EL2.below hB) (by rw [HDN.out];exact EE2.below hB) (by rw [HLN.out,HDN.out];omega) (by rw [HLN.out,HDN.out];omega);go_simp;refine KC.mono ?_;rintro e W8 ⟨u,rfl,o8,hb8⟩;clear KC;replace X:=X.below hb8;replace M:=M.below hb8;have hz8:=hB.size;replace hB:=za_ hB hb8;rw [←List.length_append,←HLG2.out] at o8;have o9:=zf_ o8 hz8;refine hK.out _ _ ⟨X,M⟩ (fun zc_=> ?_);clear hK K hb8 o8;obtain⟨ua,uc,rfl⟩:=ze_ o9;refine tkH 14 (.slice ua lg.length uc) rfl ?_ ?_
   ·intro wx hSw;clear hSw zc_;go_simp
   simp only [Act.put,sA_,sB_,sC_];refine tkH 15 (.bool (decide (co≤(q:Int)+(k:Int)))) rfl ?_ ?_
   ·intro wx hSw;clear hSw zc_;go_simp
   simp only [Act.put,sA_,sB_,sC_];clear zc_;refine wpAnyH_done (by kernel_rfl) ?_ _;clear X M XB EL2 EE2 SE SL2;go_wp2;go_ret2;exact⟨⟨_,_,rfl,.inr ⟨by rw [hjk.out];exact hlt2.out,o9,by rw [hjk.out]⟩⟩,hB⟩
  ·have hlk:q+k<log.length:=by omega
   obtain⟨lb,loff,rfl,hlb,hcl2⟩:=hlc (by intro e;simp [e] at hlk);obtain⟨z0,_⟩:=hcl2 (q+k) hlk;have y0:=(hBw5.cell (p:=⟨lb,loff+(q+k)*2,none⟩) hlb).trans z0;clear hcl2 z0 hlc;have hgd:(log.getD (q+k) En.zero).t=log[q+k].t:=by simp [hlk]
   rw [hgd] at hstep;clear hgd;generalize log[q+k].t=lt at*;have hai:((q:Int)+(k:Int)==(log.length:Int))=false:=by simp;omega
   have hai2:(q:Int)+(k:Int)<(log.length:Int):=by omega
   have hai3:(0:Int)≤(q:Int)+(k:Int):=by omega
   have hai4:((q:Int)+(k:Int)).toNat=q+k:=by omega
   by_cases htt:lt=t
   ·subst htt;have hjk:Hid (k+1≤j):=by show _≤_;have:=hstep.2 ⟨hlk,rfl⟩;omega
    clear hstep
    go_quiet (fail)
    have hbq:=yl_ W5 nq;replace hBw5:=za_ hBw5 hbq;replace hBr5:=za_ hBr5 hbq;generalize W5.drewN nq=W6 at*;clear hbq X5 M5 V v0 vl y0 xl x0 x1 x2 x3 x4 x5 x6 x7 x8 ml m0 m1 m2 m3 m4 m5 m6 m7 m8 HLG EL EE HD;go_wp2;go_roundw
    case rel=>exact⟨k+1,hjk.out,by go_num,hBw5,hBr5⟩
    case measure=>simp [intOf];omega
   ·have hjk:Hid (j=k):=by
     show _=_;by_cases h:k<j
     ·exact absurd (hstep.1 h).2 htt
     ·omega
    clear hstep
    go_quiet (fail)
    have hbq:=yl_ W5 nq;have X:=X5.below hbq;have M:=M5.below hbq;have hB:=za_ hBw5 hbq;generalize W5.drewN nq=W6 at*;clear hbq X5 M5 V v0 vl hBw5 hBr5 xl x0 x1 x2 x3 x4 x5 x6 x7 x8 ml m0 m1 m2 m3 m4 m5 m6 m7 m8;have hlt2:Hid (k<es.length):=hlt;have hlg:lg=log.take (q+k)++es.drop k:=by rw [HLG,hjk.out,if_pos hlt]
    have hln:(log.take (q+k)).length=q+k:=by rw [List.length_take];omega
    have hdn:(es.drop k).length=es.length-k:=by simp
    have SL:=fun w=>tx_ (some ⟨lb,loff,none⟩) log.length lc (q+k) w (by omega);obtain⟨e2,SE,EE2⟩:=vY_ w (some ⟨eb,eoff,none⟩) ec k es EE hce (by omega);have EL2:ER w (.slice (some ⟨lb,loff,none⟩) (q+k) lc) (log.take (q+k)):=vC_ EL (by omega);have HLG2:Hid (lg=log.take (q+k)++es.drop k):=hlg;have HLN:Hid ((log.take (q+k)).length=q+k):=hln;have HDN:Hid ((es.drop k).length=es.length-k):=hdn;have SL2:∀w,(Instr.sliceAt 39 (.slice (some ⟨lb,loff,none⟩) log.length lc) none (some (.int .i64 ((q:Int)+(k:Int)))) none).run Tryz.prog w= .ok (.slice (some ⟨lb,loff,none⟩) (q+k) lc) w:=fun w=>by have:=SL w;rw [show (((q+k:Nat)):Int)=(q:Int)+(k:Int) from by omega] at this;exact this
    clear hlg hln hdn SL HLG EL EE HD;go_upto_region 6 with fail;refine wp_region_held_drew (S:=(fun w'=>Box w' w.heap.size [.int .i64 id,.int .i64 pe,.int .i64 te,.int .i64 vo,.slice (some ⟨lb,loff,none⟩) log.length lc,.int .i64 co,.int .i64 ro,.slice va vs.length vc,.slice ma mt.length mc]∧Box w' (w.heap.size+1) [.int .i64 ki,.int .i64 fr,.int .i64 dst,.int .i64 mte,.int .i64 q,.int .i64 be,.slice (some ⟨eb,eoff,none⟩) es.length ec,.int .i64 mco,.bool ye])) (by kernel_rfl) ⟨X,M⟩ (fun zc_=> ?_);refine tkH 0 (.pointer (some ⟨w.heap.size,4,none⟩)) rfl ?_ ?_
    ·intro wx hSw;clear hSw zc_;go_simp
    simp only [Act.put,sA_,sB_,sC_];refine tkH 1 (.slice (some ⟨lb,loff,none⟩) log.length lc) rfl ?_ ?_
    ·intro wx hSw;have e:=hSw.1.2.1 4 _ rfl;clear zc_ hSw;go_simp
    simp only [Act.put,sA_,sB_,sC_];refine tkH 2 (.int .i64 ((q:Int)+(k:Int))) rfl ?_ ?_
    ·intro wx hSw;clear hSw zc_;go_simp
    simp only [Act.put,sA_,sB_,sC_];refine tkH 3 (.slice (some ⟨lb,loff,none⟩) (q+k) lc) rfl ?_ ?_
    ·intro wx hSw;clear hSw zc_;go_simp
    simp only [Act.put,sA_,sB_,sC_];refine tkH 4 (.pointer (some ⟨w.heap.size+1,6,none⟩)) rfl ?_ ?_
    ·intro wx hSw;clear hSw zc_;go_simp
    simp only [Act.put,sA_,sB_,sC_];refine tkH 5 (.slice (some ⟨eb,eoff,none⟩) es.length ec) rfl ?_ ?_
    ·intro wx hSw;have e:=hSw.2.2.1 6 _ rfl;clear zc_ hSw;go_simp
    simp only [Act.put,sA_,sB_,sC_];refine tkH 6 (.int .i64 k) rfl ?_ ?_
    ·intro wx hSw;clear hSw zc_;go_simp
    simp only [Act.put,sA_,sB_,sC_];refine tkH 7 (.slice e2 (es.length-k) (ec-k)) rfl ?_ ?_
    ·intro wx hSw;clear hSw zc_;go_simp
    simp only [Act.put,sA_,sB_,sC_];refine tkH 10 (.int .i64 ((q:Int)+(k:Int))) rfl ?_ ?_
    ·intro wx hSw;clear hSw zc_;go_simp
    simp only [Act.put,sA_,sB_,sC_];refine tkH 11 (.pointer (some ⟨w.heap.size,5,none⟩)) rfl ?_ ?_
    ·intro wx hSw;clear hSw zc_;go_simp
    simp only [Act.put,sA_,sB_,sC_];refine tkH 12 (.int .i64 co) rfl ?_ ?_
    ·intro wx hSw;have e:=hSw.1.2.1 5 _ rfl;clear zc_ hSw;go_simp
    simp only [Act.put,sA_,sB_,sC_];refine tkH 13 (.bool (decide (co≤(q:Int)+(k:Int)))) rfl ?_ ?_
    ·intro wx hSw;clear hSw zc_;go_simp
    simp only [Act.put,sA_,sB_,sC_];refine rd1 8 rfl (fun K hK=> ?_);clear zc_;have hb:=Below.drew (zb_ W6 (.cells #[.slice (some ⟨lb,loff,none⟩) (q+k) lc,.slice e2 (es.length-k) (ec-k)] 39));have XB:=zq_ (Box.new W6 #[.slice (some ⟨lb,loff,none⟩) (q+k) lc,.slice e2 (es.length-k) (ec-k)] 39);replace X:=X.below hb;replace M:=M.below hb;replace hB:=za_ hB hb;obtain⟨g2,hg2⟩:∃g,g=W6.heap.size:=⟨_,rfl⟩;go_simp;rw [←hg2] at XB ⊢;obtain⟨W7,hW7⟩:∃W,W=(W6.alloc (.cells #[.slice (some ⟨lb,loff,none⟩) (q+k) lc,.slice e2 (es.length-k) (ec-k)] 39)).drew:=⟨_,rfl⟩;rw [←hW7] at X M hB XB ⊢;clear hW7 hg2 hb;refine hK.out _ _ ⟨X,M⟩ (fun zc_=> ?_);clear hK K;refine rd1 9 rfl (fun K hK=> ?_);clear zc_;rw [←HLN.out,←HDN.out] at XB;have KC:=uI_ g2 (some ⟨lb,loff,none⟩) e2 lc (ec-k) (log.take (q+k)) (es.drop k) W7 XB (by rw [HLN.out];exact EL2.below hB) (by rw [HDN.out];exact EE2.below hB) (by rw [HLN.out,HDN.out];omega) (by rw [HLN.out,HDN.out];omega);go_simp;refine KC.mono ?_;rintro e W8 ⟨u,rfl,o8,hb8⟩;clear KC;replace X:=X.below hb8;replace M:=M.below hb8;have hz8:=hB.size;replace hB:=za_ hB hb8;rw [←List.length_append,←HLG2.out] at o8;have o9:=zf_ o8 hz8;refine hK.out _ _ ⟨X,M⟩ (fun zc_=> ?_);clear hK K hb8 o8;obtain⟨ua,uc,rfl⟩:=ze_ o9;refine tkH 14 (.slice ua lg.length uc) rfl ?_ ?_
    ·intro wx hSw;clear hSw zc_;go_simp
    simp only [Act.put,sA_,sB_,sC_];refine tkH 15 (.bool (decide (co≤(q:Int)+(k:Int)))) rfl ?_ ?_
    ·intro wx hSw;clear hSw zc_;go_simp
    simp only [Act.put,sA_,sB_,sC_];clear zc_;refine wpAnyH_done (by kernel_rfl) ?_ _;clear X M XB EL2 EE2 SE SL2;go_wp2;go_ret2;exact⟨⟨_,_,rfl,.inr ⟨by rw [hjk.out];exact hlt2.out,o9,by rw [hjk.out]⟩⟩,hB⟩
end Go.Proofs.YtapfhhmimkkhnaaGreat
