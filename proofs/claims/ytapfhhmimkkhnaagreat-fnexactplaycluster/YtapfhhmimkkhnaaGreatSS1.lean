/-
  A step on a cluster of one's own, the specification's way: a timeout, a proposal, a crash.
-/
import Derived.Test.YtapfhhmimkkhnaaGreatNEToLS12
import Derived.Test.YtapfhhmimkkhnaaGreatG2ToNS
import Derived.Test.YtapfhhmimkkhnaaGreatCC3ToPP
namespace Go.Proofs.YtapfhhmimkkhnaaGreat
open Go.RowKit Go.Maps
set_option maxHeartbeats 16000000
set_option linter.unusedVariables false
set_option maxRecDepth 100000
theorem l12Step_1 (p lo hi:Nat) (vn vm vl:Value) (N:List Nv) (M:List Mv) (L:List Ld) (no k mn:Int) (d:ByteArray) (w:World) (h:OwnC w lo hi vn vm vl N M L) (hh:hi≤w.heap.size) (hG:PG p (N.map Nv.n) (M.map Mv.q) L) (hd:d.size≤1048576):
  Calls Tryz.prog 46 #[.agg #[vn,vm,vl],.agg #[.int .i64 1,no,k,mn,d]] w fun e w'=>StepA w' lo (stB (N.map Nv.n) (M.map Mv.q) ⟨1,no,k,mn,d⟩) (stN (N.map Nv.n) (M.map Mv.q) ⟨1,no,k,mn,d⟩) (stM (N.map Nv.n) (M.map Mv.q) ⟨1,no,k,mn,d⟩) (stL (N.map Nv.n) (M.map Mv.q) L ⟨1,no,k,mn,d⟩) e∧Chg (fun b=>lo≤b∧b<hi) w w':=by
 have hlh:=h.lohi;obtain⟨⟨na,nc,rfl⟩,⟨ma,mc,rfl⟩,ya,yc,rfl⟩:=h.shapes;obtain⟨W0,hW0,hB,X,Y,Z,hz0⟩:=al3 w [.slice na N.length nc,.slice ma M.length mc,.slice ya L.length yc] 30 [.int .i64 1,no,k,mn,d] 51 z3 30;have hzw:=hB.size;have hT0:TyB W0 (w.heap.size+1+1) 30:=⟨z3,by
  rw [hW0];have:=heap_alloc_new ((w.alloc (.cells #[.slice na N.length nc,.slice ma M.length mc,.slice ya L.length yc] 30)).alloc (.cells #[.int .i64 1,no,k,mn,d] 51)) (.cells z3 30);simpa using this⟩
 have HBL:=h.hbl;have HB:stB (N.map Nv.n) (M.map Mv.q) ⟨1,no,k,mn,d⟩=(isP no N.length&&tmOk (gN (atN (N.map Nv.n) no)) (atN (N.map Nv.n) no).ro (atN (N.map Nv.n) no).te):=by simp [stB]
 have h0:=h.below hB;have KI:=fun W=>zu_ 1 2 4 W;rw [show inB 1 2 4=false from by decide] at KI;have KP:∀W,Calls Tryz.prog 42 #[no,.int .i64 0,.int .i64 ((N.length:Int)-1)] W fun e w'=>e= .returned (.bool (isP no N.length))∧w'=W:=fun W=>by rw [←isP_inB];exact zu_ no 0 ((N.length:Int)-1) W
 have hn7:N.length≤7:=by have h1:=hG.n;have:=hG.p7;rw [List.length_map] at h1;omega
 clear h;obtain⟨yl,y0,y1,y2,y3,y4⟩:=Y.c5;obtain⟨xl,x0,x1,x2⟩:=X.c3;go_enter Tryz.func46,Tryz.ntmps46
 go_upto_region 1 with fail
 rw [←hW0];clear hW0
 go_wp2_with fail
 refine (KI _).mono ?_;rintro e w1 ⟨rfl,hw1⟩;rw [hw1];clear hw1 KI w1
 go_wp2_with fail
 refine (KP _).mono ?_;rintro e w1 ⟨rfl,hw1⟩;rw [hw1];clear hw1 KP w1;by_cases hP:isP no N.length=true;rotate_left
 ·replace hP:isP no N.length=false:=by simpa using hP
  rw [hP,Bool.false_and] at HB;rw [hP];clear h0;obtain⟨W5,hW5,hC5,Z5⟩:=zj_ W0 Z (.slice na N.length nc) (.slice ma M.length mc) (.slice ya L.length yc);have hBF:Hid (Chg (fun b=>lo≤b∧b<hi) w W5):=Chg.of_below (hB.trans (hC5.b1 (B:=w.heap.size) (by have:=hB.size;omega) (by omega)));have HF:Hid (stB (N.map Nv.n) (M.map Mv.q) ⟨1,no,k,mn,d⟩=false):=HB;clear hC5;obtain⟨zl,z0,z1,z2,f0,f1,f2⟩:=Z.c3f;clear Z;obtain⟨tl,t0,t1,t2⟩:=Z5.c3;clear Z5;unfold put3 at*;go_wp2;rw [←hW5];exact bodyPost_ret (v:= .tuple #[.agg #[.slice na N.length nc,.slice ma M.length mc,.slice ya L.length yc],false]) (by simp [results,Tryz.results46,go_sem,t0,t1,t2]) rfl ⟨.inr ⟨HF.out,_,_,_,_,_,_,_,_,_,rfl⟩,hBF.out⟩
 rw [hP];obtain⟨j,rfl,hj⟩:=yu_ hP;rw [zv_ hj,hP,Bool.true_and] at HB;obtain⟨c,hcb,hpx,_⟩:=h0.cn.at j hj;have hgd:Gd N[j].n∧N[j].n.id=(j:Int):=by
  obtain⟨a,b,_,_⟩:=hG.g j (by rw [List.length_map];exact hj);rw [List.getElem_map] at a b;exact⟨a,b⟩
 have hKN:Hid (stN (N.map Nv.n) (M.map Mv.q) ⟨1,(j:Int),k,mn,d⟩=(N.map Nv.n).set j (tmX N[j].n)):=by
  show _=_;simp only [stN,zv_ hj];simp
 have hKM:Hid (stM (N.map Nv.n) (M.map Mv.q) ⟨1,(j:Int),k,mn,d⟩=pushM (M.map Mv.q) (tmA N[j].n)):=by
  show _=_;simp only [stM,zv_ hj];simp
 have hKL:Hid (stL (N.map Nv.n) (M.map Mv.q) L ⟨1,(j:Int),k,mn,d⟩=zB_ L N[j].n (tmX N[j].n)):=by
  show _=_;simp only [stL,zv_ hj];simp
 have hL1:=hG.l;have hM1:=hG.m6;rw [List.length_map] at hM1;have hNid:Hid (N[j].n.id=(j:Int)):=hgd.2;obtain⟨g,rfl⟩:∃g,na=some ⟨g,0,none⟩:=by
  rcases h0.n.2 with⟨_,h0⟩ | ⟨g,cap,cur,hv,_⟩
  ·omega
  ·simp only [Value.slice.injEq] at hv;exact⟨g,hv.1⟩
 obtain⟨hgl,c0,c1,c2,c3,c4,c5,c6,c7,c8⟩:=zV_ h0.n j hj rfl;obtain⟨ok,hok⟩:∃ok,ok=tmOk (gN N[j].n) N[j].n.ro N[j].n.te:=⟨_,rfl⟩;have HRL:Hid (ok=true→zB_ L N[j].n (tmX N[j].n)=zB_ L N[j].n (tmX N[j].n)):=fun q=>by
  rfl
 have KT:=fun W (q:Below W0.heap.size W0 W)=>specTimeC N[j] c W (OwnN.below hpx q) hgd.1 ok hok;rw [←hok] at HB;have hidz:Hid ((tmX N[j].n).id=N[j].n.id):=(tmX_at _).1;clear hpx hgd hok hcb hP hd;have HBH:Hid _:=HB;clear HB;obtain⟨xo,HXO⟩:∃xo,Hid (N[j]=xo):=⟨N[j],(rfl:N[j]=N[j])⟩;rw [HXO.out] at c0 c1 c2 c3 c4 c5 c6 c7 c8 KT hNid;have V:=Box.new W0 xo 42;have hBA:=zb_ W0 (.cells xo 42)
 go_upto_region 6 with fail
 obtain⟨W1,hW1⟩:∃W,W=W0.alloc (.cells xo 42):=⟨_,rfl⟩;rw [←hW1] at V hBA ⊢;have hs2:W0.heap.size<W1.heap.size:=by rw [hW1];simp
 clear hW1 c0 c1 c2 c3 c4 c5 c6 c7 c8 hgl yl y0 y1 y2 y3 y4 xl x0 x1 x2;have KT1:=KT W1 hBA;replace X:=X.below hBA;replace Y:=Y.below hBA;replace Z:=Z.below hBA;replace hT0:=hT0.below hBA;replace h0:=h0.below hBA;replace hB:=za_ hB hBA;clear hBA KT;obtain⟨yl,y0,y1,y2,y3,y4⟩:=Y.c5;obtain⟨xl,x0,x1,x2⟩:=X.c3;obtain⟨vvl,v0,v1,v2,v3,v4,v5,v6,v7,v8⟩:=V.e9
 go_wp2_with fail
 refine KT1.mono ?_;rintro e w2 ⟨hA,hb2⟩;replace X:=X.below hb2;replace Y:=Y.below hb2;replace Z:=Z.below hb2;replace hT0:=hT0.below hb2;replace h0:=h0.below hb2;replace hB:=za_ hB hb2;replace V:=V.below hb2;have hz2:=hb2.size;clear KT1 hb2 yl y0 y1 y2 y3 y4 xl x0 x1 x2 vvl v0 v1 v2 v3 v4 v5 v6 v7 v8 Y;rcases hA with⟨hok,x,AB,qa,qc,rfl,hxz,hpx,hAB,hbare,hlen,hq⟩ | ⟨hok,x,rfl⟩;rotate_left
 ·have HB:=HBH.out;rw [hok] at HB;replace HB:Hid _:=HB;clear hok HBH HRL;obtain⟨W3,hW3,hC3,T⟩:=zk_ w2 V x.n.id x.n.pe x.n.te x.n.vo (.slice x.la x.n.log.length x.lc) x.n.co x.n.ro (.slice x.va x.n.vs.length x.vc) (.slice x.ma x.n.mt.length x.mc);have hz3:=hC3.size;have X3:=hC3.box X (by omega);have Z3_:=hC3.box Z (by omega);have hT3:=hT0.chg hC3 (by omega);have h3:=h0.chg hC3 (fun b hb=> .inr (by have hb:b=W0.heap.size:=hb;omega));have hB3:=hB.trans (hC3.b1 (B:=w.heap.size) (by omega) (by omega));obtain⟨vvl,v0,v1,v2,v3,v4,v5,v6,v7,v8⟩:=V.e9;obtain⟨f0,f1,f2,f3,f4,f5,f6,f7,f8⟩:=V.f9;unfold put9 at hW3
  go_upto_region 19 with fail
  rw [←hW3];clear hW3 hC3 T V vvl v0 v1 v2 v3 v4 v5 v6 v7 v8 f0 f1 f2 f3 f4 f5 f6 f7 f8 X Z hT0 h0 hB h3;obtain⟨xl,x0,x1,x2⟩:=X3.c3;obtain⟨W5,hW5,hC5,Z5⟩:=zj_ W3 Z3_ (.slice (some ⟨g,0,none⟩) N.length nc) (.slice ma M.length mc) (.slice ya L.length yc);have hBF:Hid (Chg (fun b=>lo≤b∧b<hi) w W5):=Chg.of_below (hB3.trans (hC5.b1 (B:=w.heap.size) (by have:=hB3.size;omega) (by omega)));have HF:Hid (stB (N.map Nv.n) (M.map Mv.q) ⟨1,(j:Int),k,mn,d⟩=false):=HB.out;clear hC5;obtain⟨zl,z0,z1,z2,f0,f1,f2⟩:=Z3_.c3f;clear Z3_;obtain⟨tl,t0,t1,t2⟩:=Z5.c3;clear Z5;unfold put3 at*;go_wp2;rw [←hW5];exact bodyPost_ret (v:= .tuple #[.agg #[.slice (some ⟨g,0,none⟩) N.length nc,.slice ma M.length mc,.slice ya L.length yc],false]) (by simp [results,Tryz.results46,go_sem,t0,t1,t2]) rfl ⟨.inr ⟨HF.out,_,_,_,_,_,_,_,_,_,rfl⟩,hBF.out⟩
 have HOK:Hid (stB (N.map Nv.n) (M.map Mv.q) ⟨1,(j:Int),k,mn,d⟩=true):=by show _=_;rw [HBH.out,hok]
 have hnl:Hid (zB_ L N[j].n (tmX N[j].n)=zB_ L N[j].n (tmX N[j].n)):=(rfl:_=_);replace hxz:Hid (x.n=tmX xo.n):=hxz;have hidx:Hid (x.n.id=(j:Int)):=by show x.n.id=_;have e:x.n=_:=hxz.out;rw [e];exact (tmX_at _).1.trans hNid.out
 replace hAB:Hid (AB.map Mv.q=tmA xo.n):=hAB;clear HBH HRL hok hNid hidz;obtain⟨W3,hW3,hC3,T⟩:=zk_ w2 V x.n.id x.n.pe x.n.te x.n.vo (.slice x.la x.n.log.length x.lc) x.n.co x.n.ro (.slice x.va x.n.vs.length x.vc) (.slice x.ma x.n.mt.length x.mc);have hz3:=hC3.size;have X3:=hC3.box X (by omega);have Z3_:=hC3.box Z (by omega);have hT3:=hT0.chg hC3 (by omega);have h3:=h0.chg hC3 (fun b hb=> .inr (by have hb:b=W0.heap.size:=hb;omega));have hB3:=hB.trans (hC3.b1 (B:=w.heap.size) (by omega) (by omega));obtain⟨vvl,v0,v1,v2,v3,v4,v5,v6,v7,v8⟩:=V.e9;obtain⟨f0,f1,f2,f3,f4,f5,f6,f7,f8⟩:=V.f9;unfold put9 at hW3
 go_upto_region 19 with fail
 rw [←hW3];have hpx3:PN W3 hi x:=OwnN.mono (OwnN.chg hpx hC3 (fun b h1 h2=>by have:=(PN.in hpx b h1).1;have h2:b=W0.heap.size:=h2;omega)) (by omega);have hq3:=hC3.owns hq (fun b h1 h2=>by have:=zh_ hq b h1;have h2:b=W0.heap.size:=h2;omega);clear hW3 hC3 V vvl v0 v1 v2 v3 v4 v5 v6 v7 v8 f0 f1 f2 f3 f4 f5 f6 f7 f8 X Z hT0 h0 hB hpx hq;have hhi3:hi≤W3.heap.size:=by omega
 have hnR:∀b,((.slice (some ⟨g,0,none⟩) N.length nc:Value).ownBlock=some b∨(.slice ya L.length yc:Value).ownBlock=some b)→lo≤b∧b<hi:=fun b hb=>HBL.out b (hb.elim .inl fun q=> .inr (.inr q));obtain⟨xl,x0,x1,x2⟩:=X3.c3;obtain⟨tl,t0,t1,t2,t3,t4,t5,t6,t7,t8⟩:=T.e9
 go_wp2_with fail
 refine (l12SetV lo hi _ _ _ N M L x j hidx.out hj W3 h3 hpx3 hhi3 hL1).mono ?_;rintro e w4 ⟨u,rfl,h4,hc4⟩;have hz4:=hc4.size;replace Z3_:=hc4.box Z3_ (by intro q;have:=hnR _ q;omega);replace hT3:=hT3.chg hc4 (by intro q;have:=hnR _ q;omega);have HB4:Hid (Chg (fun b=>lo≤b∧b<hi) w w4):=(Chg.of_below hB3).nextC hc4 (fun b q=> .inl (hnR b q));have hx1:Hid (x.n=tmX N[j].n):=by show x.n=_;have e:x.n=_:=hxz.out;rw [e,HXO.out]
 have e9:zB_ L N[j].n x.n=zB_ L N[j].n (tmX N[j].n):=by have e:x.n=_:=hx1.out;rw [e]
 obtain⟨LA,HLA⟩:∃LA,Hid (LA=zB_ L N[j].n (tmX N[j].n)):=⟨zB_ L N[j].n (tmX N[j].n),(rfl:_=_)⟩;rw [e9,←HLA.out] at h4;obtain⟨ul,ulc,rfl⟩:=h4.shapes.2.2;have hq4:=hc4.owns hq3 (fun b h1 h2=>by have:=hnR b h2;have:=zh_ hq3 b h1;omega);clear h3 hpx3 hB3 X3 T xl x0 x1 x2 tl t0 t1 t2 t3 t4 t5 t6 t7 t8 e9 hxz hidx hc4;have hqb:=zh_ hq4
 go_wp2_with fail
 refine (l12Net_any lo w4.heap.size _ _ _ (N.set j x) M LA qa qc AB W1.heap.size w4 h4 hq4 (fun b h1 h2=>by have:=hqb b h1;have:=HBL.out b (.inr (.inl h2));omega) (Nat.le_refl _) (fun i hi'=>⟨by
  obtain⟨c3,_,q,_⟩:=(zp_.bare (w:=w4) (Nat.le_refl 0) hbare).at i hi';exact⟨c3,q⟩,by rw [(hbare _ (List.getElem_mem hi')).2.2];simp⟩) hM1 hlen).mono ?_
 rintro e w6 ⟨u,P,rfl,h6,hP,hc6⟩;have hz6:=hc6.size;have HP:Hid (P.map Mv.q=_):=hP;clear hP;replace Z3_:=hc6.box Z3_ (by intro q;have:=HBL.out _ (.inr (.inl q));omega);replace hT3:=hT3.chg hc6 (by intro q;have:=HBL.out _ (.inr (.inl q));omega);have HB6:Hid (Chg (fun b=>lo≤b∧b<hi) w w6):=HB4.out.nextC hc6 (fun b q=> .inl (HBL.out b (.inr (.inl q))));obtain⟨MA,HMA⟩:∃MA,Hid (MA=M++P):=⟨M++P,(rfl:_=_)⟩;rw [←HMA.out] at h6;obtain⟨um,umc,rfl⟩:=h6.shapes.2.1;clear h4 hc6 HB4 hq3 hq4 hqb hbare hlen;obtain⟨W5,hW5,hC5,Z5⟩:=zj_ w6 Z3_ (.slice (some ⟨g,0,none⟩) N.length nc) (.slice um MA.length umc) (.slice ul LA.length ulc);have hz5:=hC5.size;have hFF:Hid (OwnC W5 lo W5.heap.size (.slice (some ⟨g,0,none⟩) N.length nc) (.slice um MA.length umc) (.slice ul LA.length ulc) (N.set j x) MA LA):=(h6.keep hT3 hC5).hiN (by omega);clear h6;have hBF:Hid (Chg (fun b=>lo≤b∧b<hi) w W5):=HB6.out.nextC hC5 (fun b hb=> .inr (by have hb:b=w.heap.size+1+1:=hb;omega));clear hC5;obtain⟨zl,z0,z1,z2,f0,f1,f2⟩:=Z3_.c3f;clear Z3_;obtain⟨tl,t0,t1,t2⟩:=Z5.c3;clear Z5;unfold put3 at*;go_wp2;rw [←hW5];exact bodyPost_ret (v:= .tuple #[.agg #[.slice (some ⟨g,0,none⟩) N.length nc,.slice um MA.length umc,.slice ul LA.length ulc],true]) (by simp [results,Tryz.results46,go_sem,t0,t1,t2]) rfl ⟨.inl ⟨HOK.out,_,_,_,_,_,rfl,by rw [hKL.out,←HLA.out];exact hFF.out,by rw [hKN.out,map_set,hx1.out],by rw [HMA.out,hKM.out,List.map_append,HP.out];rw [hAB.out,HXO.out];unfold pushM;rw [List.length_map]⟩,hBF.out⟩
theorem l12Step_5 (p lo hi:Nat) (vn vm vl:Value) (N:List Nv) (M:List Mv) (L:List Ld) (no k mn:Int) (d:ByteArray) (w:World) (h:OwnC w lo hi vn vm vl N M L) (hh:hi≤w.heap.size) (hG:PG p (N.map Nv.n) (M.map Mv.q) L) (hd:d.size≤1048576):
  Calls Tryz.prog 46 #[.agg #[vn,vm,vl],.agg #[.int .i64 5,no,k,mn,d]] w fun e w'=>StepA w' lo (stB (N.map Nv.n) (M.map Mv.q) ⟨5,no,k,mn,d⟩) (stN (N.map Nv.n) (M.map Mv.q) ⟨5,no,k,mn,d⟩) (stM (N.map Nv.n) (M.map Mv.q) ⟨5,no,k,mn,d⟩) (stL (N.map Nv.n) (M.map Mv.q) L ⟨5,no,k,mn,d⟩) e∧Chg (fun b=>lo≤b∧b<hi) w w':=by
 have hlh:=h.lohi;obtain⟨⟨na,nc,rfl⟩,⟨ma,mc,rfl⟩,ya,yc,rfl⟩:=h.shapes;obtain⟨W0,hW0,hB,X,Y,Z,hz0⟩:=al3 w [.slice na N.length nc,.slice ma M.length mc,.slice ya L.length yc] 30 [.int .i64 5,no,k,mn,d] 51 z3 30;have hzw:=hB.size;have hT0:TyB W0 (w.heap.size+1+1) 30:=⟨z3,by
  rw [hW0];have:=heap_alloc_new ((w.alloc (.cells #[.slice na N.length nc,.slice ma M.length mc,.slice ya L.length yc] 30)).alloc (.cells #[.int .i64 5,no,k,mn,d] 51)) (.cells z3 30);simpa using this⟩
 have HBL:=h.hbl;have HB:stB (N.map Nv.n) (M.map Mv.q) ⟨5,no,k,mn,d⟩=(isP no N.length&&prOk (gN (atN (N.map Nv.n) no)) (atN (N.map Nv.n) no).ro (atN (N.map Nv.n) no).log.length d):=by simp [stB]
 have h0:=h.below hB;have KI:=fun W=>zu_ 5 2 4 W;rw [show inB 5 2 4=false from by decide] at KI;have KP:∀W,Calls Tryz.prog 42 #[no,.int .i64 0,.int .i64 ((N.length:Int)-1)] W fun e w'=>e= .returned (.bool (isP no N.length))∧w'=W:=fun W=>by rw [←isP_inB];exact zu_ no 0 ((N.length:Int)-1) W
 have hn7:N.length≤7:=by have h1:=hG.n;have:=hG.p7;rw [List.length_map] at h1;omega
 clear h;obtain⟨yl,y0,y1,y2,y3,y4⟩:=Y.c5;obtain⟨xl,x0,x1,x2⟩:=X.c3;go_enter Tryz.func46,Tryz.ntmps46
 go_upto_region 1 with fail
 rw [←hW0];clear hW0
 go_wp2_with fail
 refine (KI _).mono ?_;rintro e w1 ⟨rfl,hw1⟩;rw [hw1];clear hw1 KI w1
 go_wp2_with fail
 refine (KP _).mono ?_;rintro e w1 ⟨rfl,hw1⟩;rw [hw1];clear hw1 KP w1;by_cases hP:isP no N.length=true;rotate_left
 ·replace hP:isP no N.length=false:=by simpa using hP
  rw [hP,Bool.false_and] at HB;rw [hP];clear h0;obtain⟨W5,hW5,hC5,Z5⟩:=zj_ W0 Z (.slice na N.length nc) (.slice ma M.length mc) (.slice ya L.length yc);have hBF:Hid (Chg (fun b=>lo≤b∧b<hi) w W5):=Chg.of_below (hB.trans (hC5.b1 (B:=w.heap.size) (by have:=hB.size;omega) (by omega)));have HF:Hid (stB (N.map Nv.n) (M.map Mv.q) ⟨5,no,k,mn,d⟩=false):=HB;clear hC5;obtain⟨zl,z0,z1,z2,f0,f1,f2⟩:=Z.c3f;clear Z;obtain⟨tl,t0,t1,t2⟩:=Z5.c3;clear Z5;unfold put3 at*;go_wp2;rw [←hW5];exact bodyPost_ret (v:= .tuple #[.agg #[.slice na N.length nc,.slice ma M.length mc,.slice ya L.length yc],false]) (by simp [results,Tryz.results46,go_sem,t0,t1,t2]) rfl ⟨.inr ⟨HF.out,_,_,_,_,_,_,_,_,_,rfl⟩,hBF.out⟩
 rw [hP];obtain⟨j,rfl,hj⟩:=yu_ hP;rw [zv_ hj,hP,Bool.true_and] at HB;obtain⟨c,hcb,hpx,_⟩:=h0.cn.at j hj;have hgd:Gd N[j].n∧N[j].n.id=(j:Int):=by
  obtain⟨a,b,_,_⟩:=hG.g j (by rw [List.length_map];exact hj);rw [List.getElem_map] at a b;exact⟨a,b⟩
 have hKN:Hid (stN (N.map Nv.n) (M.map Mv.q) ⟨5,(j:Int),k,mn,d⟩=(N.map Nv.n).set j (prX N[j].n d)):=by
  show _=_;simp only [stN,zv_ hj];simp
 have hKM:Hid (stM (N.map Nv.n) (M.map Mv.q) ⟨5,(j:Int),k,mn,d⟩=M.map Mv.q):=by
  show _=_;simp only [stM,zv_ hj];simp
 have hKL:Hid (stL (N.map Nv.n) (M.map Mv.q) L ⟨5,(j:Int),k,mn,d⟩=L):=by
  show _=_;simp only [stL,zv_ hj];simp
 have hL1:=hG.l;have hM1:=hG.m6;rw [List.length_map] at hM1;have hNid:Hid (N[j].n.id=(j:Int)):=hgd.2;obtain⟨g,rfl⟩:∃g,na=some ⟨g,0,none⟩:=by
  rcases h0.n.2 with⟨_,h0⟩ | ⟨g,cap,cur,hv,_⟩
  ·omega
  ·simp only [Value.slice.injEq] at hv;exact⟨g,hv.1⟩
 obtain⟨hgl,c0,c1,c2,c3,c4,c5,c6,c7,c8⟩:=zV_ h0.n j hj rfl;obtain⟨ok,hok⟩:∃ok,ok=prOk (gN N[j].n) N[j].n.ro N[j].n.log.length d:=⟨_,rfl⟩;have HRL:Hid (ok=true→zB_ L N[j].n (prX N[j].n d)=L):=fun q=>by
  rw [hok] at q;simp only [prOk,Bool.and_eq_true,decide_eq_true_eq] at q;have e1:(prX N[j].n d).te=N[j].n.te:=rfl;unfold zB_;rw [if_neg (fun h=>h.2.1 ⟨q.2.1,e1.symm⟩)]
 have KT:=fun W (q:Below W0.heap.size W0 W)=>specPropC N[j] d c W (OwnN.below hpx q) hgd.1 hd ok hok;rw [←hok] at HB;have hidz:Hid ((prX N[j].n d).id=N[j].n.id):=rfl;clear hpx hgd hok hcb hP hd;have HBH:Hid _:=HB;clear HB;obtain⟨xo,HXO⟩:∃xo,Hid (N[j]=xo):=⟨N[j],(rfl:N[j]=N[j])⟩;rw [HXO.out] at c0 c1 c2 c3 c4 c5 c6 c7 c8 KT hNid;have V:=Box.new W0 xo 42;have hBA:=zb_ W0 (.cells xo 42)
 go_upto_region 6 with fail
 obtain⟨W1,hW1⟩:∃W,W=W0.alloc (.cells xo 42):=⟨_,rfl⟩;rw [←hW1] at V hBA ⊢;have hs2:W0.heap.size<W1.heap.size:=by rw [hW1];simp
 clear hW1 c0 c1 c2 c3 c4 c5 c6 c7 c8 hgl yl y0 y1 y2 y3 y4 xl x0 x1 x2;have KT1:=KT W1 hBA;replace X:=X.below hBA;replace Y:=Y.below hBA;replace Z:=Z.below hBA;replace hT0:=hT0.below hBA;replace h0:=h0.below hBA;replace hB:=za_ hB hBA;clear hBA KT;obtain⟨yl,y0,y1,y2,y3,y4⟩:=Y.c5;obtain⟨xl,x0,x1,x2⟩:=X.c3;obtain⟨vvl,v0,v1,v2,v3,v4,v5,v6,v7,v8⟩:=V.e9
 go_wp2_with fail
 refine KT1.mono ?_;rintro e w2 ⟨hA,hb2⟩;replace X:=X.below hb2;replace Y:=Y.below hb2;replace Z:=Z.below hb2;replace hT0:=hT0.below hb2;replace h0:=h0.below hb2;replace hB:=za_ hB hb2;replace V:=V.below hb2;have hz2:=hb2.size;clear KT1 hb2 yl y0 y1 y2 y3 y4 xl x0 x1 x2 vvl v0 v1 v2 v3 v4 v5 v6 v7 v8 Y;rcases hA with⟨hok,x,ix,rfl,hxz,hpx⟩ | ⟨hok,x,ix,rfl⟩;rotate_left
 ·have HB:=HBH.out;rw [hok] at HB;replace HB:Hid _:=HB;clear hok HBH HRL;obtain⟨W3,hW3,hC3,T⟩:=zk_ w2 V x.n.id x.n.pe x.n.te x.n.vo (.slice x.la x.n.log.length x.lc) x.n.co x.n.ro (.slice x.va x.n.vs.length x.vc) (.slice x.ma x.n.mt.length x.mc);have hz3:=hC3.size;have X3:=hC3.box X (by omega);have Z3_:=hC3.box Z (by omega);have hT3:=hT0.chg hC3 (by omega);have h3:=h0.chg hC3 (fun b hb=> .inr (by have hb:b=W0.heap.size:=hb;omega));have hB3:=hB.trans (hC3.b1 (B:=w.heap.size) (by omega) (by omega));obtain⟨vvl,v0,v1,v2,v3,v4,v5,v6,v7,v8⟩:=V.e9;obtain⟨f0,f1,f2,f3,f4,f5,f6,f7,f8⟩:=V.f9;unfold put9 at hW3
  go_upto_region 19 with fail
  rw [←hW3];clear hW3 hC3 T V vvl v0 v1 v2 v3 v4 v5 v6 v7 v8 f0 f1 f2 f3 f4 f5 f6 f7 f8 X Z hT0 h0 hB h3;obtain⟨xl,x0,x1,x2⟩:=X3.c3;obtain⟨W5,hW5,hC5,Z5⟩:=zj_ W3 Z3_ (.slice (some ⟨g,0,none⟩) N.length nc) (.slice ma M.length mc) (.slice ya L.length yc);have hBF:Hid (Chg (fun b=>lo≤b∧b<hi) w W5):=Chg.of_below (hB3.trans (hC5.b1 (B:=w.heap.size) (by have:=hB3.size;omega) (by omega)));have HF:Hid (stB (N.map Nv.n) (M.map Mv.q) ⟨5,(j:Int),k,mn,d⟩=false):=HB.out;clear hC5;obtain⟨zl,z0,z1,z2,f0,f1,f2⟩:=Z3_.c3f;clear Z3_;obtain⟨tl,t0,t1,t2⟩:=Z5.c3;clear Z5;unfold put3 at*;go_wp2;rw [←hW5];exact bodyPost_ret (v:= .tuple #[.agg #[.slice (some ⟨g,0,none⟩) N.length nc,.slice ma M.length mc,.slice ya L.length yc],false]) (by simp [results,Tryz.results46,go_sem,t0,t1,t2]) rfl ⟨.inr ⟨HF.out,_,_,_,_,_,_,_,_,_,rfl⟩,hBF.out⟩
 have HOK:Hid (stB (N.map Nv.n) (M.map Mv.q) ⟨5,(j:Int),k,mn,d⟩=true):=by show _=_;rw [HBH.out,hok]
 have hnl:Hid (zB_ L N[j].n (prX N[j].n d)=L):=HRL.out hok;replace hxz:Hid (x.n=prX xo.n d):=hxz;have hidx:Hid (x.n.id=(j:Int)):=by show x.n.id=_;have e:x.n=_:=hxz.out;rw [e];exact hNid.out
 skip;clear HBH HRL hok hNid hidz;obtain⟨W3,hW3,hC3,T⟩:=zk_ w2 V x.n.id x.n.pe x.n.te x.n.vo (.slice x.la x.n.log.length x.lc) x.n.co x.n.ro (.slice x.va x.n.vs.length x.vc) (.slice x.ma x.n.mt.length x.mc);have hz3:=hC3.size;have X3:=hC3.box X (by omega);have Z3_:=hC3.box Z (by omega);have hT3:=hT0.chg hC3 (by omega);have h3:=h0.chg hC3 (fun b hb=> .inr (by have hb:b=W0.heap.size:=hb;omega));have hB3:=hB.trans (hC3.b1 (B:=w.heap.size) (by omega) (by omega));obtain⟨vvl,v0,v1,v2,v3,v4,v5,v6,v7,v8⟩:=V.e9;obtain⟨f0,f1,f2,f3,f4,f5,f6,f7,f8⟩:=V.f9;unfold put9 at hW3
 go_upto_region 19 with fail
 rw [←hW3];have hpx3:PN W3 hi x:=OwnN.mono (OwnN.chg hpx hC3 (fun b h1 h2=>by have:=(PN.in hpx b h1).1;have h2:b=W0.heap.size:=h2;omega)) (by omega);skip;clear hW3 hC3 V vvl v0 v1 v2 v3 v4 v5 v6 v7 v8 f0 f1 f2 f3 f4 f5 f6 f7 f8 X Z hT0 h0 hB hpx;have hhi3:hi≤W3.heap.size:=by omega
 have hnR:∀b,((.slice (some ⟨g,0,none⟩) N.length nc:Value).ownBlock=some b∨(.slice ya L.length yc:Value).ownBlock=some b)→lo≤b∧b<hi:=fun b hb=>HBL.out b (hb.elim .inl fun q=> .inr (.inr q));obtain⟨xl,x0,x1,x2⟩:=X3.c3;obtain⟨tl,t0,t1,t2,t3,t4,t5,t6,t7,t8⟩:=T.e9
 go_wp2_with fail
 refine (l12SetV lo hi _ _ _ N M L x j hidx.out hj W3 h3 hpx3 hhi3 hL1).mono ?_;rintro e w4 ⟨u,rfl,h4,hc4⟩;have hz4:=hc4.size;replace Z3_:=hc4.box Z3_ (by intro q;have:=hnR _ q;omega);replace hT3:=hT3.chg hc4 (by intro q;have:=hnR _ q;omega);have HB4:Hid (Chg (fun b=>lo≤b∧b<hi) w w4):=(Chg.of_below hB3).nextC hc4 (fun b q=> .inl (hnR b q));have hx1:Hid (x.n=prX N[j].n d):=by show x.n=_;have e:x.n=_:=hxz.out;rw [e,HXO.out]
 have e9:zB_ L N[j].n x.n=L:=by have e:x.n=_:=hx1.out;rw [e];exact hnl.out
 obtain⟨LA,HLA⟩:∃LA,Hid (LA=L):=⟨L,(rfl:_=_)⟩;rw [e9,←HLA.out] at h4;obtain⟨ul,ulc,rfl⟩:=h4.shapes.2.2;skip;clear h3 hpx3 hB3 X3 T xl x0 x1 x2 tl t0 t1 t2 t3 t4 t5 t6 t7 t8 e9 hxz hidx hc4
 go_wp2_with fail
 refine (l12Net_any lo w4.heap.size _ _ _ (N.set j x) M LA none 0 [] 0 w4 h4 (World.ownsRow_nil _ _ _ _) (fun b h1 h2=>by cases h1) (Nat.le_refl _) (fun i hi'=>by simp at hi') hM1 (by simp)).mono ?_;rintro e w6 ⟨u,P,rfl,h6,hP,hc6⟩;have hz6:=hc6.size;have HP:Hid (P.map Mv.q=_):=hP;clear hP;replace Z3_:=hc6.box Z3_ (by intro q;have:=HBL.out _ (.inr (.inl q));omega);replace hT3:=hT3.chg hc6 (by intro q;have:=HBL.out _ (.inr (.inl q));omega);have HB6:Hid (Chg (fun b=>lo≤b∧b<hi) w w6):=HB4.out.nextC hc6 (fun b q=> .inl (HBL.out b (.inr (.inl q))));obtain⟨MA,HMA⟩:∃MA,Hid (MA=M++P):=⟨M++P,(rfl:_=_)⟩;rw [←HMA.out] at h6;obtain⟨um,umc,rfl⟩:=h6.shapes.2.1;clear h4 hc6 HB4;obtain⟨W5,hW5,hC5,Z5⟩:=zj_ w6 Z3_ (.slice (some ⟨g,0,none⟩) N.length nc) (.slice um MA.length umc) (.slice ul LA.length ulc);have hz5:=hC5.size;have hFF:Hid (OwnC W5 lo W5.heap.size (.slice (some ⟨g,0,none⟩) N.length nc) (.slice um MA.length umc) (.slice ul LA.length ulc) (N.set j x) MA LA):=(h6.keep hT3 hC5).hiN (by omega);clear h6;have hBF:Hid (Chg (fun b=>lo≤b∧b<hi) w W5):=HB6.out.nextC hC5 (fun b hb=> .inr (by have hb:b=w.heap.size+1+1:=hb;omega));clear hC5;obtain⟨zl,z0,z1,z2,f0,f1,f2⟩:=Z3_.c3f;clear Z3_;obtain⟨tl,t0,t1,t2⟩:=Z5.c3;clear Z5;unfold put3 at*;go_wp2;rw [←hW5];exact bodyPost_ret (v:= .tuple #[.agg #[.slice (some ⟨g,0,none⟩) N.length nc,.slice um MA.length umc,.slice ul LA.length ulc],true]) (by simp [results,Tryz.results46,go_sem,t0,t1,t2]) rfl ⟨.inl ⟨HOK.out,_,_,_,_,_,rfl,by rw [hKL.out,←HLA.out];exact hFF.out,by rw [hKN.out,map_set,hx1.out],by rw [HMA.out,hKM.out,List.map_append,HP.out];simp⟩,hBF.out⟩
theorem l12Step_7 (p lo hi:Nat) (vn vm vl:Value) (N:List Nv) (M:List Mv) (L:List Ld) (no k mn:Int) (d:ByteArray) (w:World) (h:OwnC w lo hi vn vm vl N M L) (hh:hi≤w.heap.size) (hG:PG p (N.map Nv.n) (M.map Mv.q) L) (hd:d.size≤1048576):
  Calls Tryz.prog 46 #[.agg #[vn,vm,vl],.agg #[.int .i64 7,no,k,mn,d]] w fun e w'=>StepA w' lo (stB (N.map Nv.n) (M.map Mv.q) ⟨7,no,k,mn,d⟩) (stN (N.map Nv.n) (M.map Mv.q) ⟨7,no,k,mn,d⟩) (stM (N.map Nv.n) (M.map Mv.q) ⟨7,no,k,mn,d⟩) (stL (N.map Nv.n) (M.map Mv.q) L ⟨7,no,k,mn,d⟩) e∧Chg (fun b=>lo≤b∧b<hi) w w':=by
 have hlh:=h.lohi;obtain⟨⟨na,nc,rfl⟩,⟨ma,mc,rfl⟩,ya,yc,rfl⟩:=h.shapes;obtain⟨W0,hW0,hB,X,Y,Z,hz0⟩:=al3 w [.slice na N.length nc,.slice ma M.length mc,.slice ya L.length yc] 30 [.int .i64 7,no,k,mn,d] 51 z3 30;have hzw:=hB.size;have hT0:TyB W0 (w.heap.size+1+1) 30:=⟨z3,by
  rw [hW0];have:=heap_alloc_new ((w.alloc (.cells #[.slice na N.length nc,.slice ma M.length mc,.slice ya L.length yc] 30)).alloc (.cells #[.int .i64 7,no,k,mn,d] 51)) (.cells z3 30);simpa using this⟩
 have HBL:=h.hbl;have HB:stB (N.map Nv.n) (M.map Mv.q) ⟨7,no,k,mn,d⟩=(isP no N.length&&gN (atN (N.map Nv.n) no)):=by simp [stB]
 have h0:=h.below hB;have KI:=fun W=>zu_ 7 2 4 W;rw [show inB 7 2 4=false from by decide] at KI;have KP:∀W,Calls Tryz.prog 42 #[no,.int .i64 0,.int .i64 ((N.length:Int)-1)] W fun e w'=>e= .returned (.bool (isP no N.length))∧w'=W:=fun W=>by rw [←isP_inB];exact zu_ no 0 ((N.length:Int)-1) W
 have hn7:N.length≤7:=by have h1:=hG.n;have:=hG.p7;rw [List.length_map] at h1;omega
 clear h;obtain⟨yl,y0,y1,y2,y3,y4⟩:=Y.c5;obtain⟨xl,x0,x1,x2⟩:=X.c3;go_enter Tryz.func46,Tryz.ntmps46
 go_upto_region 1 with fail
 rw [←hW0];clear hW0
 go_wp2_with fail
 refine (KI _).mono ?_;rintro e w1 ⟨rfl,hw1⟩;rw [hw1];clear hw1 KI w1
 go_wp2_with fail
 refine (KP _).mono ?_;rintro e w1 ⟨rfl,hw1⟩;rw [hw1];clear hw1 KP w1;by_cases hP:isP no N.length=true;rotate_left
 ·replace hP:isP no N.length=false:=by simpa using hP
  rw [hP,Bool.false_and] at HB;rw [hP];clear h0;obtain⟨W5,hW5,hC5,Z5⟩:=zj_ W0 Z (.slice na N.length nc) (.slice ma M.length mc) (.slice ya L.length yc);have hBF:Hid (Chg (fun b=>lo≤b∧b<hi) w W5):=Chg.of_below (hB.trans (hC5.b1 (B:=w.heap.size) (by have:=hB.size;omega) (by omega)));have HF:Hid (stB (N.map Nv.n) (M.map Mv.q) ⟨7,no,k,mn,d⟩=false):=HB;clear hC5;obtain⟨zl,z0,z1,z2,f0,f1,f2⟩:=Z.c3f;clear Z;obtain⟨tl,t0,t1,t2⟩:=Z5.c3;clear Z5;unfold put3 at*;go_wp2;rw [←hW5];exact bodyPost_ret (v:= .tuple #[.agg #[.slice na N.length nc,.slice ma M.length mc,.slice ya L.length yc],false]) (by simp [results,Tryz.results46,go_sem,t0,t1,t2]) rfl ⟨.inr ⟨HF.out,_,_,_,_,_,_,_,_,_,rfl⟩,hBF.out⟩
 rw [hP];obtain⟨j,rfl,hj⟩:=yu_ hP;rw [zv_ hj,hP,Bool.true_and] at HB;obtain⟨c,hcb,hpx,_⟩:=h0.cn.at j hj;have hgd:Gd N[j].n∧N[j].n.id=(j:Int):=by
  obtain⟨a,b,_,_⟩:=hG.g j (by rw [List.length_map];exact hj);rw [List.getElem_map] at a b;exact⟨a,b⟩
 have hKN:Hid (stN (N.map Nv.n) (M.map Mv.q) ⟨7,(j:Int),k,mn,d⟩=(N.map Nv.n).set j (crX N[j].n)):=by
  show _=_;simp only [stN,zv_ hj];simp
 have hKM:Hid (stM (N.map Nv.n) (M.map Mv.q) ⟨7,(j:Int),k,mn,d⟩=M.map Mv.q):=by
  show _=_;simp only [stM,zv_ hj];simp
 have hKL:Hid (stL (N.map Nv.n) (M.map Mv.q) L ⟨7,(j:Int),k,mn,d⟩=zB_ L N[j].n (crX N[j].n)):=by
  show _=_;simp only [stL,zv_ hj];simp [zB_,crX,foN]
 have hL1:=hG.l;have hM1:=hG.m6;rw [List.length_map] at hM1;have hNid:Hid (N[j].n.id=(j:Int)):=hgd.2;obtain⟨g,rfl⟩:∃g,na=some ⟨g,0,none⟩:=by
  rcases h0.n.2 with⟨_,h0⟩ | ⟨g,cap,cur,hv,_⟩
  ·omega
  ·simp only [Value.slice.injEq] at hv;exact⟨g,hv.1⟩
 obtain⟨hgl,c0,c1,c2,c3,c4,c5,c6,c7,c8⟩:=zV_ h0.n j hj rfl;obtain⟨ok,hok⟩:∃ok,ok=gN N[j].n:=⟨_,rfl⟩;have HRL:Hid (ok=true→zB_ L N[j].n (crX N[j].n)=zB_ L N[j].n (crX N[j].n)):=fun q=>by
  rfl
 have KT:=fun W (q:Below W0.heap.size W0 W)=>specCrashC N[j] c W (OwnN.below hpx q) hgd.1 ok hok;rw [←hok] at HB;have hidz:Hid ((crX N[j].n).id=N[j].n.id):=rfl;clear hpx hgd hok hcb hP hd;have HBH:Hid _:=HB;clear HB;obtain⟨xo,HXO⟩:∃xo,Hid (N[j]=xo):=⟨N[j],(rfl:N[j]=N[j])⟩;rw [HXO.out] at c0 c1 c2 c3 c4 c5 c6 c7 c8 KT hNid;have V:=Box.new W0 xo 42;have hBA:=zb_ W0 (.cells xo 42)
 go_upto_region 6 with fail
 obtain⟨W1,hW1⟩:∃W,W=W0.alloc (.cells xo 42):=⟨_,rfl⟩;rw [←hW1] at V hBA ⊢;have hs2:W0.heap.size<W1.heap.size:=by rw [hW1];simp
 clear hW1 c0 c1 c2 c3 c4 c5 c6 c7 c8 hgl yl y0 y1 y2 y3 y4 xl x0 x1 x2;have KT1:=KT W1 hBA;replace X:=X.below hBA;replace Y:=Y.below hBA;replace Z:=Z.below hBA;replace hT0:=hT0.below hBA;replace h0:=h0.below hBA;replace hB:=za_ hB hBA;clear hBA KT;obtain⟨yl,y0,y1,y2,y3,y4⟩:=Y.c5;obtain⟨xl,x0,x1,x2⟩:=X.c3;obtain⟨vvl,v0,v1,v2,v3,v4,v5,v6,v7,v8⟩:=V.e9
 go_wp2_with fail
 refine KT1.mono ?_;rintro e w2 ⟨hA,hb2⟩;replace X:=X.below hb2;replace Y:=Y.below hb2;replace Z:=Z.below hb2;replace hT0:=hT0.below hb2;replace h0:=h0.below hb2;replace hB:=za_ hB hb2;replace V:=V.below hb2;have hz2:=hb2.size;clear KT1 hb2 yl y0 y1 y2 y3 y4 xl x0 x1 x2 vvl v0 v1 v2 v3 v4 v5 v6 v7 v8 Y;rcases hA with⟨hok,x,rfl,hxz,hpx⟩ | ⟨hok,x,rfl⟩;rotate_left
 ·have HB:=HBH.out;rw [hok] at HB;replace HB:Hid _:=HB;clear hok HBH HRL;obtain⟨W3,hW3,hC3,T⟩:=zk_ w2 V x.n.id x.n.pe x.n.te x.n.vo (.slice x.la x.n.log.length x.lc) x.n.co x.n.ro (.slice x.va x.n.vs.length x.vc) (.slice x.ma x.n.mt.length x.mc);have hz3:=hC3.size;have X3:=hC3.box X (by omega);have Z3_:=hC3.box Z (by omega);have hT3:=hT0.chg hC3 (by omega);have h3:=h0.chg hC3 (fun b hb=> .inr (by have hb:b=W0.heap.size:=hb;omega));have hB3:=hB.trans (hC3.b1 (B:=w.heap.size) (by omega) (by omega));obtain⟨vvl,v0,v1,v2,v3,v4,v5,v6,v7,v8⟩:=V.e9;obtain⟨f0,f1,f2,f3,f4,f5,f6,f7,f8⟩:=V.f9;unfold put9 at hW3
  go_upto_region 19 with fail
  rw [←hW3];clear hW3 hC3 T V vvl v0 v1 v2 v3 v4 v5 v6 v7 v8 f0 f1 f2 f3 f4 f5 f6 f7 f8 X Z hT0 h0 hB h3;obtain⟨xl,x0,x1,x2⟩:=X3.c3;obtain⟨W5,hW5,hC5,Z5⟩:=zj_ W3 Z3_ (.slice (some ⟨g,0,none⟩) N.length nc) (.slice ma M.length mc) (.slice ya L.length yc);have hBF:Hid (Chg (fun b=>lo≤b∧b<hi) w W5):=Chg.of_below (hB3.trans (hC5.b1 (B:=w.heap.size) (by have:=hB3.size;omega) (by omega)));have HF:Hid (stB (N.map Nv.n) (M.map Mv.q) ⟨7,(j:Int),k,mn,d⟩=false):=HB.out;clear hC5;obtain⟨zl,z0,z1,z2,f0,f1,f2⟩:=Z3_.c3f;clear Z3_;obtain⟨tl,t0,t1,t2⟩:=Z5.c3;clear Z5;unfold put3 at*;go_wp2;rw [←hW5];exact bodyPost_ret (v:= .tuple #[.agg #[.slice (some ⟨g,0,none⟩) N.length nc,.slice ma M.length mc,.slice ya L.length yc],false]) (by simp [results,Tryz.results46,go_sem,t0,t1,t2]) rfl ⟨.inr ⟨HF.out,_,_,_,_,_,_,_,_,_,rfl⟩,hBF.out⟩
 have HOK:Hid (stB (N.map Nv.n) (M.map Mv.q) ⟨7,(j:Int),k,mn,d⟩=true):=by show _=_;rw [HBH.out,hok]
 have hnl:Hid (zB_ L N[j].n (crX N[j].n)=zB_ L N[j].n (crX N[j].n)):=(rfl:_=_);replace hxz:Hid (x.n=crX xo.n):=hxz;have hidx:Hid (x.n.id=(j:Int)):=by show x.n.id=_;have e:x.n=_:=hxz.out;rw [e];exact hNid.out
 skip;clear HBH HRL hok hNid hidz;obtain⟨W3,hW3,hC3,T⟩:=zk_ w2 V x.n.id x.n.pe x.n.te x.n.vo (.slice x.la x.n.log.length x.lc) x.n.co x.n.ro (.slice x.va x.n.vs.length x.vc) (.slice x.ma x.n.mt.length x.mc);have hz3:=hC3.size;have X3:=hC3.box X (by omega);have Z3_:=hC3.box Z (by omega);have hT3:=hT0.chg hC3 (by omega);have h3:=h0.chg hC3 (fun b hb=> .inr (by have hb:b=W0.heap.size:=hb;omega));have hB3:=hB.trans (hC3.b1 (B:=w.heap.size) (by omega) (by omega));obtain⟨vvl,v0,v1,v2,v3,v4,v5,v6,v7,v8⟩:=V.e9;obtain⟨f0,f1,f2,f3,f4,f5,f6,f7,f8⟩:=V.f9;unfold put9 at hW3
 go_upto_region 19 with fail
 rw [←hW3];have hpx3:PN W3 hi x:=OwnN.mono (OwnN.chg hpx hC3 (fun b h1 h2=>by have:=(PN.in hpx b h1).1;have h2:b=W0.heap.size:=h2;omega)) (by omega);skip;clear hW3 hC3 V vvl v0 v1 v2 v3 v4 v5 v6 v7 v8 f0 f1 f2 f3 f4 f5 f6 f7 f8 X Z hT0 h0 hB hpx;have hhi3:hi≤W3.heap.size:=by omega
 have hnR:∀b,((.slice (some ⟨g,0,none⟩) N.length nc:Value).ownBlock=some b∨(.slice ya L.length yc:Value).ownBlock=some b)→lo≤b∧b<hi:=fun b hb=>HBL.out b (hb.elim .inl fun q=> .inr (.inr q));obtain⟨xl,x0,x1,x2⟩:=X3.c3;obtain⟨tl,t0,t1,t2,t3,t4,t5,t6,t7,t8⟩:=T.e9
 go_wp2_with fail
 refine (l12SetV lo hi _ _ _ N M L x j hidx.out hj W3 h3 hpx3 hhi3 hL1).mono ?_;rintro e w4 ⟨u,rfl,h4,hc4⟩;have hz4:=hc4.size;replace Z3_:=hc4.box Z3_ (by intro q;have:=hnR _ q;omega);replace hT3:=hT3.chg hc4 (by intro q;have:=hnR _ q;omega);have HB4:Hid (Chg (fun b=>lo≤b∧b<hi) w w4):=(Chg.of_below hB3).nextC hc4 (fun b q=> .inl (hnR b q));have hx1:Hid (x.n=crX N[j].n):=by show x.n=_;have e:x.n=_:=hxz.out;rw [e,HXO.out]
 have e9:zB_ L N[j].n x.n=zB_ L N[j].n (crX N[j].n):=by have e:x.n=_:=hx1.out;rw [e]
 obtain⟨LA,HLA⟩:∃LA,Hid (LA=zB_ L N[j].n (crX N[j].n)):=⟨zB_ L N[j].n (crX N[j].n),(rfl:_=_)⟩;rw [e9,←HLA.out] at h4;obtain⟨ul,ulc,rfl⟩:=h4.shapes.2.2;skip;clear h3 hpx3 hB3 X3 T xl x0 x1 x2 tl t0 t1 t2 t3 t4 t5 t6 t7 t8 e9 hxz hidx hc4
 go_wp2_with fail
 refine (l12Net_any lo w4.heap.size _ _ _ (N.set j x) M LA none 0 [] 0 w4 h4 (World.ownsRow_nil _ _ _ _) (fun b h1 h2=>by cases h1) (Nat.le_refl _) (fun i hi'=>by simp at hi') hM1 (by simp)).mono ?_;rintro e w6 ⟨u,P,rfl,h6,hP,hc6⟩;have hz6:=hc6.size;have HP:Hid (P.map Mv.q=_):=hP;clear hP;replace Z3_:=hc6.box Z3_ (by intro q;have:=HBL.out _ (.inr (.inl q));omega);replace hT3:=hT3.chg hc6 (by intro q;have:=HBL.out _ (.inr (.inl q));omega);have HB6:Hid (Chg (fun b=>lo≤b∧b<hi) w w6):=HB4.out.nextC hc6 (fun b q=> .inl (HBL.out b (.inr (.inl q))));obtain⟨MA,HMA⟩:∃MA,Hid (MA=M++P):=⟨M++P,(rfl:_=_)⟩;rw [←HMA.out] at h6;obtain⟨um,umc,rfl⟩:=h6.shapes.2.1;clear h4 hc6 HB4;obtain⟨W5,hW5,hC5,Z5⟩:=zj_ w6 Z3_ (.slice (some ⟨g,0,none⟩) N.length nc) (.slice um MA.length umc) (.slice ul LA.length ulc);have hz5:=hC5.size;have hFF:Hid (OwnC W5 lo W5.heap.size (.slice (some ⟨g,0,none⟩) N.length nc) (.slice um MA.length umc) (.slice ul LA.length ulc) (N.set j x) MA LA):=(h6.keep hT3 hC5).hiN (by omega);clear h6;have hBF:Hid (Chg (fun b=>lo≤b∧b<hi) w W5):=HB6.out.nextC hC5 (fun b hb=> .inr (by have hb:b=w.heap.size+1+1:=hb;omega));clear hC5;obtain⟨zl,z0,z1,z2,f0,f1,f2⟩:=Z3_.c3f;clear Z3_;obtain⟨tl,t0,t1,t2⟩:=Z5.c3;clear Z5;unfold put3 at*;go_wp2;rw [←hW5];exact bodyPost_ret (v:= .tuple #[.agg #[.slice (some ⟨g,0,none⟩) N.length nc,.slice um MA.length umc,.slice ul LA.length ulc],true]) (by simp [results,Tryz.results46,go_sem,t0,t1,t2]) rfl ⟨.inl ⟨HOK.out,_,_,_,_,_,rfl,by rw [hKL.out,←HLA.out];exact hFF.out,by rw [hKN.out,map_set,hx1.out],by rw [HMA.out,hKM.out,List.map_append,HP.out];simp⟩,hBF.out⟩
end Go.Proofs.YtapfhhmimkkhnaaGreat
