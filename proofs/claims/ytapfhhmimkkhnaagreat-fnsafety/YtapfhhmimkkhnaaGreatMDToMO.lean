/-
  A message doubled: impl's moveDouble.
  An append sent: impl's moveSend.
  impl's moveTimeout.
  impl's moveCrash.
  Which move a step is: impl's moveOf.
-/
import Derived.Test.YtapfhhmimkkhnaaGreatMV
namespace Go.Proofs.YtapfhhmimkkhnaaGreat
open Go.RowKit Go.Maps
set_option linter.unusedVariables false
set_option maxRecDepth 100000
set_option maxHeartbeats 16000000
theorem ut_ (p lo hi:Nat) (vn vm vl:Value) (N:List Nv) (M:List Mv) (L:List Ld) (ki no k mn:Int) (d:ByteArray) (w:World) (h:OwnC w lo hi vn vm vl N M L) (hh:hi≤w.heap.size) (hG:PG p (N.map Nv.n) (M.map Mv.q) L) (hki:ki=4):
  Calls Tryz.prog 80 #[.agg #[vn,vm,vl],.agg #[ki,no,k,mn,d]] w fun e w'=>yO_ w' lo (stB (N.map Nv.n) (M.map Mv.q) ⟨ki,no,k,mn,d⟩) (stN (N.map Nv.n) (M.map Mv.q) ⟨ki,no,k,mn,d⟩) (stM (N.map Nv.n) (M.map Mv.q) ⟨ki,no,k,mn,d⟩) (stL (N.map Nv.n) (M.map Mv.q) L ⟨ki,no,k,mn,d⟩) e∧Below lo w w':=by
 have hlh:=h.lohi;have HKI:Hid (ki=4):=hki;clear hki;obtain⟨⟨na,nc,rfl⟩,⟨ma,mc,rfl⟩,ya,yc,rfl⟩:=h.shapes;obtain⟨W0,hW0,hB,X,Y,Z,hz0⟩:=al3 w [.slice na N.length nc,.slice ma M.length mc,.slice ya L.length yc] 30 [ki,no,k,mn,d] 51 z3 30;have hzw:=hB.size;have hT0:TyB W0 (w.heap.size+1+1) 30:=⟨z3,by
  rw [hW0];have:=heap_alloc_new ((w.alloc (.cells #[.slice na N.length nc,.slice ma M.length mc,.slice ya L.length yc] 30)).alloc (.cells #[ki,no,k,mn,d] 51)) (.cells z3 30);simpa using this⟩
 have HBL:=h.hbl;have hM1:=hG.m6;rw [List.length_map] at hM1;have h0:=h.below hB;have KH:=fun W=>xl_ k N.length M.length L.length na nc ma mc ya yc W;clear h;have HB0:stB (N.map Nv.n) (M.map Mv.q) ⟨ki,no,k,mn,d⟩=(isP k M.length&&decide (M.length<60)):=by have hki:=HKI.out;subst hki;simp [stB]
 obtain⟨yl,y0,y1,y2,y3,y4⟩:=Y.c5;obtain⟨xl,x0,x1,x2⟩:=X.c3;obtain⟨cb,hcb⟩:∃cb:Bool,Hid (cb=(isP k M.length&&decide (M.length<60))):=⟨isP k M.length&&decide (M.length<60),(rfl:_=_)⟩;have HB:Hid (stB (N.map Nv.n) (M.map Mv.q) ⟨ki,no,k,mn,d⟩=cb):=by show _=_;rw [HB0,hcb.out]
 clear HB0;go_enter Tryz.func80,Tryz.ntmps80;go_upto_region 1 with fail;rw [←hW0];clear hW0;go_wp2_with fail;refine (KH _).mono ?_;rintro e w1 ⟨rfl,hb1⟩;replace X:=X.below hb1;replace Y:=Y.below hb1;replace Z:=Z.below hb1;replace hT0:=hT0.below hb1;replace h0:=h0.below hb1;replace hB:=za_ hB hb1;have hz1:=hb1.size;clear KH hb1 yl y0 y1 y2 y3 y4 xl x0 x1 x2;obtain⟨yl,y0,y1,y2,y3,y4⟩:=Y.c5;obtain⟨xl,x0,x1,x2⟩:=X.c3;by_cases hP:isP k M.length=true;rotate_left
 ·replace hP:isP k M.length=false:=by simpa using hP
  have HBF:stB (N.map Nv.n) (M.map Mv.q) ⟨ki,no,k,mn,d⟩=false:=by rw [HB.out,hcb.out,hP];rfl
  rw [hP];clear h0 HB hcb;replace HBF:Hid _:=HBF;obtain⟨W5,hW5,hC5,Z5⟩:=zi_ w1 Z (.slice na N.length nc) (.slice ma M.length mc) (.slice ya L.length yc);have hBF:Hid (Below lo w W5):=(hB.trans (hC5.b1 (B:=w.heap.size) (by have:=hB.size;omega) (by omega))).mono (by omega);have HF:Hid (stB (N.map Nv.n) (M.map Mv.q) ⟨ki,no,k,mn,d⟩=false):=HBF.out;clear hC5;obtain⟨zl,z0,z1,z2,f0,f1,f2⟩:=Z.c3f;clear Z;obtain⟨tl,t0,t1,t2⟩:=Z5.c3;clear Z5;unfold put3 at*;go_wp2;rw [←hW5];exact bodyPost_ret (v:= .tuple #[.agg #[.slice na N.length nc,.slice ma M.length mc,.slice ya L.length yc],false]) (by simp [results,Tryz.results80,go_sem,t0,t1,t2]) rfl ⟨.inr ⟨HF.out,_,_,_,_,_,_,_,_,_,rfl⟩,hBF.out⟩
 rw [hP];by_cases hM2:M.length<60;rotate_left
 ·have HBF:stB (N.map Nv.n) (M.map Mv.q) ⟨ki,no,k,mn,d⟩=false:=by rw [HB.out,hcb.out,hP];simp [hM2]
  clear h0 HB hcb hP;replace HBF:Hid _:=HBF;obtain⟨W5,hW5,hC5,Z5⟩:=zi_ w1 Z (.slice na N.length nc) (.slice ma M.length mc) (.slice ya L.length yc);have hBF:Hid (Below lo w W5):=(hB.trans (hC5.b1 (B:=w.heap.size) (by have:=hB.size;omega) (by omega))).mono (by omega);have HF:Hid (stB (N.map Nv.n) (M.map Mv.q) ⟨ki,no,k,mn,d⟩=false):=HBF.out;clear hC5;obtain⟨zl,z0,z1,z2,f0,f1,f2⟩:=Z.c3f;clear Z;obtain⟨tl,t0,t1,t2⟩:=Z5.c3;clear Z5;unfold put3 at*;go_wp2;rw [←hW5];exact bodyPost_ret (v:= .tuple #[.agg #[.slice na N.length nc,.slice ma M.length mc,.slice ya L.length yc],false]) (by simp [results,Tryz.results80,go_sem,t0,t1,t2]) rfl ⟨.inr ⟨HF.out,_,_,_,_,_,_,_,_,_,rfl⟩,hBF.out⟩
 obtain⟨j,rfl,hj⟩:=yu_ hP;have HOK:Hid (stB (N.map Nv.n) (M.map Mv.q) ⟨ki,no,(j:Int),mn,d⟩=true):=by show _=_;rw [HB.out,hcb.out,hP];simp [hM2]
 clear HB hcb hP;have hKN:Hid (stN (N.map Nv.n) (M.map Mv.q) ⟨ki,no,(j:Int),mn,d⟩=N.map Nv.n):=by
  show _=_;have hki:=HKI.out;subst hki;simp [stN]
 have hKM:Hid (stM (N.map Nv.n) (M.map Mv.q) ⟨ki,no,(j:Int),mn,d⟩=xh_ (M.map Mv.q) [M[j].q]):=by
  show _=_;have hki:=HKI.out;subst hki;simp only [stM,xm_ hj];simp
 have hKL:Hid (stL (N.map Nv.n) (M.map Mv.q) L ⟨ki,no,(j:Int),mn,d⟩=L):=by
  show _=_;have hki:=HKI.out;subst hki;simp [stL]
 obtain⟨g,rfl⟩:∃g,ma=some ⟨g,0,none⟩:=by
  rcases h0.m.2 with⟨_,h0⟩ | ⟨g,cap,cur,hv,_⟩
  ·omega
  ·simp only [Value.slice.injEq] at hv;exact⟨g,hv.1⟩
 obtain⟨c,_,hp,_⟩:=h0.cm.at j hj;have hel:M[j].q.es.length≤1048576:=by
  have hgm:=hG.m M[j].q (List.mem_map.2 ⟨M[j],List.getElem_mem hj,rfl⟩);obtain⟨_,_,_,_,_,_,a7⟩:=zt_ hgm;rcases xd_ a7 with h | h | h | h <;>rw [h] at a7
  ·rw [(vk_ a7).2.1];simp
  ·rw [(vj_ a7).2.2.1];simp
  ·have:=(xe_ a7).2.1;have:=(xe_ a7).1.1;omega
  ·rw [(xR_ a7).2.2.1];simp
 have KC:=fun W (q:Below w1.heap.size w1 W)=>xK_ M[j].q.ki M[j].q.fr M[j].q.dst M[j].q.te M[j].q.ix M[j].q.be M[j].q.co M[j].q.ye M[j].ea M[j].ec M[j].q.es W (yd_ (zd_ hp q) rfl) (Nn.own hp) hel;clear hp hel;obtain⟨xo,HXO⟩:∃xo,Hid (M[j]=xo):=⟨M[j],(rfl:M[j]=M[j])⟩;rw [HXO.out] at KC;clear yl y0 y1 y2 y3 y4 xl x0 x1 x2;obtain⟨yl,y0,y1,y2,y3,y4⟩:=Y.c5;obtain⟨xl,x0,x1,x2⟩:=X.c3;go_upto_region 3 with fail;clear yl y0 y1 y2 y3 y4 xl x0 x1 x2;have hva:Below w1.heap.size w1 w1.drew:=(Below.refl _ _).drew;replace X:=X.below hva;replace Y:=Y.below hva;replace Z:=Z.below hva;replace hT0:=hT0.below hva;replace h0:=h0.below hva;replace hB:=za_ hB hva;have hw0:w.heap.size+1+1<w1.heap.size:=by omega
 refine wp_region_held_drew (S:=(fun w'=>Box w' w.heap.size [.slice na N.length nc,.slice (some ⟨g,0,none⟩) M.length mc,.slice ya L.length yc]∧Box w' (w.heap.size+1) [ki,no,(j:Int),mn,d])) (by kernel_rfl) ⟨X,Y⟩ (fun zc_=> ?_);generalize w1.drew=va at*;have hvs:w1.heap.size≤va.heap.size:=hva.size;refine tkH 0 (.agg #[.slice na N.length nc,.slice (some ⟨g,0,none⟩) M.length mc,.slice ya L.length yc]) rfl ?_ ?_
 ·intro wx hSw;have e:=hSw.1.2.1 0 _ rfl;have e3:=hSw.1.2.1 1 _ rfl;have e4:=hSw.1.2.1 2 _ rfl;have e2:=hSw.1.1;clear zc_ hSw;go_simp
 simp only [Act.put,sA_,sB_,sC_];refine tkH 1 (.pointer (some ⟨w.heap.size,1,none⟩)) rfl ?_ ?_
 ·intro wx hSw;clear zc_ hSw;go_simp
 simp only [Act.put,sA_,sB_,sC_];refine tkH 2 (.slice (some ⟨g,0,none⟩) M.length mc) rfl ?_ ?_
 ·intro wx hSw;have e:=hSw.1.2.1 1 _ rfl;have e2:=hSw.1.1;clear zc_ hSw;go_simp
 simp only [Act.put,sA_,sB_,sC_];refine tkH 3 (.pointer (some ⟨w.heap.size+1,2,none⟩)) rfl ?_ ?_
 ·intro wx hSw;clear zc_ hSw;go_simp
 simp only [Act.put,sA_,sB_,sC_];refine tkH 4 (.int .i64 (j:Int)) rfl ?_ ?_
 ·intro wx hSw;have e:=hSw.2.2.1 2 _ rfl;have e2:=hSw.2.1;clear zc_ hSw;go_simp
 simp only [Act.put,sA_,sB_,sC_];refine tkH 5 (.pointer (some ⟨g,j*9,none⟩)) rfl ?_ ?_
 ·intro wx hSw;clear zc_ hSw;go_simp
 simp only [Act.put,sA_,sB_,sC_];refine rd1 6 rfl (fun K hK=> ?_);clear zc_;obtain⟨hgl,c0,c1,c2,c3,c4,c5,c6,c7,c8⟩:=xD_ h0.m j hj rfl;rw [HXO.out] at c0 c1 c2 c3 c4 c5 c6 c7 c8;go_simp;clear hgl c0 c1 c2 c3 c4 c5 c6 c7 c8;refine hK.out _ va ⟨X,Y⟩ (fun zc_=> ?_);clear hK K
 try (simp only [Act.put,sA_,sB_,sC_])
 refine rd1 7 rfl (fun K hK=> ?_);clear zc_;go_simp;refine (KC va hva).mono ?_;rintro e w3 ⟨ua,uc,rfl,o3,hb3⟩;replace X:=X.below hb3;replace Y:=Y.below hb3;replace Z:=Z.below hb3;replace hT0:=hT0.below hb3;replace h0:=h0.below hb3;replace hB:=za_ hB hb3;have hz3:=hb3.size;obtain⟨x,HX⟩:∃x:Mv,Hid (x=⟨xo.q,ua,uc⟩):=⟨⟨xo.q,ua,uc⟩,(rfl:(⟨xo.q,ua,uc⟩:Mv)=_)⟩;have hpx:PM w3 va.heap.size x:=by rw [HX.out];exact o3
 clear hb3 KC o3;refine hK.out _ w3 ⟨X,Y⟩ (fun zc_=> ?_);clear hK K
 try (simp only [Act.put,sA_,sB_,sC_])
 refine rd1 8 rfl (fun K hK=> ?_);clear zc_;have hBA:=zb_ w3 (.cells #[xo.q.ki,xo.q.fr,xo.q.dst,xo.q.te,xo.q.ix,xo.q.be,.slice ua xo.q.es.length uc,xo.q.co,xo.q.ye] 80);have hr:(w3.alloc (.cells #[xo.q.ki,xo.q.fr,xo.q.dst,xo.q.te,xo.q.ix,xo.q.be,.slice ua xo.q.es.length uc,xo.q.co,xo.q.ye] 80)).ownsRow w3.heap.size 80 9 (.slice (some ⟨w3.heap.size,0,none⟩) 1 1) 1 (zo_ [x]):=by rw [HX.out];exact World.ownsRow_lit w3 #[xo.q.ki,xo.q.fr,xo.q.dst,xo.q.te,xo.q.ix,xo.q.be,.slice ua xo.q.es.length uc,xo.q.co,xo.q.ye] 1 (Nat.le_refl _) (by simp [maxLen]) (by simp)
 have hpx2:PM (w3.alloc (.cells #[xo.q.ki,xo.q.fr,xo.q.dst,xo.q.te,xo.q.ix,xo.q.be,.slice ua xo.q.es.length uc,xo.q.co,xo.q.ye] 80)) va.heap.size x:=zd_ hpx hBA;have hxb:=PM.in hpx;replace X:=X.below hBA;replace Y:=Y.below hBA;replace Z:=Z.below hBA;replace hT0:=hT0.below hBA;replace h0:=h0.below hBA;replace hB:=za_ hB hBA;have hza:(w3.alloc (.cells #[xo.q.ki,xo.q.fr,xo.q.dst,xo.q.te,xo.q.ix,xo.q.be,.slice ua xo.q.es.length uc,xo.q.co,xo.q.ye] 80)).heap.size=w3.heap.size+1:=by simp
 clear hpx hBA;go_simp;obtain⟨W4,hW4⟩:∃W,W=w3.alloc (.cells #[xo.q.ki,xo.q.fr,xo.q.dst,xo.q.te,xo.q.ix,xo.q.be,.slice ua xo.q.es.length uc,xo.q.co,xo.q.ye] 80):=⟨_,rfl⟩;rw [←hW4] at hr hpx2 X Y Z hT0 h0 hB hza ⊢;clear hW4;refine hK.out _ W4 ⟨X,Y⟩ (fun zc_=> ?_);clear hK K
 try (simp only [Act.put,sA_,sB_,sC_])
 refine rd1 9 rfl (fun K hK=> ?_);clear zc_;go_simp;have hch:zr_ PM BM W4 hi w3.heap.size [x]:=by
  have:=(zr_.nil (P:=PM) (B:=BM) (w:=W4) (Nat.le_refl hi)).push (x:=x) (hi':=w3.heap.size) (zf_ hpx2 (by omega)) (fun b hb=>by have:=hxb b hb;omega) (by omega);exact this
 refine (xr_ lo hi w3.heap.size _ _ _ N M _ (some ⟨w3.heap.size,0,none⟩) 1 [x] w3.heap.size _ h0 hr hch (by omega) (by omega) (by simp)).mono ?_;rintro e w6 ⟨u,rfl,h6,hc6⟩;have hz6:=hc6.size;replace X:=hc6.box X (by intro q;have:=HBL.out _ (.inr (.inl q));omega);replace Y:=hc6.box Y (by intro q;have:=HBL.out _ (.inr (.inl q));omega);replace Z:=hc6.box Z (by intro q;have:=HBL.out _ (.inr (.inl q));omega);replace hT0:=hT0.chg hc6 (by intro q;have:=HBL.out _ (.inr (.inl q));omega);have HB6:Hid (Below lo w w6):=(hB.mono (show lo≤w.heap.size from by omega)).trans (hc6.below (by omega) fun b q=>(HBL.out b (.inr (.inl q))).1);obtain⟨MA,HMA⟩:∃MA,Hid (MA=M++ [x].take (60-M.length)):=⟨M++ [x].take (60-M.length),(rfl:_=_)⟩;rw [←HMA.out] at h6;obtain⟨um,umc,rfl⟩:=h6.shapes.2.1;clear h0 hr hch hpx2 hc6 hB hxb;refine hK.out _ w6 ⟨X,Y⟩ (fun zc_=> ?_);clear hK K
 try (simp only [Act.put,sA_,sB_,sC_])
 refine rd1 10 rfl (fun K hK=> ?_);clear zc_;obtain⟨W5,hW5,hC5,Z5⟩:=zi_ w6 Z (.slice na N.length nc) (.slice um MA.length umc) (.slice ya L.length yc);have hz5:=hC5.size;replace X:=hC5.box X (by omega);replace Y:=hC5.box Y (by omega);have hFF:Hid (OwnC W5 lo W5.heap.size (.slice na N.length nc) (.slice um MA.length umc) (.slice ya L.length yc) N MA L):=(h6.keep hT0 hC5).hiN (by omega);clear h6;have hBF:Hid (Below lo w W5):=HB6.out.trans (hC5.b1 (B:=lo) (by have:=HB6.out.size;omega) (by omega));clear hC5;obtain⟨zl,z0,z1,z2,f0,f1,f2⟩:=Z.c3f;clear Z;unfold put3 at hW5;go_simp;rw [←hW5];clear hW5 zl z0 z1 z2 f0 f1 f2;refine hK.out _ W5 ⟨X,Y⟩ (fun zc_=> ?_);clear hK K
 try (simp only [Act.put,sA_,sB_,sC_])
 refine tkH 11 (.bool true) rfl ?_ ?_
 ·intro wx hSw;clear zc_ hSw;go_simp
 simp only [Act.put,sA_,sB_,sC_];clear zc_;refine wpAnyH_done (by kernel_rfl) ?_ _;obtain⟨tl,t0,t1,t2⟩:=Z5.c3;clear Z5;go_wp2;exact bodyPost_ret (v:= .tuple #[.agg #[.slice na N.length nc,.slice um MA.length umc,.slice ya L.length yc],true]) (by simp [results,Tryz.results80,go_sem,t0,t1,t2]) rfl ⟨.inl ⟨HOK.out,_,_,_,_,_,rfl,by rw [hKL.out];exact hFF.out,by rw [hKN.out],by rw [HMA.out,hKM.out,vb_,List.map_singleton,HX.out,HXO.out]⟩,hBF.out⟩
theorem tF_ (p lo hi:Nat) (vn vm vl:Value) (N:List Nv) (M:List Mv) (L:List Ld) (ki no k mn:Int) (d:ByteArray) (w:World) (h:OwnC w lo hi vn vm vl N M L) (hh:hi≤w.heap.size) (hG:PG p (N.map Nv.n) (M.map Mv.q) L) (hki:ki=6):
  Calls Tryz.prog 82 #[.agg #[vn,vm,vl],.agg #[ki,no,k,mn,d]] w fun e w'=>yO_ w' lo (stB (N.map Nv.n) (M.map Mv.q) ⟨ki,no,k,mn,d⟩) (stN (N.map Nv.n) (M.map Mv.q) ⟨ki,no,k,mn,d⟩) (stM (N.map Nv.n) (M.map Mv.q) ⟨ki,no,k,mn,d⟩) (stL (N.map Nv.n) (M.map Mv.q) L ⟨ki,no,k,mn,d⟩) e∧Below lo w w':=by
 have hlh:=h.lohi;have HKI:Hid (ki=6):=hki;clear hki;obtain⟨⟨na,nc,rfl⟩,⟨ma,mc,rfl⟩,ya,yc,rfl⟩:=h.shapes;obtain⟨W0,hW0,hB,X,Y,Z,hz0⟩:=al3 w [.slice na N.length nc,.slice ma M.length mc,.slice ya L.length yc] 30 [ki,no,k,mn,d] 51 z3 30;have hzw:=hB.size;have hT0:TyB W0 (w.heap.size+1+1) 30:=⟨z3,by
  rw [hW0];have:=heap_alloc_new ((w.alloc (.cells #[.slice na N.length nc,.slice ma M.length mc,.slice ya L.length yc] 30)).alloc (.cells #[ki,no,k,mn,d] 51)) (.cells z3 30);simpa using this⟩
 have HBL:=h.hbl;have HB:stB (N.map Nv.n) (M.map Mv.q) ⟨ki,no,k,mn,d⟩=(isP no N.length&&afOk (gN (atN (N.map Nv.n) no)) (atN (N.map Nv.n) no).id (atN (N.map Nv.n) no).pe (atN (N.map Nv.n) no).ro k mn):=by have hki:=HKI.out;subst hki;simp [stB]
 have h0:=h.below hB;have KH:=fun W=>xf_ no N.length M.length L.length na nc ma mc ya yc W;clear h;obtain⟨yl,y0,y1,y2,y3,y4⟩:=Y.c5;obtain⟨xl,x0,x1,x2⟩:=X.c3;go_enter Tryz.func82,Tryz.ntmps82;go_upto_region 1 with fail;rw [←hW0];clear hW0;go_wp2_with fail;refine (KH _).mono ?_;rintro e w1 ⟨rfl,hb1⟩;replace X:=X.below hb1;replace Y:=Y.below hb1;replace Z:=Z.below hb1;replace hT0:=hT0.below hb1;replace h0:=h0.below hb1;replace hB:=za_ hB hb1;have hz1:=hb1.size;clear KH hb1 yl y0 y1 y2 y3 y4 xl x0 x1 x2;by_cases hP:isP no N.length=true;rotate_left
 ·replace hP:isP no N.length=false:=by simpa using hP
  rw [hP,Bool.false_and] at HB;rw [hP];clear h0;obtain⟨xl,x0,x1,x2⟩:=X.c3;obtain⟨W5,hW5,hC5,Z5⟩:=zi_ w1 Z (.slice na N.length nc) (.slice ma M.length mc) (.slice ya L.length yc);have hBF:Hid (Below lo w W5):=(hB.trans (hC5.b1 (B:=w.heap.size) (by have:=hB.size;omega) (by omega))).mono (by omega);have HF:Hid (stB (N.map Nv.n) (M.map Mv.q) ⟨ki,no,k,mn,d⟩=false):=HB;clear hC5;obtain⟨zl,z0,z1,z2,f0,f1,f2⟩:=Z.c3f;clear Z;obtain⟨tl,t0,t1,t2⟩:=Z5.c3;clear Z5;unfold put3 at*;go_wp2;rw [←hW5];exact bodyPost_ret (v:= .tuple #[.agg #[.slice na N.length nc,.slice ma M.length mc,.slice ya L.length yc],false]) (by simp [results,Tryz.results82,go_sem,t0,t1,t2]) rfl ⟨.inr ⟨HF.out,_,_,_,_,_,_,_,_,_,rfl⟩,hBF.out⟩
 rw [hP];obtain⟨j,rfl,hj⟩:=yu_ hP;rw [zw_ hj,hP,Bool.true_and] at HB;obtain⟨c,hcb,hpx,_⟩:=h0.cn.at j hj;have hgd:Gd N[j].n∧N[j].n.id=(j:Int):=by
  obtain⟨a,b,_,_⟩:=hG.g j (by rw [List.length_map];exact hj);rw [List.getElem_map] at a b;exact⟨a,b⟩
 have hKN:Hid (stN (N.map Nv.n) (M.map Mv.q) ⟨ki,(j:Int),k,mn,d⟩=N.map Nv.n):=by
  show _=_;have hki:=HKI.out;subst hki;simp only [stN,zw_ hj];simp
 have hKM:Hid (stM (N.map Nv.n) (M.map Mv.q) ⟨ki,(j:Int),k,mn,d⟩=xh_ (M.map Mv.q) [afX N[j].n k mn]):=by
  show _=_;have hki:=HKI.out;subst hki;simp only [stM,zw_ hj];simp
 have hKL:Hid (stL (N.map Nv.n) (M.map Mv.q) L ⟨ki,(j:Int),k,mn,d⟩=L):=by
  show _=_;have hki:=HKI.out;subst hki;simp only [stL,zw_ hj];simp
 have hL1:=hG.l;have hM1:=hG.m6;rw [List.length_map] at hM1;have hNid:Hid (N[j].n.id=(j:Int)):=hgd.2;obtain⟨g,rfl⟩:∃g,na=some ⟨g,0,none⟩:=by
  rcases h0.n.2 with⟨_,h0⟩ | ⟨g,cap,cur,hv,_⟩
  ·omega
  ·simp only [Value.slice.injEq] at hv;exact⟨g,hv.1⟩
 obtain⟨ok,hok⟩:∃ok,ok=afOk (gN N[j].n) N[j].n.id N[j].n.pe N[j].n.ro k mn:=⟨_,rfl⟩;have KT:=fun W (q:Below w1.heap.size w1 W)=>implAFD N[j] k mn c W (OwnN.below hpx q) hgd.1 ok hok;rw [←hok] at HB;clear hpx hgd hok hcb hP hNid;have HBH:Hid _:=HB;clear HB;obtain⟨xo,HXO⟩:∃xo,Hid (N[j]=xo):=⟨N[j],(rfl:N[j]=N[j])⟩;rw [HXO.out] at KT;go_upto_region 3 with fail
 go_cut [6,7] from 8 (fun t6 t7 wq=>∃(b6:Nat) (x:Mv),t6= .pointer (some ⟨b6,0,none⟩)∧t7= .bool ok∧Box wq b6 x∧Below w1.heap.size w1 wq∧(ok=true→x.q=afX xo.n k mn∧PM wq w1.heap.size x))
 case first=>
  clear HBH HBL hKN hKM hKL;have h0n:=h0.n;have hgb:g<w.heap.size:=by have:=h0.bn g rfl;omega
  have hxw:=X.1;have hyw:=Y.1;clear h0 hT0 Z hB;have hva:Below w1.heap.size w1 w1.drew:=(Below.refl _ _).drew;replace X:=X.below hva;replace Y:=Y.below hva;replace h0n:=zd_ h0n hva;refine wp_region_held_drew (S:=(fun w'=>Box w' w.heap.size [.slice (some ⟨g,0,none⟩) N.length nc,.slice ma M.length mc,.slice ya L.length yc]∧Box w' (w.heap.size+1) [ki,(j:Int),k,mn,d]∧w'.ownsRow lo 42 9 (.slice (some ⟨g,0,none⟩) N.length nc) N.length (zI_ N))) (by kernel_rfl) ⟨X,Y,h0n⟩ (fun zc_=> ?_);generalize w1.drew=va at*;have hvs:w1.heap.size≤va.heap.size:=hva.size;refine tkH 0 (.pointer (some ⟨w.heap.size,0,none⟩)) rfl ?_ ?_
  ·intro wx hSw;clear zc_ hSw;go_simp
  simp only [Act.put,sA_,sB_,sC_];refine tkH 1 (.slice (some ⟨g,0,none⟩) N.length nc) rfl ?_ ?_
  ·intro wx hSw;have e:=hSw.1.2.1 0 _ rfl;have e2:=hSw.1.1;clear zc_ hSw;go_simp
  simp only [Act.put,sA_,sB_,sC_];refine tkH 2 (.pointer (some ⟨w.heap.size+1,1,none⟩)) rfl ?_ ?_
  ·intro wx hSw;clear zc_ hSw;go_simp
  simp only [Act.put,sA_,sB_,sC_];refine tkH 3 (.int .i64 (j:Int)) rfl ?_ ?_
  ·intro wx hSw;have e:=hSw.2.1.2.1 1 _ rfl;have e2:=hSw.2.1.1;clear zc_ hSw;go_simp
  simp only [Act.put,sA_,sB_,sC_];refine tkH 4 (.pointer (some ⟨g,j*9,none⟩)) rfl ?_ ?_
  ·intro wx hSw;clear zc_ hSw;go_simp
  simp only [Act.put,sA_,sB_,sC_];refine tkH 5 (.agg xo) rfl ?_ ?_
  ·intro wx hSw;obtain⟨hgl,c0,c1,c2,c3,c4,c5,c6,c7,c8⟩:=zR_ hSw.2.2 j hj rfl;rw [HXO.out] at c0 c1 c2 c3 c4 c5 c6 c7 c8;clear zc_ hSw;go_simp
  simp only [Act.put,sA_,sB_,sC_];refine tkH 6 (.pointer (some ⟨w.heap.size+1,2,none⟩)) rfl ?_ ?_
  ·intro wx hSw;clear zc_ hSw;go_simp
  simp only [Act.put,sA_,sB_,sC_];refine tkH 7 (.int .i64 k) rfl ?_ ?_
  ·intro wx hSw;have e:=hSw.2.1.2.1 2 _ rfl;have e2:=hSw.2.1.1;clear zc_ hSw;go_simp
  simp only [Act.put,sA_,sB_,sC_];refine tkH 8 (.pointer (some ⟨w.heap.size+1,3,none⟩)) rfl ?_ ?_
  ·intro wx hSw;clear zc_ hSw;go_simp
  simp only [Act.put,sA_,sB_,sC_];refine tkH 9 (.int .i64 mn) rfl ?_ ?_
  ·intro wx hSw;have e:=hSw.2.1.2.1 3 _ rfl;have e2:=hSw.2.1.1;clear zc_ hSw;go_simp
  simp only [Act.put,sA_,sB_,sC_];refine rd2 10 14 rfl rfl (fun K hK=> ?_) (fun K hK=> ?_)
  ·clear zc_;go_simp;refine (KT va hva).mono ?_;rintro e w5 ⟨x,rfl,hF,hb5⟩;replace X:=X.below hb5;replace Y:=Y.below hb5;replace h0n:=zd_ h0n hb5;replace hva:=za_ hva hb5;have hz5:=hb5.size;have hfb:ok=true→∀b,BM x b→b≠w5.heap.size:=fun q b hb=>Nat.ne_of_lt (PM.in (hF q).2 b hb).2;replace hF:ok=true→x.q=afX xo.n k mn∧PM w5 w1.heap.size x:=fun q=>⟨(hF q).1,zf_ (hF q).2 hvs⟩;clear hb5;refine hK.out _ w5 ⟨X,Y,h0n⟩ (fun zc_=> ?_);clear hK K
   try (simp only [Act.put,sA_,sB_,sC_])
   refine tkH 11 (.tuple #[.agg x,ok]) rfl ?_ ?_
   ·intro wx hSw;clear zc_ hSw;go_simp
   simp only [Act.put,sA_,sB_,sC_];refine tkH 12 (.agg x) rfl ?_ ?_
   ·intro wx hSw;clear zc_ hSw;go_simp
   simp only [Act.put,sA_,sB_,sC_];refine tkH 13 (.bool ok) rfl ?_ ?_
   ·intro wx hSw;clear zc_ hSw;go_simp
   simp only [Act.put,sA_,sB_,sC_];refine rd1 14 rfl (fun K hK=> ?_);clear zc_;have hBA:=zb_ w5 (.cells zM 80);have T:=Box.new w5 zM 80;have hza:(w5.alloc (.cells zM 80)).heap.size=w5.heap.size+1:=by simp
   replace X:=X.below hBA;replace Y:=Y.below hBA;replace h0n:=zd_ h0n hBA;replace hva:=za_ hva hBA;replace hF:ok=true→x.q=afX xo.n k mn∧PM _ w1.heap.size x:=fun q=>⟨(hF q).1,zd_ (hF q).2 hBA⟩;go_simp;refine hK.out _ _ ⟨X,Y,h0n⟩ (fun zc_=> ?_);clear hK K
   try (simp only [Act.put,sA_,sB_,sC_])
   clear hBA;generalize hw6:w5.alloc (.cells zM 80)=w6 at*;generalize hb6:w5.heap.size=b6 at*;clear hw6;refine rd1 15 rfl (fun K hK=> ?_);clear zc_;obtain⟨W7,hW7,hC7,T7⟩:=zj_ w6 T x.q.ki x.q.fr x.q.dst x.q.te x.q.ix x.q.be (.slice x.ea x.q.es.length x.ec) x.q.co x.q.ye;obtain⟨sl,s0,s1,s2,s3,s4,s5,s6,s7,s8⟩:=T.e9;obtain⟨f0,f1,f2,f3,f4,f5,f6,f7,f8⟩:=T.f9;replace X:=hC7.box X (by omega);replace Y:=hC7.box Y (by omega);replace h0n:=hC7.owns h0n (fun b hb hh=>by simp only [Value.ownBlock,Option.some.injEq] at hb;have hh:b=b6:=hh;omega);replace hF:ok=true→x.q=afX xo.n k mn∧PM W7 w1.heap.size x:=fun q=>⟨(hF q).1,hC7.owns (hF q).2 (fun b hb hh=>hfb q b hb hh)⟩;have hva7:=hva.trans (hC7.b1 (B:=w1.heap.size) (by omega) (by omega));have hz7:=hC7.size;unfold put9 at hW7;go_simp;rw [←hW7];clear hW7 hC7 sl s0 s1 s2 s3 s4 s5 s6 s7 s8 f0 f1 f2 f3 f4 f5 f6 f7 f8 T;refine hK.out _ W7 ⟨X,Y,h0n⟩ (fun zc_=> ?_);clear hK K
   try (simp only [Act.put,sA_,sB_,sC_])
   refine tkH 16 (.bool ok) rfl ?_ ?_
   ·intro wx hSw;clear zc_ hSw;go_simp
   simp only [Act.put,sA_,sB_,sC_];clear zc_;refine wpAnyH_done (by kernel_rfl) ?_ _;go_wp2_with fail;go_meet
   case rel=>exact⟨b6,x,rfl,rfl,T7,hva7,hF⟩
  ·clear zc_;have hBA:=zb_ va (.cells zM 80);have T:=Box.new va zM 80;have hza:(va.alloc (.cells zM 80)).heap.size=va.heap.size+1:=by simp
   replace X:=X.below hBA;replace Y:=Y.below hBA;replace h0n:=zd_ h0n hBA;replace hva:=za_ hva hBA;go_simp;refine hK.out _ _ ⟨X,Y,h0n⟩ (fun zc_=> ?_);clear hK K
   try (simp only [Act.put,sA_,sB_,sC_])
   clear hBA;generalize hw6:va.alloc (.cells zM 80)=v2 at*;generalize hb6:va.heap.size=b6 at*;clear hw6;refine rd1 10 rfl (fun K hK=> ?_);clear zc_;go_simp;refine (KT v2 hva).mono ?_;rintro e w5 ⟨x,rfl,hF,hb5⟩;replace X:=X.below hb5;replace Y:=Y.below hb5;replace h0n:=zd_ h0n hb5;replace hva:=za_ hva hb5;have hz5:=hb5.size;replace T:=T.below hb5;have hfb:ok=true→∀b,BM x b→b≠b6:=fun q b hb=>by have:=(PM.in (hF q).2 b hb).1;omega
   replace hF:ok=true→x.q=afX xo.n k mn∧PM w5 w1.heap.size x:=fun q=>⟨(hF q).1,zf_ (hF q).2 (by omega)⟩;clear hb5;refine hK.out _ w5 ⟨X,Y,h0n⟩ (fun zc_=> ?_);clear hK K
   try (simp only [Act.put,sA_,sB_,sC_])
   refine tkH 11 (.tuple #[.agg x,ok]) rfl ?_ ?_
   ·intro wx hSw;clear zc_ hSw;go_simp
   simp only [Act.put,sA_,sB_,sC_];refine tkH 12 (.agg x) rfl ?_ ?_
   ·intro wx hSw;clear zc_ hSw;go_simp
   simp only [Act.put,sA_,sB_,sC_];refine tkH 13 (.bool ok) rfl ?_ ?_
   ·intro wx hSw;clear zc_ hSw;go_simp
   simp only [Act.put,sA_,sB_,sC_];refine rd1 15 rfl (fun K hK=> ?_);clear zc_;obtain⟨W7,hW7,hC7,T7⟩:=zj_ w5 T x.q.ki x.q.fr x.q.dst x.q.te x.q.ix x.q.be (.slice x.ea x.q.es.length x.ec) x.q.co x.q.ye;obtain⟨sl,s0,s1,s2,s3,s4,s5,s6,s7,s8⟩:=T.e9;obtain⟨f0,f1,f2,f3,f4,f5,f6,f7,f8⟩:=T.f9;replace X:=hC7.box X (by omega);replace Y:=hC7.box Y (by omega);replace h0n:=hC7.owns h0n (fun b hb hh=>by simp only [Value.ownBlock,Option.some.injEq] at hb;have hh:b=b6:=hh;omega);replace hF:ok=true→x.q=afX xo.n k mn∧PM W7 w1.heap.size x:=fun q=>⟨(hF q).1,hC7.owns (hF q).2 (fun b hb hh=>hfb q b hb hh)⟩;have hva7:=hva.trans (hC7.b1 (B:=w1.heap.size) (by omega) (by omega));have hz7:=hC7.size;unfold put9 at hW7;go_simp;rw [←hW7];clear hW7 hC7 sl s0 s1 s2 s3 s4 s5 s6 s7 s8 f0 f1 f2 f3 f4 f5 f6 f7 f8 T;refine hK.out _ W7 ⟨X,Y,h0n⟩ (fun zc_=> ?_);clear hK K
   try (simp only [Act.put,sA_,sB_,sC_])
   refine tkH 16 (.bool ok) rfl ?_ ?_
   ·intro wx hSw;clear zc_ hSw;go_simp
   simp only [Act.put,sA_,sB_,sC_];clear zc_;refine wpAnyH_done (by kernel_rfl) ?_ _;go_wp2_with fail;go_meet
   case rel=>exact⟨b6,x,rfl,rfl,T7,hva7,hF⟩
 case rest=>
  obtain⟨b6,x,rfl,rfl,T,hbq,hF⟩:=hcut;replace X:=X.below hbq;replace Z:=Z.below hbq;replace hT0:=hT0.below hbq;replace h0:=h0.below hbq;replace hB:=za_ hB hbq;have hzq:=hbq.size;clear hbq Y KT;have HB:=HBH.out;clear HBH
  cases ok with
  | false=>
   replace HB:Hid _:=HB;clear hF h0 T;obtain⟨xl,x0,x1,x2⟩:=X.c3;obtain⟨W5,hW5,hC5,Z5⟩:=zi_ wc Z (.slice (some ⟨g,0,none⟩) N.length nc) (.slice ma M.length mc) (.slice ya L.length yc);have hBF:Hid (Below lo w W5):=(hB.trans (hC5.b1 (B:=w.heap.size) (by have:=hB.size;omega) (by omega))).mono (by omega);have HF:Hid (stB (N.map Nv.n) (M.map Mv.q) ⟨ki,(j:Int),k,mn,d⟩=false):=HB.out;clear hC5;obtain⟨zl,z0,z1,z2,f0,f1,f2⟩:=Z.c3f;clear Z;obtain⟨tl,t0,t1,t2⟩:=Z5.c3;clear Z5;unfold put3 at*;go_wp2;rw [←hW5];exact bodyPost_ret (v:= .tuple #[.agg #[.slice (some ⟨g,0,none⟩) N.length nc,.slice ma M.length mc,.slice ya L.length yc],false]) (by simp [results,Tryz.results82,go_sem,t0,t1,t2]) rfl ⟨.inr ⟨HF.out,_,_,_,_,_,_,_,_,_,rfl⟩,hBF.out⟩
  | true=>
   have HOK:Hid (stB (N.map Nv.n) (M.map Mv.q) ⟨ki,(j:Int),k,mn,d⟩=true):=HB;obtain⟨hxz,hpx⟩:=hF rfl;replace hxz:Hid (x.q=afX xo.n k mn):=hxz;clear HB hF;have hBA:=zb_ wc (.cells x 80);have hr:(wc.alloc (.cells x 80)).ownsRow wc.heap.size 80 9 (.slice (some ⟨wc.heap.size,0,none⟩) 1 1) 1 (zo_ [x]):=World.ownsRow_lit wc x 1 (Nat.le_refl _) (by simp [maxLen]) (by simp);have hpx2:PM (wc.alloc (.cells x 80)) w1.heap.size x:=zd_ hpx hBA;have hxb:=PM.in hpx;obtain⟨tl,t0,t1,t2,t3,t4,t5,t6,t7,t8⟩:=T.e9;obtain⟨xl,x0,x1,x2⟩:=X.c3;have Za:=Z.below hBA;have hTa:=hT0.below hBA;have ha0:=h0.below hBA;have hBa:=za_ hB hBA;have hza:(wc.alloc (.cells x 80)).heap.size=wc.heap.size+1:=by simp
   clear Z hT0 h0 hB hpx hBA;go_wp2_with fail;obtain⟨W3,hW3⟩:∃W,W=wc.alloc (.cells x 80):=⟨_,rfl⟩;rw [←hW3] at hr hpx2 Za hTa ha0 hBa hza ⊢;clear hW3 tl t0 t1 t2 t3 t4 t5 t6 t7 t8 T xl x0 x1 x2 X;have hch:zr_ PM BM W3 hi wc.heap.size [x]:=by
    have:=(zr_.nil (P:=PM) (B:=BM) (w:=W3) (Nat.le_refl hi)).push (x:=x) (hi':=wc.heap.size) (zf_ hpx2 (by omega)) (fun b hb=>by have:=hxb b hb;omega) (by omega);exact this
   refine (xr_ lo hi wc.heap.size _ _ _ N M _ (some ⟨wc.heap.size,0,none⟩) 1 [x] wc.heap.size _ ha0 hr hch (by omega) (by omega) (by simp)).mono ?_;rintro e w6 ⟨u,rfl,h6,hc6⟩;have hz6:=hc6.size;replace Za:=hc6.box Za (by intro q;have:=HBL.out _ (.inr (.inl q));omega);replace hTa:=hTa.chg hc6 (by intro q;have:=HBL.out _ (.inr (.inl q));omega);have HB6:Hid (Below lo w w6):=(hBa.mono (show lo≤w.heap.size from by omega)).trans (hc6.below (by omega) fun b q=>(HBL.out b (.inr (.inl q))).1);obtain⟨MA,HMA⟩:∃MA,Hid (MA=M++ [x].take (60-M.length)):=⟨M++ [x].take (60-M.length),(rfl:_=_)⟩;rw [←HMA.out] at h6;obtain⟨um,umc,rfl⟩:=h6.shapes.2.1;clear ha0 hr hch hpx2 hc6 hBa hxb;obtain⟨W5,hW5,hC5,Z5⟩:=zi_ w6 Za (.slice (some ⟨g,0,none⟩) N.length nc) (.slice um MA.length umc) (.slice ya L.length yc);have hz5:=hC5.size;have hFF:Hid (OwnC W5 lo W5.heap.size (.slice (some ⟨g,0,none⟩) N.length nc) (.slice um MA.length umc) (.slice ya L.length yc) N MA L):=(h6.keep hTa hC5).hiN (by omega);clear h6;have hBF:Hid (Below lo w W5):=HB6.out.trans (hC5.b1 (B:=lo) (by have:=HB6.out.size;omega) (by omega));clear hC5;obtain⟨zl,z0,z1,z2,f0,f1,f2⟩:=Za.c3f;clear Za;obtain⟨tl,t0,t1,t2⟩:=Z5.c3;clear Z5;unfold put3 at*;go_wp2;rw [←hW5];exact bodyPost_ret (v:= .tuple #[.agg #[.slice (some ⟨g,0,none⟩) N.length nc,.slice um MA.length umc,.slice ya L.length yc],true]) (by simp [results,Tryz.results82,go_sem,t0,t1,t2]) rfl ⟨.inl ⟨HOK.out,_,_,_,_,_,rfl,by rw [hKL.out];exact hFF.out,by rw [hKN.out],by rw [HMA.out,hKM.out,vb_,List.map_singleton,hxz.out,HXO.out]⟩,hBF.out⟩
theorem ue_ (p lo hi:Nat) (vn vm vl:Value) (N:List Nv) (M:List Mv) (L:List Ld) (ki no k mn:Int) (d:ByteArray) (w:World) (h:OwnC w lo hi vn vm vl N M L) (hh:hi≤w.heap.size) (hG:PG p (N.map Nv.n) (M.map Mv.q) L) (hki:ki=1):
  Calls Tryz.prog 77 #[.agg #[vn,vm,vl],.agg #[ki,no,k,mn,d]] w fun e w'=>yO_ w' lo (stB (N.map Nv.n) (M.map Mv.q) ⟨ki,no,k,mn,d⟩) (stN (N.map Nv.n) (M.map Mv.q) ⟨ki,no,k,mn,d⟩) (stM (N.map Nv.n) (M.map Mv.q) ⟨ki,no,k,mn,d⟩) (stL (N.map Nv.n) (M.map Mv.q) L ⟨ki,no,k,mn,d⟩) e∧Below lo w w':=by
 have hlh:=h.lohi;have HKI:Hid (ki=1):=hki;clear hki;obtain⟨⟨na,nc,rfl⟩,⟨ma,mc,rfl⟩,ya,yc,rfl⟩:=h.shapes;obtain⟨W0,hW0,hB,X,Y,Z,hz0⟩:=al3 w [.slice na N.length nc,.slice ma M.length mc,.slice ya L.length yc] 30 [ki,no,k,mn,d] 51 z3 30;have hzw:=hB.size;have hT0:TyB W0 (w.heap.size+1+1) 30:=⟨z3,by
  rw [hW0];have:=heap_alloc_new ((w.alloc (.cells #[.slice na N.length nc,.slice ma M.length mc,.slice ya L.length yc] 30)).alloc (.cells #[ki,no,k,mn,d] 51)) (.cells z3 30);simpa using this⟩
 have HBL:=h.hbl;have HB:stB (N.map Nv.n) (M.map Mv.q) ⟨ki,no,k,mn,d⟩=(isP no N.length&&tmOk (gN (atN (N.map Nv.n) no)) (atN (N.map Nv.n) no).ro (atN (N.map Nv.n) no).te):=by have hki:=HKI.out;subst hki;simp [stB]
 have h0:=h.below hB;have KH:=fun W=>xf_ no N.length M.length L.length na nc ma mc ya yc W;clear h;obtain⟨yl,y0,y1,y2,y3,y4⟩:=Y.c5;obtain⟨xl,x0,x1,x2⟩:=X.c3;go_enter Tryz.func77,Tryz.ntmps77;go_upto_region 1 with fail;rw [←hW0];clear hW0;go_wp2_with fail;refine (KH _).mono ?_;rintro e w1 ⟨rfl,hb1⟩;replace X:=X.below hb1;replace Y:=Y.below hb1;replace Z:=Z.below hb1;replace hT0:=hT0.below hb1;replace h0:=h0.below hb1;replace hB:=za_ hB hb1;have hz1:=hb1.size;clear KH hb1 yl y0 y1 y2 y3 y4 xl x0 x1 x2;obtain⟨yl,y0,y1,y2,y3,y4⟩:=Y.c5;obtain⟨xl,x0,x1,x2⟩:=X.c3;by_cases hP:isP no N.length=true;rotate_left
 ·replace hP:isP no N.length=false:=by simpa using hP
  rw [hP,Bool.false_and] at HB;rw [hP];clear h0;obtain⟨W5,hW5,hC5,Z5⟩:=zi_ w1 Z (.slice na N.length nc) (.slice ma M.length mc) (.slice ya L.length yc);have hBF:Hid (Below lo w W5):=(hB.trans (hC5.b1 (B:=w.heap.size) (by have:=hB.size;omega) (by omega))).mono (by omega);have HF:Hid (stB (N.map Nv.n) (M.map Mv.q) ⟨ki,no,k,mn,d⟩=false):=HB;clear hC5;obtain⟨zl,z0,z1,z2,f0,f1,f2⟩:=Z.c3f;clear Z;obtain⟨tl,t0,t1,t2⟩:=Z5.c3;clear Z5;unfold put3 at*;go_wp2;rw [←hW5];exact bodyPost_ret (v:= .tuple #[.agg #[.slice na N.length nc,.slice ma M.length mc,.slice ya L.length yc],false]) (by simp [results,Tryz.results77,go_sem,t0,t1,t2]) rfl ⟨.inr ⟨HF.out,_,_,_,_,_,_,_,_,_,rfl⟩,hBF.out⟩
 rw [hP];obtain⟨j,rfl,hj⟩:=yu_ hP;rw [zw_ hj,hP,Bool.true_and] at HB;obtain⟨c,hcb,hpx,_⟩:=h0.cn.at j hj;have hgd:Gd N[j].n∧N[j].n.id=(j:Int):=by
  obtain⟨a,b,_,_⟩:=hG.g j (by rw [List.length_map];exact hj);rw [List.getElem_map] at a b;exact⟨a,b⟩
 have hKN:Hid (stN (N.map Nv.n) (M.map Mv.q) ⟨ki,(j:Int),k,mn,d⟩=(N.map Nv.n).set j (tmX N[j].n)):=by
  show _=_;have hki:=HKI.out;subst hki;simp only [stN,zw_ hj];simp
 have hKM:Hid (stM (N.map Nv.n) (M.map Mv.q) ⟨ki,(j:Int),k,mn,d⟩=xh_ (M.map Mv.q) (tmA N[j].n)):=by
  show _=_;have hki:=HKI.out;subst hki;simp only [stM,zw_ hj];simp
 have hKL:Hid (stL (N.map Nv.n) (M.map Mv.q) L ⟨ki,(j:Int),k,mn,d⟩=zB_ L N[j].n (tmX N[j].n)):=by
  show _=_;have hki:=HKI.out;subst hki;simp only [stL,zw_ hj];simp
 have hL1:=hG.l;have hM1:=hG.m6;rw [List.length_map] at hM1;have hNid:Hid (N[j].n.id=(j:Int)):=hgd.2;obtain⟨g,rfl⟩:∃g,na=some ⟨g,0,none⟩:=by
  rcases h0.n.2 with⟨_,h0⟩ | ⟨g,cap,cur,hv,_⟩
  ·omega
  ·simp only [Value.slice.injEq] at hv;exact⟨g,hv.1⟩
 obtain⟨hgl,c0,c1,c2,c3,c4,c5,c6,c7,c8⟩:=zR_ h0.n j hj rfl;obtain⟨ok,hok⟩:∃ok,ok=tmOk (gN N[j].n) N[j].n.ro N[j].n.te:=⟨_,rfl⟩;have KT:=pd_ N[j] c w1 hpx hgd.1 ok hok;rw [←hok] at HB;clear hpx hgd hok hcb hP;have HBH:Hid _:=HB;clear HB;obtain⟨xo,HXO⟩:∃xo,Hid (N[j]=xo):=⟨N[j],(rfl:N[j]=N[j])⟩;rw [HXO.out] at c0 c1 c2 c3 c4 c5 c6 c7 c8 KT hNid;go_wp2_with fail;refine KT.mono ?_;rintro e w2 ⟨hA,hb2⟩;replace X:=X.below hb2;replace Y:=Y.below hb2;replace Z:=Z.below hb2;replace hT0:=hT0.below hb2;replace h0:=h0.below hb2;replace hB:=za_ hB hb2;have hz2:=hb2.size;clear KT hb2 yl y0 y1 y2 y3 y4 xl x0 x1 x2 hgl c0 c1 c2 c3 c4 c5 c6 c7 c8;rcases hA with⟨hok,hA⟩ | ⟨hok,x,rfl⟩;rotate_left
 ·have HB:=HBH.out;rw [hok] at HB;replace HB:Hid _:=HB;clear hok HBH;have hBA:=zb_ w2 (.cells x 42);replace X:=X.below hBA;replace Z:=Z.below hBA;replace hB:=za_ hB hBA;obtain⟨xl,x0,x1,x2⟩:=X.c3;go_upto_region 4 with fail;obtain⟨W3,hW3⟩:∃W,W=w2.alloc (.cells x 42):=⟨_,rfl⟩;rw [←hW3] at X Z hB x0 x1 x2 xl ⊢;clear hW3 h0 hBA;obtain⟨W5,hW5,hC5,Z5⟩:=zi_ W3 Z (.slice (some ⟨g,0,none⟩) N.length nc) (.slice ma M.length mc) (.slice ya L.length yc);have hBF:Hid (Below lo w W5):=(hB.trans (hC5.b1 (B:=w.heap.size) (by have:=hB.size;omega) (by omega))).mono (by omega);have HF:Hid (stB (N.map Nv.n) (M.map Mv.q) ⟨ki,(j:Int),k,mn,d⟩=false):=HB.out;clear hC5;obtain⟨zl,z0,z1,z2,f0,f1,f2⟩:=Z.c3f;clear Z;obtain⟨tl,t0,t1,t2⟩:=Z5.c3;clear Z5;unfold put3 at*;go_wp2;rw [←hW5];exact bodyPost_ret (v:= .tuple #[.agg #[.slice (some ⟨g,0,none⟩) N.length nc,.slice ma M.length mc,.slice ya L.length yc],false]) (by simp [results,Tryz.results77,go_sem,t0,t1,t2]) rfl ⟨.inr ⟨HF.out,_,_,_,_,_,_,_,_,_,rfl⟩,hBF.out⟩
 obtain⟨x,AB,qa,qc,rfl,hxz,hpx,hAB,hbare,hlen,hq⟩:=hA;replace hxz:Hid _:=hxz;replace hAB:Hid (AB.map Mv.q=tmA xo.n):=hAB;have HB:=HBH.out;rw [hok] at HB;clear HBH;have HOK:Hid (stB (N.map Nv.n) (M.map Mv.q) ⟨ki,(j:Int),k,mn,d⟩=true):=HB;clear HB hok;have hBA:=zb_ w2 (.cells x 42);have T:=Box.new w2 x 42;have hz3:(w2.alloc (.cells x 42)).heap.size=w2.heap.size+1:=by simp
 replace X:=X.below hBA;replace Z:=Z.below hBA;replace hT0:=hT0.below hBA;replace h0:=h0.below hBA;replace hB:=za_ hB hBA;replace hpx:PN _ w1.heap.size x:=OwnN.below hpx hBA;replace hq:=zd_ hq hBA;obtain⟨xl,x0,x1,x2⟩:=X.c3;go_upto_region 4 with fail;obtain⟨W3,hW3⟩:∃W,W=w2.alloc (.cells x 42):=⟨_,rfl⟩;rw [←hW3] at X Z T hT0 hB h0 hpx x0 x1 x2 xl hz3 hq ⊢;clear hW3 hBA Y;have hidx:Hid (x.n.id=(j:Int)):=by show x.n.id=_;have e:x.n=_:=hxz.out;rw [e];exact (rG_ _).1.trans hNid.out
 have KW:=fun W q1 q2=>xX_ lo hi (.slice (some ⟨g,0,none⟩) N.length nc) (.slice ma M.length mc) (.slice ya L.length yc) N M L x j hidx.out hj W q1 q2;obtain⟨tl,t0,t1,t2,t3,t4,t5,t6,t7,t8⟩:=T.e9;have hw1:w.heap.size+1+1≤w1.heap.size:=by omega
 clear hNid;go_wp2_with fail;refine (KW _ h0 (OwnN.mono hpx (by omega)) (by omega) hL1).mono ?_;rintro e w4 ⟨u,rfl,h4,hc4⟩;have hz4:=hc4.size;have hnR:∀b,((.slice (some ⟨g,0,none⟩) N.length nc:Value).ownBlock=some b∨(.slice ya L.length yc:Value).ownBlock=some b)→lo≤b∧b<hi:=fun b hb=>HBL.out b (hb.elim .inl fun q=> .inr (.inr q));replace Z:=hc4.box Z (by intro q;have:=hnR _ q;omega);replace hT0:=hT0.chg hc4 (by intro q;have:=hnR _ q;omega);have HB4:Hid (Below lo w w4):=(hB.mono (show lo≤w.heap.size from by omega)).trans (hc4.below (by omega) fun b q=>(hnR b q).1);obtain⟨ul,ulc,rfl⟩:=h4.shapes.2.2;replace hq:=hc4.owns hq (fun b hb hh=>by have:=zg_ hq b hb;have:=hnR b hh;omega);have hx1:Hid (x.n=tmX N[j].n):=by show x.n=_;have e:x.n=_:=hxz.out;rw [e,HXO.out]
 clear KW h0 hpx hB tl t0 t1 t2 t3 t4 t5 t6 t7 t8 T xl x0 x1 x2 X hc4 hxz hidx;go_wp2_with fail;refine (xr_ lo w4.heap.size w4.heap.size _ _ _ (N.set j x) M _ qa qc AB w1.heap.size _ h4 hq (zr_.bare (Nat.le_refl _) hbare) (Nat.le_refl _) (by omega) hlen).mono ?_;rintro e w6 ⟨u,rfl,h6,hc6⟩;have hz6:=hc6.size;replace Z:=hc6.box Z (by intro q;have:=HBL.out _ (.inr (.inl q));omega);replace hT0:=hT0.chg hc6 (by intro q;have:=HBL.out _ (.inr (.inl q));omega);have HB6:Hid (Below lo w w6):=HB4.out.trans (hc6.below (by omega) fun b q=>(HBL.out b (.inr (.inl q))).1);obtain⟨MA,HMA⟩:∃MA,Hid (MA=M++AB.take (60-M.length)):=⟨M++AB.take (60-M.length),(rfl:_=_)⟩;rw [←HMA.out] at h6;obtain⟨um,umc,rfl⟩:=h6.shapes.2.1;clear h4 hq hbare hlen hc6 HB4;obtain⟨W5,hW5,hC5,Z5⟩:=zi_ w6 Z (.slice (some ⟨g,0,none⟩) N.length nc) (.slice um MA.length umc) (.slice ul (zB_ L N[j].n x.n).length ulc);have hz5:=hC5.size;have hFF:Hid (OwnC W5 lo W5.heap.size (.slice (some ⟨g,0,none⟩) N.length nc) (.slice um MA.length umc) (.slice ul (zB_ L N[j].n x.n).length ulc) (N.set j x) MA (zB_ L N[j].n x.n)):=(h6.keep hT0 hC5).hiN (by omega);clear h6;have hBF:Hid (Below lo w W5):=HB6.out.trans (hC5.b1 (B:=lo) (by have:=HB6.out.size;omega) (by omega));clear hC5;obtain⟨zl,z0,z1,z2,f0,f1,f2⟩:=Z.c3f;clear Z;obtain⟨tl,t0,t1,t2⟩:=Z5.c3;clear Z5;unfold put3 at*;go_wp2;rw [←hW5];exact bodyPost_ret (v:= .tuple #[.agg #[.slice (some ⟨g,0,none⟩) N.length nc,.slice um MA.length umc,.slice ul (zB_ L N[j].n x.n).length ulc],true]) (by simp [results,Tryz.results77,go_sem,t0,t1,t2]) rfl ⟨.inl ⟨HOK.out,_,_,_,_,_,rfl,by rw [hKL.out,←hx1.out];exact hFF.out,by rw [hKN.out,map_set,hx1.out],by rw [HMA.out,hKM.out,vb_,hAB.out,HXO.out]⟩,hBF.out⟩
theorem tc_ (p lo hi:Nat) (vn vm vl:Value) (N:List Nv) (M:List Mv) (L:List Ld) (ki no k mn:Int) (d:ByteArray) (w:World) (h:OwnC w lo hi vn vm vl N M L) (hh:hi≤w.heap.size) (hG:PG p (N.map Nv.n) (M.map Mv.q) L) (hki:ki=7):
  Calls Tryz.prog 83 #[.agg #[vn,vm,vl],.agg #[ki,no,k,mn,d]] w fun e w'=>yO_ w' lo (stB (N.map Nv.n) (M.map Mv.q) ⟨ki,no,k,mn,d⟩) (stN (N.map Nv.n) (M.map Mv.q) ⟨ki,no,k,mn,d⟩) (stM (N.map Nv.n) (M.map Mv.q) ⟨ki,no,k,mn,d⟩) (stL (N.map Nv.n) (M.map Mv.q) L ⟨ki,no,k,mn,d⟩) e∧Below lo w w':=by
 have hlh:=h.lohi;have HKI:Hid (ki=7):=hki;clear hki;obtain⟨⟨na,nc,rfl⟩,⟨ma,mc,rfl⟩,ya,yc,rfl⟩:=h.shapes;obtain⟨W0,hW0,hB,X,Y,Z,hz0⟩:=al3 w [.slice na N.length nc,.slice ma M.length mc,.slice ya L.length yc] 30 [ki,no,k,mn,d] 51 z3 30;have hzw:=hB.size;have hT0:TyB W0 (w.heap.size+1+1) 30:=⟨z3,by
  rw [hW0];have:=heap_alloc_new ((w.alloc (.cells #[.slice na N.length nc,.slice ma M.length mc,.slice ya L.length yc] 30)).alloc (.cells #[ki,no,k,mn,d] 51)) (.cells z3 30);simpa using this⟩
 have HBL:=h.hbl;have HB:stB (N.map Nv.n) (M.map Mv.q) ⟨ki,no,k,mn,d⟩=(isP no N.length&&gN (atN (N.map Nv.n) no)):=by have hki:=HKI.out;subst hki;simp [stB]
 have h0:=h.below hB;have KH:=fun W=>xf_ no N.length M.length L.length na nc ma mc ya yc W;clear h;obtain⟨yl,y0,y1,y2,y3,y4⟩:=Y.c5;obtain⟨xl,x0,x1,x2⟩:=X.c3;go_enter Tryz.func83,Tryz.ntmps83;go_upto_region 1 with fail;rw [←hW0];clear hW0;go_wp2_with fail;refine (KH _).mono ?_;rintro e w1 ⟨rfl,hb1⟩;replace X:=X.below hb1;replace Y:=Y.below hb1;replace Z:=Z.below hb1;replace hT0:=hT0.below hb1;replace h0:=h0.below hb1;replace hB:=za_ hB hb1;have hz1:=hb1.size;clear KH hb1 yl y0 y1 y2 y3 y4 xl x0 x1 x2;obtain⟨yl,y0,y1,y2,y3,y4⟩:=Y.c5;obtain⟨xl,x0,x1,x2⟩:=X.c3;by_cases hP:isP no N.length=true;rotate_left
 ·replace hP:isP no N.length=false:=by simpa using hP
  rw [hP,Bool.false_and] at HB;rw [hP];clear h0;obtain⟨W5,hW5,hC5,Z5⟩:=zi_ w1 Z (.slice na N.length nc) (.slice ma M.length mc) (.slice ya L.length yc);have hBF:Hid (Below lo w W5):=(hB.trans (hC5.b1 (B:=w.heap.size) (by have:=hB.size;omega) (by omega))).mono (by omega);have HF:Hid (stB (N.map Nv.n) (M.map Mv.q) ⟨ki,no,k,mn,d⟩=false):=HB;clear hC5;obtain⟨zl,z0,z1,z2,f0,f1,f2⟩:=Z.c3f;clear Z;obtain⟨tl,t0,t1,t2⟩:=Z5.c3;clear Z5;unfold put3 at*;go_wp2;rw [←hW5];exact bodyPost_ret (v:= .tuple #[.agg #[.slice na N.length nc,.slice ma M.length mc,.slice ya L.length yc],false]) (by simp [results,Tryz.results83,go_sem,t0,t1,t2]) rfl ⟨.inr ⟨HF.out,_,_,_,_,_,_,_,_,_,rfl⟩,hBF.out⟩
 rw [hP];obtain⟨j,rfl,hj⟩:=yu_ hP;rw [zw_ hj,hP,Bool.true_and] at HB;obtain⟨c,hcb,hpx,_⟩:=h0.cn.at j hj;have hgd:Gd N[j].n∧N[j].n.id=(j:Int):=by
  obtain⟨a,b,_,_⟩:=hG.g j (by rw [List.length_map];exact hj);rw [List.getElem_map] at a b;exact⟨a,b⟩
 have hKN:Hid (stN (N.map Nv.n) (M.map Mv.q) ⟨ki,(j:Int),k,mn,d⟩=(N.map Nv.n).set j (crX N[j].n)):=by
  show _=_;have hki:=HKI.out;subst hki;simp only [stN,zw_ hj];simp
 have hKM:Hid (stM (N.map Nv.n) (M.map Mv.q) ⟨ki,(j:Int),k,mn,d⟩=M.map Mv.q):=by
  show _=_;have hki:=HKI.out;subst hki;simp only [stM,zw_ hj];simp
 have hKL:Hid (stL (N.map Nv.n) (M.map Mv.q) L ⟨ki,(j:Int),k,mn,d⟩=zB_ L N[j].n (crX N[j].n)):=by
  show _=_;have hki:=HKI.out;subst hki;simp only [stL,zw_ hj];simp [zB_,crX,foN]
 have hL1:=hG.l;have hM1:=hG.m6;rw [List.length_map] at hM1;have hNid:Hid (N[j].n.id=(j:Int)):=hgd.2;obtain⟨g,rfl⟩:∃g,na=some ⟨g,0,none⟩:=by
  rcases h0.n.2 with⟨_,h0⟩ | ⟨g,cap,cur,hv,_⟩
  ·omega
  ·simp only [Value.slice.injEq] at hv;exact⟨g,hv.1⟩
 obtain⟨hgl,c0,c1,c2,c3,c4,c5,c6,c7,c8⟩:=zR_ h0.n j hj rfl;obtain⟨ok,hok⟩:∃ok,ok=gN N[j].n:=⟨_,rfl⟩;have KT:=qk_ N[j] c w1 hpx hgd.1 ok hok;rw [←hok] at HB;clear hpx hgd hok hcb hP;have HBH:Hid _:=HB;clear HB;obtain⟨xo,HXO⟩:∃xo,Hid (N[j]=xo):=⟨N[j],(rfl:N[j]=N[j])⟩;rw [HXO.out] at c0 c1 c2 c3 c4 c5 c6 c7 c8 KT hNid;go_wp2_with fail;refine KT.mono ?_;rintro e w2 ⟨hA,hb2⟩;replace X:=X.below hb2;replace Y:=Y.below hb2;replace Z:=Z.below hb2;replace hT0:=hT0.below hb2;replace h0:=h0.below hb2;replace hB:=za_ hB hb2;have hz2:=hb2.size;clear KT hb2 yl y0 y1 y2 y3 y4 xl x0 x1 x2 hgl c0 c1 c2 c3 c4 c5 c6 c7 c8;rcases hA with⟨hok,hA⟩ | ⟨hok,x,rfl⟩;rotate_left
 ·have HB:=HBH.out;rw [hok] at HB;replace HB:Hid _:=HB;clear hok HBH;have hBA:=zb_ w2 (.cells x 42);replace X:=X.below hBA;replace Z:=Z.below hBA;replace hB:=za_ hB hBA;obtain⟨xl,x0,x1,x2⟩:=X.c3;go_upto_region 4 with fail;obtain⟨W3,hW3⟩:∃W,W=w2.alloc (.cells x 42):=⟨_,rfl⟩;rw [←hW3] at X Z hB x0 x1 x2 xl ⊢;clear hW3 h0 hBA;obtain⟨W5,hW5,hC5,Z5⟩:=zi_ W3 Z (.slice (some ⟨g,0,none⟩) N.length nc) (.slice ma M.length mc) (.slice ya L.length yc);have hBF:Hid (Below lo w W5):=(hB.trans (hC5.b1 (B:=w.heap.size) (by have:=hB.size;omega) (by omega))).mono (by omega);have HF:Hid (stB (N.map Nv.n) (M.map Mv.q) ⟨ki,(j:Int),k,mn,d⟩=false):=HB.out;clear hC5;obtain⟨zl,z0,z1,z2,f0,f1,f2⟩:=Z.c3f;clear Z;obtain⟨tl,t0,t1,t2⟩:=Z5.c3;clear Z5;unfold put3 at*;go_wp2;rw [←hW5];exact bodyPost_ret (v:= .tuple #[.agg #[.slice (some ⟨g,0,none⟩) N.length nc,.slice ma M.length mc,.slice ya L.length yc],false]) (by simp [results,Tryz.results83,go_sem,t0,t1,t2]) rfl ⟨.inr ⟨HF.out,_,_,_,_,_,_,_,_,_,rfl⟩,hBF.out⟩
 obtain⟨x,rfl,hxz,hpx⟩:=hA;replace hxz:Hid _:=hxz;have HB:=HBH.out;rw [hok] at HB;clear HBH;have HOK:Hid (stB (N.map Nv.n) (M.map Mv.q) ⟨ki,(j:Int),k,mn,d⟩=true):=HB;clear HB hok;have hBA:=zb_ w2 (.cells x 42);have T:=Box.new w2 x 42;have hz3:(w2.alloc (.cells x 42)).heap.size=w2.heap.size+1:=by simp
 replace X:=X.below hBA;replace Z:=Z.below hBA;replace hT0:=hT0.below hBA;replace h0:=h0.below hBA;replace hB:=za_ hB hBA;replace hpx:PN _ w1.heap.size x:=OwnN.below hpx hBA;obtain⟨xl,x0,x1,x2⟩:=X.c3;go_upto_region 4 with fail;obtain⟨W3,hW3⟩:∃W,W=w2.alloc (.cells x 42):=⟨_,rfl⟩;rw [←hW3] at X Z T hT0 hB h0 hpx x0 x1 x2 xl hz3 ⊢;clear hW3 hBA Y;have hidx:Hid (x.n.id=(j:Int)):=by show x.n.id=_;have e:x.n=_:=hxz.out;rw [e];exact hNid.out
 have KW:=fun W q1 q2=>xX_ lo hi (.slice (some ⟨g,0,none⟩) N.length nc) (.slice ma M.length mc) (.slice ya L.length yc) N M L x j hidx.out hj W q1 q2;obtain⟨tl,t0,t1,t2,t3,t4,t5,t6,t7,t8⟩:=T.e9;have hw1:w.heap.size+1+1≤w1.heap.size:=by omega
 clear hNid;go_wp2_with fail;refine (KW _ h0 (OwnN.mono hpx (by omega)) (by omega) hL1).mono ?_;rintro e w4 ⟨u,rfl,h4,hc4⟩;have hz4:=hc4.size;have hnR:∀b,((.slice (some ⟨g,0,none⟩) N.length nc:Value).ownBlock=some b∨(.slice ya L.length yc:Value).ownBlock=some b)→lo≤b∧b<hi:=fun b hb=>HBL.out b (hb.elim .inl fun q=> .inr (.inr q));replace Z:=hc4.box Z (by intro q;have:=hnR _ q;omega);replace hT0:=hT0.chg hc4 (by intro q;have:=hnR _ q;omega);have HB4:Hid (Below lo w w4):=(hB.mono (show lo≤w.heap.size from by omega)).trans (hc4.below (by omega) fun b q=>(hnR b q).1);obtain⟨ul,ulc,rfl⟩:=h4.shapes.2.2;have hx1:Hid (x.n=crX N[j].n):=by show x.n=_;have e:x.n=_:=hxz.out;rw [e,HXO.out]
 clear KW h0 hpx hB tl t0 t1 t2 t3 t4 t5 t6 t7 t8 T xl x0 x1 x2 X hc4 hxz hidx;obtain⟨W5,hW5,hC5,Z5⟩:=zi_ w4 Z (.slice (some ⟨g,0,none⟩) N.length nc) (.slice ma M.length mc) (.slice ul (zB_ L N[j].n x.n).length ulc);have hz5:=hC5.size;have hFF:Hid (OwnC W5 lo W5.heap.size (.slice (some ⟨g,0,none⟩) N.length nc) (.slice ma M.length mc) (.slice ul (zB_ L N[j].n x.n).length ulc) (N.set j x) M (zB_ L N[j].n x.n)):=(h4.keep hT0 hC5).hiN (by omega);clear h4;have hBF:Hid (Below lo w W5):=HB4.out.trans (hC5.b1 (B:=lo) (by have:=HB4.out.size;omega) (by omega));clear hC5;obtain⟨zl,z0,z1,z2,f0,f1,f2⟩:=Z.c3f;clear Z;obtain⟨tl,t0,t1,t2⟩:=Z5.c3;clear Z5;unfold put3 at*;go_wp2;rw [←hW5];exact bodyPost_ret (v:= .tuple #[.agg #[.slice (some ⟨g,0,none⟩) N.length nc,.slice ma M.length mc,.slice ul (zB_ L N[j].n x.n).length ulc],true]) (by simp [results,Tryz.results83,go_sem,t0,t1,t2]) rfl ⟨.inl ⟨HOK.out,_,_,_,_,_,rfl,by rw [hKL.out,←hx1.out];exact hFF.out,by rw [hKN.out,map_set,hx1.out],by rw [hKM.out]⟩,hBF.out⟩
set_option maxHeartbeats 4000000
theorem moveOf_1 (w:World):Calls Tryz.prog 44 #[(1:Int)] w fun e w'=>e= .returned (.agg #[.func (.func 77) #[] #[]])∧Below w.heap.size w w':=by
 go_enter Tryz.func44,Tryz.ntmps44;go_wp2;exact bodyPost_ret (v:= .agg #[.func (.func 77) #[] #[]]) (by simp [results,Tryz.results44,go_sem]) rfl ⟨rfl,below2 _ _ _⟩
theorem moveOf_2 (w:World):Calls Tryz.prog 44 #[(2:Int)] w fun e w'=>e= .returned (.agg #[.func (.func 78) #[] #[]])∧Below w.heap.size w w':=by
 go_enter Tryz.func44,Tryz.ntmps44;go_wp2;exact bodyPost_ret (v:= .agg #[.func (.func 78) #[] #[]]) (by simp [results,Tryz.results44,go_sem]) rfl ⟨rfl,below2 _ _ _⟩
theorem moveOf_3 (w:World):Calls Tryz.prog 44 #[(3:Int)] w fun e w'=>e= .returned (.agg #[.func (.func 79) #[] #[]])∧Below w.heap.size w w':=by
 go_enter Tryz.func44,Tryz.ntmps44;go_wp2;exact bodyPost_ret (v:= .agg #[.func (.func 79) #[] #[]]) (by simp [results,Tryz.results44,go_sem]) rfl ⟨rfl,below2 _ _ _⟩
theorem moveOf_4 (w:World):Calls Tryz.prog 44 #[(4:Int)] w fun e w'=>e= .returned (.agg #[.func (.func 80) #[] #[]])∧Below w.heap.size w w':=by
 go_enter Tryz.func44,Tryz.ntmps44;go_wp2;exact bodyPost_ret (v:= .agg #[.func (.func 80) #[] #[]]) (by simp [results,Tryz.results44,go_sem]) rfl ⟨rfl,below2 _ _ _⟩
theorem moveOf_5 (w:World):Calls Tryz.prog 44 #[(5:Int)] w fun e w'=>e= .returned (.agg #[.func (.func 81) #[] #[]])∧Below w.heap.size w w':=by
 go_enter Tryz.func44,Tryz.ntmps44;go_wp2;exact bodyPost_ret (v:= .agg #[.func (.func 81) #[] #[]]) (by simp [results,Tryz.results44,go_sem]) rfl ⟨rfl,below2 _ _ _⟩
theorem moveOf_6 (w:World):Calls Tryz.prog 44 #[(6:Int)] w fun e w'=>e= .returned (.agg #[.func (.func 82) #[] #[]])∧Below w.heap.size w w':=by
 go_enter Tryz.func44,Tryz.ntmps44;go_wp2;exact bodyPost_ret (v:= .agg #[.func (.func 82) #[] #[]]) (by simp [results,Tryz.results44,go_sem]) rfl ⟨rfl,below2 _ _ _⟩
theorem moveOf_7 (w:World):Calls Tryz.prog 44 #[(7:Int)] w fun e w'=>e= .returned (.agg #[.func (.func 83) #[] #[]])∧Below w.heap.size w w':=by
 go_enter Tryz.func44,Tryz.ntmps44;go_wp2;exact bodyPost_ret (v:= .agg #[.func (.func 83) #[] #[]]) (by simp [results,Tryz.results44,go_sem]) rfl ⟨rfl,below2 _ _ _⟩
theorem moveOf_x (ki:Int) (h:¬(1≤ki∧ki≤7)) (w:World):Calls Tryz.prog 44 #[ki] w fun e w'=>e= .returned (.agg #[.func (.func 84) #[] #[]])∧Below w.heap.size w w':=by
 go_enter Tryz.func44,Tryz.ntmps44;by_cases h1:ki<1
 ·go_wp2;exact bodyPost_ret (v:= .agg #[.func (.func 84) #[] #[]]) (by simp [results,Tryz.results44,go_sem]) rfl ⟨rfl,below2 _ _ _⟩
 ·have h2:7<ki:=by omega
  go_wp2;exact bodyPost_ret (v:= .agg #[.func (.func 84) #[] #[]]) (by simp [results,Tryz.results44,go_sem]) rfl ⟨rfl,below2 _ _ _⟩
end Go.Proofs.YtapfhhmimkkhnaaGreat
