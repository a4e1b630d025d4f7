/-
  A step of no kind, the specification's way.
  A message doubled, the specification's way.
  A step that is a message's, the specification's way.
  A step on a cluster of one's own, the specification's way, whatever the kind (a delivery told from outside).
-/
import Derived.Test.YtapfhhmimkkhnaaNEToLS12
import Derived.Test.YtapfhhmimkkhnaaQFToNS
import Derived.Test.YtapfhhmimkkhnaaNCToPLI
import Derived.Test.YtapfhhmimkkhnaaSS1
import Derived.Test.YtapfhhmimkkhnaaLSsToSS6
namespace Go.Proofs.Ytapfhhmimkkhnaa
open Go.RowKit Go.Maps
set_option linter.unusedVariables false
set_option maxRecDepth 100000
set_option maxHeartbeats 16000000
theorem l12Step_x (p lo hi:Nat) (vn vm vl:Value) (N:List Nv) (M:List Mv) (L:List Ld) (ki no k mn:Int) (d:ByteArray) (w:World) (h:OwnC w lo hi vn vm vl N M L) (hh:hi≤w.heap.size) (hG:PG p (N.map Nv.n) (M.map Mv.q) L) (hki:¬(1≤ki∧ki≤7)):
  Calls Try.prog 141 #[.agg #[vn,vm,vl],.agg #[ki,no,k,mn,d]] w fun e w'=>StepA w' lo (stB (N.map Nv.n) (M.map Mv.q) ⟨ki,no,k,mn,d⟩) (stN (N.map Nv.n) (M.map Mv.q) ⟨ki,no,k,mn,d⟩) (stM (N.map Nv.n) (M.map Mv.q) ⟨ki,no,k,mn,d⟩) (stL (N.map Nv.n) (M.map Mv.q) L ⟨ki,no,k,mn,d⟩) e∧Chg (fun b=>lo≤b∧b<hi) w w':=by
 have hlh:=h.lohi;obtain⟨⟨na,nc,rfl⟩,⟨ma,mc,rfl⟩,ya,yc,rfl⟩:=h.shapes;obtain⟨W0,hW0,hB,X,Y,Z,hz0⟩:=al3 w [.slice na N.length nc,.slice ma M.length mc,.slice ya L.length yc] 60 [ki,no,k,mn,d] 154 z3 60;have hzw:=hB.size;have hT0:TyB W0 (w.heap.size+1+1) 60:=⟨z3,by
  rw [hW0];have:=heap_alloc_new ((w.alloc (.cells #[.slice na N.length nc,.slice ma M.length mc,.slice ya L.length yc] 60)).alloc (.cells #[ki,no,k,mn,d] 154)) (.cells z3 60);simpa using this⟩
 have HBL:=h.hbl;have HB:stB (N.map Nv.n) (M.map Mv.q) ⟨ki,no,k,mn,d⟩=false:=by
  simp only [stB];rw [if_neg (by omega),if_neg (by omega),if_neg (by omega),if_neg (by omega),if_neg (by omega),if_neg (by omega),if_neg (by omega)]
 have k1:¬ki=1:=by omega
 have k5:¬ki=5:=by omega
 have k6:¬ki=6:=by omega
 have k7:¬ki=7:=by omega
 have h0:=h.below hB;have KI:=fun W=>zs_ ki 2 4 W;rw [show inB ki 2 4=false from by simp only [inB,Bool.and_eq_false_iff,decide_eq_false_iff_not];omega] at KI;have KP:∀W,Calls Try.prog 68 #[no,(0:Int),((N.length:Int)-1:Int)] W fun e w'=>e= .returned (.bool (isP no N.length))∧w'=W:=fun W=>by rw [←isP_inB];exact zs_ no 0 ((N.length:Int)-1) W
 have hn7:N.length≤7:=by have h1:=hG.n;have:=hG.p7;rw [List.length_map] at h1;omega
 replace HB:Hid _:=HB;clear h hki;obtain⟨yl,y0,y1,y2,y3,y4⟩:=Y.c5;obtain⟨xl,x0,x1,x2⟩:=X.c3;go_enter Try.func141,Try.ntmps141;go_upto_region 1 with fail;rw [←hW0];clear hW0;go_wp2_with fail;refine (KI _).mono ?_;rintro e w1 ⟨rfl,hw1⟩;rw [hw1];clear hw1 KI w1;go_wp2_with fail;refine (KP _).mono ?_;rintro e w1 ⟨rfl,hw1⟩;rw [hw1];clear hw1 KP w1;by_cases hP:isP no N.length=true;rotate_left
 ·replace hP:isP no N.length=false:=by simpa using hP
  rw [hP];clear h0;obtain⟨W5,hW5,hC5,Z5⟩:=zq_ W0 Z (.slice na N.length nc) (.slice ma M.length mc) (.slice ya L.length yc);have hBF:Hid (Chg (fun b=>lo≤b∧b<hi) w W5):=Chg.of_below (hB.trans (hC5.b1 (B:=w.heap.size) (by have:=hB.size;omega) (by omega)));have HF:Hid (stB (N.map Nv.n) (M.map Mv.q) ⟨ki,no,k,mn,d⟩=false):=HB.out;clear hC5;obtain⟨zl,z0,z1,z2,f0,f1,f2⟩:=Z.c3f;clear Z;obtain⟨tl,t0,t1,t2⟩:=Z5.c3;clear Z5;unfold put3 at*;go_wp2;rw [←hW5];exact bodyPost_ret (v:= .tuple #[.agg #[.slice na N.length nc,.slice ma M.length mc,.slice ya L.length yc],false]) (by simp [results,Try.results141,go_sem,t0,t1,t2]) rfl ⟨.inr ⟨HF.out,_,_,_,_,_,_,_,_,_,rfl⟩,hBF.out⟩
 rw [hP];obtain⟨j,rfl,hj⟩:=isP_nat hP;obtain⟨g,rfl⟩:∃g,na=some ⟨g,0,none⟩:=by
  rcases h0.n.2 with⟨_,h0⟩ | ⟨g,cap,cur,hv,_⟩
  ·omega
  ·simp only [Value.slice.injEq] at hv;exact⟨g,hv.1⟩
 obtain⟨hgl,c0,c1,c2,c3,c4,c5,c6,c7,c8⟩:=zZ_ h0.n j hj rfl;obtain⟨xo,HXO⟩:∃xo,Hid (N[j]=xo):=⟨N[j],(rfl:N[j]=N[j])⟩;rw [HXO.out] at c0 c1 c2 c3 c4 c5 c6 c7 c8;have hBA:=zc_ W0 (.cells xo 26);go_upto_region 6 with fail;obtain⟨W1,hW1⟩:∃W,W=W0.alloc (.cells xo 26):=⟨_,rfl⟩;rw [←hW1] at hBA ⊢;clear hW1 c0 c1 c2 c3 c4 c5 c6 c7 c8 hgl yl y0 y1 y2 y3 y4 xl x0 x1 x2 h0;replace X:=X.below hBA;replace Y:=Y.below hBA;replace Z:=Z.below hBA;replace hB:=za_ hB hBA;clear hBA;obtain⟨yl,y0,y1,y2,y3,y4⟩:=Y.c5;obtain⟨xl,x0,x1,x2⟩:=X.c3;obtain⟨W5,hW5,hC5,Z5⟩:=zq_ W1 Z (.slice (some ⟨g,0,none⟩) N.length nc) (.slice ma M.length mc) (.slice ya L.length yc);have hBF:Hid (Chg (fun b=>lo≤b∧b<hi) w W5):=Chg.of_below (hB.trans (hC5.b1 (B:=w.heap.size) (by have:=hB.size;omega) (by omega)));have HF:Hid (stB (N.map Nv.n) (M.map Mv.q) ⟨ki,(j:Int),k,mn,d⟩=false):=HB.out;clear hC5;obtain⟨zl,z0,z1,z2,f0,f1,f2⟩:=Z.c3f;clear Z;obtain⟨tl,t0,t1,t2⟩:=Z5.c3;clear Z5;unfold put3 at*;go_wp2;rw [←hW5];exact bodyPost_ret (v:= .tuple #[.agg #[.slice (some ⟨g,0,none⟩) N.length nc,.slice ma M.length mc,.slice ya L.length yc],false]) (by simp [results,Try.results141,go_sem,t0,t1,t2]) rfl ⟨.inr ⟨HF.out,_,_,_,_,_,_,_,_,_,rfl⟩,hBF.out⟩
theorem l12Msg_4 (p lo hi:Nat) (vn vm vl:Value) (N:List Nv) (M:List Mv) (L:List Ld) (no k mn:Int) (d:ByteArray) (w:World) (h:OwnC w lo hi vn vm vl N M L) (hh:hi≤w.heap.size) (hG:PG p (N.map Nv.n) (M.map Mv.q) L):
  Calls Try.prog 160 #[.agg #[vn,vm,vl],.agg #[(4:Int),no,k,mn,d]] w fun e w'=>StepA w' lo (stB (N.map Nv.n) (M.map Mv.q) ⟨4,no,k,mn,d⟩) (stN (N.map Nv.n) (M.map Mv.q) ⟨4,no,k,mn,d⟩) (stM (N.map Nv.n) (M.map Mv.q) ⟨4,no,k,mn,d⟩) (stL (N.map Nv.n) (M.map Mv.q) L ⟨4,no,k,mn,d⟩) e∧Chg (fun b=>lo≤b∧b<hi) w w':=by
 have hlh:=h.lohi;obtain⟨⟨na,nc,rfl⟩,⟨ma,mc,rfl⟩,ya,yc,rfl⟩:=h.shapes;obtain⟨W0,hW0,hB,X,Y,Z,hz0⟩:=al3 w [.slice na N.length nc,.slice ma M.length mc,.slice ya L.length yc] 60 [(4:Int),no,k,mn,d] 154 z3 60;have hzw:=hB.size;have hT0:TyB W0 (w.heap.size+1+1) 60:=⟨z3,by
  rw [hW0];have:=heap_alloc_new ((w.alloc (.cells #[.slice na N.length nc,.slice ma M.length mc,.slice ya L.length yc] 60)).alloc (.cells #[(4:Int),no,k,mn,d] 154)) (.cells z3 60);simpa using this⟩
 have HBL:=h.hbl;have hM1:=hG.m6;rw [List.length_map] at hM1;have h0:=h.below hB;have KP:∀W,Calls Try.prog 68 #[k,(0:Int),((M.length:Int)-1:Int)] W fun e w'=>e= .returned (.bool (isP k M.length))∧w'=W:=fun W=>by rw [←isP_inB];exact zs_ k 0 ((M.length:Int)-1) W
 clear h;have HB0:stB (N.map Nv.n) (M.map Mv.q) ⟨4,no,k,mn,d⟩=(isP k M.length&&decide (M.length<60)):=by simp [stB]
 obtain⟨cb,hcb⟩:∃cb:Bool,Hid (cb=(isP k M.length&&decide (M.length<60))):=⟨isP k M.length&&decide (M.length<60),(rfl:_=_)⟩;have HB:Hid (stB (N.map Nv.n) (M.map Mv.q) ⟨4,no,k,mn,d⟩=cb):=by show _=_;rw [HB0,hcb.out]
 clear HB0;obtain⟨yl,y0,y1,y2,y3,y4⟩:=Y.c5;obtain⟨xl,x0,x1,x2⟩:=X.c3;go_enter Try.func160,Try.ntmps160;go_upto_region 1 with fail;rw [←hW0];clear hW0;go_wp2_with fail;refine (KP _).mono ?_;rintro e w1 ⟨rfl,hw1⟩;rw [hw1];clear hw1 KP w1;by_cases hP:isP k M.length=true;rotate_left
 ·replace hP:isP k M.length=false:=by simpa using hP
  have HBF:stB (N.map Nv.n) (M.map Mv.q) ⟨4,no,k,mn,d⟩=false:=by rw [HB.out,hcb.out,hP];rfl
  rw [hP];clear h0 HB hcb;replace HBF:Hid _:=HBF;obtain⟨W5,hW5,hC5,Z5⟩:=zq_ W0 Z (.slice na N.length nc) (.slice ma M.length mc) (.slice ya L.length yc);have hBF:Hid (Chg (fun b=>lo≤b∧b<hi) w W5):=Chg.of_below (hB.trans (hC5.b1 (B:=w.heap.size) (by have:=hB.size;omega) (by omega)));have HF:Hid (stB (N.map Nv.n) (M.map Mv.q) ⟨4,no,k,mn,d⟩=false):=HBF.out;clear hC5;obtain⟨zl,z0,z1,z2,f0,f1,f2⟩:=Z.c3f;clear Z;obtain⟨tl,t0,t1,t2⟩:=Z5.c3;clear Z5;unfold put3 at*;go_wp2;rw [←hW5];exact bodyPost_ret (v:= .tuple #[.agg #[.slice na N.length nc,.slice ma M.length mc,.slice ya L.length yc],false]) (by simp [results,Try.results160,go_sem,t0,t1,t2]) rfl ⟨.inr ⟨HF.out,_,_,_,_,_,_,_,_,_,rfl⟩,hBF.out⟩
 rw [hP];obtain⟨j,rfl,hj⟩:=isP_nat hP;obtain⟨g,rfl⟩:∃g,ma=some ⟨g,0,none⟩:=by
  rcases h0.m.2 with⟨_,h0⟩ | ⟨g,cap,cur,hv,_⟩
  ·omega
  ·simp only [Value.slice.injEq] at hv;exact⟨g,hv.1⟩
 obtain⟨c,_,hpm,hpb⟩:=h0.cm.at j hj;have hel:M[j].q.es.length≤1000:=by
  have hgm:=hG.m M[j].q (List.mem_map.2 ⟨M[j],List.getElem_mem hj,rfl⟩);obtain⟨_,_,_,_,_,_,a7⟩:=zD_ hgm;rcases kind_in a7 with h | h | h | h <;>rw [h] at a7
  ·rw [(kind_1 a7).2.1];simp
  ·rw [(kind_2 a7).2.2.1];simp
  ·have:=(kind_3 a7).2.1;have:=(kind_3 a7).1.1;omega
  ·rw [(kind_4 a7).2.2.1];simp
 obtain⟨hgl,c0,c1,c2,c3,c4,c5,c6,c7,c8⟩:=ownM_at h0.m j hj rfl;obtain⟨xo,HXO⟩:∃xo,Hid (M[j]=xo):=⟨M[j],(rfl:M[j]=M[j])⟩;rw [HXO.out] at c0 c1 c2 c3 c4 c5 c6 c7 c8 hpm hel;have V:=Box.new W0 xo 38;have hBA:=zc_ W0 (.cells xo 38);go_upto_region 4 with fail;obtain⟨W1,hW1⟩:∃W,W=W0.alloc (.cells xo 38):=⟨_,rfl⟩;rw [←hW1] at V hBA ⊢;have hs2:W0.heap.size≤W1.heap.size:=hBA.size;clear hW1 c0 c1 c2 c3 c4 c5 c6 c7 c8 hgl yl y0 y1 y2 y3 y4 xl x0 x1 x2;replace X:=X.below hBA;replace Y:=Y.below hBA;replace Z:=Z.below hBA;replace hT0:=hT0.below hBA;replace h0:=h0.below hBA;replace hB:=za_ hB hBA;have hpm1:PM W1 c xo:=zd_ hpm hBA;clear hBA hpm;obtain⟨yl,y0,y1,y2,y3,y4⟩:=Y.c5;obtain⟨xl,x0,x1,x2⟩:=X.c3;by_cases hM2:M.length=60
 ·have HBF:Hid (stB (N.map Nv.n) (M.map Mv.q) ⟨4,no,(j:Int),mn,d⟩=false):=by show _=_;rw [HB.out,hcb.out,hP];simp [hM2]
  have hM3:(M.length:Int)=60:=by omega
  have hm3:((M.length:Int)==60)=true:=by simp [hM3]
  clear HB hcb hP hM2 h0 hM3 hpm1;obtain⟨W5,hW5,hC5,Z5⟩:=zq_ W1 Z (.slice na N.length nc) (.slice (some ⟨g,0,none⟩) M.length mc) (.slice ya L.length yc);have hBF:Hid (Chg (fun b=>lo≤b∧b<hi) w W5):=Chg.of_below (hB.trans (hC5.b1 (B:=w.heap.size) (by have:=hB.size;omega) (by omega)));have HF:Hid (stB (N.map Nv.n) (M.map Mv.q) ⟨4,no,(j:Int),mn,d⟩=false):=HBF.out;clear hC5;obtain⟨zl,z0,z1,z2,f0,f1,f2⟩:=Z.c3f;clear Z;obtain⟨tl,t0,t1,t2⟩:=Z5.c3;clear Z5;unfold put3 at*;go_wp2;rw [←hW5];exact bodyPost_ret (v:= .tuple #[.agg #[.slice na N.length nc,.slice (some ⟨g,0,none⟩) M.length mc,.slice ya L.length yc],false]) (by simp [results,Try.results160,go_sem,t0,t1,t2]) rfl ⟨.inr ⟨HF.out,_,_,_,_,_,_,_,_,_,rfl⟩,hBF.out⟩
 have HOK:Hid (stB (N.map Nv.n) (M.map Mv.q) ⟨4,no,(j:Int),mn,d⟩=true):=by show _=_;rw [HB.out,hcb.out,hP];simp;omega
 have hm3:((M.length:Int)==60)=false:=by simp;omega
 have hm4:¬(M.length:Int)=60:=by omega
 clear HB hcb hP hM2;have hKN:Hid (stN (N.map Nv.n) (M.map Mv.q) ⟨4,no,(j:Int),mn,d⟩=N.map Nv.n):=by
  show _=_;simp [stN]
 have hKM:Hid (stM (N.map Nv.n) (M.map Mv.q) ⟨4,no,(j:Int),mn,d⟩=pushM (M.map Mv.q) [M[j].q]):=by
  show _=_;simp only [stM,atM_map hj];simp
 have hKL:Hid (stL (N.map Nv.n) (M.map Mv.q) L ⟨4,no,(j:Int),mn,d⟩=L):=by
  show _=_;simp [stL]
 obtain⟨vvl,v0,v1,v2,v3,v4,v5,v6,v7,v8⟩:=V.e9;have hBA:=zc_ W1 (.cells xo 38);have hr:(W1.alloc (.cells xo 38)).ownsRow W1.heap.size 38 9 (.slice (some ⟨W1.heap.size,0,none⟩) 1 1) 1 (zu_ [xo]):=World.ownsRow_lit W1 xo 1 (Nat.le_refl _) (by simp [maxLen]) (by simp);replace Z:=Z.below hBA;replace hT0:=hT0.below hBA;have h1:=h0.below hBA;replace hB:=za_ hB hBA;have hpm2:PM _ c xo:=zd_ hpm1 hBA;have hs3:=hBA.size;clear hBA h0 hpm1;go_wp2_with fail;obtain⟨W2,hW2⟩:∃W,W=W1.alloc (.cells xo 38):=⟨_,rfl⟩;rw [←hW2] at hr Z hT0 h1 hB hpm2 hs3 ⊢;clear hW2 vvl v0 v1 v2 v3 v4 v5 v6 v7 v8 V X Y yl y0 y1 y2 y3 y4 xl x0 x1 x2;refine (l12Net_any lo hi _ _ _ N M L (some ⟨W1.heap.size,0,none⟩) 1 [xo] W1.heap.size W2 h1 hr (fun b h1 h2=>by have:=HBL.out b (.inr (.inl h2));simp only [Value.ownBlock,Option.some.injEq] at h1;omega) (by omega) (fun i hi'=>by
  obtain rfl:i=0:=by simpa using hi'
  exact⟨⟨_,hpm2⟩,hel⟩) hM1 (by simp)).mono ?_
 rintro e w6 ⟨u,P,rfl,h6,hPq,hc6⟩;have hz6:=hc6.size;have HP:Hid (P.map Mv.q=_):=hPq;clear hPq;replace Z:=hc6.box Z (by intro q;have:=HBL.out _ (.inr (.inl q));omega);replace hT0:=hT0.chg hc6 (by intro q;have:=HBL.out _ (.inr (.inl q));omega);have HB6:Hid (Chg (fun b=>lo≤b∧b<hi) w w6):=(Chg.of_below hB).nextC hc6 (fun b q=> .inl (HBL.out b (.inr (.inl q))));obtain⟨MA,HMA⟩:∃MA,Hid (MA=M++P):=⟨M++P,(rfl:_=_)⟩;rw [←HMA.out] at h6;obtain⟨um,umc,rfl⟩:=h6.shapes.2.1;clear h1 hr hpm2 hc6 hB hel;obtain⟨W5,hW5,hC5,Z5⟩:=zq_ w6 Z (.slice na N.length nc) (.slice um MA.length umc) (.slice ya L.length yc);have hz5:=hC5.size;have hFF:Hid (OwnC W5 lo W5.heap.size (.slice na N.length nc) (.slice um MA.length umc) (.slice ya L.length yc) N MA L):=(h6.keep hT0 hC5).hiN (by omega);clear h6;have hBF:Hid (Chg (fun b=>lo≤b∧b<hi) w W5):=HB6.out.nextC hC5 (fun b hb=> .inr (by have hb:b=w.heap.size+1+1:=hb;omega));clear hC5;obtain⟨zl,z0,z1,z2,f0,f1,f2⟩:=Z.c3f;clear Z;obtain⟨tl,t0,t1,t2⟩:=Z5.c3;clear Z5;unfold put3 at*;go_wp2;rw [←hW5];exact bodyPost_ret (v:= .tuple #[.agg #[.slice na N.length nc,.slice um MA.length umc,.slice ya L.length yc],true]) (by simp [results,Try.results160,go_sem,t0,t1,t2]) rfl ⟨.inl ⟨HOK.out,_,_,_,_,_,rfl,by rw [hKL.out];exact hFF.out,by rw [hKN.out],by rw [HMA.out,hKM.out,List.map_append,HP.out,List.map_singleton,HXO.out];unfold pushM;rw [List.length_map]⟩,hBF.out⟩
theorem l12Step_m (p lo hi:Nat) (vn vm vl:Value) (N:List Nv) (M:List Mv) (L:List Ld) (ki no k mn:Int) (d:ByteArray) (w:World) (h:OwnC w lo hi vn vm vl N M L) (hh:hi≤w.heap.size) (hG:PG p (N.map Nv.n) (M.map Mv.q) L) (hkm:2≤ki∧ki≤4) (ok:Bool) (N2:List Nd) (M2:List Ms) (L2:List Ld) (KM:∀W:World,OwnC W lo hi vn vm vl N M L→hi≤W.heap.size→Calls Try.prog 160 #[.agg #[vn,vm,vl],.agg #[ki,no,k,mn,d]] W fun e w'=>StepA w' lo ok N2 M2 L2 e∧Chg (fun b=>lo≤b∧b<hi) W w'):
  Calls Try.prog 141 #[.agg #[vn,vm,vl],.agg #[ki,no,k,mn,d]] w fun e w'=>StepA w' lo ok N2 M2 L2 e∧Chg (fun b=>lo≤b∧b<hi) w w':=by
 have hlh:=h.lohi;obtain⟨⟨na,nc,rfl⟩,⟨ma,mc,rfl⟩,ya,yc,rfl⟩:=h.shapes;obtain⟨W0,hW0,hB,X,Y,Z,hz0⟩:=al3 w [.slice na N.length nc,.slice ma M.length mc,.slice ya L.length yc] 60 [ki,no,k,mn,d] 154 z3 60;have hzw:=hB.size;have hT0:TyB W0 (w.heap.size+1+1) 60:=⟨z3,by
  rw [hW0];have:=heap_alloc_new ((w.alloc (.cells #[.slice na N.length nc,.slice ma M.length mc,.slice ya L.length yc] 60)).alloc (.cells #[ki,no,k,mn,d] 154)) (.cells z3 60);simpa using this⟩
 have HBL:=h.hbl;have h0:=h.below hB;have KI:=fun W=>zs_ ki 2 4 W;rw [show inB ki 2 4=true from by simp only [inB,Bool.and_eq_true,decide_eq_true_eq];omega] at KI;clear h hkm HBL;obtain⟨yl,y0,y1,y2,y3,y4⟩:=Y.c5;obtain⟨xl,x0,x1,x2⟩:=X.c3;go_enter Try.func141,Try.ntmps141;go_upto_region 1 with fail;rw [←hW0];clear hW0;go_wp2_with fail;refine (KI _).mono ?_;rintro e w1 ⟨rfl,hw1⟩;rw [hw1];clear hw1 KI w1;have hhi:hi≤W0.heap.size:=by omega
 go_wp2_with fail;refine (KM W0 h0 hhi).mono ?_;rintro e w2 ⟨hS,hC2⟩;have hS2:=stepA_any hS;clear hS;obtain⟨a1,n1,d1,a2,n2,d2,a3,n3,d3,rfl,hS⟩:=hS2;have hz2:=hC2.size;replace Z:=hC2.box Z (by omega);replace hT0:=hT0.chg hC2 (by omega);have HB2:Hid (Chg (fun b=>lo≤b∧b<hi) w w2):=(Chg.of_below hB).nextC hC2 (fun b q=> .inl q);clear KM hC2 h0 hB X Y yl y0 y1 y2 y3 y4 xl x0 x1 x2;obtain⟨W5,hW5,hC5,Z5⟩:=zq_ w2 Z (.slice a1 n1 d1) (.slice a2 n2 d2) (.slice a3 n3 d3);have hz5:=hC5.size;have HR:Hid (StepA W5 lo ok N2 M2 L2 (.returned (.tuple #[.agg #[.slice a1 n1 d1,.slice a2 n2 d2,.slice a3 n3 d3],ok]))):=by
  cases ok with
  | false=>exact .inr ⟨rfl,_,_,_,_,_,_,_,_,_,rfl⟩
  | true=>
   obtain⟨N',M',q1,q2,q3⟩:=hS rfl;exact .inl ⟨rfl,_,_,_,N',M',rfl,(q1.keep hT0 hC5).hiN (by omega),q2,q3⟩
 have hBF:Hid (Chg (fun b=>lo≤b∧b<hi) w W5):=HB2.out.nextC hC5 (fun b hb=> .inr (by have hb:b=w.heap.size+1+1:=hb;omega));clear hC5 hS;obtain⟨zl,z0,z1,z2,f0,f1,f2⟩:=Z.c3f;clear Z;obtain⟨tl,t0,t1,t2⟩:=Z5.c3;clear Z5;unfold put3 at*;go_simp;go_wp2;rw [←hW5];exact bodyPost_ret (v:= .tuple #[.agg #[.slice a1 n1 d1,.slice a2 n2 d2,.slice a3 n3 d3],ok]) (by simp [results,Try.results141,go_sem,t0,t1,t2]) rfl ⟨HR.out,hBF.out⟩
set_option maxHeartbeats 200000
theorem l12Step_H (p lo hi:Nat) (vn vm vl:Value) (N:List Nv) (M:List Mv) (L:List Ld) (ki no k mn:Int) (d:ByteArray) (w:World) (h:OwnC w lo hi vn vm vl N M L) (hh:hi≤w.heap.size) (hG:PG p (N.map Nv.n) (M.map Mv.q) L) (hd:d.size≤1048576)
  (K2:ki=2∨ki=3→∀W:World,OwnC W lo hi vn vm vl N M L→hi≤W.heap.size→Calls Try.prog 160 #[.agg #[vn,vm,vl],.agg #[ki,no,k,mn,d]] W fun e w'=>StepA w' lo (stB (N.map Nv.n) (M.map Mv.q) ⟨ki,no,k,mn,d⟩) (stN (N.map Nv.n) (M.map Mv.q) ⟨ki,no,k,mn,d⟩) (stM (N.map Nv.n) (M.map Mv.q) ⟨ki,no,k,mn,d⟩) (stL (N.map Nv.n) (M.map Mv.q) L ⟨ki,no,k,mn,d⟩) e∧Chg (fun b=>lo≤b∧b<hi) W w'):
  Calls Try.prog 141 #[.agg #[vn,vm,vl],.agg #[ki,no,k,mn,d]] w fun e w'=>StepA w' lo (stB (N.map Nv.n) (M.map Mv.q) ⟨ki,no,k,mn,d⟩) (stN (N.map Nv.n) (M.map Mv.q) ⟨ki,no,k,mn,d⟩) (stM (N.map Nv.n) (M.map Mv.q) ⟨ki,no,k,mn,d⟩) (stL (N.map Nv.n) (M.map Mv.q) L ⟨ki,no,k,mn,d⟩) e∧Chg (fun b=>lo≤b∧b<hi) w w':=by
 by_cases h1:ki=1
 ·subst h1;exact l12Step_1 p lo hi vn vm vl N M L no k mn d w h hh hG hd
 by_cases h2:ki=2
 ·exact l12Step_m p lo hi vn vm vl N M L ki no k mn d w h hh hG (by omega) _ _ _ _ (K2 (.inl h2))
 by_cases h3:ki=3
 ·exact l12Step_m p lo hi vn vm vl N M L ki no k mn d w h hh hG (by omega) _ _ _ _ (K2 (.inr h3))
 by_cases h4:ki=4
 ·subst h4;exact l12Step_m p lo hi vn vm vl N M L 4 no k mn d w h hh hG (by omega) _ _ _ _ fun W q1 q2=>l12Msg_4 p lo hi vn vm vl N M L no k mn d W q1 q2 hG
 by_cases h5:ki=5
 ·subst h5;exact l12Step_5 p lo hi vn vm vl N M L no k mn d w h hh hG hd
 by_cases h6:ki=6
 ·subst h6;exact l12Step_6 p lo hi vn vm vl N M L no k mn d w h hh hG hd
 by_cases h7:ki=7
 ·subst h7;exact l12Step_7 p lo hi vn vm vl N M L no k mn d w h hh hG hd
 exact l12Step_x p lo hi vn vm vl N M L ki no k mn d w h hh hG (by omega)
end Go.Proofs.Ytapfhhmimkkhnaa
