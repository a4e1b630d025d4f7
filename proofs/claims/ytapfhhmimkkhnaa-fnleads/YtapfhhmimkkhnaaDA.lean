/-
  The draw of a node and of what it is asked to send: DrawAppendFor.
-/
import Derived.Test.YtapfhhmimkkhnaaDK
import Derived.Test.YtapfhhmimkkhnaaCWToHM
import Derived.Test.YtapfhhmimkkhnaaN1ToA3
import Derived.Deep.Cut
namespace Go.Proofs.Ytapfhhmimkkhnaa
open Go.RowKit Go.Maps
set_option maxHeartbeats 16000000
set_option linter.unusedVariables false
set_option maxRecDepth 100000
theorem drawAF_any (v:Value) (l:List UInt8) (w:World) (h:YL w v l) (hl:l.length≤9223372036854775807):
  Calls Try.prog 15 #[v] w fun e w'=>(∃(y:Nv) (pr mn:Int),e= .returned (.tuple #[.agg y,pr,mn])∧PN w' w.heap.size y∧Bd y.n∧0≤mn∧mn≤4)∧Below w.heap.size w w':=by
 obtain⟨a0,c0,hv⟩:∃a c,v= .slice a l.length c:=by obtain⟨a,c,h1,_⟩:=h;exact⟨a,c,h1⟩
 subst hv;obtain⟨W1,hW1⟩:∃W,W=w.alloc (.cells zN 26):=⟨_,rfl⟩;have hB:Below w.heap.size w W1:=by rw [hW1];exact zc_ _ _
 have R:Box W1 w.heap.size zN:=by rw [hW1];exact Box.new w zN 26
 have hzW:W1.heap.size=w.heap.size+1:=by rw [hW1];simp
 replace h:=h.below hB;have hc:=cur_new h;obtain⟨W0,hW0⟩:∃W,W=W1.alloc (.cells #[.slice a0 l.length c0,(0:Int),.int .u64 0] 87):=⟨_,rfl⟩;have hBc:Below W1.heap.size W1 W0:=by rw [hW0];exact zc_ _ _
 rw [←hW0] at hc;have hz0:W1.heap.size<W0.heap.size:=by rw [hW0];simp
 replace R:=R.below hBc;replace hB:=za_ hB hBc;rw [hzW] at hc hz0;go_enter Try.func15,Try.ntmps15;go_upto_region 2 with fail;rw [←hW1,←hW0];obtain⟨b,hb⟩:∃b,Hid (w.heap.size+1=b):=⟨_,rfl⟩;have hbw1:w.heap.size+1≤b:=by have:=hb.out;omega
 have hbw2:b≤w.heap.size+1:=by have:=hb.out;omega
 rw [hb.out] at hc hz0 ⊢;clear hW1 hW0 hBc h hzW hb;go_wp2_with fail;refine (cluster_any b l 0 _ hc hl (by omega)).mono ?_;rintro e w3 ⟨⟨un,um,ul,N,rfl,hG,⟨na,nc,hun⟩,⟨ma,mn,mc,hum⟩,la,ln,lc,hul⟩,hc1,hch1⟩;subst hun hum hul;replace R:=hch1.box R (by omega);replace hB:=hB.trans (hch1.b1 (B:=w.heap.size) (by omega) (by omega));have hz3:=hch1.size;clear hc hch1;have hBX:=zc_ w3 (.cells #[.slice na N.length nc,.slice ma mn mc,.slice la ln lc] 60);have X:=Box.new w3 #[.slice na N.length nc,.slice ma mn mc,.slice la ln lc] 60;have hlb:=hc1.lt;have hc:=hc1.chg hBX;clear hc1;replace R:=R.below hBX;replace hG:=hG.below hBX;replace hB:=za_ hB hBX;go_upto_region 3 with fail;obtain⟨w4,hW4⟩:∃W,W=w3.alloc (.cells #[.slice na N.length nc,.slice ma mn mc,.slice la ln lc] 60):=⟨_,rfl⟩;have hz4:w3.heap.size<w4.heap.size:=by rw [hW4];simp
 rw [←hW4] at X R hc hG hB ⊢;clear hW4 hBX;have X:Box w4 w3.heap.size [.slice na N.length nc,.slice ma mn mc,.slice la ln lc]:=X;obtain⟨xb,hxb⟩:∃xb,Hid (w3.heap.size=xb):=⟨_,rfl⟩;rw [hxb.out] at X hG ⊢;have hxb1:w.heap.size<xb:=by have:=hxb.out;omega
 have hxb2:b<xb:=by have:=hxb.out;omega
 clear hxb;replace hG:=hG.hi (show xb≤w4.heap.size from by have:=X.1;omega);obtain⟨hi,hhi⟩:∃hi,hi=w4.heap.size:=⟨_,rfl⟩;rw [←hhi] at hG;have hhi1:hi≤w4.heap.size:=by omega
 have hhi2:w4.heap.size≤hi:=by omega
 clear hhi;obtain⟨lo,hlo⟩:∃lo,lo=W0.heap.size:=⟨_,rfl⟩;rw [←hlo] at hG;have hlo1:lo≤W0.heap.size:=by omega
 have hlo2:W0.heap.size≤lo:=by omega
 clear hlo;have hlob:b<lo:=by omega
 have hxh:xb<hi:=by have:=X.1;omega
 obtain⟨g,rfl⟩:∃g,na=some ⟨g,0,none⟩:=by
  rcases hG.n.2 with⟨_,h0⟩ | ⟨g,cap,cur,hv,_⟩
  ·have:=hG.l1;omega
  ·simp only [Value.slice.injEq] at hv;exact⟨g,hv.1⟩
 go_cut [7] from 8 (fun s7 wc=>∃(b7 j:Nat) (hj:j<N.length),s7= .pointer (some ⟨b7,0,none⟩)∧Box wc b7 [.int .i64 N[j].n.id,.int .i64 N[j].n.pe,.int .i64 N[j].n.te,.int .i64 N[j].n.vo,.slice N[j].la N[j].n.log.length N[j].lc,.int .i64 N[j].n.co,.int .i64 N[j].n.ro,.slice N[j].va N[j].n.vs.length N[j].vc,.slice N[j].ma N[j].n.mt.length N[j].mc]∧Box wc xb [.slice (some ⟨g,0,none⟩) N.length nc,.slice ma mn mc,.slice la ln lc]∧Box wc w.heap.size zN∧GN wc lo hi (.slice (some ⟨g,0,none⟩) N.length nc) N∧Cur wc b l 30002∧Below w.heap.size w wc∧hi≤b7∧xb<b7∧b<b7)
 case first=>
  have hD:Below w4.heap.size w4 w4.drew:=(Below.refl _ _).drew;replace X:=X.below hD;replace R:=R.below hD;replace hG:=hG.below hD;replace hc:=hc.chg hD;replace hB:=za_ hB hD;have hzva:=hD.size;have hN7:=hG.l7;clear hD;refine wp_region_held_drew (S:=(fun w'=>Box w' xb [.slice (some ⟨g,0,none⟩) N.length nc,.slice ma mn mc,.slice la ln lc]∧w'.ownsRow lo 26 9 (.slice (some ⟨g,0,none⟩) N.length nc) N.length (zH_ N))) (by kernel_rfl) ⟨X,hG.n⟩ (fun zb_=> ?_);generalize w4.drew=va at*;have hzv:=X.1;refine tkH 0 (.pointer (some ⟨xb,0,none⟩)) rfl ?_ ?_
  ·intro wx hSw;clear zb_ hSw;go_simp
  simp only [Act.put,sA_,sB_,sC_];refine tkH 1 (.slice (some ⟨g,0,none⟩) N.length nc) rfl ?_ ?_
  ·intro wx hSw;have e:=hSw.1.2.1 0 _ rfl;have e2:=hSw.1.1;clear zb_ hSw;go_simp
  simp only [Act.put,sA_,sB_,sC_];refine tkH 2 (.pointer (some ⟨b,0,none⟩)) rfl ?_ ?_
  ·intro wx hSw;clear zb_ hSw;go_simp
  simp only [Act.put,sA_,sB_,sC_];refine tkH 3 (.pointer (some ⟨xb,0,none⟩)) rfl ?_ ?_
  ·intro wx hSw;clear zb_ hSw;go_simp
  simp only [Act.put,sA_,sB_,sC_];refine tkH 4 (.slice (some ⟨g,0,none⟩) N.length nc) rfl ?_ ?_
  ·intro wx hSw;have e:=hSw.1.2.1 0 _ rfl;have e2:=hSw.1.1;clear zb_ hSw;go_simp
  simp only [Act.put,sA_,sB_,sC_];refine tkH 5 (.int .i64 (N.length:Int)) rfl ?_ ?_
  ·intro wx hSw;clear zb_ hSw;go_simp
  simp only [Act.put,sA_,sB_,sC_];refine rd2 6 9 rfl rfl (fun K hK=> ?_) (fun K hK=> ?_)
  ·clear zb_;go_simp;refine (zl_ b l _ N.length _ hc hl (by omega) (by omega)).mono ?_;rintro e w5 ⟨⟨j,rfl,hj⟩,hc1,hch1⟩;replace X:=hch1.box X (by omega);replace R:=hch1.box R (by omega);replace hG:=hG.chg hch1 (fun k hk _ e=>by have e:k=b:=e;omega);replace hB:=hB.trans (hch1.b1 (B:=w.heap.size) (by omega) (by omega));replace hc:=hc1;have hzw5:=hch1.size;clear hc1 hch1;have hj:j<N.length:=by have:=hG.l1;omega
   refine hK.out _ w5 ⟨X,hG.n⟩ (fun zb_=> ?_);clear hK K
   try (simp only [Act.put,sA_,sB_,sC_])
   refine tkH 7 (.pointer (some ⟨g,j*9,none⟩)) rfl ?_ ?_
   ·intro wx hSw;have hjl:(j:Int)<(N.length:Int):=by omega
    clear zb_ hSw;go_simp
   simp only [Act.put,sA_,sB_,sC_];refine tkH 8 (.agg #[.int .i64 N[j].n.id,.int .i64 N[j].n.pe,.int .i64 N[j].n.te,.int .i64 N[j].n.vo,.slice N[j].la N[j].n.log.length N[j].lc,.int .i64 N[j].n.co,.int .i64 N[j].n.ro,.slice N[j].va N[j].n.vs.length N[j].vc,.slice N[j].ma N[j].n.mt.length N[j].mc]) rfl ?_ ?_
   ·intro wx hSw;obtain⟨hgl,c0,c1,c2,c3,c4,c5,c6,c7,c8⟩:=zZ_ hSw.2 j hj rfl;clear zb_ hSw;go_simp
   simp only [Act.put,sA_,sB_,sC_];refine rd1 9 rfl (fun K hK=> ?_);clear zb_;have hBA:=zc_ w5 (.cells zN 26);have T:=Box.new w5 zN 26;have hza:(w5.alloc (.cells zN 26)).heap.size=w5.heap.size+1:=by simp
   have hbl:=hc.lt;have hxl:=X.1;have hGu:=hG.hi (show hi≤w5.heap.size from by omega);replace X:=X.below hBA;replace R:=R.below hBA;replace hG:=hG.below hBA;replace hc:=hc.chg hBA;replace hB:=za_ hB hBA;go_simp;refine hK.out _ _ ⟨X,hG.n⟩ (fun zb_=> ?_);clear hK K
   try (simp only [Act.put,sA_,sB_,sC_])
   clear hBA hGu;generalize w5.alloc (.cells zN 26)=w6 at*;generalize hb7:w5.heap.size=b7 at*;refine rd1 10 rfl (fun K hK=> ?_);clear zb_;obtain⟨W7,hW7,hC7,T7⟩:=zj_ w6 T (.int .i64 N[j].n.id) (.int .i64 N[j].n.pe) (.int .i64 N[j].n.te) (.int .i64 N[j].n.vo) (.slice N[j].la N[j].n.log.length N[j].lc) (.int .i64 N[j].n.co) (.int .i64 N[j].n.ro) (.slice N[j].va N[j].n.vs.length N[j].vc) (.slice N[j].ma N[j].n.mt.length N[j].mc);obtain⟨sl,s0,s1,s2,s3,s4,s5,s6,s7,s8⟩:=T.e9;obtain⟨f0,f1,f2,f3,f4,f5,f6,f7,f8⟩:=T.f9;have X7:=hC7.box X (by omega);have R7:=hC7.box R (by omega);have hG7:=hG.chg hC7 (fun k h1 h2 e=>by have e:k=b7:=e;omega);have hc7:Cur W7 b l _:=zI_ hc (show b<b7 from by omega) (hC7.b1 (B:=b7) (by omega) (by omega));have hB7:=hB.trans (hC7.b1 (B:=w.heap.size) (by omega) (by omega));have hz7:=hC7.size;clear X R hG hc hB hC7 T;unfold put9 at hW7;go_simp;rw [←hW7];clear hW7 sl s0 s1 s2 s3 s4 s5 s6 s7 s8 f0 f1 f2 f3 f4 f5 f6 f7 f8;refine hK.out _ W7 ⟨X7,hG7.n⟩ (fun zb_=> ?_);clear hK K
   try (simp only [Act.put,sA_,sB_,sC_])
   clear zb_;refine wpAnyH_done (by kernel_rfl) ?_ _;go_wp2_with fail;go_meet
   case rel=>exact⟨b7,j,hj,rfl,T7,X7,R7,hG7,hc7,hB7,by omega⟩
  ·clear zb_;have hBA:=zc_ va (.cells zN 26);have T:=Box.new va zN 26;have hza:(va.alloc (.cells zN 26)).heap.size=va.heap.size+1:=by simp
   have hbl:=hc.lt;have hxl:=X.1;have hGu:=hG.hi (show hi≤va.heap.size from by omega);replace X:=X.below hBA;replace R:=R.below hBA;replace hG:=hG.below hBA;replace hc:=hc.chg hBA;replace hB:=za_ hB hBA;go_simp;refine hK.out _ _ ⟨X,hG.n⟩ (fun zb_=> ?_);clear hK K
   try (simp only [Act.put,sA_,sB_,sC_])
   clear hBA hGu;generalize va.alloc (.cells zN 26)=v2 at*;generalize hb7:va.heap.size=b7 at*;refine rd1 6 rfl (fun K hK=> ?_);clear zb_;go_simp;refine (zl_ b l _ N.length _ hc hl (by omega) (by omega)).mono ?_;rintro e w5 ⟨⟨j,rfl,hj⟩,hc1,hch1⟩;replace X:=hch1.box X (by omega);replace R:=hch1.box R (by omega);replace T:=hch1.box T (by omega);replace hG:=hG.chg hch1 (fun k hk _ e=>by have e:k=b:=e;omega);replace hB:=hB.trans (hch1.b1 (B:=w.heap.size) (by omega) (by omega));replace hc:=hc1;have hzw5:=hch1.size;clear hc1 hch1;have hj:j<N.length:=by have:=hG.l1;omega
   refine hK.out _ w5 ⟨X,hG.n⟩ (fun zb_=> ?_);clear hK K
   try (simp only [Act.put,sA_,sB_,sC_])
   refine tkH 7 (.pointer (some ⟨g,j*9,none⟩)) rfl ?_ ?_
   ·intro wx hSw;have hjl:(j:Int)<(N.length:Int):=by omega
    clear zb_ hSw;go_simp
   simp only [Act.put,sA_,sB_,sC_];refine tkH 8 (.agg #[.int .i64 N[j].n.id,.int .i64 N[j].n.pe,.int .i64 N[j].n.te,.int .i64 N[j].n.vo,.slice N[j].la N[j].n.log.length N[j].lc,.int .i64 N[j].n.co,.int .i64 N[j].n.ro,.slice N[j].va N[j].n.vs.length N[j].vc,.slice N[j].ma N[j].n.mt.length N[j].mc]) rfl ?_ ?_
   ·intro wx hSw;obtain⟨hgl,c0,c1,c2,c3,c4,c5,c6,c7,c8⟩:=zZ_ hSw.2 j hj rfl;clear zb_ hSw;go_simp
   simp only [Act.put,sA_,sB_,sC_];refine rd1 10 rfl (fun K hK=> ?_);clear zb_;obtain⟨W7,hW7,hC7,T7⟩:=zj_ w5 T (.int .i64 N[j].n.id) (.int .i64 N[j].n.pe) (.int .i64 N[j].n.te) (.int .i64 N[j].n.vo) (.slice N[j].la N[j].n.log.length N[j].lc) (.int .i64 N[j].n.co) (.int .i64 N[j].n.ro) (.slice N[j].va N[j].n.vs.length N[j].vc) (.slice N[j].ma N[j].n.mt.length N[j].mc);obtain⟨sl,s0,s1,s2,s3,s4,s5,s6,s7,s8⟩:=T.e9;obtain⟨f0,f1,f2,f3,f4,f5,f6,f7,f8⟩:=T.f9;have X7:=hC7.box X (by omega);have R7:=hC7.box R (by omega);have hG7:=hG.chg hC7 (fun k h1 h2 e=>by have e:k=b7:=e;omega);have hc7:Cur W7 b l _:=zI_ hc (show b<b7 from by omega) (hC7.b1 (B:=b7) (by omega) (by omega));have hB7:=hB.trans (hC7.b1 (B:=w.heap.size) (by omega) (by omega));have hz7:=hC7.size;clear X R hG hc hB hC7 T;unfold put9 at hW7;go_simp;rw [←hW7];clear hW7 sl s0 s1 s2 s3 s4 s5 s6 s7 s8 f0 f1 f2 f3 f4 f5 f6 f7 f8;refine hK.out _ W7 ⟨X7,hG7.n⟩ (fun zb_=> ?_);clear hK K
   try (simp only [Act.put,sA_,sB_,sC_])
   clear zb_;refine wpAnyH_done (by kernel_rfl) ?_ _;go_wp2_with fail;go_meet
   case rel=>exact⟨b7,j,hj,rfl,T7,X7,R7,hG7,hc7,hB7,by omega⟩
 case rest=>
  clear X R hG hc hB hz3 hz4;obtain⟨b7,j,hj,rfl,T,X,R,hG,hc,hB,hb7,hxb7,hbb7⟩:=hcut;generalize wc=w5 at*;obtain⟨y,hy⟩:∃y,N[j]=y:=⟨_,rfl⟩;obtain⟨hyP,hyB,hyL⟩:PN w5 lo y∧Bd y.n∧∀k,BN y k→k<hi:=⟨hy ▸ hG.cn j hj,hy ▸ hG.bd j hj,hy ▸ hG.bn j hj⟩;rw [hy] at T;clear hy hj;have hNl:=hG.l7;obtain⟨xl,x0,x1,x2⟩:=X.c3;go_upto_region 4 with fail;obtain⟨W5,hW5⟩:∃W,W=w5:=⟨_,rfl⟩;go_wp2_with fail;clear xl x0 x1 x2
  go_loopw [27] (fun i wr=>∃(k:Nat) (y:Nv),k≤N.length∧i= .int .i64 k∧Box wr b7 y∧Box wr w.heap.size zN∧GN wr lo hi (.slice (some ⟨g,0,none⟩) N.length nc) N∧Cur wr b l 30002∧Below w.heap.size w wr∧PN wr lo y∧Bd y.n∧(∀k,BN y k→k<hi)∧b7<wr.heap.size) (fun i _=>N.length-(intOf i).toNat)
  case atStart=>exact⟨0,y,Nat.zero_le _,rfl,T,R,hG,hc,hB,hyP,hyB,hyL,T.1⟩
  case round=>
   clear T X R hG hc hB hyP hyB hyL;obtain⟨k,y,hk,rfl,T,R,hG,hc,hB,hyP,hyB,hyL,hzr⟩:=hrel;by_cases hlt:k<N.length
   ·have hkl:(k:Int)<(N.length:Int):=by omega
    obtain⟨hgl,c0,c1,c2,c3,c4,c5,c6,c7,c8⟩:=zZ_ hG.n k hlt rfl;have hzP:=hG.cn k hlt;have hzB:=hG.bd k hlt;have hzL:=hG.bn k hlt;generalize N[k]=z at*;have hBA:=zc_ wr (.cells z 26);have Z:=Box.new wr z 26;replace T:=T.below hBA;replace R:=R.below hBA;replace hG:=hG.below hBA;replace hc:=hc.chg hBA;replace hB:=za_ hB hBA;replace hyP:=OwnN.below hyP hBA;replace hzP:=OwnN.below hzP hBA;go_upto_region 7 with fail;obtain⟨w6,hW6⟩:∃W,W=wr.alloc (.cells z 26):=⟨_,rfl⟩;have hz6:wr.heap.size<w6.heap.size:=by rw [hW6];simp
    rw [←hW6] at Z T R hG hc hB hyP hzP ⊢;clear hW6 hBA c0 c1 c2 c3 c4 c5 c6 c7 c8 hgl;have Z:Box w6 wr.heap.size z:=Z;generalize wr.heap.size=b9 at*;obtain⟨zl,z0,z1,z2,z3,z4,z5,z6,z7,z8⟩:=Z.e9;by_cases hr:z.n.ro=2
    ·obtain⟨W7,hW7,hC7,T7⟩:=zj_ w6 T z.n.id z.n.pe z.n.te z.n.vo (.slice z.la z.n.log.length z.lc) z.n.co z.n.ro (.slice z.va z.n.vs.length z.vc) (.slice z.ma z.n.mt.length z.mc);obtain⟨sl,s0,s1,s2,s3,s4,s5,s6,s7,s8⟩:=T.e9;obtain⟨f0,f1,f2,f3,f4,f5,f6,f7,f8⟩:=T.f9;have R7:=hC7.box R (by omega);have hG7:=hG.chg hC7 (fun k h1 h2 e=>by have e:k=b7:=e;omega);have hc7:Cur W7 b l _:=zI_ hc (show b<b7 from by omega) (hC7.b1 (B:=b7) (by omega) (by omega));have hB7:=hB.trans (hC7.b1 (B:=w.heap.size) (by omega) (by omega));have hzP7:PN W7 lo z:=OwnN.chg hzP hC7 (fun k hk e=>by have e:k=b7:=e;have:=hzL k hk;omega);have hz7:=hC7.size;clear Z T R hG hc hB hC7 hyP hyB hyL hzP;rw [hr] at z6;unfold put9 at hW7;rw [hr] at hW7;have hro:=hr;go_wp2_with fail;rw [←hW7];go_roundw
     case rel=>exact⟨k+1,z,by omega,by go_num,T7,R7,hG7,hc7,hB7,hzP7,hzB,hzL,by omega⟩
     case measure=>simp [intOf];omega
    ·clear Z hzP hzB hzL;go_wp2_with fail;go_roundw
     case rel=>exact⟨k+1,y,by omega,by go_num,T,R,hG,hc,hB,hyP,hyB,hyL,by omega⟩
     case measure=>simp [intOf];omega
   ·clear hG X;have hbl:=hc.lt;go_upto_region 10 with fail;have hD:Below wr.heap.size wr wr.drew:=(Below.refl _ _).drew;replace T:=T.below hD;replace R:=R.below hD;replace hc:=hc.chg hD;replace hB:=za_ hB hD;replace hyP:=OwnN.below hyP hD;have hzva:=hD.size;clear hD;refine wp_region_held_drew (S:=(fun w'=>Box w' b7 y)) (by kernel_rfl) T (fun zb_=> ?_);generalize wr.drew=va at*;refine tkH 0 (.agg y) rfl ?_ ?_
    ·intro wx hSw;obtain⟨sl,s0,s1,s2,s3,s4,s5,s6,s7,s8⟩:=Box.e9 hSw;clear zb_ hSw;go_simp
    simp only [Act.put,sA_,sB_,sC_];refine tkH 1 (.pointer (some ⟨b,0,none⟩)) rfl ?_ ?_
    ·intro wx hSw;clear zb_ hSw;go_simp
    simp only [Act.put,sA_,sB_,sC_];refine tkH 3 (.pointer (some ⟨b,0,none⟩)) rfl ?_ ?_
    ·intro wx hSw;clear zb_ hSw;go_simp
    simp only [Act.put,sA_,sB_,sC_];refine tkH 6 (.pointer (some ⟨b,0,none⟩)) rfl ?_ ?_
    ·intro wx hSw;clear zb_ hSw;go_simp
    simp only [Act.put,sA_,sB_,sC_];refine rd1 2 rfl (fun K hK=> ?_);clear zb_;go_simp;refine (zl_ b l _ 5 _ hc hl (by omega) (by omega)).mono ?_;rintro e w6 ⟨⟨p1,rfl,hp1⟩,hc1,hch1⟩;replace T:=hch1.box T (by omega);replace R:=hch1.box R (by omega);replace hyP:=OwnN.chg hyP hch1 (fun k hk e=>by have e:k=b:=e;have:=(PN.in hyP k hk).1;omega);replace hB:=hB.trans (hch1.b1 (B:=w.heap.size) (by omega) (by omega));replace hc:=hc1;have hzw6:=hch1.size;clear hc1 hch1;refine hK.out _ w6 T (fun zb_=> ?_);clear hK K
    try (simp only [Act.put,sA_,sB_,sC_])
    refine rd1 4 rfl (fun K hK=> ?_);clear zb_;go_simp;refine (zl_ b l _ 2 _ hc hl (by omega) (by omega)).mono ?_;rintro e w7 ⟨⟨p2,rfl,hp2⟩,hc1,hch1⟩;replace T:=hch1.box T (by omega);replace R:=hch1.box R (by omega);replace hyP:=OwnN.chg hyP hch1 (fun k hk e=>by have e:k=b:=e;have:=(PN.in hyP k hk).1;omega);replace hB:=hB.trans (hch1.b1 (B:=w.heap.size) (by omega) (by omega));replace hc:=hc1;have hzw7:=hch1.size;clear hc1 hch1;refine hK.out _ w7 T (fun zb_=> ?_);clear hK K
    try (simp only [Act.put,sA_,sB_,sC_])
    have e1:(0:Int)≤(p1:Int)∧(p1:Int)≤4:=by omega
    have e2:(0:Int)≤(p2:Int)∧(p2:Int)≤1:=by omega
    obtain⟨e3,e4⟩:=e1;obtain⟨e5,e6⟩:=e2;have e7:Hid (IntKind.i64.wrap ((p1:Int)-(p2:Int))=(p1:Int)-(p2:Int)):=by show _=_;rw [IntKind.wrap_i64];omega
    clear hp1 hp2;refine tkH 5 (.int .i64 ((p1:Int)-(p2:Int))) rfl ?_ ?_
    ·intro wx hSw;clear zb_ hSw;go_simp;exact e7.out
    simp only [Act.put,sA_,sB_,sC_];refine rd1 7 rfl (fun K hK=> ?_);clear zb_;go_simp;refine (zl_ b l _ 5 _ hc hl (by omega) (by omega)).mono ?_;rintro e w8 ⟨⟨p3,rfl,hp3⟩,hc1,hch1⟩;replace T:=hch1.box T (by omega);replace R:=hch1.box R (by omega);replace hyP:=OwnN.chg hyP hch1 (fun k hk e=>by have e:k=b:=e;have:=(PN.in hyP k hk).1;omega);replace hB:=hB.trans (hch1.b1 (B:=w.heap.size) (by omega) (by omega));replace hc:=hc1;have hzw8:=hch1.size;clear hc1 hch1;refine hK.out _ w8 T (fun zb_=> ?_);clear hK K
    try (simp only [Act.put,sA_,sB_,sC_])
    refine rd1 8 rfl (fun K hK=> ?_);clear zb_;obtain⟨W7,hW7,hC7,R7⟩:=zj_ w8 R y.n.id y.n.pe y.n.te y.n.vo (.slice y.la y.n.log.length y.lc) y.n.co y.n.ro (.slice y.va y.n.vs.length y.vc) (.slice y.ma y.n.mt.length y.mc);obtain⟨sl,s0,s1,s2,s3,s4,s5,s6,s7,s8⟩:=R.e9;obtain⟨f0,f1,f2,f3,f4,f5,f6,f7,f8⟩:=R.f9;have T7:=hC7.box T (by omega);have hB7:=hB.trans (hC7.b1 (B:=w.heap.size) (by omega) (by omega));have hyP7:PN W7 w.heap.size y:=PN.lo (OwnN.chg hyP hC7 (fun k hk e=>by have e:k=w.heap.size:=e;have:=(PN.in hyP k hk).1;omega)) (by omega);have hp3m:(0:Int)≤(p3:Int)∧(p3:Int)≤4:=by omega
    have HF:Hid ((∃(y2:Nv) (pr mn:Int),Ending.returned (.tuple #[.agg y,((p1:Int)-(p2:Int):Int),(p3:Int)])= .returned (.tuple #[.agg y2,pr,mn])∧PN W7 w.heap.size y2∧Bd y2.n∧0≤mn∧mn≤4)∧Below w.heap.size w W7):=⟨⟨y,_,_,rfl,hyP7,hyB,hp3m.1,hp3m.2⟩,hB7⟩;clear T R hC7 hB hc hyP hyP7 hB7 hyB hyL hp3m hp3;unfold put9 at hW7;go_simp;rw [←hW7];clear hW7 sl s0 s1 s2 s3 s4 s5 s6 s7 s8 f0 f1 f2 f3 f4 f5 f6 f7 f8;refine hK.out _ W7 T7 (fun zb_=> ?_);clear hK K
    try (simp only [Act.put,sA_,sB_,sC_])
    refine tkH 9 (.int .i64 ((p1:Int)-(p2:Int))) rfl ?_ ?_
    ·intro wx hSw;clear zb_ hSw;go_simp
    simp only [Act.put,sA_,sB_,sC_];refine tkH 10 (.int .i64 (p3:Int)) rfl ?_ ?_
    ·intro wx hSw;clear zb_ hSw;go_simp
    simp only [Act.put,sA_,sB_,sC_];clear zb_;refine wpAnyH_done (by kernel_rfl) ?_ _;obtain⟨tl,t0,t1,t2,t3,t4,t5,t6,t7,t8⟩:=R7.e9;clear R7 T7;go_wp2_with fail;exact bodyPost_ret (v:= .tuple #[.agg y,((p1:Int)-(p2:Int):Int),(p3:Int)]) (by simp [results,Try.results15,go_sem,t0,t1,t2,t3,t4,t5,t6,t7,t8]) rfl HF.out
end Go.Proofs.Ytapfhhmimkkhnaa
