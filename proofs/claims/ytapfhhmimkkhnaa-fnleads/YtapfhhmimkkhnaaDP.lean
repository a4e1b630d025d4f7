/-
  The draw of ProposeNode.
-/
import Derived.Test.YtapfhhmimkkhnaaDA
import Derived.Laws.OwnMore
import Derived.OwnWalk
namespace Go.Proofs.Ytapfhhmimkkhnaa
open Go.RowKit Go.Maps
set_option maxHeartbeats 16000000
set_option linter.unusedVariables false
set_option maxRecDepth 100000
theorem wp_makeB (w:World) {o:Oper} {a:Act} {K:Act→World→Prop} {Q:Exit→Act→World→Prop} (lx cx:Operand) (hop:o.op=Op.makeSlice 22 lx cx) (n:Nat) (hl:a.eval lx= .int .i64 n) (hc:a.eval cx= .int .i64 n) (hn:n≤1000)
  (h:∀w',w'.ownsRow w.heap.size 5 1 (.slice (some ⟨w.heap.size,0,none⟩) n n) n (bcs (List.replicate n 0))→w.grownBy w' none→K (a.put o.dst (.slice (some ⟨w.heap.size,0,none⟩) n n)) w'):o.wp Try.prog a w K Q:=by
 obtain⟨i0,hi,hz0,hz1,hz2⟩:=info_parts Try.info5;obtain⟨w',hrun,r1,r2⟩:=run_make_full (P:=Try.prog) w w.heap.size 22 5 i0 _ 1 Try.underlying22 hi hz0 hz1 .i64 .i64 n (by rw [hz2];omega) (by unfold maxLen;omega) (Nat.le_refl _);rw [madeB] at r1;unfold Oper.wp;simp [execOp,hop,hl,hc,hrun,Result.andThen];exact h w' r1 r2
theorem conv_repl {w:World} {base g n:Nat} (h:w.ownsRow base 5 1 (.slice (some ⟨g,0,none⟩) n n) n (bcs (List.replicate n 0))):(convert 22 9 (.slice (some ⟨g,0,none⟩) n n)).run Try.prog w= .ok (.string ⟨(List.replicate n 0).toArray⟩) w:=by
 have:=conv_back (w:=w) (base:=base) (cap:=n) (g:=g) (l:=List.replicate n 0) (by simpa using h);simpa using this
theorem drawPN_any (v:Value) (l:List UInt8) (w:World) (h:YL w v l) (hl:l.length≤9223372036854775807):
  Calls Try.prog 10 #[v] w fun e w'=>(∃(y:Nv) (d:ByteArray),e= .returned (.tuple #[.agg y,d])∧PN w' w.heap.size y∧Bd y.n∧d.size≤101)∧Below w.heap.size w w':=by
 obtain⟨a0,c0,hv⟩:∃a c,v= .slice a l.length c:=by obtain⟨a,c,h1,_⟩:=h;exact⟨a,c,h1⟩
 subst hv;obtain⟨W1,hW1⟩:∃W,W=w.alloc (.cells zN 26):=⟨_,rfl⟩;have hB:Below w.heap.size w W1:=by rw [hW1];exact zc_ _ _
 have R:Box W1 w.heap.size zN:=by rw [hW1];exact Box.new w zN 26
 have hzW:w.heap.size<W1.heap.size:=by rw [hW1];simp
 replace h:=h.below hB;have KD:=drawAF_any _ l W1 h hl;go_enter Try.func10,Try.ntmps10;go_upto_region 1 with fail;rw [←hW1];clear hW1;go_wp2_with fail;refine KD.mono ?_;rintro e w2 ⟨⟨y,pr,mn,rfl,hyP,hyB,hm0,hm4⟩,hb2⟩;replace h:=h.below hb2;replace R:=R.below hb2;replace hB:=za_ hB hb2;have hz2:=hb2.size;clear KD hb2;obtain⟨k,rfl⟩:=Int.eq_ofNat_of_zero_le hm0;have hk4:k≤4:=by omega
 clear hm0 hm4;have hBA:=zc_ w2 (.cells y 26);have T:=Box.new w2 y 26;replace h:=h.below hBA;replace R:=R.below hBA;replace hyP:=OwnN.below hyP hBA;replace hB:=za_ hB hBA;go_upto_region 2 with fail;obtain⟨w3,hW3⟩:∃W,W=w2.alloc (.cells y 26):=⟨_,rfl⟩;have hz3:w2.heap.size<w3.heap.size:=by rw [hW3];simp
 rw [←hW3] at T h R hyP hB ⊢;clear hW3 hBA;have T:Box w3 w2.heap.size y:=T;obtain⟨b4,hb4⟩:∃b4,Hid (w2.heap.size=b4):=⟨_,rfl⟩;rw [hb4.out] at T ⊢;have hb41:w.heap.size<b4:=by have:=hb4.out;omega
 clear hb4;have hyL:∀q,BN y q→q<w3.heap.size:=fun q hq=>(PN.in hyP q hq).2;have hc:=cur_new h;have hb43:=T.1;have hBC:=zc_ w3 (.cells #[.slice a0 l.length c0,(0:Int),.int .u64 0] 87);replace R:=R.below hBC;replace T:=T.below hBC;replace hyP:=OwnN.below hyP hBC;replace hB:=za_ hB hBC;clear h;go_upto_region 3 with fail;obtain⟨w4,hW4⟩:∃W,W=w3.alloc (.cells #[.slice a0 l.length c0,(0:Int),.int .u64 0] 87):=⟨_,rfl⟩;have hz4:w3.heap.size<w4.heap.size:=by rw [hW4];simp
 rw [←hW4] at T R hyP hB hc ⊢;clear hW4 hBC;obtain⟨b,hb⟩:∃b,Hid (w3.heap.size=b):=⟨_,rfl⟩;rw [hb.out] at hc ⊢;have hbw1:w2.heap.size<b:=by have:=hb.out;omega
 replace hyL:∀q,BN y q→q<b:=fun q hq=>by have:=hyL q hq;have:=hb.out;omega
 have hb4b:b4≠b:=by have:=hb.out;omega
 clear hb;by_cases hk:k=4
 ·subst hk;have hD:Below w4.heap.size w4 w4.drew:=(Below.refl _ _).drew;replace T:=T.below hD;replace R:=R.below hD;replace hc:=hc.chg hD;replace hB:=za_ hB hD;replace hyP:=OwnN.below hyP hD;have hzva:=hD.size;clear hD;go_wp2_with fail;refine wp_region_held_drew (S:=(fun w'=>Box w' b4 y)) (by kernel_rfl) T (fun zb_=> ?_);generalize w4.drew=va at*;refine tkH 0 (.agg y) rfl ?_ ?_
  ·intro wx hSw;obtain⟨sl,s0,s1,s2,s3,s4,s5,s6,s7,s8⟩:=Box.e9 hSw;clear zb_ hSw;go_simp
  simp only [Act.put,sA_,sB_,sC_];refine tkH 1 (.pointer (some ⟨b,0,none⟩)) rfl ?_ ?_
  ·intro wx hSw;clear zb_ hSw;go_simp
  simp only [Act.put,sA_,sB_,sC_];refine rd1 2 rfl (fun K hK=> ?_);clear zb_;go_simp;refine (zl_ b l _ 2 _ hc hl (by omega) (by omega)).mono ?_;rintro e w5 ⟨⟨p,rfl,hp⟩,hc1,hch1⟩;replace T:=hch1.box T (by omega);replace R:=hch1.box R (by omega);replace hyP:=OwnN.chg hyP hch1 (fun k hk e=>by have e:k=b:=e;have:=hyL k hk;omega);replace hB:=hB.trans (hch1.b1 (B:=w.heap.size) (by omega) (by omega));replace hc:=hc1;have hz5:=hch1.size;have hp1:p≤1:=by omega
  clear hc1 hch1 hp;obtain⟨n,hn⟩:∃n:Nat,n=100+p:=⟨_,rfl⟩;have hn1:(100:Int)+(p:Int)=(n:Int):=by omega
  have hn2:n≤101:=by omega
  have hn3:Hid (IntKind.i64.wrap ((100:Int)+(p:Int))=(n:Int)):=by show _=_;rw [IntKind.wrap_i64];omega
  refine hK.out _ w5 T (fun zb_=> ?_);clear hK K
  try (simp only [Act.put,sA_,sB_,sC_])
  refine tkH 3 (.int .i64 (n:Int)) rfl ?_ ?_
  ·intro wx hSw;clear zb_ hSw hn hn1;go_simp;exact hn3.out
  simp only [Act.put,sA_,sB_,sC_];obtain⟨D,hDd⟩:∃D:ByteArray,D=⟨(List.replicate n 0).toArray⟩:=⟨_,rfl⟩;have hds:D.size≤101:=by rw [hDd];show (List.replicate n (0:UInt8)).toArray.size≤101;simp;omega
  clear hn hn1 hn3;refine rd2 4 6 rfl rfl (fun K hK=> ?_) (fun K hK=> ?_)
  ·clear zb_;refine wp_makeB _ _ _ rfl n rfl rfl (by omega) ?_;intro w6 oB hgr;have hbN:Below w5.heap.size w5 w6:=(Below.refl _ _).grown hgr (Nat.le_refl _) (by simp);replace T:=T.below hbN;replace R:=R.below hbN;replace hc:=hc.chg hbN;replace hB:=za_ hB hbN;replace hyP:=OwnN.below hyP hbN;have hzNw6:=hbN.size;have hgB:w.heap.size<w5.heap.size:=by omega
   clear hgr hbN;generalize w5.heap.size=gB at*;refine hK.out _ w6 T (fun zb_=> ?_);clear hK K
   try (simp only [Act.put,sA_,sB_,sC_])
   refine rd2 5 6 rfl rfl (fun K hK=> ?_) (fun K hK=> ?_)
   ·clear zb_;have hcv:=conv_repl oB;rw [←hDd] at hcv;go_simp;refine hK.out _ w6 T (fun zb_=> ?_);clear hK K hcv
    try (simp only [Act.put,sA_,sB_,sC_])
    refine rd1 6 rfl (fun K hK=> ?_);clear zb_;obtain⟨W7,hW7,hC7,R7⟩:=zj_ w6 R y.n.id y.n.pe y.n.te y.n.vo (.slice y.la y.n.log.length y.lc) y.n.co y.n.ro (.slice y.va y.n.vs.length y.vc) (.slice y.ma y.n.mt.length y.mc);obtain⟨sl,s0,s1,s2,s3,s4,s5,s6,s7,s8⟩:=R.e9;obtain⟨f0,f1,f2,f3,f4,f5,f6,f7,f8⟩:=R.f9;replace T:=hC7.box T (by omega);replace hB:=hB.trans (hC7.b1 (B:=w.heap.size) (by omega) (by omega));replace hyP:=OwnN.chg hyP hC7 (fun k hk e=>by have e:k=w.heap.size:=e;have:=(PN.in hyP k hk).1;omega);replace oB:=hC7.owns oB (fun k hk e=>by have e:k=w.heap.size:=e;have:=ze_ oB k hk;omega);have hzS:=hC7.size;clear R hC7 hc;unfold put9 at hW7;go_simp;rw [←hW7];clear hW7 sl s0 s1 s2 s3 s4 s5 s6 s7 s8 f0 f1 f2 f3 f4 f5 f6 f7 f8;have R:=R7;clear R7;refine hK.out _ W7 T (fun zb_=> ?_);clear hK K
    try (simp only [Act.put,sA_,sB_,sC_])
    refine tkH 7 (.string D) rfl ?_ ?_
    ·intro wx hSw;clear zb_ hSw;go_simp
    simp only [Act.put,sA_,sB_,sC_];clear zb_;refine wpAnyH_done (by kernel_rfl) ?_ _;have hyP7:PN W7 w.heap.size y:=PN.lo hyP (by omega);have HF:Hid ((∃(y2:Nv) (d2:ByteArray),Ending.returned (.tuple #[.agg y,D])= .returned (.tuple #[.agg y2,d2])∧PN W7 w.heap.size y2∧Bd y2.n∧d2.size≤101)∧Below w.heap.size w W7):=⟨⟨y,_,rfl,hyP7,hyB,hds⟩,hB⟩;obtain⟨tl,t0,t1,t2,t3,t4,t5,t6,t7,t8⟩:=R.e9;clear R T hyP hyP7 hB hyB hds hDd oB hyL;go_wp2_with fail;exact bodyPost_ret (v:= .tuple #[.agg y,D]) (by simp [results,Try.results10,go_sem,t0,t1,t2,t3,t4,t5,t6,t7,t8]) rfl HF.out
   ·clear zb_;obtain⟨W7,hW7,hC7,R7⟩:=zj_ w6 R y.n.id y.n.pe y.n.te y.n.vo (.slice y.la y.n.log.length y.lc) y.n.co y.n.ro (.slice y.va y.n.vs.length y.vc) (.slice y.ma y.n.mt.length y.mc);obtain⟨sl,s0,s1,s2,s3,s4,s5,s6,s7,s8⟩:=R.e9;obtain⟨f0,f1,f2,f3,f4,f5,f6,f7,f8⟩:=R.f9;replace T:=hC7.box T (by omega);replace hB:=hB.trans (hC7.b1 (B:=w.heap.size) (by omega) (by omega));replace hyP:=OwnN.chg hyP hC7 (fun k hk e=>by have e:k=w.heap.size:=e;have:=(PN.in hyP k hk).1;omega);replace oB:=hC7.owns oB (fun k hk e=>by have e:k=w.heap.size:=e;have:=ze_ oB k hk;omega);have hzS:=hC7.size;clear R hC7 hc;unfold put9 at hW7;go_simp;rw [←hW7];clear hW7 sl s0 s1 s2 s3 s4 s5 s6 s7 s8 f0 f1 f2 f3 f4 f5 f6 f7 f8;have R:=R7;clear R7;refine hK.out _ W7 T (fun zb_=> ?_);clear hK K
    try (simp only [Act.put,sA_,sB_,sC_])
    refine rd1 5 rfl (fun K hK=> ?_);clear zb_;have hcv:=conv_repl oB;rw [←hDd] at hcv;go_simp;refine hK.out _ W7 T (fun zb_=> ?_);clear hK K hcv
    try (simp only [Act.put,sA_,sB_,sC_])
    refine tkH 7 (.string D) rfl ?_ ?_
    ·intro wx hSw;clear zb_ hSw;go_simp
    simp only [Act.put,sA_,sB_,sC_];clear zb_;refine wpAnyH_done (by kernel_rfl) ?_ _;have hyP7:PN W7 w.heap.size y:=PN.lo hyP (by omega);have HF:Hid ((∃(y2:Nv) (d2:ByteArray),Ending.returned (.tuple #[.agg y,D])= .returned (.tuple #[.agg y2,d2])∧PN W7 w.heap.size y2∧Bd y2.n∧d2.size≤101)∧Below w.heap.size w W7):=⟨⟨y,_,rfl,hyP7,hyB,hds⟩,hB⟩;obtain⟨tl,t0,t1,t2,t3,t4,t5,t6,t7,t8⟩:=R.e9;clear R T hyP hyP7 hB hyB hds hDd oB hyL;go_wp2_with fail;exact bodyPost_ret (v:= .tuple #[.agg y,D]) (by simp [results,Try.results10,go_sem,t0,t1,t2,t3,t4,t5,t6,t7,t8]) rfl HF.out
  ·clear zb_;obtain⟨W7,hW7,hC7,R7⟩:=zj_ w5 R y.n.id y.n.pe y.n.te y.n.vo (.slice y.la y.n.log.length y.lc) y.n.co y.n.ro (.slice y.va y.n.vs.length y.vc) (.slice y.ma y.n.mt.length y.mc);obtain⟨sl,s0,s1,s2,s3,s4,s5,s6,s7,s8⟩:=R.e9;obtain⟨f0,f1,f2,f3,f4,f5,f6,f7,f8⟩:=R.f9;replace T:=hC7.box T (by omega);replace hB:=hB.trans (hC7.b1 (B:=w.heap.size) (by omega) (by omega));replace hyP:=OwnN.chg hyP hC7 (fun k hk e=>by have e:k=w.heap.size:=e;have:=(PN.in hyP k hk).1;omega);have hzS:=hC7.size;clear R hC7 hc;unfold put9 at hW7;go_simp;rw [←hW7];clear hW7 sl s0 s1 s2 s3 s4 s5 s6 s7 s8 f0 f1 f2 f3 f4 f5 f6 f7 f8;have R:=R7;clear R7;refine hK.out _ W7 T (fun zb_=> ?_);clear hK K
   try (simp only [Act.put,sA_,sB_,sC_])
   refine rd1 4 rfl (fun K hK=> ?_);clear zb_;refine wp_makeB _ _ _ rfl n rfl rfl (by omega) ?_;intro w6 oB hgr;have hbN:Below W7.heap.size W7 w6:=(Below.refl _ _).grown hgr (Nat.le_refl _) (by simp);replace T:=T.below hbN;replace R:=R.below hbN;replace hB:=za_ hB hbN;replace hyP:=OwnN.below hyP hbN;have hzNw6:=hbN.size;have hgB:w.heap.size<W7.heap.size:=by omega
   clear hgr hbN;generalize W7.heap.size=gB at*;refine hK.out _ w6 T (fun zb_=> ?_);clear hK K
   try (simp only [Act.put,sA_,sB_,sC_])
   refine rd1 5 rfl (fun K hK=> ?_);clear zb_;have hcv:=conv_repl oB;rw [←hDd] at hcv;go_simp;refine hK.out _ w6 T (fun zb_=> ?_);clear hK K hcv
   try (simp only [Act.put,sA_,sB_,sC_])
   refine tkH 7 (.string D) rfl ?_ ?_
   ·intro wx hSw;clear zb_ hSw;go_simp
   simp only [Act.put,sA_,sB_,sC_];clear zb_;refine wpAnyH_done (by kernel_rfl) ?_ _;have hyP7:PN w6 w.heap.size y:=PN.lo hyP (by omega);have HF:Hid ((∃(y2:Nv) (d2:ByteArray),Ending.returned (.tuple #[.agg y,D])= .returned (.tuple #[.agg y2,d2])∧PN w6 w.heap.size y2∧Bd y2.n∧d2.size≤101)∧Below w.heap.size w w6):=⟨⟨y,_,rfl,hyP7,hyB,hds⟩,hB⟩;obtain⟨tl,t0,t1,t2,t3,t4,t5,t6,t7,t8⟩:=R.e9;clear R T hyP hyP7 hB hyB hds hDd oB hyL;go_wp2_with fail;exact bodyPost_ret (v:= .tuple #[.agg y,D]) (by simp [results,Try.results10,go_sem,t0,t1,t2,t3,t4,t5,t6,t7,t8]) rfl HF.out
 ·have hkI:¬(k:Int)=4:=by omega
  have hkn:k≤3:=by omega
  have hD:Below w4.heap.size w4 w4.drew:=(Below.refl _ _).drew;replace T:=T.below hD;replace R:=R.below hD;replace hc:=hc.chg hD;replace hB:=za_ hB hD;replace hyP:=OwnN.below hyP hD;have hzva:=hD.size;clear hD;go_wp2_with fail;refine wp_region_held_drew (S:=(fun w'=>Box w' b4 y)) (by kernel_rfl) T (fun zb_=> ?_);generalize w4.drew=va at*;refine tkH 0 (.agg y) rfl ?_ ?_
  ·intro wx hSw;obtain⟨sl,s0,s1,s2,s3,s4,s5,s6,s7,s8⟩:=Box.e9 hSw;clear zb_ hSw;go_simp
  simp only [Act.put,sA_,sB_,sC_];refine tkH 1 (.pointer (some ⟨b,0,none⟩)) rfl ?_ ?_
  ·intro wx hSw;clear zb_ hSw;go_simp
  simp only [Act.put,sA_,sB_,sC_];refine tkH 2 (.int .i64 (k:Int)) rfl ?_ ?_
  ·intro wx hSw;clear zb_ hSw;go_simp
  simp only [Act.put,sA_,sB_,sC_];refine rd1 3 rfl (fun K hK=> ?_);clear zb_;go_simp;refine (text_any b l _ k _ hc hl (by omega) (by omega)).mono ?_;rintro e w5 ⟨⟨d,rfl,hds⟩,hc1,hch1⟩;replace T:=hch1.box T (by omega);replace R:=hch1.box R (by omega);replace hyP:=OwnN.chg hyP hch1 (fun k hk e=>by have e:k=b:=e;have:=hyL k hk;omega);replace hB:=hB.trans (hch1.b1 (B:=w.heap.size) (by omega) (by omega));replace hc:=hc1;have hz5:=hch1.size;replace hds:d.size≤101:=by omega
  clear hc1 hch1;refine hK.out _ w5 T (fun zb_=> ?_);clear hK K
  try (simp only [Act.put,sA_,sB_,sC_])
  refine rd1 4 rfl (fun K hK=> ?_);clear zb_;obtain⟨W7,hW7,hC7,R7⟩:=zj_ w5 R y.n.id y.n.pe y.n.te y.n.vo (.slice y.la y.n.log.length y.lc) y.n.co y.n.ro (.slice y.va y.n.vs.length y.vc) (.slice y.ma y.n.mt.length y.mc);obtain⟨sl,s0,s1,s2,s3,s4,s5,s6,s7,s8⟩:=R.e9;obtain⟨f0,f1,f2,f3,f4,f5,f6,f7,f8⟩:=R.f9;have T7:=hC7.box T (by omega);have hB7:=hB.trans (hC7.b1 (B:=w.heap.size) (by omega) (by omega));have hyP7:PN W7 w.heap.size y:=PN.lo (OwnN.chg hyP hC7 (fun k hk e=>by have e:k=w.heap.size:=e;have:=(PN.in hyP k hk).1;omega)) (by omega);have HF:Hid ((∃(y2:Nv) (d2:ByteArray),Ending.returned (.tuple #[.agg y,d])= .returned (.tuple #[.agg y2,d2])∧PN W7 w.heap.size y2∧Bd y2.n∧d2.size≤101)∧Below w.heap.size w W7):=⟨⟨y,_,rfl,hyP7,hyB,hds⟩,hB7⟩;clear T R hC7 hB hc hyP hyP7 hB7 hyB hyL hds;unfold put9 at hW7;go_simp;rw [←hW7];clear hW7 sl s0 s1 s2 s3 s4 s5 s6 s7 s8 f0 f1 f2 f3 f4 f5 f6 f7 f8;refine hK.out _ W7 T7 (fun zb_=> ?_);clear hK K
  try (simp only [Act.put,sA_,sB_,sC_])
  refine tkH 5 (.string d) rfl ?_ ?_
  ·intro wx hSw;clear zb_ hSw;go_simp
  simp only [Act.put,sA_,sB_,sC_];clear zb_;refine wpAnyH_done (by kernel_rfl) ?_ _;obtain⟨tl,t0,t1,t2,t3,t4,t5,t6,t7,t8⟩:=R7.e9;clear R7 T7;go_wp2_with fail;exact bodyPost_ret (v:= .tuple #[.agg y,d]) (by simp [results,Try.results10,go_sem,t0,t1,t2,t3,t4,t5,t6,t7,t8]) rfl HF.out
end Go.Proofs.Ytapfhhmimkkhnaa
