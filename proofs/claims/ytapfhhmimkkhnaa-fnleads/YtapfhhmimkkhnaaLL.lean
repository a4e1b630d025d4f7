/-
  The walk of FnLeads.
-/
import Derived.Test.YtapfhhmimkkhnaaDUToLP
import Derived.Deep.Cut
import Derived.Deep.QuietTactic
namespace Go.Proofs.Ytapfhhmimkkhnaa
open Go.RowKit Go.Maps
set_option maxHeartbeats 32000000
set_option linter.unusedVariables false
set_option maxRecDepth 100000
theorem law3 (v0 v1:Value) (l0 l1:List UInt8) (w:World) (hv0:YL w v0 l0) (hl0:l0.length≤maxLen) (hv1:YL w v1 l1) (hl1:l1.length≤maxLen):
  Calls Try.prog 3 #[v0,v1] w fun e w'=>e= .returned (.bool true)∧Below w.heap.size w w':=by
 have hv0':=hv0;have hv1':=hv1;obtain⟨va,vc,rfl,_⟩:=hv0';obtain⟨vb,vd,rfl,_⟩:=hv1';have hq0:l0.length≤9223372036854775807:=hl0;have hq1:l1.length≤9223372036854775807:=hl1;by_cases hg:wrap64 ((l0.length:Int)+l1.length)≤1048576;rotate_left
 ·have hg':1048576<wrap64 ((l0.length:Int)+l1.length):=by omega
  clear hv0 hv1 hg;go_enter Try.func3,Try.ntmps3;go_wp2;go_ret;exact⟨rfl,Below.refl _ _⟩
 have hg2:¬1048576<wrap64 ((l0.length:Int)+l1.length):=by omega
 have R1:=fun w b=>run_neq_bM w b;clear hg;go_enter Try.func3,Try.ntmps3;go_wp2_with fail;refine (drawPN_any _ l0 w hv0 hq0).mono ?_;rintro e w1 ⟨⟨y,d,rfl,hyP,hyB,hds⟩,hB⟩;have hu:=hv1.below hB;clear hv0 hv1 hl0 hl1;have hzw1:=hB.size;have hBA:=zc_ w1 (.cells y 26);have T:=Box.new w1 y 26;replace hu:=hu.below hBA;replace hyP:=OwnN.below hyP hBA;replace hB:=za_ hB hBA;go_upto_region 4 with fail;obtain⟨w2,hWn⟩:∃W,W=w1.alloc (.cells y 26):=⟨_,rfl⟩;have hzw2:w1.heap.size<w2.heap.size:=by rw [hWn];simp
 rw [←hWn] at T hu hyP hB ⊢;clear hWn hBA;have T:Box w2 w1.heap.size y:=T;obtain⟨b5,hbk⟩:∃b,Hid (w1.heap.size=b):=⟨_,rfl⟩;rw [hbk.out] at T ⊢;have hb5l:w1.heap.size≤b5:=by have:=hbk.out;omega
 have hb5u:b5≤w1.heap.size:=by have:=hbk.out;omega
 clear hbk;obtain⟨ok,hok⟩:∃ok,prOk (gN y.n) y.n.ro y.n.log.length d=ok:=⟨_,rfl⟩;have KI:=fun (W:World) (h:PN W w.heap.size y)=>implPropL y d w.heap.size W h hyB (by omega);have KS:=fun (W:World) (h:PN W w.heap.size y)=>specPropL y d w.heap.size W h hyB (by omega);obtain⟨zn,hzn⟩:∃zn,prZ ok y.n d=zn:=⟨_,rfl⟩;have hzb:=prZ_bd (ok:=ok) (d:=d) hyB (by omega);simp only [hok,hzn] at KI KS hzb;obtain⟨tl,t0,t1,t2,t3,t4,t5,t6,t7,t8⟩:=T.e9;go_wp2_with fail;refine (KI _ hyP).mono ?_;rintro e w3 ⟨z1,rfl,hz1,hp1,hb⟩;replace T:=T.below hb;replace hu:=hu.below hb;replace hyP:=OwnN.below hyP hb;replace hB:=za_ hB hb;have hzw3:=hb.size;clear hb;obtain⟨z1n,z1a,z1b,z1c,z1d,z1e,z1f⟩:=z1;replace hz1:z1n=zn:=hz1;subst hz1;clear KI tl t0 t1 t2 t3 t4 t5 t6 t7 t8;have hBA:=zc_ w3 (.cells #[z1n.id,z1n.pe,z1n.te,z1n.vo,.slice z1a z1n.log.length z1b,z1n.co,z1n.ro,.slice z1c z1n.vs.length z1d,.slice z1e z1n.mt.length z1f] 26);have Z1:=Box.new w3 #[z1n.id,z1n.pe,z1n.te,z1n.vo,.slice z1a z1n.log.length z1b,z1n.co,z1n.ro,.slice z1c z1n.vs.length z1d,.slice z1e z1n.mt.length z1f] 26;replace T:=T.below hBA;replace hu:=hu.below hBA;replace hyP:=OwnN.below hyP hBA;replace hB:=za_ hB hBA;replace hp1:=OwnN.below hp1 hBA;go_upto_region 5 with fail;obtain⟨w4,hWn⟩:∃W,W=w3.alloc (.cells #[z1n.id,z1n.pe,z1n.te,z1n.vo,.slice z1a z1n.log.length z1b,z1n.co,z1n.ro,.slice z1c z1n.vs.length z1d,.slice z1e z1n.mt.length z1f] 26):=⟨_,rfl⟩;have hzw4:w3.heap.size<w4.heap.size:=by rw [hWn];simp
 rw [←hWn] at Z1 T hu hyP hB hp1 ⊢;clear hWn hBA;have Z1:Box w4 w3.heap.size [z1n.id,z1n.pe,z1n.te,z1n.vo,.slice z1a z1n.log.length z1b,z1n.co,z1n.ro,.slice z1c z1n.vs.length z1d,.slice z1e z1n.mt.length z1f]:=Z1;obtain⟨b7,hbk⟩:∃b,Hid (w3.heap.size=b):=⟨_,rfl⟩;rw [hbk.out] at Z1 ⊢;have hb7l:w3.heap.size≤b7:=by have:=hbk.out;omega
 have hb7u:b7≤w3.heap.size:=by have:=hbk.out;omega
 clear hbk;obtain⟨tl,t0,t1,t2,t3,t4,t5,t6,t7,t8⟩:=T.e9;go_wp2_with fail;refine (KS _ hyP).mono ?_;rintro e w5 ⟨z2,rfl,hz2,hp2,hb⟩;replace T:=T.below hb;replace hu:=hu.below hb;replace hyP:=OwnN.below hyP hb;replace hB:=za_ hB hb;replace hp1:=OwnN.below hp1 hb;replace Z1:=Z1.below hb;have hzw5:=hb.size;clear hb;obtain⟨z2n,z2a,z2b,z2c,z2d,z2e,z2f⟩:=z2;replace hz2:z2n=z1n:=hz2;subst hz2;clear KS tl t0 t1 t2 t3 t4 t5 t6 t7 t8;have hBA:=zc_ w5 (.cells #[z2n.id,z2n.pe,z2n.te,z2n.vo,.slice z2a z2n.log.length z2b,z2n.co,z2n.ro,.slice z2c z2n.vs.length z2d,.slice z2e z2n.mt.length z2f] 26);have Z2:=Box.new w5 #[z2n.id,z2n.pe,z2n.te,z2n.vo,.slice z2a z2n.log.length z2b,z2n.co,z2n.ro,.slice z2c z2n.vs.length z2d,.slice z2e z2n.mt.length z2f] 26;replace T:=T.below hBA;replace hu:=hu.below hBA;replace hyP:=OwnN.below hyP hBA;replace hB:=za_ hB hBA;replace hp1:=OwnN.below hp1 hBA;replace Z1:=Z1.below hBA;replace hp2:=OwnN.below hp2 hBA;go_upto_region 6 with fail;obtain⟨w6,hWn⟩:∃W,W=w5.alloc (.cells #[z2n.id,z2n.pe,z2n.te,z2n.vo,.slice z2a z2n.log.length z2b,z2n.co,z2n.ro,.slice z2c z2n.vs.length z2d,.slice z2e z2n.mt.length z2f] 26):=⟨_,rfl⟩;have hzw6:w5.heap.size<w6.heap.size:=by rw [hWn];simp
 rw [←hWn] at Z2 T hu hyP hB hp1 Z1 hp2 ⊢;clear hWn hBA;have Z2:Box w6 w5.heap.size [z2n.id,z2n.pe,z2n.te,z2n.vo,.slice z2a z2n.log.length z2b,z2n.co,z2n.ro,.slice z2c z2n.vs.length z2d,.slice z2e z2n.mt.length z2f]:=Z2;obtain⟨b10,hbk⟩:∃b,Hid (w5.heap.size=b):=⟨_,rfl⟩;rw [hbk.out] at Z2 ⊢;have hb10l:w5.heap.size≤b10:=by have:=hbk.out;omega
 have hb10u:b10≤w5.heap.size:=by have:=hbk.out;omega
 clear hbk;have KN:=fun (W:World) (h1:OwnN W w2.heap.size (.slice z1a z2n.log.length z1b) (.slice z1c z2n.vs.length z1d) (.slice z1e z2n.mt.length z1f) z2n.log z2n.vs z2n.mt) (h2:OwnN W w4.heap.size (.slice z2a z2n.log.length z2b) (.slice z2c z2n.vs.length z2d) (.slice z2e z2n.mt.length z2f) z2n.log z2n.vs z2n.mt)=>sameNodes_same z2n.id z2n.pe z2n.te z2n.vo z2n.co z2n.ro _ _ _ _ _ _ z2n.log z2n.vs z2n.mt W (OwnN.er h1) (OwnN.iv h1) (OwnN.im h1) (OwnN.er h2) (OwnN.iv h2) (OwnN.im h2) (by omega) (by omega) (by omega);obtain⟨sl,s0,s1,s2,s3,s4,s5,s6,s7,s8⟩:=Z1.e9;obtain⟨ul,u0,u1,u2,u3,u4,u5,u6,u7,u8⟩:=Z2.e9;go_wp2_with fail;refine (KN _ hp1 hp2).mono ?_;rintro e w7 ⟨rfl,hb⟩;replace T:=T.below hb;replace hu:=hu.below hb;replace hyP:=OwnN.below hyP hb;replace hB:=za_ hB hb;replace hp1:=OwnN.below hp1 hb;replace Z1:=Z1.below hb;replace hp2:=OwnN.below hp2 hb;have hzw7:=hb.size;clear hb KN hp2 Z2 sl s0 s1 s2 s3 s4 s5 s6 s7 s8 ul u0 u1 u2 u3 u4 u5 u6 u7 u8;go_upto_region 8 with fail
 go_cut [99] from 27 (fun s99 wc=>s99= .bool false∧Below w.heap.size w wc∧YL wc (.slice vb l1.length vd) l1)
 case first=>
  cases ok with
  | false=>
   clear hp1 hyP T Z1 hzn hok;go_wp2_with fail
   go_quiet (fail)
   go_wp2_with fail;go_meet
   case rel=>exact⟨rfl,below_drewN hB _,hu.below (below_drewN (Below.refl _ _) _)⟩
  | true=>
   obtain⟨hlog,hlen⟩:=pr_facts hok;replace hzn:prX y.n d=z2n:=hzn;rw [hzn] at hlog hlen;rw [show prI true y.n.log.length=(y.n.log.length:Int)+1 from rfl];obtain⟨ga,rfl⟩:∃g,z1a=some ⟨g,0,none⟩:=by
    rcases hp1.l.2 with⟨_,h0⟩ | ⟨g,cap,cur,hv,_⟩
    ·exact absurd h0 (by show ¬z2n.log.length=0;omega)
    ·simp only [Value.slice.injEq] at hv;exact⟨g,hv.1⟩
   have hcap:z2n.log.length≤z1b:=(owns_cap hp1.l).1;obtain⟨b0,off,hbo,hgl,hcell⟩:=(by have h:=OwnN.er hp1;obtain⟨a,c,e,h⟩:=h;injection e with e1 _ _;subst e1;exact h (by intro e;rw [e] at hlen;simp at hlen):∃b off,(some ⟨ga,0,none⟩:Option Addr)=some ⟨b,off,none⟩∧b<w7.heap.size∧∀i (h:i<z2n.log.length),w7.cell? ⟨b,off+i*2,none⟩=some (.int .i64 z2n.log[i].t)∧w7.cell? ⟨b,off+i*2+1,none⟩=some (.string z2n.log[i].d));simp only [Option.some.injEq,Addr.mk.injEq,and_true] at hbo;obtain⟨rfl,rfl⟩:=hbo;have hlast:z2n.log[y.n.log.length]'(by omega)=⟨y.n.te,d⟩:=by simp [hlog]
   obtain⟨x0,x1⟩:=hcell y.n.log.length (by omega);rw [hlast,Nat.zero_add] at x0 x1;clear hcell hlast;have EV:=fun W=>neqEntV ⟨y.n.te,d⟩ ⟨y.n.te,d⟩ W;rw [show enEq ⟨y.n.te,d⟩ ⟨y.n.te,d⟩=true from by simp [enEq]] at EV;simp only [Bool.not_true] at EV;have htk:z2n.log.take y.n.log.length=y.n.log:=by rw [hlog];simp
   have hE1:=ER_to (OwnN.er hp1) (show y.n.log.length≤z2n.log.length from by omega);rw [htk] at hE1;have hE2:=OwnN.er hyP;have hnl:=hyB.l;have KE:=fun (W:World) (h:Below w7.heap.size w7 W)=>yg_ _ _ y.n.log W (hE1.below h) (hE2.below h) (by omega);have i1:(y.n.log.length:Int)<(z2n.log.length:Int):=by omega
   have i2:(y.n.log.length:Int)≤(z1b:Int):=by omega
   have i3:(0:Int)≤(y.n.log.length:Int):=by omega
   have HSL:=fun W=>sl_to (some ⟨ga,0,none⟩) z2n.log.length z1b y.n.log.length W (by omega);have hW1:((y.n.log.length:Int)+1)-1=(y.n.log.length:Int):=by omega
   have e7:Hid (IntKind.i64.wrap ((y.n.log.length:Int)+1)=(y.n.log.length:Int)+1):=by show _=_;rw [IntKind.wrap_i64];omega
   have e8:Hid (IntKind.i64.wrap (y.n.log.length:Int)=(y.n.log.length:Int)):=by show _=_;rw [IntKind.wrap_i64];omega
   have hd0:Below w7.heap.size w7 w7.drew:=(Below.refl _ _).drew;replace T:=T.below hd0;replace Z1:=Z1.below hd0;have c0:=(hd0.cell (p:=⟨ga,y.n.log.length*2,none⟩) hgl).trans x0;have c1:=(hd0.cell (p:=⟨ga,y.n.log.length*2+1,none⟩) hgl).trans x1;clear x0 x1 hzn hok hlog htk hE1 hE2 hcap hp1 hyP hlen;go_wp2_with fail;refine wp_region_held_drew (S:=(fun w'=>Box w' b5 y∧Box w' b7 [z2n.id,z2n.pe,z2n.te,z2n.vo,.slice (some ⟨ga,0,none⟩) z2n.log.length z1b,z2n.co,z2n.ro,.slice z1c z2n.vs.length z1d,.slice z1e z2n.mt.length z1f]∧w'.cell? ⟨ga,y.n.log.length*2,none⟩=some (.int .i64 y.n.te)∧w'.cell? ⟨ga,y.n.log.length*2+1,none⟩=some (.string d))) (by kernel_rfl) ⟨T,Z1,c0,c1⟩ (fun zb_=> ?_);generalize w7.drew=va at*;refine tkH 0 (.bool true) rfl ?_ ?_
   ·intro wx hSw;clear zb_ hSw;go_simp
   simp only [Act.put,sA_,sB_,sC_];refine tkH 1 (.bool true) rfl ?_ ?_
   ·intro wx hSw;clear zb_ hSw;go_simp
   simp only [Act.put,sA_,sB_,sC_];refine tkH 2 (.int .i64 ((y.n.log.length:Int)+1)) rfl ?_ ?_
   ·intro wx hSw;clear zb_ hSw;go_simp
   simp only [Act.put,sA_,sB_,sC_];refine tkH 3 (.pointer (some ⟨b5,4,none⟩)) rfl ?_ ?_
   ·intro wx hSw;clear zb_ hSw;go_simp
   simp only [Act.put,sA_,sB_,sC_];refine tkH 4 (.slice y.la y.n.log.length y.lc) rfl ?_ ?_
   ·intro wx hSw;have e:=hSw.1.2.1 4 _ rfl;have e2:=hSw.1.1;clear zb_ hSw;go_simp
   simp only [Act.put,sA_,sB_,sC_];refine tkH 5 (.int .i64 (y.n.log.length:Int)) rfl ?_ ?_
   ·intro wx hSw;clear zb_ hSw;go_simp
   simp only [Act.put,sA_,sB_,sC_];refine tkH 6 (.int .i64 ((y.n.log.length:Int)+1)) rfl ?_ ?_
   ·intro wx hSw;clear zb_ hSw;go_simp;exact e7.out
   simp only [Act.put,sA_,sB_,sC_];refine tkH 7 (.bool false) rfl ?_ ?_
   ·intro wx hSw;clear zb_ hSw;go_simp
   simp only [Act.put,sA_,sB_,sC_];refine tkH 8 (.bool false) rfl ?_ ?_
   ·intro wx hSw;clear zb_ hSw;go_simp
   simp only [Act.put,sA_,sB_,sC_];refine tkH 9 (.pointer (some ⟨b7,4,none⟩)) rfl ?_ ?_
   ·intro wx hSw;clear zb_ hSw;go_simp
   simp only [Act.put,sA_,sB_,sC_];refine tkH 10 (.slice (some ⟨ga,0,none⟩) z2n.log.length z1b) rfl ?_ ?_
   ·intro wx hSw;have e:=hSw.2.1.2.1 4 _ rfl;have e2:=hSw.2.1.1;clear zb_ hSw;go_simp
   simp only [Act.put,sA_,sB_,sC_];refine tkH 11 (.pointer (some ⟨b5,4,none⟩)) rfl ?_ ?_
   ·intro wx hSw;clear zb_ hSw;go_simp
   simp only [Act.put,sA_,sB_,sC_];refine tkH 12 (.slice y.la y.n.log.length y.lc) rfl ?_ ?_
   ·intro wx hSw;have e:=hSw.1.2.1 4 _ rfl;have e2:=hSw.1.1;clear zb_ hSw;go_simp
   simp only [Act.put,sA_,sB_,sC_];refine tkH 13 (.int .i64 (y.n.log.length:Int)) rfl ?_ ?_
   ·intro wx hSw;clear zb_ hSw;go_simp
   simp only [Act.put,sA_,sB_,sC_];refine tkH 14 (.slice (some ⟨ga,0,none⟩) y.n.log.length z1b) rfl ?_ ?_
   ·intro wx hSw;have e:=HSL wx;clear zb_ hSw;go_simp
   simp only [Act.put,sA_,sB_,sC_];refine tkH 15 (.pointer (some ⟨b5,4,none⟩)) rfl ?_ ?_
   ·intro wx hSw;clear zb_ hSw;go_simp
   simp only [Act.put,sA_,sB_,sC_];refine tkH 16 (.slice y.la y.n.log.length y.lc) rfl ?_ ?_
   ·intro wx hSw;have e:=hSw.1.2.1 4 _ rfl;have e2:=hSw.1.1;clear zb_ hSw;go_simp
   simp only [Act.put,sA_,sB_,sC_];refine rd1 17 rfl (fun K hK=> ?_);clear zb_;go_simp;refine (KE _ hd0).mono ?_;rintro e w8 ⟨rfl,hb⟩;have hzv:=hd0.size;replace hd0:=za_ hd0 hb;replace T:=T.below hb;replace Z1:=Z1.below hb;replace c0:=(hb.cell (p:=⟨ga,y.n.log.length*2,none⟩) (by show ga<_;omega)).trans c0;replace c1:=(hb.cell (p:=⟨ga,y.n.log.length*2+1,none⟩) (by show ga<_;omega)).trans c1;clear hb;refine hK.out _ w8 ⟨T,Z1,c0,c1⟩ (fun zb_=> ?_);clear hK K
   try (simp only [Act.put,sA_,sB_,sC_])
   refine tkH 18 (.bool false) rfl ?_ ?_
   ·intro wx hSw;clear zb_ hSw;go_simp
   simp only [Act.put,sA_,sB_,sC_];refine tkH 19 (.bool false) rfl ?_ ?_
   ·intro wx hSw;clear zb_ hSw;go_simp
   simp only [Act.put,sA_,sB_,sC_];refine tkH 20 (.bool false) rfl ?_ ?_
   ·intro wx hSw;clear zb_ hSw;go_simp
   simp only [Act.put,sA_,sB_,sC_];refine tkH 21 (.pointer (some ⟨b7,4,none⟩)) rfl ?_ ?_
   ·intro wx hSw;clear zb_ hSw;go_simp
   simp only [Act.put,sA_,sB_,sC_];refine tkH 22 (.slice (some ⟨ga,0,none⟩) z2n.log.length z1b) rfl ?_ ?_
   ·intro wx hSw;have e:=hSw.2.1.2.1 4 _ rfl;have e2:=hSw.2.1.1;clear zb_ hSw;go_simp
   simp only [Act.put,sA_,sB_,sC_];refine tkH 23 (.int .i64 ((y.n.log.length:Int)+1)) rfl ?_ ?_
   ·intro wx hSw;clear zb_ hSw;go_simp
   simp only [Act.put,sA_,sB_,sC_];refine tkH 24 (.int .i64 (y.n.log.length:Int)) rfl ?_ ?_
   ·intro wx hSw;clear zb_ hSw;go_simp;exact e8.out
   simp only [Act.put,sA_,sB_,sC_];refine tkH 25 (.pointer (some ⟨ga,y.n.log.length*2,none⟩)) rfl ?_ ?_
   ·intro wx hSw;clear zb_ hSw;go_simp
   simp only [Act.put,sA_,sB_,sC_];refine tkH 26 (.agg #[y.n.te,d]) rfl ?_ ?_
   ·intro wx hSw;obtain⟨_,_,e0,e1⟩:=hSw;have e2:=World.block_lt_of_cell? _ _ e0;clear zb_;go_simp
   simp only [Act.put,sA_,sB_,sC_];refine tkH 27 (.pointer (some ⟨b5,2,none⟩)) rfl ?_ ?_
   ·intro wx hSw;clear zb_ hSw;go_simp
   simp only [Act.put,sA_,sB_,sC_];refine tkH 28 (.int .i64 y.n.te) rfl ?_ ?_
   ·intro wx hSw;have e:=hSw.1.2.1 2 _ rfl;have e2:=hSw.1.1;clear zb_ hSw;go_simp
   simp only [Act.put,sA_,sB_,sC_];refine tkH 29 (.string d) rfl ?_ ?_
   ·intro wx hSw;clear zb_ hSw;go_simp
   simp only [Act.put,sA_,sB_,sC_];refine tkH 30 (.agg #[y.n.te,d]) rfl ?_ ?_
   ·intro wx hSw;clear zb_ hSw;go_simp
   simp only [Act.put,sA_,sB_,sC_];refine tkH 31 (.bool false) rfl ?_ ?_
   ·intro wx hSw;have e:=EV wx;clear zb_ hSw;go_simp
   simp only [Act.put,sA_,sB_,sC_];refine tkH 32 (.bool false) rfl ?_ ?_
   ·intro wx hSw;clear zb_ hSw;go_simp
   simp only [Act.put,sA_,sB_,sC_];refine tkH 33 (.bool false) rfl ?_ ?_
   ·intro wx hSw;clear zb_ hSw;go_simp
   simp only [Act.put,sA_,sB_,sC_];clear zb_;refine wpAnyH_done (by kernel_rfl) ?_ _;go_wp2_with fail;go_meet
   case rel=>exact⟨rfl,hB.trans (hd0.mono (by have:=hB.size;omega)),hu.below hd0⟩
 case rest=>
  clear T Z1 hp1 hyP hB hu;obtain⟨rfl,hB,hu⟩:=hcut;generalize wc=w8 at*;have hzw8:=hB.size;have hMN:=drawUT_any _ l1 w8 hu hq1;clear hMN hzb hds hyB hq0 hg2;go_wp2_with fail;refine (drawAF_any _ l1 w8 hu hq1).mono ?_;rintro e w9 ⟨⟨x,pr,mn,rfl,hyP,hyB,hm0,hm4⟩,hb⟩;replace hu:=hu.below hb;replace hB:=za_ hB hb;have hzw9:=hb.size;clear hb;have hBA:=zc_ w9 (.cells x 26);have T:=Box.new w9 x 26;replace hu:=hu.below hBA;replace hB:=za_ hB hBA;replace hyP:=OwnN.below hyP hBA;go_upto_region 11 with fail;obtain⟨w10,hWn⟩:∃W,W=w9.alloc (.cells x 26):=⟨_,rfl⟩;have hzw10:w9.heap.size<w10.heap.size:=by rw [hWn];simp
  rw [←hWn] at T hu hB hyP ⊢;clear hWn hBA;have T:Box w10 w9.heap.size x:=T;obtain⟨b13,hbk⟩:∃b,Hid (w9.heap.size=b):=⟨_,rfl⟩;rw [hbk.out] at T ⊢;have hb13l:w9.heap.size≤b13:=by have:=hbk.out;omega
  have hb13u:b13≤w9.heap.size:=by have:=hbk.out;omega
  clear hbk;obtain⟨ok2,hok2⟩:∃ok,afOk (gN x.n) x.n.id x.n.pe x.n.ro pr mn=ok:=⟨_,rfl⟩;have KI:=fun (W:World) (h:PN W w8.heap.size x)=>implAFL x pr mn w8.heap.size W h hyB;have KS:=fun (W:World) (h:PN W w8.heap.size x)=>specAFL x pr mn w8.heap.size W h hyB;obtain⟨q,hq⟩:∃q,afZ ok2 x.n pr mn=q:=⟨_,rfl⟩;have hqb:=afZ_bd (ok:=ok2) (peer:=pr) (many:=mn) hyB;have hqs:=afZ_sz (ok:=ok2) (peer:=pr) (many:=mn) hyB;simp only [hok2,hq] at KI KS hqb hqs;obtain⟨tl,t0,t1,t2,t3,t4,t5,t6,t7,t8⟩:=T.e9;go_wp2_with fail;refine (KI _ hyP).mono ?_;rintro e w11 ⟨m1,rfl,hm1,hP1,hb⟩;replace hu:=hu.below hb;replace hB:=za_ hB hb;replace hyP:=OwnN.below hyP hb;replace T:=T.below hb;have hzw11:=hb.size;clear hb;obtain⟨m1n,m1a,m1b⟩:=m1;replace hm1:m1n=q:=hm1;subst hm1;clear KI tl t0 t1 t2 t3 t4 t5 t6 t7 t8;replace hP1:w11.ownsRow w10.heap.size 34 2 (.slice m1a m1n.es.length m1b) m1n.es.length (zE_ m1n.es):=hP1;have hBA:=zc_ w11 (.cells #[m1n.ki,m1n.fr,m1n.dst,m1n.te,m1n.ix,m1n.be,.slice m1a m1n.es.length m1b,m1n.co,m1n.ye] 38);have M1:=Box.new w11 #[m1n.ki,m1n.fr,m1n.dst,m1n.te,m1n.ix,m1n.be,.slice m1a m1n.es.length m1b,m1n.co,m1n.ye] 38;replace hu:=hu.below hBA;replace hB:=za_ hB hBA;replace hyP:=OwnN.below hyP hBA;replace T:=T.below hBA;replace hP1:=zd_ hP1 hBA;go_upto_region 12 with fail;obtain⟨w12,hWn⟩:∃W,W=w11.alloc (.cells #[m1n.ki,m1n.fr,m1n.dst,m1n.te,m1n.ix,m1n.be,.slice m1a m1n.es.length m1b,m1n.co,m1n.ye] 38):=⟨_,rfl⟩;have hzw12:w11.heap.size<w12.heap.size:=by rw [hWn];simp
  rw [←hWn] at M1 hu hB hyP T hP1 ⊢;clear hWn hBA;have M1:Box w12 w11.heap.size [m1n.ki,m1n.fr,m1n.dst,m1n.te,m1n.ix,m1n.be,.slice m1a m1n.es.length m1b,m1n.co,m1n.ye]:=M1;obtain⟨b16,hbk⟩:∃b,Hid (w11.heap.size=b):=⟨_,rfl⟩;rw [hbk.out] at M1 ⊢;have hb16l:w11.heap.size≤b16:=by have:=hbk.out;omega
  have hb16u:b16≤w11.heap.size:=by have:=hbk.out;omega
  clear hbk;obtain⟨tl,t0,t1,t2,t3,t4,t5,t6,t7,t8⟩:=T.e9;go_wp2_with fail;refine (KS _ hyP).mono ?_;rintro e w13 ⟨m2,rfl,hm2,hP2,hb⟩;replace hu:=hu.below hb;replace hB:=za_ hB hb;replace hyP:=OwnN.below hyP hb;replace T:=T.below hb;replace hP1:=zd_ hP1 hb;replace M1:=M1.below hb;have hzw13:=hb.size;clear hb;obtain⟨m2n,m2a,m2b⟩:=m2;replace hm2:m2n=m1n:=hm2;subst hm2;clear KS tl t0 t1 t2 t3 t4 t5 t6 t7 t8;replace hP2:w13.ownsRow w12.heap.size 34 2 (.slice m2a m2n.es.length m2b) m2n.es.length (zE_ m2n.es):=hP2;have hBA:=zc_ w13 (.cells #[m2n.ki,m2n.fr,m2n.dst,m2n.te,m2n.ix,m2n.be,.slice m2a m2n.es.length m2b,m2n.co,m2n.ye] 38);have M2:=Box.new w13 #[m2n.ki,m2n.fr,m2n.dst,m2n.te,m2n.ix,m2n.be,.slice m2a m2n.es.length m2b,m2n.co,m2n.ye] 38;replace hu:=hu.below hBA;replace hB:=za_ hB hBA;replace hyP:=OwnN.below hyP hBA;replace T:=T.below hBA;replace hP1:=zd_ hP1 hBA;replace M1:=M1.below hBA;replace hP2:=zd_ hP2 hBA;go_upto_region 13 with fail;obtain⟨w14,hWn⟩:∃W,W=w13.alloc (.cells #[m2n.ki,m2n.fr,m2n.dst,m2n.te,m2n.ix,m2n.be,.slice m2a m2n.es.length m2b,m2n.co,m2n.ye] 38):=⟨_,rfl⟩;have hzw14:w13.heap.size<w14.heap.size:=by rw [hWn];simp
  rw [←hWn] at M2 hu hB hyP T hP1 M1 hP2 ⊢;clear hWn hBA;have M2:Box w14 w13.heap.size [m2n.ki,m2n.fr,m2n.dst,m2n.te,m2n.ix,m2n.be,.slice m2a m2n.es.length m2b,m2n.co,m2n.ye]:=M2;obtain⟨b18,hbk⟩:∃b,Hid (w13.heap.size=b):=⟨_,rfl⟩;rw [hbk.out] at M2 ⊢;have hb18l:w13.heap.size≤b18:=by have:=hbk.out;omega
  have hb18u:b18≤w13.heap.size:=by have:=hbk.out;omega
  clear hbk;obtain⟨sl,s0,s1,s2,s3,s4,s5,s6,s7,s8⟩:=M1.e9;obtain⟨ul,u0,u1,u2,u3,u4,u5,u6,u7,u8⟩:=M2.e9;have bA:=zc_ w14 (.cells #[m2n.ki,m2n.fr,m2n.dst,m2n.te,m2n.ix,m2n.be,.slice m1a m2n.es.length m1b,m2n.co,m2n.ye] 38);have A1:=Box.new w14 #[m2n.ki,m2n.fr,m2n.dst,m2n.te,m2n.ix,m2n.be,.slice m1a m2n.es.length m1b,m2n.co,m2n.ye] 38;replace hu:=hu.below bA;replace hB:=za_ hB bA;replace hyP:=OwnN.below hyP bA;replace T:=T.below bA;replace hP1:=zd_ hP1 bA;replace M1:=M1.below bA;replace hP2:=zd_ hP2 bA;replace M2:=M2.below bA;obtain⟨w15,hw15⟩:∃W,W=w14.alloc (.cells #[m2n.ki,m2n.fr,m2n.dst,m2n.te,m2n.ix,m2n.be,.slice m1a m2n.es.length m1b,m2n.co,m2n.ye] 38):=⟨_,rfl⟩;have hz15:w14.heap.size<w15.heap.size:=by rw [hw15];simp
  have bB:=zc_ (w14.alloc (.cells #[m2n.ki,m2n.fr,m2n.dst,m2n.te,m2n.ix,m2n.be,.slice m1a m2n.es.length m1b,m2n.co,m2n.ye] 38)) (.cells #[m2n.ki,m2n.fr,m2n.dst,m2n.te,m2n.ix,m2n.be,.slice m2a m2n.es.length m2b,m2n.co,m2n.ye] 38);have A2:=Box.new (w14.alloc (.cells #[m2n.ki,m2n.fr,m2n.dst,m2n.te,m2n.ix,m2n.be,.slice m1a m2n.es.length m1b,m2n.co,m2n.ye] 38)) #[m2n.ki,m2n.fr,m2n.dst,m2n.te,m2n.ix,m2n.be,.slice m2a m2n.es.length m2b,m2n.co,m2n.ye] 38;replace A1:=A1.below bB;replace hu:=hu.below bB;replace hB:=za_ hB bB;replace hyP:=OwnN.below hyP bB;replace T:=T.below bB;replace hP1:=zd_ hP1 bB;replace M1:=M1.below bB;replace hP2:=zd_ hP2 bB;replace M2:=M2.below bB;have hz16:(w14.alloc (.cells #[m2n.ki,m2n.fr,m2n.dst,m2n.te,m2n.ix,m2n.be,.slice m1a m2n.es.length m1b,m2n.co,m2n.ye] 38)).heap.size=w14.heap.size+1:=by simp
  rw [hz16] at A2;clear bA bB hw15 hz15;have KM:=fun (W:World) (h1:W.ownsRow w10.heap.size 34 2 (.slice m1a m2n.es.length m1b) m2n.es.length (zE_ m2n.es)) (h2:W.ownsRow w12.heap.size 34 2 (.slice m2a m2n.es.length m2b) m2n.es.length (zE_ m2n.es)) (X:Box W w14.heap.size [m2n.ki,m2n.fr,m2n.dst,m2n.te,m2n.ix,m2n.be,.slice m1a m2n.es.length m1b,m2n.co,m2n.ye]) (Y:Box W (w14.heap.size+1) [m2n.ki,m2n.fr,m2n.dst,m2n.te,m2n.ix,m2n.be,.slice m2a m2n.es.length m2b,m2n.co,m2n.ye])=>sameMsgs_one _ _ _ _ _ _ _ _ _ _ _ _ _ _ m2n.es W X Y (zO_ h1 rfl) (zO_ h2 rfl) (by omega);go_wp2_with fail;refine (KM _ hP1 hP2 A1 A2).mono ?_;rintro e w16 ⟨rfl,hb⟩;replace hu:=hu.below hb;replace hB:=za_ hB hb;replace hyP:=OwnN.below hyP hb;replace T:=T.below hb;replace hP1:=zd_ hP1 hb;replace M1:=M1.below hb;replace hP2:=zd_ hP2 hb;replace M2:=M2.below hb;clear hb KM hP2 M2 sl s0 s1 s2 s3 s4 s5 s6 s7 s8 ul u0 u1 u2 u3 u4 u5 u6 u7 u8 A1 A2 hz16;have hzw16:=hB.size;go_upto_region 15 with fail
  go_cut [162] from 27 (fun s162 wc=>s162= .bool false∧Below w.heap.size w wc∧YL wc (.slice vb l1.length vd) l1)
  case first=>
   cases ok2 with
   | false=>
    clear hP1 hyP T M1 hq hok2 hqs;go_wp2_with fail
    go_quiet (fail)
    go_wp2_with fail;go_meet
    case rel=>exact⟨rfl,below_drewN hB _,hu.below (below_drewN (Below.refl _ _) _)⟩
   | true=>
    obtain⟨p,hix,hpl,hmn,hes,hgood⟩:=af_facts hok2;replace hq:afX x.n pr mn=m2n:=hq;rw [hq] at hix hpl hmn hes hgood;rw [hix] at M1 hgood;have hE1:=zO_ hP1 rfl;have KG:=fun (W:World) (h:Below w16.heap.size w16 W)=>implGoodM_any x.n.pe m2n.ki m2n.fr m2n.dst m2n.te (p:Int) m2n.be m2n.co m2n.ye _ m2n.es W (hE1.below h) (by omega) hqs;rw [hgood] at KG;have hcap:x.n.log.length≤x.lc:=(owns_cap hyP.l).1;obtain⟨a2,HSL,hE2⟩:=sl_mid w16 x.la x.lc p m2n.es.length x.n.log (OwnN.er hyP) hcap hpl;rw [←hes] at hE2;have KE:=fun (W:World) (h:Below w16.heap.size w16 W)=>yg_ _ _ m2n.es W (hE1.below h) (hE2.below h) (by omega);have hnl:=hyB.l;have i1:¬(mn:Int)<(m2n.es.length:Int):=by omega
    have e7:Hid (IntKind.i64.wrap ((p:Int)+(m2n.es.length:Int))=(p:Int)+(m2n.es.length:Int)):=by show _=_;rw [IntKind.wrap_i64];omega
    have hd0:Below w16.heap.size w16 w16.drew:=(Below.refl _ _).drew;replace T:=T.below hd0;replace M1:=M1.below hd0;clear hP1 hyP hq hok2 hqs hgood hes hE1 hE2 hpl hcap hnl hmn;go_wp2_with fail;refine wp_region_held_drew (S:=(fun w'=>Box w' b16 [m2n.ki,m2n.fr,m2n.dst,m2n.te,(p:Int),m2n.be,.slice m1a m2n.es.length m1b,m2n.co,m2n.ye]∧Box w' b13 x)) (by kernel_rfl) ⟨M1,T⟩ (fun zb_=> ?_);generalize w16.drew=va at*;refine tkH 0 (.bool true) rfl ?_ ?_
    ·intro wx hSw;clear zb_ hSw;go_simp
    simp only [Act.put,sA_,sB_,sC_];refine tkH 1 (.bool true) rfl ?_ ?_
    ·intro wx hSw;clear zb_ hSw;go_simp
    simp only [Act.put,sA_,sB_,sC_];refine tkH 2 (.agg #[m2n.ki,m2n.fr,m2n.dst,m2n.te,(p:Int),m2n.be,.slice m1a m2n.es.length m1b,m2n.co,m2n.ye]) rfl ?_ ?_
    ·intro wx hSw;obtain⟨sl,s0,s1,s2,s3,s4,s5,s6,s7,s8⟩:=Box.e9 hSw.1;clear zb_ hSw;go_simp
    simp only [Act.put,sA_,sB_,sC_];refine tkH 3 (.pointer (some ⟨b13,1,none⟩)) rfl ?_ ?_
    ·intro wx hSw;clear zb_ hSw;go_simp
    simp only [Act.put,sA_,sB_,sC_];refine tkH 4 (.int .i64 x.n.pe) rfl ?_ ?_
    ·intro wx hSw;have e:=hSw.2.2.1 1 _ rfl;have e2:=hSw.2.1;clear zb_ hSw;go_simp
    simp only [Act.put,sA_,sB_,sC_];refine rd1 5 rfl (fun K hK=> ?_);clear zb_;go_simp;refine (KG _ hd0).mono ?_;rintro e wg ⟨rfl,hb⟩;replace hd0:=za_ hd0 hb;replace T:=T.below hb;replace M1:=M1.below hb;clear hb;refine hK.out _ wg ⟨M1,T⟩ (fun zb_=> ?_);clear hK K
    try (simp only [Act.put,sA_,sB_,sC_])
    refine tkH 6 (.bool false) rfl ?_ ?_
    ·intro wx hSw;clear zb_ hSw;go_simp
    simp only [Act.put,sA_,sB_,sC_];refine tkH 7 (.bool false) rfl ?_ ?_
    ·intro wx hSw;clear zb_ hSw;go_simp
    simp only [Act.put,sA_,sB_,sC_];refine tkH 8 (.pointer (some ⟨b16,6,none⟩)) rfl ?_ ?_
    ·intro wx hSw;clear zb_ hSw;go_simp
    simp only [Act.put,sA_,sB_,sC_];refine tkH 9 (.slice m1a m2n.es.length m1b) rfl ?_ ?_
    ·intro wx hSw;have e:=hSw.1.2.1 6 _ rfl;have e2:=hSw.1.1;clear zb_ hSw;go_simp
    simp only [Act.put,sA_,sB_,sC_];refine tkH 10 (.int .i64 (m2n.es.length:Int)) rfl ?_ ?_
    ·intro wx hSw;clear zb_ hSw;go_simp
    simp only [Act.put,sA_,sB_,sC_];refine tkH 11 (.int .i64 mn) rfl ?_ ?_
    ·intro wx hSw;clear zb_ hSw;go_simp
    simp only [Act.put,sA_,sB_,sC_];refine tkH 12 (.bool false) rfl ?_ ?_
    ·intro wx hSw;clear zb_ hSw;go_simp
    simp only [Act.put,sA_,sB_,sC_];refine tkH 13 (.bool false) rfl ?_ ?_
    ·intro wx hSw;clear zb_ hSw;go_simp
    simp only [Act.put,sA_,sB_,sC_];refine tkH 14 (.bool false) rfl ?_ ?_
    ·intro wx hSw;clear zb_ hSw;go_simp
    simp only [Act.put,sA_,sB_,sC_];refine tkH 15 (.pointer (some ⟨b16,6,none⟩)) rfl ?_ ?_
    ·intro wx hSw;clear zb_ hSw;go_simp
    simp only [Act.put,sA_,sB_,sC_];refine tkH 16 (.slice m1a m2n.es.length m1b) rfl ?_ ?_
    ·intro wx hSw;have e:=hSw.1.2.1 6 _ rfl;have e2:=hSw.1.1;clear zb_ hSw;go_simp
    simp only [Act.put,sA_,sB_,sC_];refine tkH 17 (.pointer (some ⟨b13,4,none⟩)) rfl ?_ ?_
    ·intro wx hSw;clear zb_ hSw;go_simp
    simp only [Act.put,sA_,sB_,sC_];refine tkH 18 (.slice x.la x.n.log.length x.lc) rfl ?_ ?_
    ·intro wx hSw;have e:=hSw.2.2.1 4 _ rfl;have e2:=hSw.2.1;clear zb_ hSw;go_simp
    simp only [Act.put,sA_,sB_,sC_];refine tkH 19 (.pointer (some ⟨b16,4,none⟩)) rfl ?_ ?_
    ·intro wx hSw;clear zb_ hSw;go_simp
    simp only [Act.put,sA_,sB_,sC_];refine tkH 20 (.int .i64 (p:Int)) rfl ?_ ?_
    ·intro wx hSw;have e:=hSw.1.2.1 4 _ rfl;have e2:=hSw.1.1;clear zb_ hSw;go_simp
    simp only [Act.put,sA_,sB_,sC_];refine tkH 21 (.pointer (some ⟨b16,4,none⟩)) rfl ?_ ?_
    ·intro wx hSw;clear zb_ hSw;go_simp
    simp only [Act.put,sA_,sB_,sC_];refine tkH 22 (.int .i64 (p:Int)) rfl ?_ ?_
    ·intro wx hSw;have e:=hSw.1.2.1 4 _ rfl;have e2:=hSw.1.1;clear zb_ hSw;go_simp
    simp only [Act.put,sA_,sB_,sC_];refine tkH 23 (.pointer (some ⟨b16,6,none⟩)) rfl ?_ ?_
    ·intro wx hSw;clear zb_ hSw;go_simp
    simp only [Act.put,sA_,sB_,sC_];refine tkH 24 (.slice m1a m2n.es.length m1b) rfl ?_ ?_
    ·intro wx hSw;have e:=hSw.1.2.1 6 _ rfl;have e2:=hSw.1.1;clear zb_ hSw;go_simp
    simp only [Act.put,sA_,sB_,sC_];refine tkH 25 (.int .i64 (m2n.es.length:Int)) rfl ?_ ?_
    ·intro wx hSw;clear zb_ hSw;go_simp
    simp only [Act.put,sA_,sB_,sC_];refine tkH 26 (.int .i64 ((p:Int)+(m2n.es.length:Int))) rfl ?_ ?_
    ·intro wx hSw;clear zb_ hSw;go_simp;exact e7.out
    simp only [Act.put,sA_,sB_,sC_];refine tkH 27 (.slice a2 m2n.es.length (x.lc-p)) rfl ?_ ?_
    ·intro wx hSw;have e:=HSL wx;clear zb_ hSw;go_simp
    simp only [Act.put,sA_,sB_,sC_];refine rd1 28 rfl (fun K hK=> ?_);clear zb_;go_simp;refine (KE _ hd0).mono ?_;rintro e we ⟨rfl,hb⟩;replace hd0:=za_ hd0 hb;replace T:=T.below hb;replace M1:=M1.below hb;clear hb;refine hK.out _ we ⟨M1,T⟩ (fun zb_=> ?_);clear hK K
    try (simp only [Act.put,sA_,sB_,sC_])
    refine tkH 29 (.bool false) rfl ?_ ?_
    ·intro wx hSw;clear zb_ hSw;go_simp
    simp only [Act.put,sA_,sB_,sC_];refine tkH 30 (.bool false) rfl ?_ ?_
    ·intro wx hSw;clear zb_ hSw;go_simp
    simp only [Act.put,sA_,sB_,sC_];refine tkH 31 (.bool false) rfl ?_ ?_
    ·intro wx hSw;clear zb_ hSw;go_simp
    simp only [Act.put,sA_,sB_,sC_];clear zb_;refine wpAnyH_done (by kernel_rfl) ?_ _;go_wp2_with fail;go_meet
    case rel=>exact⟨rfl,hB.trans (hd0.mono (by have:=hB.size;omega)),hu.below hd0⟩
  case rest=>
   clear T M1 hP1 hyP hB hu hqs hqb;obtain⟨rfl,hB,hu⟩:=hcut;generalize wc=w17 at*;clear hq hok2 hyB;go_wp2_with fail;refine (drawUT_any _ l1 w17 hu hq1).mono ?_;rintro e w18 ⟨⟨id,pe,te,vo,co,ro,log,vs,mt,la,lc,va,vc,ma,mc,ix,tm,rfl,oL,oV,oM,nl,nv,nm,ns⟩,hb⟩;replace hB:=za_ hB hb;have KI:=fun (W:World) (h:Below w18.heap.size w18 W)=>implUpTo_any id pe te vo co ro _ _ _ log vs mt ix tm W (zO_ (zd_ oL h) rfl) (zY_ (zd_ oV h) rfl) (zY_ (zd_ oM h) rfl) (by omega) (by omega) (by omega) ns;have KS:=fun (W:World) (h:Below w18.heap.size w18 W)=>specUpTo_any id pe te vo co ro _ _ _ log vs mt ix tm W (zO_ (zd_ oL h) rfl) (zY_ (zd_ oV h) rfl) (zY_ (zd_ oM h) rfl) (by omega) (by omega) (by omega) ns;generalize upB (zk_ id pe te vo co ro log vs mt) log ix tm=ub at*;generalize upOk (zk_ id pe te vo co ro log vs mt) ix tm=uo at*;clear oL oV oM hu hb nl nv nm ns;have hbx:Below w18.heap.size w18 w18:=Below.refl _ _;have hBA:=zc_ w18 (.cells #[id,pe,te,vo,.slice la log.length lc,co,ro,.slice va vs.length vc,.slice ma mt.length mc] 26);have T:=Box.new w18 #[id,pe,te,vo,.slice la log.length lc,co,ro,.slice va vs.length vc,.slice ma mt.length mc] 26;replace hB:=za_ hB hBA;replace hbx:=za_ hbx hBA;go_upto_region 18 with fail;obtain⟨w19,hWn⟩:∃W,W=w18.alloc (.cells #[id,pe,te,vo,.slice la log.length lc,co,ro,.slice va vs.length vc,.slice ma mt.length mc] 26):=⟨_,rfl⟩;have hzw19:w18.heap.size<w19.heap.size:=by rw [hWn];simp
   rw [←hWn] at T hB hbx ⊢;clear hWn hBA;have T:Box w19 w18.heap.size [id,pe,te,vo,.slice la log.length lc,co,ro,.slice va vs.length vc,.slice ma mt.length mc]:=T;obtain⟨b20,hbk⟩:∃b,Hid (w18.heap.size=b):=⟨_,rfl⟩;rw [hbk.out] at T ⊢;have hb20l:w18.heap.size≤b20:=by have:=hbk.out;omega
   have hb20u:b20≤w18.heap.size:=by have:=hbk.out;omega
   clear hbk;obtain⟨tl,t0,t1,t2,t3,t4,t5,t6,t7,t8⟩:=T.e9;go_wp2_with fail;refine (KI _ hbx).mono ?_;rintro e w20 ⟨rfl,hb⟩;replace hB:=za_ hB hb;replace T:=T.below hb;replace hbx:=za_ hbx hb;clear hb KI tl t0 t1 t2 t3 t4 t5 t6 t7 t8;obtain⟨tl,t0,t1,t2,t3,t4,t5,t6,t7,t8⟩:=T.e9;go_wp2_with fail;refine (KS _ hbx).mono ?_;rintro e w21 ⟨rfl,hb⟩;replace hB:=za_ hB hb;clear hb KS tl t0 t1 t2 t3 t4 t5 t6 t7 t8 T hbx
   cases uo <;>cases ub <;>(go_wp2;go_ret;exact⟨rfl,hB⟩)
end Go.Proofs.Ytapfhhmimkkhnaa
