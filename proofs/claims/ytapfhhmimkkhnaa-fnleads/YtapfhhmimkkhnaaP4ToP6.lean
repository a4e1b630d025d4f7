/-
  A node is good: the program's hasGoodRole and GoodNode.
  A node is good: the program's GoodNode.
  A node is good: the specification's side.
-/
import Derived.Test.YtapfhhmimkkhnaaP2ToP3
namespace Go.Proofs.Ytapfhhmimkkhnaa
open Go.RowKit
set_option linter.unusedVariables false
set_option maxRecDepth 100000
set_option maxHeartbeats 4000000
theorem goodRo_0 (id pe te vo n:Int) (vs mt:List Int):zC_ id pe te vo 0 n vs mt=(decide ((vs.length:Int)=0)&&decide ((mt.length:Int)=0)):=by simp [zC_]
theorem goodRo_1 (id pe te vo n:Int) (vs mt:List Int):zC_ id pe te vo 1 n vs mt=(ownT id te vo&&goodVs pe id vs&&decide ((mt.length:Int)=0)):=by simp [zC_]
theorem goodRo_2 (id pe te vo n:Int) (vs mt:List Int):zC_ id pe te vo 2 n vs mt=(ownT id te vo&&decide ((vs.length:Int)=0)&&goodMt pe id n mt):=by simp [zC_]
theorem goodRo_x (id pe te vo ro n:Int) (vs mt:List Int) (h0:¬ro=0) (h1:¬ro=1) (h2:¬ro=2):zC_ id pe te vo ro n vs mt=false:=by simp [zC_,h0,h1,h2]
theorem hasGoodRole_any (id pe te vo co ro:Int) (vl vv vm:Value) (log:List En) (vs mt:List Int) (w:World) (hl:ER w vl log) (hv:IL w vv vs) (hm:IL w vm mt) (nl:log.length≤1048576) (nv:vs.length≤1048576) (nm:mt.length≤1048576) (ns:∀i (h:i<log.length),log[i].d.size≤1048576) (hi0:0≤id) (hi1:id<pe):
  Calls Try.prog 111 #[.agg #[id,pe,te,vo,vl,co,ro,vv,vm]] w fun e w'=>e= .returned (.bool (zC_ id pe te vo ro log.length vs mt))∧Below w.heap.size w w':=by
 have hB:=zc_ w (.cells #[id,pe,te,vo,vl,co,ro,vv,vm] 26);have X:=Box.new w #[id,pe,te,vo,vl,co,ro,vv,vm] 26;by_cases r0:ro=0
 ·subst r0;have HR:Hid (zC_ id pe te vo 0 log.length vs mt=(decide ((vs.length:Int)=0)&&decide ((mt.length:Int)=0))):=goodRo_0 _ _ _ _ _ _ _;generalize zC_ id pe te vo 0 log.length vs mt=R at*;obtain⟨la,lc,rfl,hlc⟩:=hl;obtain⟨va,vc,rfl,hvc⟩:=hv;obtain⟨ma,mc,rfl,hmc⟩:=hm;clear hlc hvc hmc ns X nv nm;generalize vs.length=a1 at*;generalize mt.length=a2 at*;rcases Nat.eq_zero_or_pos a1 with rfl | z1
  ·rcases Nat.eq_zero_or_pos a2 with rfl | z2
   ·go_enter Try.func111,Try.ntmps111;go_wp2;go_ret;exact⟨by rw [HR.out];rfl,hB⟩
   ·have z3:((a2:Int)==0)=false:=by simp;omega
    have z4:¬(a2:Int)=0:=by omega
    go_enter Try.func111,Try.ntmps111;go_wp2;go_ret;exact⟨by rw [HR.out,decide_eq_false z4];rfl,hB⟩
  ·have z3:((a1:Int)==0)=false:=by simp;omega
   have z4:¬(a1:Int)=0:=by omega
   go_enter Try.func111,Try.ntmps111;go_wp2;go_ret;exact⟨by rw [HR.out,decide_eq_false z4];rfl,hB⟩
 by_cases r1:ro=1
 ·subst r1;have HR:Hid (zC_ id pe te vo 1 log.length vs mt=(ownT id te vo&&goodVs pe id vs&&decide ((mt.length:Int)=0))):=goodRo_1 _ _ _ _ _ _ _;have KV:=fun W (h:Below w.heap.size w W)=>hasGoodVotes_any id pe te vo co 1 vl vv vm log vs mt W (hl.below h) (hv.below h) (hm.below h) nl nv nm ns;have KO:=fun W=>isOwnTerm_any id pe te vo co 1 vl vv vm W;generalize zC_ id pe te vo 1 log.length vs mt=R at*;obtain⟨la,lc,rfl,hlc⟩:=hl;obtain⟨va,vc,rfl,hvc⟩:=hv;obtain⟨ma,mc,rfl,hmc⟩:=hm;clear hlc hvc hmc ns r0;generalize ownT id te vo=bo at*;generalize goodVs pe id vs=bv at*;clear nv nm;generalize vs.length=a1 at*;generalize mt.length=a2 at*;go_enter Try.func111,Try.ntmps111;go_wp2_with fail;refine (KO _).mono ?_;rintro e w1 ⟨rfl,hb1⟩;replace hB:=za_ hB hb1;replace X:=X.below hb1;obtain⟨hxl,x0,x1,x2,x3,x4,x5,x6,x7,x8⟩:=X.e9;clear hb1 KO
  cases bo with
  | false=>
   go_wp2;go_ret;exact⟨by rw [HR.out];rfl,hB⟩
  | true=>
   go_wp2_with fail;refine (KV _ hB).mono ?_;rintro e w2 ⟨rfl,hb2⟩;replace hB:=za_ hB hb2;replace X:=X.below hb2;clear hb2 KV x0 x1 x2 x3 x4 x5 x6 x7 x8 hxl;obtain⟨hxl,x0,x1,x2,x3,x4,x5,x6,x7,x8⟩:=X.e9
   cases bv with
   | false=>
    go_wp2;go_ret;exact⟨by rw [HR.out];rfl,hB⟩
   | true=>
    rcases Nat.eq_zero_or_pos a2 with rfl | z2
    ·go_wp2;go_ret;exact⟨by rw [HR.out];rfl,hB⟩
    ·have z3:((a2:Int)==0)=false:=by simp;omega
     have z4:¬(a2:Int)=0:=by omega
     go_wp2;go_ret;exact⟨by rw [HR.out,decide_eq_false z4];rfl,hB⟩
 by_cases r2:ro=2
 ·subst r2;have HR:Hid (zC_ id pe te vo 2 log.length vs mt=(ownT id te vo&&decide ((vs.length:Int)=0)&&goodMt pe id log.length mt)):=goodRo_2 _ _ _ _ _ _ _;have KM:=fun W (h:Below w.heap.size w W)=>hasGoodMatch_any id pe te vo co 2 vl vv vm log vs mt W (hl.below h) (hv.below h) (hm.below h) nl nv nm ns hi0 hi1;have KO:=fun W=>isOwnTerm_any id pe te vo co 2 vl vv vm W;generalize zC_ id pe te vo 2 log.length vs mt=R at*;obtain⟨la,lc,rfl,hlc⟩:=hl;obtain⟨va,vc,rfl,hvc⟩:=hv;obtain⟨ma,mc,rfl,hmc⟩:=hm;clear hlc hvc hmc ns r0 r1;generalize ownT id te vo=bo at*;generalize goodMt pe id log.length mt=bm at*;clear nv nm;generalize vs.length=a1 at*;generalize mt.length=a2 at*;go_enter Try.func111,Try.ntmps111;go_wp2_with fail;refine (KO _).mono ?_;rintro e w1 ⟨rfl,hb1⟩;replace hB:=za_ hB hb1;replace X:=X.below hb1;obtain⟨hxl,x0,x1,x2,x3,x4,x5,x6,x7,x8⟩:=X.e9;clear hb1 KO
  cases bo with
  | false=>
   go_wp2;go_ret;exact⟨by rw [HR.out];rfl,hB⟩
  | true=>
   rcases Nat.eq_zero_or_pos a1 with rfl | z1
   ·go_wp2_with fail;refine (KM _ hB).mono ?_;rintro e w2 ⟨rfl,hb2⟩;replace hB:=za_ hB hb2;clear hb2 KM;go_wp2;go_ret;exact⟨by rw [HR.out];rfl,hB⟩
   ·have z3:((a1:Int)==0)=false:=by simp;omega
    have z4:¬(a1:Int)=0:=by omega
    go_wp2;go_ret;exact⟨by rw [HR.out,decide_eq_false z4];rfl,hB⟩
 ·have HR:Hid (zC_ id pe te vo ro log.length vs mt=false):=goodRo_x _ _ _ _ _ _ _ _ r0 r1 r2;generalize zC_ id pe te vo ro log.length vs mt=R at*;obtain⟨la,lc,rfl,hlc⟩:=hl;obtain⟨va,vc,rfl,hvc⟩:=hv;obtain⟨ma,mc,rfl,hmc⟩:=hm;clear hlc hvc hmc ns X;go_enter Try.func111,Try.ntmps111;go_wp2;go_ret;exact⟨by rw [HR.out];try rfl,hB⟩
set_option maxHeartbeats 8000000
theorem implGoodN_any (id pe te vo co ro:Int) (vl vv vm:Value) (log:List En) (vs mt:List Int) (w:World) (hl:ER w vl log) (hv:IL w vv vs) (hm:IL w vm mt) (nl:log.length≤1048576) (nv:vs.length≤1048576) (nm:mt.length≤1048576) (ns:∀i (h:i<log.length),log[i].d.size≤1048576):
  Calls Try.prog 56 #[.agg #[id,pe,te,vo,vl,co,ro,vv,vm]] w fun e w'=>e= .returned (.bool (zk_ id pe te vo co ro log vs mt))∧Below w.heap.size w w':=by
 have hB:=zc_ w (.cells #[id,pe,te,vo,vl,co,ro,vv,vm] 26);have X:=Box.new w #[id,pe,te,vo,vl,co,ro,vv,vm] 26;have HO:Hid (zk_ id pe te vo co ro log vs mt=(decide (1≤pe)&&decide (pe≤7)&&isP id pe&&decide (0≤te)&&decide (te≤1000)&&(decide (vo= -1) || isP vo pe)&&decide ((log.length:Int)≤60)&&gE te 0 log&&decide (0≤co)&&decide (co≤(log.length:Int))&&zC_ id pe te vo ro log.length vs mt)):=rfl;have KR:=fun (hi:isP id pe=true) W (h:Below w.heap.size w W)=>hasGoodRole_any id pe te vo co ro vl vv vm log vs mt W (hl.below h) (hv.below h) (hm.below h) nl nv nm ns (by simp [isP] at hi;omega) (by simp [isP] at hi;omega);have KE:=goodEntries_any vl log te _ (hl.below hB) nl ns;have KI:=fun W=>isPeer_any id pe W;have KJ:=fun W=>isPeer_any vo pe W;generalize zk_ id pe te vo co ro log vs mt=R at*;generalize zC_ id pe te vo ro log.length vs mt=br at*;generalize gE te 0 log=be at*;generalize isP id pe=bi at*;generalize isP vo pe=bj at*;obtain⟨la,lc,rfl,hlc⟩:=hl;obtain⟨va,vc,rfl,hvc⟩:=hv;obtain⟨ma,mc,rfl,hmc⟩:=hm;clear hlc hvc hmc ns;obtain⟨W0,hW0⟩:∃W0,W0=w.alloc (.cells #[id,pe,te,vo,.slice la log.length lc,co,ro,.slice va vs.length vc,.slice ma mt.length mc] 26):=⟨_,rfl⟩;rw [←hW0] at hB X KE;obtain⟨hxl,x0,x1,x2,x3,x4,x5,x6,x7,x8⟩:=X.e9;by_cases c1:1≤pe;rotate_left
 ·go_enter Try.func56,Try.ntmps56;simp only [List.append_eq,List.cons_append,List.nil_append];go_wp2;rw [←hW0];go_ret;exact⟨by rw [HO.out];simp <;>omega,hB⟩
 by_cases c2:pe≤7;rotate_left
 ·go_enter Try.func56,Try.ntmps56;simp only [List.append_eq,List.cons_append,List.nil_append];go_wp2;rw [←hW0];go_ret;exact⟨by rw [HO.out];simp <;>omega,hB⟩
 go_enter Try.func56,Try.ntmps56;simp only [List.append_eq,List.cons_append,List.nil_append];go_wp2_with fail;rw [←hW0];clear hW0;refine (KI _).mono ?_;rintro e w1 ⟨rfl,rfl⟩;clear KI
 cases bi
 ·go_wp2;go_ret;exact⟨by rw [HO.out];simp <;>omega,hB⟩
 replace KR:=KR rfl;by_cases c3:0≤te;rotate_left
 ·go_wp2;go_ret;exact⟨by rw [HO.out];simp <;>omega,hB⟩
 by_cases c4:te≤1000;rotate_left
 ·go_wp2;go_ret;exact⟨by rw [HO.out];simp <;>omega,hB⟩
 have HV:Hid (R=((decide (vo= -1) || bj)&&decide ((log.length:Int)≤60)&&be&&decide (0≤co)&&decide (co≤(log.length:Int))&&br)):=by
  show _=_;rw [HO.out,decide_eq_true c1,decide_eq_true c2,decide_eq_true c3,decide_eq_true c4];simp
 clear HO;by_cases c5:vo= -1
 ·subst c5;have HO:Hid (R=(decide ((log.length:Int)≤60)&&be&&decide (0≤co)&&decide (co≤(log.length:Int))&&br)):=by
   show _=_;rw [HV.out];simp
  clear HV KJ;by_cases c6:(log.length:Int)≤60;rotate_left
  ·go_wp2;go_ret;exact⟨by rw [HO.out];simp <;>omega,hB⟩
  go_wp2_with fail;refine KE.mono ?_;rintro e w2 ⟨rfl,hb2⟩;replace hB:=za_ hB hb2;replace X:=X.below hb2;clear x0 x1 x2 x3 x4 x5 x6 x7 x8 hxl;obtain⟨hxl,x0,x1,x2,x3,x4,x5,x6,x7,x8⟩:=X.e9;clear KE hb2
  cases be
  ·go_wp2;go_ret;exact⟨by rw [HO.out];simp <;>omega,hB⟩
  by_cases c7:0≤co;rotate_left
  ·go_wp2;go_ret;exact⟨by rw [HO.out];simp <;>omega,hB⟩
  by_cases c8:co≤(log.length:Int);rotate_left
  ·go_wp2;go_ret;exact⟨by rw [HO.out];simp <;>omega,hB⟩
  go_wp2_with fail;refine (KR _ hB).mono ?_;rintro e w3 ⟨rfl,hb3⟩;replace hB:=za_ hB hb3;clear KR hb3;go_wp2;go_ret;exact⟨by rw [HO.out];simp <;>omega,hB⟩
 ·go_wp2_with fail;refine (KJ _).mono ?_;rintro e w1 ⟨rfl,rfl⟩;clear KJ;have HO:Hid (R=(bj&&(decide ((log.length:Int)≤60)&&be&&decide (0≤co)&&decide (co≤(log.length:Int))&&br))):=by
   show _=_;rw [HV.out,decide_eq_false c5];simp [Bool.and_assoc]
  clear HV
  cases bj
  ·go_wp2;go_ret;exact⟨by rw [HO.out];simp <;>omega,hB⟩
  by_cases c6:(log.length:Int)≤60;rotate_left
  ·go_wp2;go_ret;exact⟨by rw [HO.out];simp <;>omega,hB⟩
  go_wp2_with fail;refine KE.mono ?_;rintro e w2 ⟨rfl,hb2⟩;replace hB:=za_ hB hb2;replace X:=X.below hb2;clear x0 x1 x2 x3 x4 x5 x6 x7 x8 hxl;obtain⟨hxl,x0,x1,x2,x3,x4,x5,x6,x7,x8⟩:=X.e9;clear KE hb2
  cases be
  ·go_wp2;go_ret;exact⟨by rw [HO.out];simp <;>omega,hB⟩
  by_cases c7:0≤co;rotate_left
  ·go_wp2;go_ret;exact⟨by rw [HO.out];simp <;>omega,hB⟩
  by_cases c8:co≤(log.length:Int);rotate_left
  ·go_wp2;go_ret;exact⟨by rw [HO.out];simp <;>omega,hB⟩
  go_wp2_with fail;refine (KR _ hB).mono ?_;rintro e w3 ⟨rfl,hb3⟩;replace hB:=za_ hB hb3;clear KR hb3;go_wp2;go_ret;exact⟨by rw [HO.out];simp <;>omega,hB⟩
theorem isP_inB (v n:Int):inB v 0 (n-1)=isP v n:=by
 unfold inB isP;by_cases h:v<n
 ·rw [decide_eq_true (show v≤n-1 from by omega),decide_eq_true h]
 ·rw [decide_eq_false (show ¬v≤n-1 from by omega),decide_eq_false h]
theorem zK_ (id pe te vo co ro:Int) (log:List En) (vs mt:List Int):zk_ id pe te vo co ro log vs mt=
  (inB pe 1 7&&(inB id 0 (pe-1)&&(inB te 0 1000&&(inB vo (-1) (pe-1)&&((gE te 0 log&&decide ((log.length:Int)≤60))&&(inB co 0 log.length&&(inB ro 0 2&&zC_ id pe te vo ro log.length vs mt))))))):=by
 by_cases r:inB ro 0 2=true
 ·rw [r,isP_inB];unfold zk_;generalize zC_ id pe te vo ro log.length vs mt=b1;generalize gE te 0 log=b2;generalize isP id pe=b3;rw [Bool.eq_iff_iff]
  cases b1 <;>cases b2 <;>cases b3 <;>simp [inB,isP] <;>omega
 ·have h0:¬ro=0:=fun h=>r (by rw [h];rfl);have h1:¬ro=1:=fun h=>r (by rw [h];rfl);have h2:¬ro=2:=fun h=>r (by rw [h];rfl);unfold zk_;rw [goodRo_x _ _ _ _ _ _ _ _ h0 h1 h2];simp
theorem zt_ (id pe te vo co ro:Int) (vl vv vm:Value) (log:List En) (vs mt:List Int) (w:World) (hl:ER w vl log) (hv:IL w vv vs) (hm:IL w vm mt) (nl:log.length≤1048576) (nv:vs.length≤1048576) (nm:mt.length≤1048576) (ns:∀i (h:i<log.length),log[i].d.size≤1048576):
  Calls Try.prog 59 #[.agg #[id,pe,te,vo,vl,co,ro,vv,vm]] w fun e w'=>e= .returned (.bool (zk_ id pe te vo co ro log vs mt))∧Below w.heap.size w w':=by
 have hB:=zc_ w (.cells #[id,pe,te,vo,vl,co,ro,vv,vm] 26);have X:=Box.new w #[id,pe,te,vo,vl,co,ro,vv,vm] 26;have HO:Hid (zk_ id pe te vo co ro log vs mt=(inB pe 1 7&&(inB id 0 (pe-1)&&(inB te 0 1000&&(inB vo (-1) (pe-1)&&((gE te 0 log&&decide ((log.length:Int)≤60))&&(inB co 0 log.length&&(inB ro 0 2&&zC_ id pe te vo ro log.length vs mt)))))))):=zK_ _ _ _ _ _ _ _ _ _;have KP:=fun W=>l11Peers_any pe W;have K1:=fun W=>zs_ id 0 (pe-1) W;have K2:=fun W=>zs_ te 0 1000 W;have K3:=fun W=>zs_ vo (-1) (pe-1) W;have KE:=l11Entries_any vl log te _ (hl.below hB) nl ns;have K4:=fun W=>zs_ co 0 log.length W;have K5:=fun W=>zs_ ro 0 2 W;have KH:=fun W (h:Below w.heap.size w W)=>l10Has_any vv vs id W (hv.below h) nv;have HI:Hid (isP id pe=inB id 0 (pe-1)):=(isP_inB _ _).symm;generalize zk_ id pe te vo co ro log vs mt=R at*;generalize hb1:inB pe 1 7=b1 at*;generalize hb2:inB id 0 (pe-1)=b2 at*;generalize hb3:inB te 0 1000=b3 at*;generalize inB vo (-1) (pe-1)=b4 at*;generalize (gE te 0 log&&decide ((log.length:Int)≤60))=b5 at*;generalize inB co 0 log.length=b6 at*;generalize hb7:inB ro 0 2=b7 at*;obtain⟨la,lc,rfl,hlc⟩:=hl;obtain⟨va,vc,rfl,hvc⟩:=hv;obtain⟨ma,mc,rfl,hmc⟩:=hm;clear hlc ns;obtain⟨W0,hW0⟩:∃W0,W0=w.alloc (.cells #[id,pe,te,vo,.slice la log.length lc,co,ro,.slice va vs.length vc,.slice ma mt.length mc] 26):=⟨_,rfl⟩;rw [←hW0] at hB X KE;obtain⟨hxl,x0,x1,x2,x3,x4,x5,x6,x7,x8⟩:=X.e9;go_enter Try.func59,Try.ntmps59;go_wp2_with fail;rw [←hW0];clear hW0;refine (KP _).mono ?_;rintro e w1 ⟨rfl,rfl⟩;clear KP
 cases b1
 ·go_wp2;go_ret;exact⟨by rw [HO.out];rfl,hB⟩
 have pB:1≤pe∧pe≤7:=by simp [inB] at hb1;omega
 obtain⟨p1,p7⟩:=pB;clear hb1;go_wp2_with fail;refine (K1 _).mono ?_;rintro e w1 ⟨rfl,rfl⟩;clear K1
 cases b2
 ·go_wp2;go_ret;exact⟨by rw [HO.out];rfl,hB⟩
 have iB:0≤id∧id<pe:=by simp [inB] at hb2;omega
 obtain⟨i0,i1⟩:=iB;clear hb2 HI;go_wp2_with fail;refine (K2 _).mono ?_;rintro e w1 ⟨rfl,rfl⟩;clear K2
 cases b3
 ·go_wp2;go_ret;exact⟨by rw [HO.out];rfl,hB⟩
 have tB:0≤te:=by simp [inB] at hb3;omega
 clear hb3;go_wp2_with fail;refine (K3 _).mono ?_;rintro e w1 ⟨rfl,rfl⟩;clear K3
 cases b4
 ·go_wp2;go_ret;exact⟨by rw [HO.out];rfl,hB⟩
 go_wp2_with fail;refine KE.mono ?_;rintro e w1 ⟨rfl,hb⟩;replace hB:=za_ hB hb;replace X:=X.below hb;clear KE hb x0 x1 x2 x3 x4 x5 x6 x7 x8 hxl;obtain⟨hxl,x0,x1,x2,x3,x4,x5,x6,x7,x8⟩:=X.e9;replace KH:=KH _ hB
 cases b5
 ·go_wp2;go_ret;exact⟨by rw [HO.out];rfl,hB⟩
 go_wp2_with fail;refine (K4 _).mono ?_;rintro e w1 ⟨rfl,rfl⟩;clear K4
 cases b6
 ·go_wp2;go_ret;exact⟨by rw [HO.out];rfl,hB⟩
 go_wp2_with fail;refine (K5 _).mono ?_;rintro e w1 ⟨rfl,rfl⟩;clear K5
 cases b7
 ·go_wp2;go_ret;exact⟨by rw [HO.out];rfl,hB⟩
 have rB:ro=0∨ro=1∨ro=2:=by simp [inB] at hb7;omega
 clear hb7;have HR:Hid (R=zC_ id pe te vo ro log.length vs mt):=by show _=_;rw [HO.out];rfl
 clear HO;rcases rB with rfl | rfl | rfl
 ·have HR:Hid (R=(decide ((vs.length:Int)=0)&&decide ((mt.length:Int)=0))):=by show _=_;rw [HR.out,goodRo_0]
  clear hvc hmc KH;clear nv nm;generalize vs.length=a1 at*;generalize mt.length=a2 at*;rcases Nat.eq_zero_or_pos a1 with rfl | z1;rotate_left
  ·have z4:¬(a1:Int)=0:=by omega
   have z5:(0:Int)<(a1:Int):=by omega
   go_wp2;go_ret;exact⟨by rw [HR.out,decide_eq_false z4];rfl,hB⟩
  go_wp2
  go_loopw [107] (fun i wr=>i= .int .i64 0∧wr=w1) (fun _ _=>0)
  case atStart=>exact⟨rfl,rfl⟩
  case round=>
   obtain⟨rfl,rfl⟩:=hrel;rcases Nat.eq_zero_or_pos a2 with rfl | z2
   ·go_wp2;go_ret;exact⟨by rw [HR.out];rfl,hB⟩
   ·have z3:((a2:Int)==0)=false:=by simp;omega
    have z4:¬(a2:Int)=0:=by omega
    go_wp2;go_ret;exact⟨by rw [HR.out,decide_eq_false z4];rfl,hB⟩
 ·have HR:Hid (R=(ownT id te vo&&goodVs pe id vs&&decide ((mt.length:Int)=0))):=by show _=_;rw [HR.out,goodRo_1]
  clear hmc nm;generalize mt.length=a2 at*;by_cases ho:vo=id;rotate_left
  ·have HF:Hid (R=false):=by show _=_;rw [HR.out];simp [ownT,ho]
   clear hvc HR KH;go_wp2;go_ret;exact⟨by rw [HF.out];try rfl,hB⟩
  subst ho;by_cases ht:te=0
  ·have HF:Hid (R=false):=by show _=_;rw [HR.out,ht];simp [ownT]
   subst ht;clear hvc HR KH;go_wp2;go_ret;exact⟨by rw [HF.out];try rfl,hB⟩
  have HG:Hid (R=((gV pe vs&&(hsI vs vo&& !decide (pe<2*(vs.length:Int))))&&decide ((a2:Int)=0))):=by
   show _=_;rw [HR.out,show ownT vo te vo=true from by simp [ownT];omega];rfl
  clear HR;generalize hsI vs vo=b8 at*;go_wp2_with fail;refine KH.mono ?_;rintro e w2 ⟨rfl,rfl⟩;clear KH
  cases b8
  ·clear hvc;go_wp2;go_ret;exact⟨by rw [HG.out];simp,hB⟩
  by_cases h2:pe<2*(vs.length:Int)
  ·have HF:Hid (R=false):=by show _=_;rw [HG.out,decide_eq_true h2];simp
   clear hvc HG;go_wp2;go_ret;exact⟨by rw [HF.out];try rfl,hB⟩
  have HG2:Hid (R=(gV pe vs&&decide ((a2:Int)=0))):=by show _=_;rw [HG.out,decide_eq_false h2];simp
  clear HG;go_wp2
  go_loopw [107] (fun i wr=>∃k:Nat,k≤vs.length∧i= .int .i64 k∧vTo pe vs k=true∧wr=w2) (fun i _=>vs.length-(intOf i).toNat)
  case atStart=>exact⟨0,Nat.zero_le _,rfl,rfl,rfl⟩
  case round=>
   obtain⟨k,hk,rfl,hg,rfl⟩:=hrel;by_cases hlt:k<vs.length
   ·obtain⟨b,off,rfl,hbl,hcell⟩:=hvc (by intro e;simp [e] at hlt);have hc0:=(hB.cell (p:=⟨b,off+k,none⟩) hbl).trans (hcell k hlt);have KI:∀W,Calls Try.prog 68 #[.int .i64 vs[k],(0:Int),(pe-1:Int)] W fun e w'=>e= .returned (.bool (isP vs[k] pe))∧w'=W:=fun W=>by rw [←isP_inB];exact zs_ vs[k] 0 (pe-1) W
    have HAT:Hid (vAt pe vs k=(isP vs[k] pe&&(k==0 || decide (vs.getD (k-1) 0<vs[k])))):=vAt_eq pe vs k hlt;have HF:Hid (vAt pe vs k=false→gV pe vs=false):=fun h=>vTo_false pe vs k _ hlt h;have HN:Hid (vAt pe vs k=true→vTo pe vs (k+1)=true):=fun h=>by simp only [vTo,hg,h];rfl
    have hbW:b<wr.heap.size:=by have:=hB.size;omega
    cases hK:isP vs[k] pe with
    | false=>
     have HR:Hid (gV pe vs=false):=HF.out (by rw [HAT.out,hK];rfl);rw [hK] at KI;clear hcell hvc HAT hg hK HF HN;generalize vs[k]=s at*;go_wp2_with fail;refine (KI _).mono ?_;rintro e w3 ⟨rfl,rfl⟩;go_wp2;go_ret;exact⟨by rw [HG2.out,HR.out];rfl,hB⟩
    | true=>
     rw [hK] at KI;by_cases k0:k=0
     ·subst k0;have HG:Hid (vTo pe vs (0+1)=true):=HN.out (by rw [HAT.out,hK];rfl);rw [Nat.add_zero] at hc0;clear hcell hvc HAT hg hK HF HN;generalize vs[0]=s at*;go_wp2_with fail;refine (KI _).mono ?_;rintro e w3 ⟨rfl,rfl⟩;go_wp2;go_roundw
      case rel=>exact⟨1,by omega,by go_num,HG.out,by first | rfl | trivial⟩
      case measure=>simp [intOf];omega
     ·obtain⟨j,rfl⟩:∃j,k=j+1:=⟨k-1,by omega⟩;have hj:j<vs.length:=by omega
      have hd0:=(hB.cell (p:=⟨b,off+j,none⟩) hbl).trans (hcell j hj);have hdd:vs.getD (j+1-1) 0=vs[j]:=ya_ vs j hj;have HAT2:Hid (vAt pe vs (j+1)=decide (vs[j]<vs[j+1])):=by show _=_;rw [HAT.out,hK,hdd];simp
      have hpos:(0:Int)<((j+1:Nat):Int):=by omega
      have hj1:(((j+1:Nat):Int)-1)=(j:Int):=by omega
      by_cases hle:vs[j+1]≤vs[j]
      ·have HR:Hid (gV pe vs=false):=HF.out (by rw [HAT2.out];simp;omega);clear hcell hvc HAT hg hK HF HN HAT2 hdd;generalize vs[j+1]=s at*;generalize vs[j]=q at*;go_wp2_with fail;refine (KI _).mono ?_;rintro e w3 ⟨rfl,rfl⟩;go_wp2;go_ret;exact⟨by rw [HG2.out,HR.out];rfl,hB⟩
      ·have HG:Hid (vTo pe vs (j+1+1)=true):=HN.out (by rw [HAT2.out];simp;omega);clear hcell hvc HAT hg hK HF HN HAT2 hdd;generalize vs[j+1]=s at*;generalize vs[j]=q at*;go_wp2_with fail;refine (KI _).mono ?_;rintro e w3 ⟨rfl,rfl⟩;go_wp2;go_roundw
       case rel=>exact⟨j+1+1,by omega,by go_num,HG.out,by first | rfl | trivial⟩
       case measure=>simp [intOf];omega
   ·obtain rfl:k=vs.length:=by omega
    have HR:Hid (gV pe vs=true):=hg;clear hvc hg;rcases Nat.eq_zero_or_pos a2 with rfl | z2
    ·go_wp2;go_ret;exact⟨by rw [HG2.out,HR.out];rfl,hB⟩
    ·have z3:((a2:Int)==0)=false:=by simp;omega
     have z4:¬(a2:Int)=0:=by omega
     go_wp2;go_ret;exact⟨by rw [HG2.out,HR.out,decide_eq_false z4];rfl,hB⟩
 ·have HR:Hid (R=(ownT id te vo&&decide ((vs.length:Int)=0)&&goodMt pe id log.length mt)):=by show _=_;rw [HR.out,goodRo_2]
  clear hvc nv KH;generalize vs.length=a1 at*;by_cases ho:vo=id;rotate_left
  ·have HF:Hid (R=false):=by show _=_;rw [HR.out];simp [ownT,ho]
   clear hmc HR;go_wp2;go_ret;exact⟨by rw [HF.out];try rfl,hB⟩
  subst ho;by_cases ht:te=0
  ·have HF:Hid (R=false):=by show _=_;rw [HR.out,ht];simp [ownT]
   subst ht;clear hmc HR;go_wp2;go_ret;exact⟨by rw [HF.out];try rfl,hB⟩
  have ht2:(te==0)=false:=by simp [ht]
  have HG:Hid (R=(decide ((a1:Int)=0)&&goodMt pe vo log.length mt)):=by
   show _=_;rw [HR.out,show ownT vo te vo=true from by simp [ownT];omega];rfl
  clear HR;rcases Nat.eq_zero_or_pos a1 with rfl | z1;rotate_left
  ·have z4:¬(a1:Int)=0:=by omega
   have z5:(0:Int)<(a1:Int):=by omega
   clear hmc;go_wp2;go_ret;exact⟨by rw [HG.out,decide_eq_false z4];rfl,hB⟩
  obtain⟨i,rfl⟩:=Int.eq_ofNat_of_zero_le i0;have HM:Hid (R=(gM log.length mt&&(decide ((mt.length:Int)=pe)&&decide (mt.getD i 0=(log.length:Int))))):=by
   show _=_;rw [HG.out];unfold goodMt;rw [Int.toNat_natCast];generalize gM log.length mt=c1;generalize decide ((mt.length:Int)=pe)=c2
   cases c1 <;>cases c2 <;>rfl
  clear HG;go_wp2
  go_loopw [107] (fun i wr=>i= .int .i64 0∧wr=w1) (fun _ _=>0)
  case atStart=>exact⟨rfl,rfl⟩
  case round=>
   obtain⟨rfl,rfl⟩:=hrel;go_wp2
   go_loopw [143] (fun z wr'=>∃k:Nat,k≤mt.length∧z= .int .i64 k∧gM log.length mt=gM log.length (mt.drop k)∧wr'=wr) (fun z _=>mt.length-(intOf z).toNat)
   case atStart=>exact⟨0,Nat.zero_le _,rfl,rfl,rfl⟩
   case round=>
    obtain⟨k,hk,rfl,hg,rfl⟩:=hrel;by_cases hlt:k<mt.length
    ·obtain⟨b,off,rfl,hbl,hcell⟩:=hmc (by intro e;simp [e] at hlt);have hc0:=(hB.cell (p:=⟨b,off+k,none⟩) hbl).trans (hcell k hlt);have HD:Hid (gM log.length mt=(inB mt[k] 0 log.length&&gM log.length (mt.drop (k+1)))):=by show _=_;rw [hg,gM_drop _ mt k hlt];rfl
     have KI:=fun W=>zs_ mt[k] 0 log.length W;clear hcell hmc hg;generalize mt[k]=s at*;generalize inB s 0 log.length=b9 at*;go_wp2_with fail;refine (KI _).mono ?_;rintro e w3 ⟨rfl,rfl⟩;clear KI
     cases b9
     ·have HF:Hid (R=false):=by show _=_;rw [HM.out,HD.out];rfl
      clear HM HD;go_wp2;go_ret;exact⟨by rw [HF.out];try rfl,hB⟩
     ·go_wp2_with fail;go_roundw
      case rel=>exact⟨k+1,by omega,by go_num,HD.out,by first | rfl | trivial⟩
      case measure=>simp [intOf];omega
    ·obtain rfl:k=mt.length:=by omega
     have HT:Hid (R=(decide ((mt.length:Int)=pe)&&decide (mt.getD i 0=(log.length:Int)))):=by show _=_;rw [HM.out,hg,List.drop_length];rfl
     clear HM hg;by_cases hp:(mt.length:Int)=pe
     ·have hil:i<mt.length:=by omega
      obtain⟨b,off,rfl,hbl,hcell⟩:=hmc (by intro e;simp [e] at hil);have hd0:=(hB.cell (p:=⟨b,off+i,none⟩) hbl).trans (hcell i hil);have HT2:Hid (R=decide (mt[i]=(log.length:Int))):=by show _=_;rw [HT.out,decide_eq_true hp,ya_ mt i hil];rfl
      clear hcell hmc HT;generalize mt[i]=s at*;subst hp;have hd1:decide ((mt.length:Int)=(mt.length:Int))=true:=by simp
      by_cases hse:s=(log.length:Int)
      ·subst hse;go_wp2_with fail
       go_quiet (fail)
       go_wp2;go_ret;exact⟨by rw [HT2.out];simp,below_drewN hB _⟩
      ·go_wp2_with fail
       go_quiet (fail)
       go_wp2;go_ret;exact⟨by rw [HT2.out];simp [hse],below_drewN hB _⟩
     ·have hd1:decide ((mt.length:Int)=pe)=false:=by simp [hp]
      clear hmc;have HT2:Hid (R=false):=by show _=_;rw [HT.out,decide_eq_false hp];rfl
      clear HT;go_wp2_with fail
      go_quiet (fail)
      go_wp2;go_ret;exact⟨by rw [HT2.out];try rfl,below_drewN hB _⟩
end Go.Proofs.Ytapfhhmimkkhnaa
