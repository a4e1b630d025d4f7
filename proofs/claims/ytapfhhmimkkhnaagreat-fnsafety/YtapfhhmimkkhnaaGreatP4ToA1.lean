/-
  A node is good: the program's hasGoodRole and GoodNode.
  A node is good: the program's GoodNode.
  A node is good: the specification's side.
  A node as a struct: the law's own szRaftNode, toRaftNode, eqRaftNode, markRaftNode, heldRaftNode.
  Nodes compared, marked and held.
  Entries and numbers appended to rows of one's own, nil or not; slices of entries.
-/
import Derived.Test.YtapfhhmimkkhnaaGreatRF2ToP3
import Derived.Maps.AppendAt
namespace Go.Proofs.YtapfhhmimkkhnaaGreat
open Go.RowKit
set_option linter.unusedVariables false
set_option maxRecDepth 100000
set_option maxHeartbeats 4000000
theorem yC_ (id pe te vo n:Int) (vs mt:List Int):zH_ id pe te vo 0 n vs mt=(decide ((vs.length:Int)=0)&&decide ((mt.length:Int)=0)):=by simp [zH_]
theorem vp_ (id pe te vo n:Int) (vs mt:List Int):zH_ id pe te vo 1 n vs mt=(ownT id te vo&&xS_ pe id vs&&decide ((mt.length:Int)=0)):=by simp [zH_]
theorem yT_ (id pe te vo n:Int) (vs mt:List Int):zH_ id pe te vo 2 n vs mt=(ownT id te vo&&decide ((vs.length:Int)=0)&&yw_ pe id n mt):=by simp [zH_]
theorem ti_ (id pe te vo ro n:Int) (vs mt:List Int) (h0:¬ro=0) (h1:¬ro=1) (h2:¬ro=2):zH_ id pe te vo ro n vs mt=false:=by simp [zH_,h0,h1,h2]
theorem um_ (id pe te vo co ro:Int) (vl vv vm:Value) (log:List En) (vs mt:List Int) (w:World) (hl:ER w vl log) (hv:IL w vv vs) (hm:IL w vm mt) (nl:log.length≤1048576) (nv:vs.length≤1048576) (nm:mt.length≤1048576) (ns:∀i (h:i<log.length),log[i].d.size≤1048576) (hi0:0≤id) (hi1:id<pe):
  Calls Tryz.prog 122 #[.agg #[id,pe,te,vo,vl,co,ro,vv,vm]] w fun e w'=>e= .returned (.bool (zH_ id pe te vo ro log.length vs mt))∧Below w.heap.size w w':=by
 have hB:=zb_ w (.cells #[id,pe,te,vo,vl,co,ro,vv,vm] 42);have X:=Box.new w #[id,pe,te,vo,vl,co,ro,vv,vm] 42;by_cases r0:ro=0
 ·subst r0;have HR:Hid (zH_ id pe te vo 0 log.length vs mt=(decide ((vs.length:Int)=0)&&decide ((mt.length:Int)=0))):=yC_ _ _ _ _ _ _ _;generalize zH_ id pe te vo 0 log.length vs mt=R at*;obtain⟨la,lc,rfl,hlc⟩:=hl;obtain⟨va,vc,rfl,hvc⟩:=hv;obtain⟨ma,mc,rfl,hmc⟩:=hm;clear hlc hvc hmc ns X nv nm;generalize vs.length=a1 at*;generalize mt.length=a2 at*;rcases Nat.eq_zero_or_pos a1 with rfl | z1
  ·rcases Nat.eq_zero_or_pos a2 with rfl | z2
   ·go_enter Tryz.func122,Tryz.ntmps122;go_wp2;go_ret;exact⟨by rw [HR.out];rfl,hB⟩
   ·have z3:((a2:Int)==0)=false:=by simp;omega
    have z4:¬(a2:Int)=0:=by omega
    go_enter Tryz.func122,Tryz.ntmps122;go_wp2;go_ret;exact⟨by rw [HR.out,decide_eq_false z4];rfl,hB⟩
  ·have z3:((a1:Int)==0)=false:=by simp;omega
   have z4:¬(a1:Int)=0:=by omega
   go_enter Tryz.func122,Tryz.ntmps122;go_wp2;go_ret;exact⟨by rw [HR.out,decide_eq_false z4];rfl,hB⟩
 by_cases r1:ro=1
 ·subst r1;have HR:Hid (zH_ id pe te vo 1 log.length vs mt=(ownT id te vo&&xS_ pe id vs&&decide ((mt.length:Int)=0))):=vp_ _ _ _ _ _ _ _;have KV:=fun W (h:Below w.heap.size w W)=>vN_ id pe te vo co 1 vl vv vm log vs mt W (hl.below h) (hv.below h) (hm.below h) nl nv nm ns;have KO:=fun W=>vl_ id pe te vo co 1 vl vv vm W;generalize zH_ id pe te vo 1 log.length vs mt=R at*;obtain⟨la,lc,rfl,hlc⟩:=hl;obtain⟨va,vc,rfl,hvc⟩:=hv;obtain⟨ma,mc,rfl,hmc⟩:=hm;clear hlc hvc hmc ns r0;generalize ownT id te vo=bo at*;generalize xS_ pe id vs=bv at*;clear nv nm;generalize vs.length=a1 at*;generalize mt.length=a2 at*;go_enter Tryz.func122,Tryz.ntmps122;go_wp2_with fail;refine (KO _).mono ?_;rintro e w1 ⟨rfl,hb1⟩;replace hB:=za_ hB hb1;replace X:=X.below hb1;obtain⟨hxl,x0,x1,x2,x3,x4,x5,x6,x7,x8⟩:=X.e9;clear hb1 KO
  cases bo with
  | false=>
   go_wp2;go_ret;exact⟨by rw [HR.out];rfl,hB⟩
  | true=>
   go_wp2_with fail;refine (KV _ hB).mono ?_;rintro e w2 ⟨rfl,hb2⟩;replace hB:=za_ hB hb2;replace X:=X.below hb2;clear hb2 KV x0 x1 x2 x3 x4 x5 x6 x7 x8 hxl;obtain⟨hxl,x0,x1,x2,x3,x4,x5,x6,x7,x8⟩:=X.e9
   cases bv with
   | false=>
    go_wp2;go_ret;exact⟨by rw [HR.out];rfl,hB⟩
   | true=>
    rcases Nat.eq_zero_or_pos a2 with rfl | z2
    ·go_wp2;go_ret;exact⟨by rw [HR.out];rfl,hB⟩
    ·have z3:((a2:Int)==0)=false:=by simp;omega
     have z4:¬(a2:Int)=0:=by omega
     go_wp2;go_ret;exact⟨by rw [HR.out,decide_eq_false z4];rfl,hB⟩
 by_cases r2:ro=2
 ·subst r2;have HR:Hid (zH_ id pe te vo 2 log.length vs mt=(ownT id te vo&&decide ((vs.length:Int)=0)&&yw_ pe id log.length mt)):=yT_ _ _ _ _ _ _ _;have KM:=fun W (h:Below w.heap.size w W)=>vP_ id pe te vo co 2 vl vv vm log vs mt W (hl.below h) (hv.below h) (hm.below h) nl nv nm ns hi0 hi1;have KO:=fun W=>vl_ id pe te vo co 2 vl vv vm W;generalize zH_ id pe te vo 2 log.length vs mt=R at*;obtain⟨la,lc,rfl,hlc⟩:=hl;obtain⟨va,vc,rfl,hvc⟩:=hv;obtain⟨ma,mc,rfl,hmc⟩:=hm;clear hlc hvc hmc ns r0 r1;generalize ownT id te vo=bo at*;generalize yw_ pe id log.length mt=bm at*;clear nv nm;generalize vs.length=a1 at*;generalize mt.length=a2 at*;go_enter Tryz.func122,Tryz.ntmps122;go_wp2_with fail;refine (KO _).mono ?_;rintro e w1 ⟨rfl,hb1⟩;replace hB:=za_ hB hb1;replace X:=X.below hb1;obtain⟨hxl,x0,x1,x2,x3,x4,x5,x6,x7,x8⟩:=X.e9;clear hb1 KO
  cases bo with
  | false=>
   go_wp2;go_ret;exact⟨by rw [HR.out];rfl,hB⟩
  | true=>
   rcases Nat.eq_zero_or_pos a1 with rfl | z1
   ·go_wp2_with fail;refine (KM _ hB).mono ?_;rintro e w2 ⟨rfl,hb2⟩;replace hB:=za_ hB hb2;clear hb2 KM;go_wp2;go_ret;exact⟨by rw [HR.out];rfl,hB⟩
   ·have z3:((a1:Int)==0)=false:=by simp;omega
    have z4:¬(a1:Int)=0:=by omega
    go_wp2;go_ret;exact⟨by rw [HR.out,decide_eq_false z4];rfl,hB⟩
 ·have HR:Hid (zH_ id pe te vo ro log.length vs mt=false):=ti_ _ _ _ _ _ _ _ _ r0 r1 r2;generalize zH_ id pe te vo ro log.length vs mt=R at*;obtain⟨la,lc,rfl,hlc⟩:=hl;obtain⟨va,vc,rfl,hvc⟩:=hv;obtain⟨ma,mc,rfl,hmc⟩:=hm;clear hlc hvc hmc ns X;go_enter Tryz.func122,Tryz.ntmps122;go_wp2;go_ret;exact⟨by rw [HR.out];try rfl,hB⟩
set_option maxHeartbeats 8000000
theorem zM_ (id pe te vo co ro:Int) (vl vv vm:Value) (log:List En) (vs mt:List Int) (w:World) (hl:ER w vl log) (hv:IL w vv vs) (hm:IL w vm mt) (nl:log.length≤1048576) (nv:vs.length≤1048576) (nm:mt.length≤1048576) (ns:∀i (h:i<log.length),log[i].d.size≤1048576):
  Calls Tryz.prog 72 #[.agg #[id,pe,te,vo,vl,co,ro,vv,vm]] w fun e w'=>e= .returned (.bool (zm_ id pe te vo co ro log vs mt))∧Below w.heap.size w w':=by
 have hB:=zb_ w (.cells #[id,pe,te,vo,vl,co,ro,vv,vm] 42);have X:=Box.new w #[id,pe,te,vo,vl,co,ro,vv,vm] 42;have HO:Hid (zm_ id pe te vo co ro log vs mt=(decide (1≤pe)&&decide (pe≤7)&&isP id pe&&decide (0≤te)&&decide (te≤1000)&&(decide (vo= -1) || isP vo pe)&&decide ((log.length:Int)≤60)&&gE te 0 log&&decide (0≤co)&&decide (co≤(log.length:Int))&&zH_ id pe te vo ro log.length vs mt)):=rfl;have KR:=fun (hi:isP id pe=true) W (h:Below w.heap.size w W)=>um_ id pe te vo co ro vl vv vm log vs mt W (hl.below h) (hv.below h) (hm.below h) nl nv nm ns (by simp [isP] at hi;omega) (by simp [isP] at hi;omega);have KE:=xH_ vl log te _ (hl.below hB) nl ns;have KI:=fun W=>yA_ id pe W;have KJ:=fun W=>yA_ vo pe W;generalize zm_ id pe te vo co ro log vs mt=R at*;generalize zH_ id pe te vo ro log.length vs mt=br at*;generalize gE te 0 log=be at*;generalize isP id pe=bi at*;generalize isP vo pe=bj at*;obtain⟨la,lc,rfl,hlc⟩:=hl;obtain⟨va,vc,rfl,hvc⟩:=hv;obtain⟨ma,mc,rfl,hmc⟩:=hm;clear hlc hvc hmc ns;obtain⟨W0,hW0⟩:∃W0,W0=w.alloc (.cells #[id,pe,te,vo,.slice la log.length lc,co,ro,.slice va vs.length vc,.slice ma mt.length mc] 42):=⟨_,rfl⟩;rw [←hW0] at hB X KE;obtain⟨hxl,x0,x1,x2,x3,x4,x5,x6,x7,x8⟩:=X.e9;by_cases c1:1≤pe;rotate_left
 ·go_enter Tryz.func72,Tryz.ntmps72;simp only [List.append_eq,List.cons_append,List.nil_append];go_wp2;rw [←hW0];go_ret;exact⟨by rw [HO.out];simp <;>omega,hB⟩
 by_cases c2:pe≤7;rotate_left
 ·go_enter Tryz.func72,Tryz.ntmps72;simp only [List.append_eq,List.cons_append,List.nil_append];go_wp2;rw [←hW0];go_ret;exact⟨by rw [HO.out];simp <;>omega,hB⟩
 go_enter Tryz.func72,Tryz.ntmps72;simp only [List.append_eq,List.cons_append,List.nil_append];go_wp2_with fail;rw [←hW0];clear hW0;refine (KI _).mono ?_;rintro e w1 ⟨rfl,rfl⟩;clear KI
 cases bi
 ·go_wp2;go_ret;exact⟨by rw [HO.out];simp <;>omega,hB⟩
 replace KR:=KR rfl;by_cases c3:0≤te;rotate_left
 ·go_wp2;go_ret;exact⟨by rw [HO.out];simp <;>omega,hB⟩
 by_cases c4:te≤1000;rotate_left
 ·go_wp2;go_ret;exact⟨by rw [HO.out];simp <;>omega,hB⟩
 have HV:Hid (R=((decide (vo= -1) || bj)&&decide ((log.length:Int)≤60)&&be&&decide (0≤co)&&decide (co≤(log.length:Int))&&br)):=by
  show _=_;rw [HO.out,decide_eq_true c1,decide_eq_true c2,decide_eq_true c3,decide_eq_true c4];simp
 clear HO;by_cases c5:vo= -1
 ·subst c5;have HO:Hid (R=(decide ((log.length:Int)≤60)&&be&&decide (0≤co)&&decide (co≤(log.length:Int))&&br)):=by
   show _=_;rw [HV.out];simp
  clear HV KJ;by_cases c6:(log.length:Int)≤60;rotate_left
  ·go_wp2;go_ret;exact⟨by rw [HO.out];simp <;>omega,hB⟩
  go_wp2_with fail;refine KE.mono ?_;rintro e w2 ⟨rfl,hb2⟩;replace hB:=za_ hB hb2;replace X:=X.below hb2;clear x0 x1 x2 x3 x4 x5 x6 x7 x8 hxl;obtain⟨hxl,x0,x1,x2,x3,x4,x5,x6,x7,x8⟩:=X.e9;clear KE hb2
  cases be
  ·go_wp2;go_ret;exact⟨by rw [HO.out];simp <;>omega,hB⟩
  by_cases c7:0≤co;rotate_left
  ·go_wp2;go_ret;exact⟨by rw [HO.out];simp <;>omega,hB⟩
  by_cases c8:co≤(log.length:Int);rotate_left
  ·go_wp2;go_ret;exact⟨by rw [HO.out];simp <;>omega,hB⟩
  go_wp2_with fail;refine (KR _ hB).mono ?_;rintro e w3 ⟨rfl,hb3⟩;replace hB:=za_ hB hb3;clear KR hb3;go_wp2;go_ret;exact⟨by rw [HO.out];simp <;>omega,hB⟩
 ·go_wp2_with fail;refine (KJ _).mono ?_;rintro e w1 ⟨rfl,rfl⟩;clear KJ;have HO:Hid (R=(bj&&(decide ((log.length:Int)≤60)&&be&&decide (0≤co)&&decide (co≤(log.length:Int))&&br))):=by
   show _=_;rw [HV.out,decide_eq_false c5];simp [Bool.and_assoc]
  clear HV
  cases bj
  ·go_wp2;go_ret;exact⟨by rw [HO.out];simp <;>omega,hB⟩
  by_cases c6:(log.length:Int)≤60;rotate_left
  ·go_wp2;go_ret;exact⟨by rw [HO.out];simp <;>omega,hB⟩
  go_wp2_with fail;refine KE.mono ?_;rintro e w2 ⟨rfl,hb2⟩;replace hB:=za_ hB hb2;replace X:=X.below hb2;clear x0 x1 x2 x3 x4 x5 x6 x7 x8 hxl;obtain⟨hxl,x0,x1,x2,x3,x4,x5,x6,x7,x8⟩:=X.e9;clear KE hb2
  cases be
  ·go_wp2;go_ret;exact⟨by rw [HO.out];simp <;>omega,hB⟩
  by_cases c7:0≤co;rotate_left
  ·go_wp2;go_ret;exact⟨by rw [HO.out];simp <;>omega,hB⟩
  by_cases c8:co≤(log.length:Int);rotate_left
  ·go_wp2;go_ret;exact⟨by rw [HO.out];simp <;>omega,hB⟩
  go_wp2_with fail;refine (KR _ hB).mono ?_;rintro e w3 ⟨rfl,hb3⟩;replace hB:=za_ hB hb3;clear KR hb3;go_wp2;go_ret;exact⟨by rw [HO.out];simp <;>omega,hB⟩
theorem yM_ (v n:Int):inB v 0 (n-1)=isP v n:=by
 unfold inB isP;by_cases h:v<n
 ·rw [decide_eq_true (show v≤n-1 from by omega),decide_eq_true h]
 ·rw [decide_eq_false (show ¬v≤n-1 from by omega),decide_eq_false h]
theorem zL_ (id pe te vo co ro:Int) (log:List En) (vs mt:List Int):zm_ id pe te vo co ro log vs mt=
  (inB pe 1 7&&(inB id 0 (pe-1)&&(inB te 0 1000&&(inB vo (-1) (pe-1)&&((gE te 0 log&&decide ((log.length:Int)≤60))&&(inB co 0 log.length&&(inB ro 0 2&&zH_ id pe te vo ro log.length vs mt))))))):=by
 by_cases r:inB ro 0 2=true
 ·rw [r,yM_];unfold zm_;generalize zH_ id pe te vo ro log.length vs mt=b1;generalize gE te 0 log=b2;generalize isP id pe=b3;rw [Bool.eq_iff_iff]
  cases b1 <;>cases b2 <;>cases b3 <;>simp [inB,isP] <;>omega
 ·have h0:¬ro=0:=fun h=>r (by rw [h];rfl);have h1:¬ro=1:=fun h=>r (by rw [h];rfl);have h2:¬ro=2:=fun h=>r (by rw [h];rfl);unfold zm_;rw [ti_ _ _ _ _ _ _ _ _ h0 h1 h2];simp
theorem zx_ (id pe te vo co ro:Int) (vl vv vm:Value) (log:List En) (vs mt:List Int) (w:World) (hl:ER w vl log) (hv:IL w vv vs) (hm:IL w vm mt) (nl:log.length≤1048576) (nv:vs.length≤1048576) (nm:mt.length≤1048576) (ns:∀i (h:i<log.length),log[i].d.size≤1048576):
  Calls Tryz.prog 40 #[.agg #[id,pe,te,vo,vl,co,ro,vv,vm]] w fun e w'=>e= .returned (.bool (zm_ id pe te vo co ro log vs mt))∧Below w.heap.size w w':=by
 have hB:=zb_ w (.cells #[id,pe,te,vo,vl,co,ro,vv,vm] 42);have X:=Box.new w #[id,pe,te,vo,vl,co,ro,vv,vm] 42;have HO:Hid (zm_ id pe te vo co ro log vs mt=(inB pe 1 7&&(inB id 0 (pe-1)&&(inB te 0 1000&&(inB vo (-1) (pe-1)&&((gE te 0 log&&decide ((log.length:Int)≤60))&&(inB co 0 log.length&&(inB ro 0 2&&zH_ id pe te vo ro log.length vs mt)))))))):=zL_ _ _ _ _ _ _ _ _ _;have KP:=fun W=>yF_ pe W;have K1:=fun W=>zu_ id 0 (pe-1) W;have K2:=fun W=>zu_ te 0 1000 W;have K3:=fun W=>zu_ vo (-1) (pe-1) W;have KE:=xQ_ vl log te _ (hl.below hB) nl ns;have K4:=fun W=>zu_ co 0 log.length W;have K5:=fun W=>zu_ ro 0 2 W;have KH:=fun W (h:Below w.heap.size w W)=>uC_ vv vs id W (hv.below h) nv;have HI:Hid (isP id pe=inB id 0 (pe-1)):=(yM_ _ _).symm;generalize zm_ id pe te vo co ro log vs mt=R at*;generalize hb1:inB pe 1 7=b1 at*;generalize hb2:inB id 0 (pe-1)=b2 at*;generalize hb3:inB te 0 1000=b3 at*;generalize inB vo (-1) (pe-1)=b4 at*;generalize (gE te 0 log&&decide ((log.length:Int)≤60))=b5 at*;generalize inB co 0 log.length=b6 at*;generalize hb7:inB ro 0 2=b7 at*;obtain⟨la,lc,rfl,hlc⟩:=hl;obtain⟨va,vc,rfl,hvc⟩:=hv;obtain⟨ma,mc,rfl,hmc⟩:=hm;clear hlc ns;obtain⟨W0,hW0⟩:∃W0,W0=w.alloc (.cells #[id,pe,te,vo,.slice la log.length lc,co,ro,.slice va vs.length vc,.slice ma mt.length mc] 42):=⟨_,rfl⟩;rw [←hW0] at hB X KE;obtain⟨hxl,x0,x1,x2,x3,x4,x5,x6,x7,x8⟩:=X.e9;go_enter Tryz.func40,Tryz.ntmps40;go_wp2_with fail;rw [←hW0];clear hW0;refine (KP _).mono ?_;rintro e w1 ⟨rfl,rfl⟩;clear KP
 cases b1
 ·go_wp2;go_ret;exact⟨by rw [HO.out];rfl,hB⟩
 have pB:1≤pe∧pe≤7:=by simp [inB] at hb1;omega
 obtain⟨p1,p7⟩:=pB;clear hb1;go_wp2_with fail;refine (K1 _).mono ?_;rintro e w1 ⟨rfl,rfl⟩;clear K1
 cases b2
 ·go_wp2;go_ret;exact⟨by rw [HO.out];rfl,hB⟩
 have iB:0≤id∧id<pe:=by simp [inB] at hb2;omega
 obtain⟨i0,i1⟩:=iB;clear hb2 HI;go_wp2_with fail;refine (K2 _).mono ?_;rintro e w1 ⟨rfl,rfl⟩;clear K2
 cases b3
 ·go_wp2;go_ret;exact⟨by rw [HO.out];rfl,hB⟩
 have tB:0≤te:=by simp [inB] at hb3;omega
 clear hb3;go_wp2_with fail;refine (K3 _).mono ?_;rintro e w1 ⟨rfl,rfl⟩;clear K3
 cases b4
 ·go_wp2;go_ret;exact⟨by rw [HO.out];rfl,hB⟩
 go_wp2_with fail;refine KE.mono ?_;rintro e w1 ⟨rfl,hb⟩;replace hB:=za_ hB hb;replace X:=X.below hb;clear KE hb x0 x1 x2 x3 x4 x5 x6 x7 x8 hxl;obtain⟨hxl,x0,x1,x2,x3,x4,x5,x6,x7,x8⟩:=X.e9;replace KH:=KH _ hB
 cases b5
 ·go_wp2;go_ret;exact⟨by rw [HO.out];rfl,hB⟩
 go_wp2_with fail;refine (K4 _).mono ?_;rintro e w1 ⟨rfl,rfl⟩;clear K4
 cases b6
 ·go_wp2;go_ret;exact⟨by rw [HO.out];rfl,hB⟩
 go_wp2_with fail;refine (K5 _).mono ?_;rintro e w1 ⟨rfl,rfl⟩;clear K5
 cases b7
 ·go_wp2;go_ret;exact⟨by rw [HO.out];rfl,hB⟩
 have rB:ro=0∨ro=1∨ro=2:=by simp [inB] at hb7;omega
 clear hb7;have HR:Hid (R=zH_ id pe te vo ro log.length vs mt):=by show _=_;rw [HO.out];rfl
 clear HO;rcases rB with rfl | rfl | rfl
 ·have HR:Hid (R=(decide ((vs.length:Int)=0)&&decide ((mt.length:Int)=0))):=by show _=_;rw [HR.out,yC_]
  clear hvc hmc KH;clear nv nm;generalize vs.length=a1 at*;generalize mt.length=a2 at*;rcases Nat.eq_zero_or_pos a1 with rfl | z1;rotate_left
  ·have z4:¬(a1:Int)=0:=by omega
   have z5:(0:Int)<(a1:Int):=by omega
   go_wp2;go_ret;exact⟨by rw [HR.out,decide_eq_false z4];rfl,hB⟩
  go_wp2
  go_loopw [107] (fun i wr=>i= .int .i64 0∧wr=w1) (fun _ _=>0)
  case atStart=>exact⟨rfl,rfl⟩
  case round=>
   obtain⟨rfl,rfl⟩:=hrel;rcases Nat.eq_zero_or_pos a2 with rfl | z2
   ·go_wp2;go_ret;exact⟨by rw [HR.out];rfl,hB⟩
   ·have z3:((a2:Int)==0)=false:=by simp;omega
    have z4:¬(a2:Int)=0:=by omega
    go_wp2;go_ret;exact⟨by rw [HR.out,decide_eq_false z4];rfl,hB⟩
 ·have HR:Hid (R=(ownT id te vo&&xS_ pe id vs&&decide ((mt.length:Int)=0))):=by show _=_;rw [HR.out,vp_]
  clear hmc nm;generalize mt.length=a2 at*;by_cases ho:vo=id;rotate_left
  ·have HF:Hid (R=false):=by show _=_;rw [HR.out];simp [ownT,ho]
   clear hvc HR KH;go_wp2;go_ret;exact⟨by rw [HF.out];try rfl,hB⟩
  subst ho;by_cases ht:te=0
  ·have HF:Hid (R=false):=by show _=_;rw [HR.out,ht];simp [ownT]
   subst ht;clear hvc HR KH;go_wp2;go_ret;exact⟨by rw [HF.out];try rfl,hB⟩
  have HG:Hid (R=((gV pe vs&&(hsI vs vo&& !decide (pe<2*(vs.length:Int))))&&decide ((a2:Int)=0))):=by
   show _=_;rw [HR.out,show ownT vo te vo=true from by simp [ownT];omega];rfl
  clear HR;generalize hsI vs vo=b8 at*;go_wp2_with fail;refine KH.mono ?_;rintro e w2 ⟨rfl,rfl⟩;clear KH
  cases b8
  ·clear hvc;go_wp2;go_ret;exact⟨by rw [HG.out];simp,hB⟩
  by_cases h2:pe<2*(vs.length:Int)
  ·have HF:Hid (R=false):=by show _=_;rw [HG.out,decide_eq_true h2];simp
   clear hvc HG;go_wp2;go_ret;exact⟨by rw [HF.out];try rfl,hB⟩
  have HG2:Hid (R=(gV pe vs&&decide ((a2:Int)=0))):=by show _=_;rw [HG.out,decide_eq_false h2];simp
  clear HG;go_wp2
  go_loopw [107] (fun i wr=>∃k:Nat,k≤vs.length∧i= .int .i64 k∧vTo pe vs k=true∧wr=w2) (fun i _=>vs.length-(intOf i).toNat)
  case atStart=>exact⟨0,Nat.zero_le _,rfl,rfl,rfl⟩
  case round=>
   obtain⟨k,hk,rfl,hg,rfl⟩:=hrel;by_cases hlt:k<vs.length
   ·obtain⟨b,off,rfl,hbl,hcell⟩:=hvc (by intro e;simp [e] at hlt);have hc0:=(hB.cell (p:=⟨b,off+k,none⟩) hbl).trans (hcell k hlt);have KI:∀W,Calls Tryz.prog 42 #[.int .i64 vs[k],(0:Int),(pe-1:Int)] W fun e w'=>e= .returned (.bool (isP vs[k] pe))∧w'=W:=fun W=>by rw [←yM_];exact zu_ vs[k] 0 (pe-1) W
    have HAT:Hid (vAt pe vs k=(isP vs[k] pe&&(k==0 || decide (vs.getD (k-1) 0<vs[k])))):=vAt_eq pe vs k hlt;have HF:Hid (vAt pe vs k=false→gV pe vs=false):=fun h=>vX_ pe vs k _ hlt h;have HN:Hid (vAt pe vs k=true→vTo pe vs (k+1)=true):=fun h=>by simp only [vTo,hg,h];rfl
    have hbW:b<wr.heap.size:=by have:=hB.size;omega
    cases hK:isP vs[k] pe with
    | false=>
     have HR:Hid (gV pe vs=false):=HF.out (by rw [HAT.out,hK];rfl);rw [hK] at KI;clear hcell hvc HAT hg hK HF HN;generalize vs[k]=s at*;go_wp2_with fail;refine (KI _).mono ?_;rintro e w3 ⟨rfl,rfl⟩;go_wp2;go_ret;exact⟨by rw [HG2.out,HR.out];rfl,hB⟩
    | true=>
     rw [hK] at KI;by_cases k0:k=0
     ·subst k0;have HG:Hid (vTo pe vs (0+1)=true):=HN.out (by rw [HAT.out,hK];rfl);rw [Nat.add_zero] at hc0;clear hcell hvc HAT hg hK HF HN;generalize vs[0]=s at*;go_wp2_with fail;refine (KI _).mono ?_;rintro e w3 ⟨rfl,rfl⟩;go_wp2;go_roundw
      case rel=>exact⟨1,by omega,by go_num,HG.out,by first | rfl | trivial⟩
      case measure=>simp [intOf];omega
     ·obtain⟨j,rfl⟩:∃j,k=j+1:=⟨k-1,by omega⟩;have hj:j<vs.length:=by omega
      have hd0:=(hB.cell (p:=⟨b,off+j,none⟩) hbl).trans (hcell j hj);have hdd:vs.getD (j+1-1) 0=vs[j]:=yh_ vs j hj;have HAT2:Hid (vAt pe vs (j+1)=decide (vs[j]<vs[j+1])):=by show _=_;rw [HAT.out,hK,hdd];simp
      have hpos:(0:Int)<((j+1:Nat):Int):=by omega
      have hj1:(((j+1:Nat):Int)-1)=(j:Int):=by omega
      by_cases hle:vs[j+1]≤vs[j]
      ·have HR:Hid (gV pe vs=false):=HF.out (by rw [HAT2.out];simp;omega);clear hcell hvc HAT hg hK HF HN HAT2 hdd;generalize vs[j+1]=s at*;generalize vs[j]=q at*;go_wp2_with fail;refine (KI _).mono ?_;rintro e w3 ⟨rfl,rfl⟩;go_wp2;go_ret;exact⟨by rw [HG2.out,HR.out];rfl,hB⟩
      ·have HG:Hid (vTo pe vs (j+1+1)=true):=HN.out (by rw [HAT2.out];simp;omega);clear hcell hvc HAT hg hK HF HN HAT2 hdd;generalize vs[j+1]=s at*;generalize vs[j]=q at*;go_wp2_with fail;refine (KI _).mono ?_;rintro e w3 ⟨rfl,rfl⟩;go_wp2;go_roundw
       case rel=>exact⟨j+1+1,by omega,by go_num,HG.out,by first | rfl | trivial⟩
       case measure=>simp [intOf];omega
   ·obtain rfl:k=vs.length:=by omega
    have HR:Hid (gV pe vs=true):=hg;clear hvc hg;rcases Nat.eq_zero_or_pos a2 with rfl | z2
    ·go_wp2;go_ret;exact⟨by rw [HG2.out,HR.out];rfl,hB⟩
    ·have z3:((a2:Int)==0)=false:=by simp;omega
     have z4:¬(a2:Int)=0:=by omega
     go_wp2;go_ret;exact⟨by rw [HG2.out,HR.out,decide_eq_false z4];rfl,hB⟩
 ·have HR:Hid (R=(ownT id te vo&&decide ((vs.length:Int)=0)&&yw_ pe id log.length mt)):=by show _=_;rw [HR.out,yT_]
  clear hvc nv KH;generalize vs.length=a1 at*;by_cases ho:vo=id;rotate_left
  ·have HF:Hid (R=false):=by show _=_;rw [HR.out];simp [ownT,ho]
   clear hmc HR;go_wp2;go_ret;exact⟨by rw [HF.out];try rfl,hB⟩
  subst ho;by_cases ht:te=0
  ·have HF:Hid (R=false):=by show _=_;rw [HR.out,ht];simp [ownT]
   subst ht;clear hmc HR;go_wp2;go_ret;exact⟨by rw [HF.out];try rfl,hB⟩
  have ht2:(te==0)=false:=by simp [ht]
  have HG:Hid (R=(decide ((a1:Int)=0)&&yw_ pe vo log.length mt)):=by
   show _=_;rw [HR.out,show ownT vo te vo=true from by simp [ownT];omega];rfl
  clear HR;rcases Nat.eq_zero_or_pos a1 with rfl | z1;rotate_left
  ·have z4:¬(a1:Int)=0:=by omega
   have z5:(0:Int)<(a1:Int):=by omega
   clear hmc;go_wp2;go_ret;exact⟨by rw [HG.out,decide_eq_false z4];rfl,hB⟩
  obtain⟨i,rfl⟩:=Int.eq_ofNat_of_zero_le i0;have HM:Hid (R=(gM log.length mt&&(decide ((mt.length:Int)=pe)&&decide (mt.getD i 0=(log.length:Int))))):=by
   show _=_;rw [HG.out];unfold yw_;rw [Int.toNat_natCast];generalize gM log.length mt=c1;generalize decide ((mt.length:Int)=pe)=c2
   cases c1 <;>cases c2 <;>rfl
  clear HG;go_wp2
  go_loopw [107] (fun i wr=>i= .int .i64 0∧wr=w1) (fun _ _=>0)
  case atStart=>exact⟨rfl,rfl⟩
  case round=>
   obtain⟨rfl,rfl⟩:=hrel;go_wp2
   go_loopw [143] (fun z wr'=>∃k:Nat,k≤mt.length∧z= .int .i64 k∧gM log.length mt=gM log.length (mt.drop k)∧wr'=wr) (fun z _=>mt.length-(intOf z).toNat)
   case atStart=>exact⟨0,Nat.zero_le _,rfl,rfl,rfl⟩
   case round=>
    obtain⟨k,hk,rfl,hg,rfl⟩:=hrel;by_cases hlt:k<mt.length
    ·obtain⟨b,off,rfl,hbl,hcell⟩:=hmc (by intro e;simp [e] at hlt);have hc0:=(hB.cell (p:=⟨b,off+k,none⟩) hbl).trans (hcell k hlt);have HD:Hid (gM log.length mt=(inB mt[k] 0 log.length&&gM log.length (mt.drop (k+1)))):=by show _=_;rw [hg,po_ _ mt k hlt];rfl
     have KI:=fun W=>zu_ mt[k] 0 log.length W;clear hcell hmc hg;generalize mt[k]=s at*;generalize inB s 0 log.length=b9 at*;go_wp2_with fail;refine (KI _).mono ?_;rintro e w3 ⟨rfl,rfl⟩;clear KI
     cases b9
     ·have HF:Hid (R=false):=by show _=_;rw [HM.out,HD.out];rfl
      clear HM HD;go_wp2;go_ret;exact⟨by rw [HF.out];try rfl,hB⟩
     ·go_wp2_with fail;go_roundw
      case rel=>exact⟨k+1,by omega,by go_num,HD.out,by first | rfl | trivial⟩
      case measure=>simp [intOf];omega
    ·obtain rfl:k=mt.length:=by omega
     have HT:Hid (R=(decide ((mt.length:Int)=pe)&&decide (mt.getD i 0=(log.length:Int)))):=by show _=_;rw [HM.out,hg,List.drop_length];rfl
     clear HM hg;by_cases hp:(mt.length:Int)=pe
     ·have hil:i<mt.length:=by omega
      obtain⟨b,off,rfl,hbl,hcell⟩:=hmc (by intro e;simp [e] at hil);have hd0:=(hB.cell (p:=⟨b,off+i,none⟩) hbl).trans (hcell i hil);have HT2:Hid (R=decide (mt[i]=(log.length:Int))):=by show _=_;rw [HT.out,decide_eq_true hp,yh_ mt i hil];rfl
      clear hcell hmc HT;generalize mt[i]=s at*;subst hp;have hd1:decide ((mt.length:Int)=(mt.length:Int))=true:=by simp
      by_cases hse:s=(log.length:Int)
      ·subst hse;go_wp2_with fail
       go_quiet (fail)
       go_wp2;go_ret;exact⟨by rw [HT2.out];simp,below_drewN hB _⟩
      ·go_wp2_with fail
       go_quiet (fail)
       go_wp2;go_ret;exact⟨by rw [HT2.out];simp [hse],below_drewN hB _⟩
     ·have hd1:decide ((mt.length:Int)=pe)=false:=by simp [hp]
      clear hmc;have HT2:Hid (R=false):=by show _=_;rw [HT.out,decide_eq_false hp];rfl
      clear HT;go_wp2_with fail
      go_quiet (fail)
      go_wp2;go_ret;exact⟨by rw [HT2.out];try rfl,below_drewN hB _⟩
set_option maxHeartbeats 200000
def put9 (w:World) (b:Nat) (v0 v1 v2 v3 v4 v5 v6 v7 v8:Value):World:=((((((((w.setCell ⟨b,0,none⟩ v0).setCell ⟨b,1,none⟩ v1).setCell ⟨b,2,none⟩ v2).setCell ⟨b,3,none⟩ v3).setCell ⟨b,4,none⟩ v4).setCell ⟨b,5,none⟩ v5).setCell ⟨b,6,none⟩ v6).setCell ⟨b,7,none⟩ v7).setCell ⟨b,8,none⟩ v8
theorem zk_ (w:World) (b:Nat) (v0 v1 v2 v3 v4 v5 v6 v7 v8:Value):Chg (· =b) w (put9 w b v0 v1 v2 v3 v4 v5 v6 v7 v8):=by
 unfold put9
 iterate 9 (refine Chg.setCell (S:=fun k=>k=b) ?_ rfl _)
 exact Chg.refl _ _
theorem zl_ {w:World} {b:Nat} {u0 u1 u2 u3 u4 u5 u6 u7 u8:Value} (h:Box w b [u0,u1,u2,u3,u4,u5,u6,u7,u8]) (v0 v1 v2 v3 v4 v5 v6 v7 v8:Value):Box (put9 w b v0 v1 v2 v3 v4 v5 v6 v7 v8) b [v0,v1,v2,v3,v4,v5,v6,v7,v8]:=
 ((((((((h.set 0 v0 (by simp)).set 1 v1 (by simp)).set 2 v2 (by simp)).set 3 v3 (by simp)).set 4 v4 (by simp)).set 5 v5 (by simp)).set 6 v6 (by simp)).set 7 v7 (by simp)).set 8 v8 (by simp)
theorem Box.f9 {w:World} {b:Nat} {v0 v1 v2 v3 v4 v5 v6 v7 v8:Value} (h:Box w b [v0,v1,v2,v3,v4,v5,v6,v7,v8]):w.frozen? ⟨b,0,none⟩=false∧w.frozen? ⟨b,1,none⟩=false∧w.frozen? ⟨b,2,none⟩=false∧w.frozen? ⟨b,3,none⟩=false∧w.frozen? ⟨b,4,none⟩=false∧w.frozen? ⟨b,5,none⟩=false∧w.frozen? ⟨b,6,none⟩=false∧w.frozen? ⟨b,7,none⟩=false∧w.frozen? ⟨b,8,none⟩=false:=
 ⟨h.2.2 0,h.2.2 1,h.2.2 2,h.2.2 3,h.2.2 4,h.2.2 5,h.2.2 6,h.2.2 7,h.2.2 8⟩
structure OwnN (w:World) (base:Nat) (vl vv vm:Value) (log:List En) (vs mt:List Int):Prop where
 l:w.ownsRow base 44 2 vl log.length (zF_ log)
 v:w.ownsRow base 3 1 vv vs.length (vs.map (.int .i64))
 m:w.ownsRow base 3 1 vm mt.length (mt.map (.int .i64))
 ne:∀g,vv.ownBlock=some g→vm.ownBlock≠some g
def NB (vl vv vm:Value) (b:Nat):Prop:=vl.ownBlock=some b∨vv.ownBlock=some b∨vm.ownBlock=some b
theorem OwnN.below {w w':World} {base:Nat} {vl vv vm:Value} {log:List En} {vs mt:List Int} (h:OwnN w base vl vv vm log vs mt) (hb:Below w.heap.size w w'):OwnN w' base vl vv vm log vs mt:=⟨zd_ h.l hb,zd_ h.v hb,zd_ h.m hb,h.ne⟩
theorem OwnN.chg {w w':World} {S:Nat→Prop} {base:Nat} {vl vv vm:Value} {log:List En} {vs mt:List Int} (h:OwnN w base vl vv vm log vs mt) (hc:Chg S w w') (hs:∀b,NB vl vv vm b→¬S b):OwnN w' base vl vv vm log vs mt:=
 ⟨hc.owns h.l fun g hg=>hs g (.inl hg),hc.owns h.v fun g hg=>hs g (.inr (.inl hg)),hc.owns h.m fun g hg=>hs g (.inr (.inr hg)),h.ne⟩
theorem OwnN.mono {w:World} {base base':Nat} {vl vv vm:Value} {log:List En} {vs mt:List Int} (h:OwnN w base vl vv vm log vs mt) (hb:base'≤base):OwnN w base' vl vv vm log vs mt:=⟨zf_ h.l hb,zf_ h.v hb,zf_ h.m hb,h.ne⟩
theorem OwnN.lt {w:World} {base:Nat} {vl vv vm:Value} {log:List En} {vs mt:List Int} (h:OwnN w base vl vv vm log vs mt) (b:Nat) (hb:NB vl vv vm b):base≤b∧b<w.heap.size:=by
 rcases hb with hb | hb | hb
 ·exact⟨zg_ h.l b hb,zh_ h.l b hb⟩
 ·exact⟨zg_ h.v b hb,zh_ h.v b hb⟩
 ·exact⟨zg_ h.m b hb,zh_ h.m b hb⟩
theorem OwnN.er {w:World} {base:Nat} {vl vv vm:Value} {log:List En} {vs mt:List Int} (h:OwnN w base vl vv vm log vs mt):ER w vl log:=yd_ h.l rfl
theorem OwnN.iv {w:World} {base:Nat} {vl vv vm:Value} {log:List En} {vs mt:List Int} (h:OwnN w base vl vv vm log vs mt):IL w vv vs:=ym_ h.v rfl
theorem OwnN.im {w:World} {base:Nat} {vl vv vm:Value} {log:List En} {vs mt:List Int} (h:OwnN w base vl vv vm log vs mt):IL w vm mt:=ym_ h.m rfl
theorem OwnN.nil (w:World) (base:Nat):OwnN w base (.slice none 0 0) (.slice none 0 0) (.slice none 0 0) [] [] []:=⟨World.ownsRow_nil _ _ _ _,World.ownsRow_nil _ _ _ _,World.ownsRow_nil _ _ _ _,fun g hg=>by simp [Value.ownBlock] at hg⟩
theorem zj_ (w:World) {b:Nat} {u0 u1 u2 u3 u4 u5 u6 u7 u8:Value} (h:Box w b [u0,u1,u2,u3,u4,u5,u6,u7,u8]) (v0 v1 v2 v3 v4 v5 v6 v7 v8:Value):∃W,W=put9 w b v0 v1 v2 v3 v4 v5 v6 v7 v8∧Chg (fun k=>k=b) w W∧Box W b [v0,v1,v2,v3,v4,v5,v6,v7,v8]:=⟨_,rfl,zk_ ..,zl_ h ..⟩
structure MkN (w:World) (base:Nat) (vl vv vm:Value) (nl nv nm:Nat) (k:Int):Prop where
 l:w.ownsRow base 44 2 vl nl (zF_ (mkEs k nl))
 v:w.ownsRow base 3 1 vv nv (mkI (k+2*nl) nv)
 m:w.ownsRow base 3 1 vm nm (mkI (k+2*nl+nv) nm)
theorem MkN.below {w w':World} {base:Nat} {vl vv vm:Value} {nl nv nm:Nat} {k:Int} (h:MkN w base vl vv vm nl nv nm k) (hb:Below w.heap.size w w'):MkN w' base vl vv vm nl nv nm k:=⟨zd_ h.l hb,zd_ h.v hb,zd_ h.m hb⟩
theorem MkN.chg {w w':World} {S:Nat→Prop} {base:Nat} {vl vv vm:Value} {nl nv nm:Nat} {k:Int} (h:MkN w base vl vv vm nl nv nm k) (hc:Chg S w w') (hs:∀b,NB vl vv vm b→¬S b):MkN w' base vl vv vm nl nv nm k:=
 ⟨hc.owns h.l fun g hg=>hs g (.inl hg),hc.owns h.v fun g hg=>hs g (.inr (.inl hg)),hc.owns h.m fun g hg=>hs g (.inr (.inr hg))⟩
theorem MkN.lt {w:World} {base:Nat} {vl vv vm:Value} {nl nv nm:Nat} {k:Int} (h:MkN w base vl vv vm nl nv nm k) (b:Nat) (hb:NB vl vv vm b):base≤b∧b<w.heap.size:=by
 rcases hb with hb | hb | hb
 ·exact⟨zg_ h.l b hb,zh_ h.l b hb⟩
 ·exact⟨zg_ h.v b hb,zh_ h.v b hb⟩
 ·exact⟨zg_ h.m b hb,zh_ h.m b hb⟩
theorem OwnN.shapes {w:World} {base:Nat} {vl vv vm:Value} {log:List En} {vs mt:List Int} (h:OwnN w base vl vv vm log vs mt):(∃a c,vl= .slice a log.length c)∧(∃a c,vv= .slice a vs.length c)∧∃a c,vm= .slice a mt.length c:=⟨ze_ h.l,ze_ h.v,ze_ h.m⟩
end Go.Proofs.YtapfhhmimkkhnaaGreat
namespace Go
theorem zN_ {P:Program} (w:World) {ops:Array Oper} {rest:List Oper} {o:Oper} {a:Act} {Q:Exit→Act→World→Prop} (hgd:o.guard=none) (t:TypeId) (x:Operand) (lo hi mx:Option Operand)
  (ho:o.op= .slice t x lo hi mx) (v:Value) (hrun:(Instr.sliceAt t (a.eval x) (lo.map a.eval) (hi.map a.eval) (mx.map a.eval)).run P w= .ok v w)
  (h:wpList P ops Q rest (a.put o.dst v) w):wpList P ops Q (o::rest) a w:=by
 refine wpList_plain hgd fun K hK'=> ?_;unfold Oper.wp;simp [execOp,ho,hrun];exact hK' _ _ h
end Go
namespace Go.Proofs.YtapfhhmimkkhnaaGreat
open Go.RowKit Go.Maps
set_option linter.unusedVariables false
set_option maxRecDepth 100000
theorem tx_ (a:Option Addr) (n cap p:Nat) (w:World) (hp:p≤cap):(Instr.sliceAt 39 (.slice a n cap) none (some (.int .i64 p)) none).run Tryz.prog w= .ok (.slice a p cap) w:=by
 have h1:(p:Int)≤(cap:Int):=by omega
 have h2:(0:Int)≤(p:Int):=by omega
 have e:a.map (fun x=>x.add (0*2))=a:=by cases a <;>simp [Addr.add]
 have hA:(Instr.sliceAt 39 (.slice a n cap) none (some (.int .i64 p)) none).run Tryz.prog w=(Instr.slice 39 (.slice a n cap) none (some (.int .i64 p)) none).run Tryz.prog w:=by simp [Instr.sliceAt,run_underlying Tryz.underlying39]
 rw [hA];simp [Instr.slice,Instr.sliceBounds,Instr.sliceBound,asIntOf,run_underlying Tryz.underlying39,hp,h2,Tryz.sizeOf44]
 cases a <;>simp [Addr.add]
theorem vY_ (w:World) (a:Option Addr) (cap p:Nat) (zs:List En) (h:ER w (.slice a zs.length cap) zs) (hc:zs.length≤cap) (hp:p≤zs.length):∃a2,(∀w,(Instr.sliceAt 39 (.slice a zs.length cap) (some (.int .i64 p)) none none).run Tryz.prog w= .ok (.slice a2 (zs.length-p) (cap-p)) w)∧ER w (.slice a2 (zs.length-p) (cap-p)) (zs.drop p):=by
 refine⟨if cap=p then a else a.map (fun x=>x.add (p*2)),fun w=> ?_,?_⟩
 ·have h1:(p:Int)≤(zs.length:Int):=by omega
  have h2:(0:Int)≤(p:Int):=by omega
  have hA:(Instr.sliceAt 39 (.slice a zs.length cap) (some (.int .i64 p)) none none).run Tryz.prog w=(Instr.slice 39 (.slice a zs.length cap) (some (.int .i64 p)) none none).run Tryz.prog w:=by simp [Instr.sliceAt,run_underlying Tryz.underlying39]
  rw [hA];simp [Instr.slice,Instr.sliceBounds,Instr.sliceBound,asIntOf,run_underlying Tryz.underlying39,hp,h2,Tryz.sizeOf44]
 ·obtain⟨a',c',he,hcc⟩:=h;simp only [Value.slice.injEq,true_and] at he;obtain⟨rfl,rfl⟩:=he;refine⟨_,_,by rw [List.length_drop],fun hne=> ?_⟩;have hlt:p<zs.length:=by
   rcases Nat.lt_or_ge p zs.length with h | h
   ·exact h
   ·exact absurd (List.drop_eq_nil_of_le h) hne
  obtain⟨b,off,rfl,hb,hcell⟩:=hcc (by intro e;rw [e] at hlt;simp at hlt);rw [if_neg (by omega)];refine⟨b,off+p*2,by simp [Addr.add],hb,fun i hi=> ?_⟩;rw [List.getElem_drop];rw [List.length_drop] at hi;have hq:=hcell (p+i) (by omega);rw [show off+(p+i)*2=off+p*2+i*2 from by omega] at hq;exact hq
theorem vC_ {w:World} {a:Option Addr} {cap p:Nat} {zs:List En} (h:ER w (.slice a zs.length cap) zs) (hp:p≤zs.length):ER w (.slice a p cap) (zs.take p):=by
 obtain⟨a',c',he,hc⟩:=h;simp only [Value.slice.injEq,true_and] at he;obtain⟨rfl,rfl⟩:=he;have hlen:(zs.take p).length=p:=by simp;omega
 refine⟨a,cap,by rw [hlen],fun hne=> ?_⟩;obtain⟨b,off,rfl,hb,hcell⟩:=hc (by intro e;rw [e] at hne;simp at hne);refine⟨b,off,rfl,hb,fun i hi=> ?_⟩;rw [List.getElem_take];exact hcell i (by omega)
theorem xB_ {w:World} {base n:Nat} {v:Value} {xs:List Value} (c:Nat) (h:w.ownsRow base 44 2 v n xs):(Builtin.append_ #[39,39] 39 #[v,.slice none 0 c]).run Tryz.prog w= .ok v w:=by
 rcases h.2 with⟨rfl,h0⟩ | ⟨g,cap,cur,rfl,hbase,hb,h1,h2,h3,h4⟩
 ·simp [Builtin.append_,run_underlying Tryz.underlying39,Builtin.lenOf,Builtin.firstCells,Tryz.sizeOf44]
 ·simp [Builtin.append_,run_underlying Tryz.underlying39,Builtin.lenOf,Builtin.firstCells,Tryz.sizeOf44,h1,storeCells]
theorem zE_ (w:World) {ops:Array Oper} {rest:List Oper} {o:Oper} {a:Act} {Q:Exit→Act→World→Prop} (hgd:o.guard=none) (s x:Operand)
  (ho:o.op= .call ⟨.builtin .append,#[s,x],#[39,39]⟩) (hty:o.type=39)
  (base:Nat) (v:Value) (n:Nat) (zs:List En) (hs:a.eval s=v) (hown:w.ownsRow base 44 2 v n (zF_ zs))
  (xv:Value) (ys:List En) (hx:a.eval x=xv) (hI:ER w xv ys) (hn:n+ys.length≤2000000) (hbase:base≤w.heap.size)
  (h:∀v' w',w'.ownsRow base 44 2 v' (n+ys.length) (zF_ (zs++ys))→w.grownBy w' v.ownBlock→wpList Tryz.prog ops Q rest (a.put o.dst v') w'):wpList Tryz.prog ops Q (o::rest) a w:=by
 obtain⟨i0,hi,hz0,hzs,hzb⟩:=info_parts Tryz.info44;obtain⟨xa,xc,rfl,hc⟩:=hI
 cases xa with
 | none=>
  have hy:ys= []:=by
   by_cases e:ys= []
   ·exact e
   ·obtain⟨b,off,h,_⟩:=hc e;cases h
  subst hy;refine wpList_plain hgd fun K hK'=> ?_;have hrun:=xB_ xc hown;unfold Oper.wp;simp [execOp,ho,resolve,invoke,builtin,hs,hx,hty,hrun,Result.andThen];exact hK' _ _ (h v w (by simpa using hown) ⟨rfl,rfl,rfl,Nat.le_refl _,fun _ _ _=>rfl⟩)
 | some ad=>
  refine wpList_append_own _ hgd s x 39 ho base 44 i0 (.agg #[(0:Int),.string ⟨#[]⟩]) 2 24 Tryz.underlying39 hi hz0 hzs hzb rfl (by decide) v n (zF_ zs) hs hown ad ys.length xc (zF_ ys) hx (zV_ ys) ?_ ?_ (by unfold maxLen;omega) (by omega) hbase fun v' w' h1 h2 _=>h v' w' (by rw [vL_];exact h1) h2
  ·intro j u hj;have hj4:j<ys.length*2:=by rw [←zV_ ys];exact (List.getElem?_eq_some_iff.1 hj).1
   obtain⟨b,off,he,hb,hcell⟩:=hc (by intro e;rw [e] at hj4;simp at hj4);injection he with he;subst he;have ea:∀j,(⟨b,off,none⟩:Addr).add j=⟨b,off+j,none⟩:=fun j=>by simp [Addr.add]
   obtain⟨c0,c1⟩:=hcell (j / 2) (by omega);obtain⟨g0,g1⟩:=xJ_ ys (j / 2) (by omega);obtain hm | hm:j % 2=0∨j % 2=1:=by omega
   ·have e:j=j / 2*2:=by omega
    rw [←e] at g0 c0;rw [g0] at hj;injection hj with hj;rw [←hj,ea];exact c0
   ·have e:j=j / 2*2+1:=by omega
    rw [←e] at g1;rw [g1] at hj;injection hj with hj;rw [←hj,ea,show off+j=off+j / 2*2+1 from by omega];exact c1
  ·intro u hu;obtain⟨j,hj,e⟩:=List.getElem_of_mem hu;rw [zV_] at hj;have hj':(zF_ ys)[j]? =some u:=List.getElem?_eq_some_iff.2 ⟨by rw [zV_];exact hj,e⟩;obtain⟨g0,g1⟩:=xJ_ ys (j / 2) (by omega);obtain hm | hm:j % 2=0∨j % 2=1:=by omega
   ·rw [show j=j / 2*2 from by omega,g0] at hj';injection hj' with hj';rw [←hj'];rfl
   ·rw [show j=j / 2*2+1 from by omega,g1] at hj';injection hj' with hj';rw [←hj'];rfl
theorem vZ_ {w:World} {base n:Nat} {v:Value} {xs:List Value} (c:Nat) (h:w.ownsRow base 3 1 v n xs):(Builtin.append_ #[40,40] 40 #[v,.slice none 0 c]).run Tryz.prog w= .ok v w:=by
 rcases h.2 with⟨rfl,h0⟩ | ⟨g,cap,cur,rfl,hbase,hb,h1,h2,h3,h4⟩
 ·simp [Builtin.append_,run_underlying Tryz.underlying40,Builtin.lenOf,Builtin.firstCells,Tryz.sizeOf3]
 ·simp [Builtin.append_,run_underlying Tryz.underlying40,Builtin.lenOf,Builtin.firstCells,Tryz.sizeOf3,h1,storeCells]
theorem zy_ (w:World) {ops:Array Oper} {rest:List Oper} {o:Oper} {a:Act} {Q:Exit→Act→World→Prop} (hgd:o.guard=none) (s x:Operand)
  (ho:o.op= .call ⟨.builtin .append,#[s,x],#[40,40]⟩) (hty:o.type=40)
  (base:Nat) (v:Value) (n:Nat) (zs:List Int) (hs:a.eval s=v) (hown:w.ownsRow base 3 1 v n (zs.map (.int .i64)))
  (xv:Value) (ys:List Int) (hx:a.eval x=xv) (hI:IL w xv ys) (hn:n+ys.length≤2000000) (hbase:base≤w.heap.size)
  (h:∀v' w',w'.ownsRow base 3 1 v' (n+ys.length) ((zs++ys).map (.int .i64))→w.grownBy w' v.ownBlock→wpList Tryz.prog ops Q rest (a.put o.dst v') w'):wpList Tryz.prog ops Q (o::rest) a w:=by
 obtain⟨i0,hi,hz0,hzs,hzb⟩:=info_parts Tryz.info3;obtain⟨xa,xc,rfl,hc⟩:=hI
 cases xa with
 | none=>
  have hy:ys= []:=by
   by_cases e:ys= []
   ·exact e
   ·obtain⟨b,off,h,_⟩:=hc e;cases h
  subst hy;refine wpList_plain hgd fun K hK'=> ?_;have hrun:=vZ_ xc hown;unfold Oper.wp;simp [execOp,ho,resolve,invoke,builtin,hs,hx,hty,hrun,Result.andThen];exact hK' _ _ (h v w (by simpa using hown) ⟨rfl,rfl,rfl,Nat.le_refl _,fun _ _ _=>rfl⟩)
 | some ad=>
  refine wpList_append_own _ hgd s x 40 ho base 3 i0 (.int .i64 0) 1 8 Tryz.underlying40 hi hz0 hzs hzb rfl (by decide) v n (zs.map (.int .i64)) hs hown ad ys.length xc (ys.map (.int .i64)) hx (by simp) ?_ ?_ (by unfold maxLen;omega) (by omega) hbase fun v' w' h1 h2 _=>h v' w' (by rw [List.map_append];exact h1) h2
  ·intro j u hj;have hj4:j<ys.length:=by simpa using (List.getElem?_eq_some_iff.1 hj).1
   obtain⟨b,off,he,hb,hcell⟩:=hc (by intro e;rw [e] at hj4;simp at hj4);injection he with he;subst he;have ea:∀j,(⟨b,off,none⟩:Addr).add j=⟨b,off+j,none⟩:=fun j=>by simp [Addr.add]
   have c0:=hcell j hj4;have g0:(ys.map (Value.int .i64))[j]? =some (.int .i64 ys[j]):=by simp [hj4]
   rw [g0] at hj;injection hj with hj;rw [←hj,ea];exact c0
  ·intro u hu;simp only [List.mem_map] at hu;obtain⟨z,_,rfl⟩:=hu
   rfl
end Go.Proofs.YtapfhhmimkkhnaaGreat
