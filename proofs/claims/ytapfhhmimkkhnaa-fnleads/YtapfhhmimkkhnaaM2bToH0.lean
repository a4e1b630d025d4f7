/-
  A message is good: both sides.
  What a message does to a node, plainly.
-/
import Derived.Test.YtapfhhmimkkhnaaN1ToA3
import Derived.Test.YtapfhhmimkkhnaaF5ToRF8
import Derived.Test.YtapfhhmimkkhnaaQ3ToQD
namespace Go.Proofs.Ytapfhhmimkkhnaa
open Go.RowKit
set_option linter.unusedVariables false
set_option maxRecDepth 100000
set_option maxHeartbeats 8000000
def zW_ (ix be:Int):Bool:=decide (0≤ix)&&decide (ix≤60)&&decide (0≤be)&&decide (be≤1000)
def loadB (te ix co:Int) (es:List En):Bool:=decide (ix+(es.length:Int)≤60)&&gE te 0 es&&decide (0≤co)&&decide (co≤60)
def carB (n co:Int):Bool:=decide (0<n) || !decide (co=0)
def zR_ (ki te ix be co:Int) (ye:Bool) (es:List En):Bool:=
 if ki=1 then zW_ ix be&& !carB es.length co&& !ye
 else if ki=2 then decide (ix=0)&&decide (be=0)&& !carB es.length co
 else if ki=3 then zW_ ix be&&loadB te ix co es&& !ye
 else if ki=4 then zW_ ix be&&decide (be=0)&& !carB es.length co
 else false
def goodM (pe ki fr dst te ix be co:Int) (ye:Bool) (es:List En):Bool:=
 decide (pe≤7)&&isP fr pe&&isP dst pe&& !decide (fr=dst)&&decide (1≤te)&&decide (te≤1000)&&zR_ ki te ix be co ye es
theorem goodPlace_any (ki fr dst te ix be co:Int) (ye:Bool) (ve:Value) (w:World):
  Calls Try.prog 70 #[.agg #[ki,fr,dst,te,ix,be,ve,co,ye]] w fun e w'=>e= .returned (.bool (zW_ ix be))∧Below w.heap.size w w':=by
 unfold zW_;by_cases c1:0≤ix
 ·by_cases c2:ix≤60
  ·by_cases c3:0≤be
   ·by_cases c4:be≤1000
    all_goals
     go_enter Try.func70,Try.ntmps70;go_wp2;go_ret;exact⟨by simp <;>omega,zc_ _ _⟩
   ·go_enter Try.func70,Try.ntmps70;go_wp2;go_ret;exact⟨by simp <;>omega,zc_ _ _⟩
  ·go_enter Try.func70,Try.ntmps70;go_wp2;go_ret;exact⟨by simp <;>omega,zc_ _ _⟩
 ·go_enter Try.func70,Try.ntmps70;go_wp2;go_ret;exact⟨by simp <;>omega,zc_ _ _⟩
theorem goodLoad_any (ki fr dst te ix be co:Int) (ye:Bool) (ve:Value) (es:List En) (w:World) (he:ER w ve es) (ne:es.length≤1048576) (ns:∀i (h:i<es.length),es[i].d.size≤1048576) (hx0:0≤ix) (hx1:ix≤60):
  Calls Try.prog 71 #[.agg #[ki,fr,dst,te,ix,be,ve,co,ye]] w fun e w'=>e= .returned (.bool (loadB te ix co es))∧Below w.heap.size w w':=by
 have hB:=zc_ w (.cells #[ki,fr,dst,te,ix,be,ve,co,ye] 38);have X:=Box.new w #[ki,fr,dst,te,ix,be,ve,co,ye] 38;have KE:=goodEntries_any ve es te _ (he.below hB) ne ns;have HO:Hid (loadB te ix co es=(decide (ix+(es.length:Int)≤60)&&gE te 0 es&&decide (0≤co)&&decide (co≤60))):=rfl;generalize loadB te ix co es=R at*;generalize gE te 0 es=g at*;obtain⟨ea,ec,rfl,hec⟩:=he;clear hec ns;generalize es.length=n at*;by_cases c1:ix+(n:Int)≤60;rotate_left
 ·go_enter Try.func71,Try.ntmps71;go_wp2;go_ret;exact⟨by rw [HO.out];simp <;>omega,hB⟩
 go_enter Try.func71,Try.ntmps71;go_wp2_with fail;refine KE.mono ?_;rintro e w1 ⟨rfl,hb⟩;replace hB:=za_ hB hb;replace X:=X.below hb;clear KE hb;obtain⟨hxl,x0,x1,x2,x3,x4,x5,x6,x7,x8⟩:=X.e9
 cases g
 ·go_wp2;go_ret;exact⟨by rw [HO.out];simp,hB⟩
 by_cases c2:0≤co;rotate_left
 ·go_wp2;go_ret;exact⟨by rw [HO.out];simp <;>omega,hB⟩
 by_cases c3:co≤60
 all_goals
  go_wp2;go_ret;exact⟨by rw [HO.out];simp <;>omega,hB⟩
theorem kindB_1 (te ix be co:Int) (ye:Bool) (es:List En):zR_ 1 te ix be co ye es=(zW_ ix be&& !carB es.length co&& !ye):=by simp [zR_]
theorem kindB_2 (te ix be co:Int) (ye:Bool) (es:List En):zR_ 2 te ix be co ye es=(decide (ix=0)&&decide (be=0)&& !carB es.length co):=by simp [zR_]
theorem kindB_3 (te ix be co:Int) (ye:Bool) (es:List En):zR_ 3 te ix be co ye es=(zW_ ix be&&loadB te ix co es&& !ye):=by simp [zR_]
theorem kindB_4 (te ix be co:Int) (ye:Bool) (es:List En):zR_ 4 te ix be co ye es=(zW_ ix be&&decide (be=0)&& !carB es.length co):=by simp [zR_]
theorem kindB_x (ki te ix be co:Int) (ye:Bool) (es:List En) (h1:¬ki=1) (h2:¬ki=2) (h3:¬ki=3) (h4:¬ki=4):zR_ ki te ix be co ye es=false:=by simp [zR_,h1,h2,h3,h4]
theorem implGoodM_any (pe ki fr dst te ix be co:Int) (ye:Bool) (ve:Value) (es:List En) (w:World) (he:ER w ve es) (ne:es.length≤1048576) (ns:∀i (h:i<es.length),es[i].d.size≤1048576):
  Calls Try.prog 19 #[.agg #[ki,fr,dst,te,ix,be,ve,co,ye],pe] w fun e w'=>e= .returned (.bool (goodM pe ki fr dst te ix be co ye es))∧Below w.heap.size w w':=by
 have hB:=zc_ w (.cells #[ki,fr,dst,te,ix,be,ve,co,ye] 38);have X:=Box.new w #[ki,fr,dst,te,ix,be,ve,co,ye] 38;have HO:Hid (goodM pe ki fr dst te ix be co ye es=(decide (pe≤7)&&isP fr pe&&isP dst pe&& !decide (fr=dst)&&decide (1≤te)&&decide (te≤1000)&&zR_ ki te ix be co ye es)):=rfl;have K1:=fun W=>isPeer_any fr pe W;have K2:=fun W=>isPeer_any dst pe W;have KP:=fun W=>goodPlace_any ki fr dst te ix be co ye ve W;have KL:=fun (hp:zW_ ix be=true) W (h:Below w.heap.size w W)=>goodLoad_any ki fr dst te ix be co ye ve es W (he.below h) ne ns (by simp [zW_] at hp;omega) (by simp [zW_] at hp;omega);have C0:(carB es.length co=true∧(0<es.length∨(es.length=0∧¬co=0)))∨(carB es.length co=false∧es.length=0∧co=0):=by
  unfold carB;rcases Nat.eq_zero_or_pos es.length with h | h
  ·by_cases h2:co=0
   ·exact .inr ⟨by simp [h,h2],h,h2⟩
   ·exact .inl ⟨by simp [h2],.inr ⟨h,h2⟩⟩
  ·exact .inl ⟨by simp [List.length_pos_iff] at h ⊢;simp [h],.inl h⟩
 generalize goodM pe ki fr dst te ix be co ye es=R at*;generalize isP fr pe=b1 at*;generalize isP dst pe=b2 at*;obtain⟨ea,ec,rfl,hec⟩:=he;clear hec ns;by_cases c1:pe≤7;rotate_left
 ·clear KL C0 K1 K2 KP;go_enter Try.func19,Try.ntmps19;go_wp2;go_ret;exact⟨by rw [HO.out];simp <;>omega,hB⟩
 go_enter Try.func19,Try.ntmps19;go_wp2_with fail;refine (K1 _).mono ?_;rintro e w1 ⟨rfl,hw⟩;subst hw;clear K1
 cases b1
 ·clear KL C0 K2 KP;go_wp2;go_ret;exact⟨by rw [HO.out];simp <;>omega,hB⟩
 go_wp2_with fail;refine (K2 _).mono ?_;rintro e w1 ⟨rfl,hw⟩;subst hw;clear K2
 cases b2
 ·clear KL C0 KP;go_wp2;go_ret;exact⟨by rw [HO.out];simp <;>omega,hB⟩
 by_cases c2:fr=dst
 ·subst c2;clear KL C0 KP;go_wp2;go_ret;exact⟨by rw [HO.out];simp <;>omega,hB⟩
 have c2b:(fr==dst)=false:=by simp [c2]
 by_cases c3:1≤te;rotate_left
 ·clear KL C0 KP;go_wp2;go_ret;exact⟨by rw [HO.out];simp <;>omega,hB⟩
 by_cases c4:te≤1000;rotate_left
 ·clear KL C0 KP;go_wp2;go_ret;exact⟨by rw [HO.out];simp <;>omega,hB⟩
 have HV:Hid (R=zR_ ki te ix be co ye es):=by
  show _=_;rw [HO.out,decide_eq_true c1,decide_eq_true c3,decide_eq_true c4,decide_eq_false c2];rfl
 clear HO;have c3b:¬te<1:=by omega
 have c4b:¬1000<te:=by omega
 by_cases k1:ki=1
 ·subst k1;have HE:=HV.out;clear HV;rw [kindB_1] at HE;generalize zW_ ix be=bp at*;rcases C0 with⟨hc,hn | ⟨hn,h0⟩⟩ | ⟨hc,hn,h0⟩
  ·rw [hc] at HE;have HO:Hid _:=HE;clear HE hc;generalize es.length=n at*;have hn2:(0:Int)<(n:Int):=by omega
   go_wp2_with fail;refine (KP _).mono ?_;rintro e w2 ⟨rfl,hb⟩;replace hB:=za_ hB hb;replace X:=X.below hb;clear KP hb;obtain⟨hxl,x0,x1,x2,x3,x4,x5,x6,x7,x8⟩:=X.e9
   cases bp
   ·clear KL;go_wp2;go_ret;exact⟨by rw [HO.out];simp <;>omega,hB⟩
   clear KL;go_wp2;go_ret;exact⟨by rw [HO.out];simp <;>omega,hB⟩
  ·rw [hc] at HE;have HO:Hid _:=HE;clear HE hc;have h0b:(co==0)=false:=by simp [h0]
   generalize es.length=n at*;subst hn;go_wp2_with fail;refine (KP _).mono ?_;rintro e w2 ⟨rfl,hb⟩;replace hB:=za_ hB hb;replace X:=X.below hb;clear KP hb;obtain⟨hxl,x0,x1,x2,x3,x4,x5,x6,x7,x8⟩:=X.e9
   cases bp
   ·clear KL;go_wp2;go_ret;exact⟨by rw [HO.out];simp <;>omega,hB⟩
   clear KL;go_wp2;go_ret;exact⟨by rw [HO.out];simp <;>omega,hB⟩
  ·rw [hc] at HE;have HO:Hid _:=HE;clear HE hc;subst h0;generalize es.length=n at*;subst hn;go_wp2_with fail;refine (KP _).mono ?_;rintro e w2 ⟨rfl,hb⟩;replace hB:=za_ hB hb;replace X:=X.below hb;clear KP hb;obtain⟨hxl,x0,x1,x2,x3,x4,x5,x6,x7,x8⟩:=X.e9
   cases bp
   ·clear KL;go_wp2;go_ret;exact⟨by rw [HO.out];simp <;>omega,hB⟩
   cases ye
   ·clear KL;go_wp2;go_ret;exact⟨by rw [HO.out];simp <;>omega,hB⟩
   clear KL;go_wp2;go_ret;exact⟨by rw [HO.out];simp <;>omega,hB⟩
 by_cases k2:ki=2
 ·subst k2;have HE:=HV.out;clear HV;rw [kindB_2] at HE;rcases C0 with⟨hc,hn | ⟨hn,h0⟩⟩ | ⟨hc,hn,h0⟩
  ·rw [hc] at HE;have HO:Hid _:=HE;clear HE hc;generalize es.length=n at*;have hn2:(0:Int)<(n:Int):=by omega
   clear KL KP;by_cases z1:ix=0;rotate_left
   ·have z1b:(ix==0)=false:=by simp [z1]
    go_wp2;go_ret;exact⟨by rw [HO.out];simp [z1],hB⟩
   subst z1;by_cases z2:be=0;rotate_left
   ·have z2b:(be==0)=false:=by simp [z2]
    go_wp2;go_ret;exact⟨by rw [HO.out];simp [z2],hB⟩
   subst z2;go_wp2;go_ret;exact⟨by rw [HO.out];simp <;>omega,hB⟩
  ·rw [hc] at HE;have HO:Hid _:=HE;clear HE hc;have h0b:(co==0)=false:=by simp [h0]
   generalize es.length=n at*;subst hn;clear KL KP;by_cases z1:ix=0;rotate_left
   ·have z1b:(ix==0)=false:=by simp [z1]
    go_wp2;go_ret;exact⟨by rw [HO.out];simp [z1],hB⟩
   subst z1;by_cases z2:be=0;rotate_left
   ·have z2b:(be==0)=false:=by simp [z2]
    go_wp2;go_ret;exact⟨by rw [HO.out];simp [z2],hB⟩
   subst z2;go_wp2;go_ret;exact⟨by rw [HO.out];simp <;>omega,hB⟩
  ·rw [hc] at HE;have HO:Hid _:=HE;clear HE hc;subst h0;generalize es.length=n at*;subst hn;clear KL KP;by_cases z1:ix=0;rotate_left
   ·have z1b:(ix==0)=false:=by simp [z1]
    go_wp2;go_ret;exact⟨by rw [HO.out];simp [z1],hB⟩
   subst z1;by_cases z2:be=0;rotate_left
   ·have z2b:(be==0)=false:=by simp [z2]
    go_wp2;go_ret;exact⟨by rw [HO.out];simp [z2],hB⟩
   subst z2;go_wp2;go_ret;exact⟨by rw [HO.out];simp <;>omega,hB⟩
 by_cases k3:ki=3
 ·subst k3;have HE:=HV.out;clear HV;rw [kindB_3] at HE;generalize zW_ ix be=bp at*;generalize loadB te ix co es=bl at*;rcases C0 with⟨hc,hn | ⟨hn,h0⟩⟩ | ⟨hc,hn,h0⟩
  ·have HO:Hid _:=HE;clear HE hc;generalize es.length=n at*;have hn2:(0:Int)<(n:Int):=by omega
   go_wp2_with fail;refine (KP _).mono ?_;rintro e w2 ⟨rfl,hb⟩;replace hB:=za_ hB hb;replace X:=X.below hb;clear KP hb;obtain⟨hxl,x0,x1,x2,x3,x4,x5,x6,x7,x8⟩:=X.e9
   cases bp
   ·clear KL;go_wp2;go_ret;exact⟨by rw [HO.out];simp <;>omega,hB⟩
   replace KL:=KL rfl;go_wp2_with fail;refine (KL _ hB).mono ?_;rintro e w3 ⟨rfl,hb⟩;replace hB:=za_ hB hb;replace X:=X.below hb;clear KL hb hxl x0 x1 x2 x3 x4 x5 x6 x7 x8;obtain⟨hxl,x0,x1,x2,x3,x4,x5,x6,x7,x8⟩:=X.e9
   cases bl
   ·go_wp2;go_ret;exact⟨by rw [HO.out];simp <;>omega,hB⟩
   cases ye
   ·go_wp2;go_ret;exact⟨by rw [HO.out];simp <;>omega,hB⟩
   go_wp2;go_ret;exact⟨by rw [HO.out];simp <;>omega,hB⟩
  ·have HO:Hid _:=HE;clear HE hc;have h0b:(co==0)=false:=by simp [h0]
   generalize es.length=n at*;subst hn;go_wp2_with fail;refine (KP _).mono ?_;rintro e w2 ⟨rfl,hb⟩;replace hB:=za_ hB hb;replace X:=X.below hb;clear KP hb;obtain⟨hxl,x0,x1,x2,x3,x4,x5,x6,x7,x8⟩:=X.e9
   cases bp
   ·clear KL;go_wp2;go_ret;exact⟨by rw [HO.out];simp <;>omega,hB⟩
   replace KL:=KL rfl;go_wp2_with fail;refine (KL _ hB).mono ?_;rintro e w3 ⟨rfl,hb⟩;replace hB:=za_ hB hb;replace X:=X.below hb;clear KL hb hxl x0 x1 x2 x3 x4 x5 x6 x7 x8;obtain⟨hxl,x0,x1,x2,x3,x4,x5,x6,x7,x8⟩:=X.e9
   cases bl
   ·go_wp2;go_ret;exact⟨by rw [HO.out];simp <;>omega,hB⟩
   cases ye
   ·go_wp2;go_ret;exact⟨by rw [HO.out];simp <;>omega,hB⟩
   go_wp2;go_ret;exact⟨by rw [HO.out];simp <;>omega,hB⟩
  ·have HO:Hid _:=HE;clear HE hc;subst h0;generalize es.length=n at*;subst hn;go_wp2_with fail;refine (KP _).mono ?_;rintro e w2 ⟨rfl,hb⟩;replace hB:=za_ hB hb;replace X:=X.below hb;clear KP hb;obtain⟨hxl,x0,x1,x2,x3,x4,x5,x6,x7,x8⟩:=X.e9
   cases bp
   ·clear KL;go_wp2;go_ret;exact⟨by rw [HO.out];simp <;>omega,hB⟩
   replace KL:=KL rfl;go_wp2_with fail;refine (KL _ hB).mono ?_;rintro e w3 ⟨rfl,hb⟩;replace hB:=za_ hB hb;replace X:=X.below hb;clear KL hb hxl x0 x1 x2 x3 x4 x5 x6 x7 x8;obtain⟨hxl,x0,x1,x2,x3,x4,x5,x6,x7,x8⟩:=X.e9
   cases bl
   ·go_wp2;go_ret;exact⟨by rw [HO.out];simp <;>omega,hB⟩
   cases ye
   ·go_wp2;go_ret;exact⟨by rw [HO.out];simp <;>omega,hB⟩
   go_wp2;go_ret;exact⟨by rw [HO.out];simp <;>omega,hB⟩
 by_cases k4:ki=4
 ·subst k4;have HE:=HV.out;clear HV;rw [kindB_4] at HE;generalize zW_ ix be=bp at*;rcases C0 with⟨hc,hn | ⟨hn,h0⟩⟩ | ⟨hc,hn,h0⟩
  ·rw [hc] at HE;have HO:Hid _:=HE;clear HE hc;generalize es.length=n at*;have hn2:(0:Int)<(n:Int):=by omega
   go_wp2_with fail;refine (KP _).mono ?_;rintro e w2 ⟨rfl,hb⟩;replace hB:=za_ hB hb;replace X:=X.below hb;clear KP hb;obtain⟨hxl,x0,x1,x2,x3,x4,x5,x6,x7,x8⟩:=X.e9
   cases bp
   ·clear KL;go_wp2;go_ret;exact⟨by rw [HO.out];simp <;>omega,hB⟩
   clear KL;by_cases z2:be=0;rotate_left
   ·have z2b:(be==0)=false:=by simp [z2]
    go_wp2;go_ret;exact⟨by rw [HO.out];simp [z2],hB⟩
   subst z2;go_wp2;go_ret;exact⟨by rw [HO.out];simp <;>omega,hB⟩
  ·rw [hc] at HE;have HO:Hid _:=HE;clear HE hc;have h0b:(co==0)=false:=by simp [h0]
   generalize es.length=n at*;subst hn;go_wp2_with fail;refine (KP _).mono ?_;rintro e w2 ⟨rfl,hb⟩;replace hB:=za_ hB hb;replace X:=X.below hb;clear KP hb;obtain⟨hxl,x0,x1,x2,x3,x4,x5,x6,x7,x8⟩:=X.e9
   cases bp
   ·clear KL;go_wp2;go_ret;exact⟨by rw [HO.out];simp <;>omega,hB⟩
   clear KL;by_cases z2:be=0;rotate_left
   ·have z2b:(be==0)=false:=by simp [z2]
    go_wp2;go_ret;exact⟨by rw [HO.out];simp [z2],hB⟩
   subst z2;go_wp2;go_ret;exact⟨by rw [HO.out];simp <;>omega,hB⟩
  ·rw [hc] at HE;have HO:Hid _:=HE;clear HE hc;subst h0;generalize es.length=n at*;subst hn;go_wp2_with fail;refine (KP _).mono ?_;rintro e w2 ⟨rfl,hb⟩;replace hB:=za_ hB hb;replace X:=X.below hb;clear KP hb;obtain⟨hxl,x0,x1,x2,x3,x4,x5,x6,x7,x8⟩:=X.e9
   cases bp
   ·clear KL;go_wp2;go_ret;exact⟨by rw [HO.out];simp <;>omega,hB⟩
   clear KL;by_cases z2:be=0;rotate_left
   ·have z2b:(be==0)=false:=by simp [z2]
    go_wp2;go_ret;exact⟨by rw [HO.out];simp [z2],hB⟩
   subst z2;go_wp2;go_ret;exact⟨by rw [HO.out];simp <;>omega,hB⟩
 have HE:=HV.out;clear HV;rw [kindB_x _ _ _ _ _ _ _ k1 k2 k3 k4] at HE;have HO:Hid _:=HE;clear HE KL KP;rcases C0 with⟨hc,hn | ⟨hn,h0⟩⟩ | ⟨hc,hn,h0⟩
 ·clear hc;generalize es.length=n at*;have hn2:(0:Int)<(n:Int):=by omega
  go_wp2;go_ret;exact⟨by rw [HO.out];try rfl,hB⟩
 ·clear hc;have h0b:(co==0)=false:=by simp [h0]
  generalize es.length=n at*;subst hn;go_wp2;go_ret;exact⟨by rw [HO.out];try rfl,hB⟩
 ·clear hc;subst h0;generalize es.length=n at*;subst hn;go_wp2;go_ret;exact⟨by rw [HO.out];try rfl,hB⟩
end Go.Proofs.Ytapfhhmimkkhnaa
namespace Go.Proofs.Ytapfhhmimkkhnaa
set_option linter.unusedVariables false
def fiK (P:List En) (ix:Nat):List En→Nat
 | []=>0
 | e::r=>if ix<P.length∧(P.getD ix En.zero).t=e.t then fiK P (ix+1) r+1 else 0
theorem fiK_le (P:List En) (es:List En):∀ix,fiK P ix es≤es.length:=by
 induction es with
 | nil=>intro ix;simp [fiK]
 | cons e r ih=>intro ix;simp only [fiK];split <;>simp only [List.length_cons] <;>(try have:=ih (ix+1)) <;>omega
theorem fiK_in (P:List En) (es:List En):∀ix,ix≤P.length→ix+fiK P ix es≤P.length:=by
 induction es with
 | nil=>intro ix h;simpa [fiK] using h
 | cons e r ih=>
  intro ix h;simp only [fiK]
  split
  ·rename_i hc;have:=ih (ix+1) (by omega);omega
  ·omega
theorem lgW_fi (P:List En) (es:List En):∀ix,lgW P ix es=if fiK P ix es<es.length then P.take (ix+fiK P ix es)++es.drop (fiK P ix es) else P:=by
 induction es with
 | nil=>intro ix;simp [lgW,fiK]
 | cons e r ih=>
  intro ix;by_cases hc:ix<P.length∧(P.getD ix En.zero).t=e.t
  ·have e1:lgW P ix (e::r)=lgW P (ix+1) r:=by simp only [lgW];rw [if_pos hc]
   have e2:fiK P ix (e::r)=fiK P (ix+1) r+1:=by simp only [fiK];rw [if_pos hc]
   rw [e1,e2,ih (ix+1)];simp only [List.length_cons,List.drop_succ_cons,Nat.add_lt_add_iff_right];rw [show ix+(fiK P (ix+1) r+1)=ix+1+fiK P (ix+1) r from by omega]
  ·have e1:lgW P ix (e::r)=P.take ix++(e::r):=by simp only [lgW];rw [if_neg hc]
   have e2:fiK P ix (e::r)=0:=by simp only [fiK];rw [if_neg hc]
   rw [e1,e2];simp
theorem fiK_step (P:List En) (es:List En):∀ix k,k≤fiK P ix es→(hk:k<es.length)→(k<fiK P ix es↔(ix+k<P.length∧(P.getD (ix+k) En.zero).t=es[k].t)):=by
 induction es with
 | nil=>intro ix k _ hk;simp at hk
 | cons e r ih=>
  intro ix k h hk;simp only [fiK] at h ⊢;by_cases hc:ix<P.length∧(P.getD ix En.zero).t=e.t
  ·rw [if_pos hc] at h ⊢
   cases k with
   | zero=>simp only [List.getElem_cons_zero,Nat.add_zero];exact⟨fun _=>hc,fun _=>by omega⟩
   | succ k=>
    simp only [List.getElem_cons_succ];have:=ih (ix+1) k (by omega) (by simpa using hk);rw [show ix+(k+1)=ix+1+k from by omega,←this];omega
  ·rw [if_neg hc] at h ⊢;obtain rfl:k=0:=by omega
   simp only [List.getElem_cons_zero,Nat.add_zero];exact⟨fun h=>by omega,fun h=>absurd h hc⟩
def hmU (n:Nd) (te:Int):Nd:=if n.te<te then upN n te else n
def cmN (n:Nd):Nd:=if n.ro=2 then { n with co:=zr_ n.te n.pe n.co n.log n.mt n.log.length } else n
def msN (ki fr dst te ix:Int) (ye:Bool):Ms:=⟨ki,fr,dst,te,ix,0,0,ye,[]⟩
def askY (n:Nd) (m:Ms):Bool:=decide (m.te=n.te)&&((decide (n.vo= -1) || decide (n.vo=m.fr))&&zM_ n.log m.ix m.be)
def askN (n:Nd) (m:Ms):Nd:=if askY n m=true then { n with vo:=m.fr } else n
def mtZ (pe id n:Int):List Int:=(List.replicate pe.toNat (0:Int)).set id.toNat n
def leN (n:Nd):Nd:=⟨n.id,n.pe,n.te,n.vo,n.co,2,n.log,[],mtZ n.pe n.id n.log.length⟩
def putV (vs:List Int) (x:Int):List Int:=vs.take (vs.countP fun v=>decide (v<x))++x::vs.drop (vs.countP fun v=>decide (v<x))
theorem putV_length (vs:List Int) (x:Int):(putV vs x).length=vs.length+1:=by
 have:vs.countP (fun v=>decide (v<x))≤vs.length:=List.countP_le_length;simp only [putV,List.length_append,List.length_cons,List.length_take,List.length_drop];omega
def vbN (n:Nd) (x:Int):Nd:=if hsI n.vs x=true then n else if n.pe<2*((n.vs.length+1:Nat):Int) then leN n else { n with vs:=putV n.vs x }
def votY (n:Nd) (m:Ms):Bool:=decide (m.te=n.te)&&(m.ye&&decide (n.ro=1))
def votN (n:Nd) (m:Ms):Nd:=if votY n m=true then vbN n m.fr else n
def fitsB (n:Nd) (m:Ms):Bool:=decide (m.ix≤(n.log.length:Int))&&decide (tmAt n.log m.ix.toNat=m.be)
def noIx (n:Nat) (ix:Int):Int:=max 0 (min (n:Int) (ix-1))
def apY (n:Nd) (m:Ms):Bool:=decide (fiK n.log m.ix.toNat m.es=m.es.length) || decide (n.co≤m.ix+(fiK n.log m.ix.toNat m.es:Int))
def apC (n:Nd) (m:Ms):Int:=max n.co (min m.co (m.ix+(m.es.length:Int)))
def appN (n:Nd) (m:Ms):Nd:=if m.te<n.te then n else if fitsB n m=true then { foN n with log:=lgW n.log m.ix.toNat m.es,co:=apC n m } else foN n
def appM (n:Nd) (m:Ms):Ms:=if m.te<n.te then msN 4 n.id m.fr n.te 0 false else if fitsB n m=true then msN 4 n.id m.fr n.te (m.ix+(m.es.length:Int)) true else msN 4 n.id m.fr n.te (noIx n.log.length m.ix) false
def appB (n:Nd) (m:Ms):Bool:=decide (m.te<n.te) || (!fitsB n m || apY n m)
def tolY (n:Nd) (m:Ms):Bool:=decide (m.te=n.te)&&decide (n.ro=2)
def tolX (mt:List Int) (fr ix:Int) (ye:Bool):List Int:=mt.set fr.toNat (if ye=true then max (mt.getD fr.toNat 0) ix else min (mt.getD fr.toNat 0) ix)
def tolN (n:Nd) (m:Ms):Nd:=if tolY n m=true then { n with mt:=tolX n.mt m.fr m.ix m.ye } else n
def hmN (n:Nd) (m:Ms):Nd:=if m.ki=1 then askN n m else if m.ki=2 then votN n m else if m.ki=3 then appN n m else tolN n m
def hmA (n:Nd) (m:Ms):List Ms:=if m.ki=1 then [msN 2 n.id m.fr n.te 0 (askY n m)] else if m.ki=3 then [appM n m] else []
def hmB (n:Nd) (m:Ms):Bool:=if m.ki=3 then appB n m else true
def gN (n:Nd):Bool:=zk_ n.id n.pe n.te n.vo n.co n.ro n.log n.vs n.mt
def gMi (pe:Int) (m:Ms):Bool:=goodM pe m.ki m.fr m.dst m.te m.ix m.be m.co m.ye m.es
def hmP (n:Nd) (m:Ms):Bool:=gN n&&(gMi n.pe m&&decide (m.dst=n.id))
def hmX (n:Nd) (m:Ms):Nd:=cmN (hmN (hmU n m.te) m)
def hmOk (n:Nd) (m:Ms):Bool:=hmP n m&&(hmB (hmU n m.te) m&&gN (hmX n m))
def zv_ (n:Nd):Prop:=cmN n=n
theorem upN_settled (n:Nd) (t:Int):zv_ (upN n t):=by simp [zv_,cmN,upN]
theorem hmU_settled {n:Nd} (h:zv_ n) (t:Int):zv_ (hmU n t):=by
 unfold hmU
 split
 ·exact upN_settled n t
 ·exact h
theorem settled_co {n:Nd} (h:zv_ n) (h2:n.ro=2):zr_ n.te n.pe n.co n.log n.mt n.log.length=n.co:=by
 have:=congrArg Nd.co h;simpa [cmN,h2] using this
theorem settled_vo {n:Nd} (h:zv_ n) (v:Int):zv_ { n with vo:=v } :=by
 by_cases h2:n.ro=2
 ·have:=settled_co h h2;simp [zv_,cmN,h2,this]
 ·simp [zv_,cmN,h2]
theorem comTo_twice (te pe co:Int) (log:List En) (mt:List Int):∀k,zr_ te pe (zr_ te pe co log mt k) log mt k=zr_ te pe co log mt k:=by
 intro k
 induction k with
 | zero=>rfl
 | succ k ih=>
  by_cases hc:co<((k+1:Nat):Int)
  ·by_cases ht:(log.getD k En.zero).t=te∧pe<2*(cI ((k+1:Nat):Int) mt:Int)
   ·have e:zr_ te pe co log mt (k+1)=((k+1:Nat):Int):=by simp only [zr_];rw [if_pos hc,if_pos ht]
    rw [e];exact comTo_low _ _ _ _ _ _ (by omega)
   ·have e:zr_ te pe co log mt (k+1)=zr_ te pe co log mt k:=by simp only [zr_];rw [if_pos hc,if_neg ht]
    rw [e];simp only [zr_];rw [if_neg ht]
    split
    ·exact ih
    ·rfl
  ·have e:zr_ te pe co log mt (k+1)=co:=by simp only [zr_];rw [if_neg hc]
   rw [e,e]
theorem cmN_settled (n:Nd):zv_ (cmN n):=by
 unfold zv_;by_cases h2:n.ro=2
 ·simp only [cmN,h2,if_true];rw [comTo_twice]
 ·simp [cmN,h2]
end Go.Proofs.Ytapfhhmimkkhnaa
