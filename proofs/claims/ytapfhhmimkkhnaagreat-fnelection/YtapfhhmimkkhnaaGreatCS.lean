/-
  Leads compared, and sorted.
-/
import Derived.Test.YtapfhhmimkkhnaaGreatM3bToCO
import Derived.Deep.RegionHeld3
import Derived.Shelf.SlSortCmp.WholeK
import Derived.Shelf.Lay
import Derived.Shelf.SlGeneric
import Derived.Ground.SlsfProg
import Derived.Sort.OwnSorted
namespace Go.Proofs
open Go.Shelf Go.RowKit Go.Lib Go.Sort
shelf_lay_g SlLaysF0.n6 Slsf 6 at Tryz 34 as Tryz.sortLeads
namespace YtapfhhmimkkhnaaGreat
open Go.Maps
set_option linter.unusedVariables false
set_option maxRecDepth 100000
instance:Inhabited Ld:=⟨Ld.zero⟩
def cmp3 (a b:Int):Int:=if a<b then -1 else if b<a then 1 else 0
theorem isNaN_any (a:Int) (w:World):Calls Tryz.prog 119 #[a] w fun e w'=>e= .returned (.bool false)∧w'=w:=by
 go_enter Tryz.func119,Tryz.ntmps119;go_wp2;go_ret;exact⟨rfl,rfl⟩
theorem cmpI_any (a b:Int) (w:World):Calls Tryz.prog 71 #[a,b] w fun e w'=>e= .returned (.int .i64 (cmp3 a b))∧w'=w:=by
 have K:=fun x=>isNaN_any x w;unfold cmp3;by_cases h1:a<b
 ·rw [if_pos h1];go_enter Tryz.func71,Tryz.ntmps71;go_wp2_with fail;refine (K a).mono ?_;rintro e w1 ⟨rfl,hw⟩;subst hw;go_wp2_with fail;refine (K b).mono ?_;rintro e w2 ⟨rfl,hw⟩;subst hw;clear K;go_wp2;go_ret;exact⟨rfl,rfl⟩
 ·rw [if_neg h1];by_cases h2:b<a
  ·rw [if_pos h2];go_enter Tryz.func71,Tryz.ntmps71;go_wp2_with fail;refine (K a).mono ?_;rintro e w1 ⟨rfl,hw⟩;subst hw;go_wp2_with fail;refine (K b).mono ?_;rintro e w2 ⟨rfl,hw⟩;subst hw;clear K;go_wp2;go_ret;exact⟨rfl,rfl⟩
  ·rw [if_neg h2];go_enter Tryz.func71,Tryz.ntmps71;go_wp2_with fail;refine (K a).mono ?_;rintro e w1 ⟨rfl,hw⟩;subst hw;go_wp2_with fail;refine (K b).mono ?_;rintro e w2 ⟨rfl,hw⟩;subst hw;clear K;go_wp2;go_ret;exact⟨rfl,rfl⟩
theorem orI_any (a b:Int) (g:Nat) (w:World) (hx:Box w g [a,b]):Calls Tryz.prog 70 #[.slice (some ⟨g,0,none⟩) 2 2] w fun e w'=>e= .returned (.int .i64 (if a=0 then b else a))∧w'=w:=by
 obtain⟨hl,c0,c1⟩:=hx.c2;obtain⟨R,HR⟩:∃R,Hid ((if a=0 then b else a)=R):=⟨_,rfl⟩;rw [HR.out];go_enter Tryz.func70,Tryz.ntmps70;go_wp2
 go_loopw [8] (fun i wr=>∃k:Nat,k≤2∧i= .int .i64 k∧(k=0∨(k=1∧a=0)∨(k=2∧a=0∧b=0))∧wr=w) (fun i _=>2-(intOf i).toNat)
 case atStart=>exact⟨0,by omega,rfl,.inl rfl,rfl⟩
 case round=>
  obtain⟨k,hk,rfl,hc,rfl⟩:=hrel;rcases hc with rfl | ⟨rfl,h0⟩ | ⟨rfl,h0,h1⟩
  ·by_cases h:a=0
   ·have hb:(a !=0)=false:=by simp [h]
    go_wp2;go_roundw
    case rel=>exact⟨1,by omega,by go_num,.inr (.inl ⟨rfl,h⟩),trivial⟩
    case measure=>simp [intOf]
   ·have hb:(a !=0)=true:=by simp [h]
    have HV:Hid (a=R):=by show _=_;rw [←HR.out,if_neg h]
    clear HR;go_wp2;go_ret;exact⟨by rw [HV.out];try rfl,rfl⟩
  ·by_cases h:b=0
   ·have hb:(b !=0)=false:=by simp [h]
    go_wp2;go_roundw
    case rel=>exact⟨2,by omega,by go_num,.inr (.inr ⟨rfl,h0,h⟩),trivial⟩
    case measure=>simp [intOf]
   ·have hb:(b !=0)=true:=by simp [h]
    have HV:Hid (b=R):=by show _=_;rw [←HR.out,if_pos h0]
    clear HR;go_wp2;go_ret;exact⟨by rw [HV.out];try rfl,rfl⟩
  ·have HV:Hid ((0:Int)=R):=by show _=_;rw [←HR.out,if_pos h0,h1]
   clear HR;go_wp2;go_ret;exact⟨by rw [←HV.out];try rfl,rfl⟩
def encL (x:Ld):List Value:= [x.t,x.n]
def cmpL (x y:Ld):Int:=if cmp3 x.t y.t=0 then cmp3 x.n y.n else cmp3 x.t y.t
theorem lt_ld (x y:Ld):ltOf cmpL x y=decide (x.t<y.t∨(x.t=y.t∧x.n<y.n)):=by
 unfold ltOf cmpL cmp3;rw [Bool.eq_iff_iff];simp only [decide_eq_true_eq];by_cases h1:x.t<y.t
 ·simp [h1]
 ·by_cases h2:y.t<x.t
  ·have:¬x.t=y.t:=by omega
   simp [h1,h2,this]
  ·have:x.t=y.t:=by omega
   simp [this];by_cases h3:x.n<y.n
   ·simp [h3]
   ·by_cases h4:y.n<x.n <;>simp [h3,h4]
theorem swoL:SWO (ltOf cmpL) where
 irrefl x:=by rw [lt_ld];simp
 trans x y z h1 h2:=by rw [lt_ld,decide_eq_true_eq] at*;omega
 ntrans x y z h1 h2:=by
  rw [lt_ld,decide_eq_false_iff_not] at*;omega
end YtapfhhmimkkhnaaGreat
end Go.Proofs
