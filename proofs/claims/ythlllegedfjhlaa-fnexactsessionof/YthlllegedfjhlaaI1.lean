/-
  Items: laws.szItem, laws.toItem, spec.GoodItem, impl.GoodItem and what these call.
-/
import Derived.Test.YthlllegedfjhlaaProg
import Derived.Test.YthlllegedfjhlaaB
import Derived.WalkLawsBesides
namespace Go.Proofs.Ythlllegedfjhlaa
open Go.RowKit
set_option linter.unusedVariables false
set_option maxRecDepth 100000

/-- A key, a number, a kind and a value that make a good item. -/
def okKey (k : ByteArray) : Bool := decide ((1 : Int) ≤ k.size) && decide ((k.size : Int) ≤ 16)
def okSeq (n : Int) : Bool := decide (0 ≤ n) && decide (n ≤ 1000000000)
def okItem (k : ByteArray) (n d : Int) (v : ByteArray) : Bool := okKey k && okSeq n && (d == 0 && v.size == 0 || d == 1 && decide ((v.size : Int) ≤ 40))


theorem l1In_any (n lo hi : Int) (w : World) :
    Calls Try.prog 19 #[.int .i64 n, .int .i64 lo, .int .i64 hi] w fun e w' => e = .returned (.bool (decide (lo ≤ n) && decide (n ≤ hi))) ∧ w' = w := by
  by_cases h1 : lo ≤ n <;> by_cases h2 : n ≤ hi
  all_goals
    go_enter Try.func19, Try.ntmps19
    go_wp2
    go_ret
    simp [h1, h2]

theorem l4Key_any (k : ByteArray) (w : World) (hk : k.size ≤ 1048576) :
    Calls Try.prog 18 #[.string k] w fun e w' => e = .returned (.bool (okKey k)) ∧ w' = w := by
  go_enter Try.func18, Try.ntmps18
  go_wp2_with fail
  refine (l1In_any _ _ _ _).mono ?_
  rintro e w1 ⟨rfl, rfl⟩
  go_wp2
  go_ret
  exact ⟨rfl, rfl⟩

theorem goodKey_any (k : ByteArray) (w : World) (hk : k.size ≤ 1048576) :
    Calls Try.prog 35 #[.string k] w fun e w' => e = .returned (.bool (okKey k)) ∧ w' = w := by
  by_cases h1 : (1 : Int) ≤ k.size <;> by_cases h2 : (k.size : Int) ≤ 16
  all_goals
    go_enter Try.func35, Try.ntmps35
    go_wp2
    go_ret
    simp [okKey, h1, h2]

theorem goodValue_any (v : ByteArray) (w : World) (hv : v.size ≤ 1048576) :
    Calls Try.prog 36 #[.string v] w fun e w' => e = .returned (.bool (decide ((v.size : Int) ≤ 40))) ∧ w' = w := by
  by_cases h2 : (v.size : Int) ≤ 40
  all_goals
    go_enter Try.func36, Try.ntmps36
    go_wp2
    go_ret
    simp [h2]

theorem empty_of_size {v : ByteArray} (h : v.size = 0) : v = ⟨#[]⟩ := by
  obtain ⟨a⟩ := v
  have : a.size = 0 := h
  rw [Array.eq_empty_of_size_eq_zero this]
theorem isEmpty_eq (v : ByteArray) : v.toList.isEmpty = (v.size == 0) := by
  rw [ByteArray.toList_eq]
  have : v.size = v.data.toList.length := Array.length_toList.symm
  rw [this]
  cases v.data.toList <;> rfl

end Go.Proofs.Ythlllegedfjhlaa
