/-
  CompareItem: spec.l4Compare, impl.orderOf and what it calls; both CompareItems; the law.
-/
import Derived.Test.YthlllegedfjhlaaI1
namespace Go.Proofs.Ythlllegedfjhlaa
open Go.RowKit
set_option linter.unusedVariables false
set_option maxRecDepth 100000

/-- The order of two texts, of two numbers, of two items (by key, then by falling number). -/
def cS (a b : ByteArray) : Int := if Op.bytesLess a.toList b.toList then -1 else if a.toList == b.toList then 0 else 1
def cI (x y : Int) : Int := if x < y then -1 else if y < x then 1 else 0
def cIt (k k' : ByteArray) (n n' : Int) : Int := if Op.bytesLess k.toList k'.toList then -1 else if k.toList == k'.toList then cI n' n else 1

theorem isNaNi_any (a : Int) (w : World) : Calls Try.prog 50 #[.int .i64 a] w fun e w' => e = .returned (.bool false) ∧ w' = w := by
  go_enter Try.func50, Try.ntmps50
  go_wp2
  go_ret
  exact ⟨rfl, rfl⟩

set_option maxHeartbeats 1000000 in
theorem cmpI_any (a b : Int) (w : World) : Calls Try.prog 41 #[.int .i64 a, .int .i64 b] w fun e w' => e = .returned (.int .i64 (cI a b)) ∧ w' = w := by
  have HC : Hid (cI a b = if a < b then -1 else if b < a then 1 else 0) := rfl
  generalize cI a b = c at *
  rcases Int.lt_trichotomy a b with h | h | h
  · obtain rfl : c = -1 := by rw [HC.out, if_pos h]
    clear HC
    go_enter Try.func41, Try.ntmps41
    go_wp2_with fail
    refine (isNaNi_any a _).mono ?_
    rintro e w1 ⟨rfl, hw⟩
    rw [hw]; clear hw
    go_wp2_with fail
    refine (isNaNi_any b _).mono ?_
    rintro e w1 ⟨rfl, hw⟩
    rw [hw]; clear hw
    go_wp2
    go_ret
    exact ⟨rfl, rfl⟩
  · subst h
    obtain rfl : c = 0 := by rw [HC.out, if_neg (by omega), if_neg (by omega)]
    clear HC
    go_enter Try.func41, Try.ntmps41
    go_wp2_with fail
    refine (isNaNi_any a _).mono ?_
    rintro e w1 ⟨rfl, hw⟩
    rw [hw]; clear hw
    go_wp2_with fail
    refine (isNaNi_any a _).mono ?_
    rintro e w1 ⟨rfl, hw⟩
    rw [hw]; clear hw
    go_wp2
    go_ret
    exact ⟨rfl, rfl⟩
  · obtain rfl : c = 1 := by rw [HC.out, if_neg (by omega), if_pos h]
    have h' : b ≤ a := by omega
    clear HC
    go_enter Try.func41, Try.ntmps41
    go_wp2_with fail
    refine (isNaNi_any a _).mono ?_
    rintro e w1 ⟨rfl, hw⟩
    rw [hw]; clear hw
    go_wp2_with fail
    refine (isNaNi_any b _).mono ?_
    rintro e w1 ⟨rfl, hw⟩
    rw [hw]; clear hw
    go_wp2
    go_ret
    exact ⟨rfl, rfl⟩

end Go.Proofs.Ythlllegedfjhlaa
