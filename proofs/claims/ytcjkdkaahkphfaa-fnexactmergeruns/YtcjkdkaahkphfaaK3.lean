/-
  Looking for an item in a run: slices.BinarySearchFunc at impl.orderOf, spec.l6Seek.
-/
import Derived.Test.YtcjkdkaahkphfaaN1
namespace Go.Proofs.Ytcjkdkaahkphfaa
open Go.RowKit
set_option linter.unusedVariables false
set_option maxRecDepth 100000

/-- Halving: where the first item lies that is not less. -/
def skF (p : Nat → Bool) (lo hi : Nat) : Nat :=
  if h : lo < hi then (if p ((lo + hi) / 2) then skF p ((lo + hi) / 2 + 1) hi else skF p lo ((lo + hi) / 2)) else lo
termination_by hi - lo
decreasing_by all_goals omega
theorem skF_end (p : Nat → Bool) (lo hi : Nat) (h : ¬ lo < hi) : skF p lo hi = lo := by rw [skF, dif_neg h]
theorem skF_yes (p : Nat → Bool) (lo hi : Nat) (h : lo < hi) (hp : p ((lo + hi) / 2) = true) : skF p lo hi = skF p ((lo + hi) / 2 + 1) hi := by rw [skF, dif_pos h, if_pos hp]
theorem skF_no (p : Nat → Bool) (lo hi : Nat) (h : lo < hi) (hp : p ((lo + hi) / 2) = false) : skF p lo hi = skF p lo ((lo + hi) / 2) := by rw [skF, dif_pos h, if_neg (by rw [hp]; simp)]
def lessAt (l : List It) (x : It) (i : Nat) : Bool := decide (lessIt (l.getD i default) x)
def seekF (l : List It) (x : It) : Nat := skF (lessAt l x) 0 l.length
theorem skF_le (p : Nat → Bool) : ∀ n lo hi, hi - lo ≤ n → lo ≤ hi → skF p lo hi ≤ hi := by
  intro n
  induction n with
  | zero => intro lo hi h1 h2; rw [skF_end p lo hi (by omega)]; omega
  | succ n ih =>
    intro lo hi h1 h2
    by_cases h : lo < hi
    · cases hp : p ((lo + hi) / 2) with
      | true => rw [skF_yes p lo hi h hp]; exact ih _ _ (by omega) (by omega)
      | false => rw [skF_no p lo hi h hp]; have := ih lo ((lo + hi) / 2) (by omega) (by omega); omega
    · rw [skF_end p lo hi h]; omega
theorem seekF_le (l : List It) (x : It) : seekF l x ≤ l.length := skF_le _ _ 0 l.length (Nat.le_refl _) (by omega)

end Go.Proofs.Ytcjkdkaahkphfaa
