/-
  Which item is seen: impl's seen, spec's l8Seen.
-/
import Derived.Test.YtcjkdkaahkphfaaM8
namespace Go.Proofs.Ytcjkdkaahkphfaa
open Go.RowKit
set_option linter.unusedVariables false
set_option maxRecDepth 100000

theorem keyEq (a b : ByteArray) : (a.toList == b.toList) = decide (a = b) := by
  by_cases h : a = b
  · rw [h, decide_eq_true rfl]; simp
  · rw [decide_eq_false h, Bool.eq_false_iff]; intro e; exact h (tl_inj (eq_of_beq e))

end Go.Proofs.Ytcjkdkaahkphfaa
