/-
  The cursor's among and of; spec.DrawVarBytes, spec.DrawTakeVar.
-/
import Derived.Test.YtcjkdkaahkphfaaD2
namespace Go.Proofs.Ytcjkdkaahkphfaa
open Go.RowKit
set_option maxRecDepth 100000
set_option linter.unusedVariables false

theorem varT_le (n : Int) (h : n ≤ 9223372036854775807) : (varT n).size ≤ 9 := by
  by_cases h0 : 0 ≤ n
  · obtain ⟨k, rfl⟩ := Int.eq_ofNat_of_zero_le h0
    rw [varT_nat]
    have := varL_len 8 k (by simpa using (show k < 9223372036854775808 from by omega))
    show (varL k).toArray.size ≤ 9
    simpa using this
  · rw [varT_neg n (by omega)]; exact Nat.zero_le _

end Go.Proofs.Ytcjkdkaahkphfaa
