/-
  Which items are seen: spec's l8Seen.
-/
import Derived.Test.YtcjkdkaahkphfaaS8
import Derived.Test.YtcjkdkaahkphfaaA8
namespace Go.Proofs.Ytcjkdkaahkphfaa
open Go.RowKit
set_option linter.unusedVariables false
set_option maxRecDepth 100000

theorem last_at (L : List It) (m : Nat) (h : m + 1 = L.length) : L.getLast? = some (L[m]'(by omega)) := by
  rw [List.getLast?_eq_getElem?, show L.length - 1 = m from by omega, List.getElem?_eq_getElem]

end Go.Proofs.Ytcjkdkaahkphfaa
