/-
  The cursor's text.
-/
import Derived.Test.YtcjkdkaahkphfaaD5
namespace Go.Proofs.Ytcjkdkaahkphfaa
open Go.RowKit
set_option linter.unusedVariables false
set_option maxRecDepth 100000

end Go.Proofs.Ytcjkdkaahkphfaa
