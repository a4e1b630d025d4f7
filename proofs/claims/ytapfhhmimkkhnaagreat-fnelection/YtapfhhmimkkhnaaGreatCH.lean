/-
  HighestTerm: both sides.
-/
import Derived.Test.YtapfhhmimkkhnaaGreatNCToCC2
namespace Go.Proofs.YtapfhhmimkkhnaaGreat
open Go.RowKit Go.Maps
set_option linter.unusedVariables false
set_option maxRecDepth 100000
theorem hiT_at (N:List Nv) (k:Nat) (h:k<N.length):(N.map Nv.n).getD k Nd.zero=N[k].n:=by simp [List.getD,h]
end Go.Proofs.YtapfhhmimkkhnaaGreat
