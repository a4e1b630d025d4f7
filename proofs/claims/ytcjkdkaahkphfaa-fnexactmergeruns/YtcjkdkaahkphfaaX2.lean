/-
  The cursor's item.
-/
import Derived.Test.YtcjkdkaahkphfaaX1
import Derived.Test.YtcjkdkaahkphfaaR3
namespace Go.Proofs.Ytcjkdkaahkphfaa
open Go.RowKit
set_option linter.unusedVariables false
set_option maxRecDepth 100000

theorem cur_put4 {w : World} {b g : Nat} {l : List UInt8} {K : Nat} (h : Cur w b l K) (hg : b < g) (x y z t : Value) : Cur (put4 w g x y z t) b l K :=
  cur_set (cur_set (cur_set (cur_set h (Nat.le_refl _) _ hg _) (Nat.le_refl _) _ hg _) (Nat.le_refl _) _ hg _) (Nat.le_refl _) _ hg _
theorem chg_put4 {S : Nat → Prop} {w w1 : World} (h : Chg S w w1) {g : Nat} (hg : w.heap.size ≤ g) (x y z t : Value) : Chg S w (put4 w1 g x y z t) :=
  chg_new (chg_new (chg_new (chg_new h _ hg _) _ hg _) _ hg _) _ hg _

def Stop (p : Prop) : Prop := p
theorem Stop.go {p : Prop} (h : Stop p) : p := h

end Go.Proofs.Ytcjkdkaahkphfaa
