/-
  Small facts for the laws of versions: Bools held against themselves, structs put whole.
-/
import Derived.Test.YtenbdjlhcadhaaaW9
import Derived.Test.YtenbdjlhcadhaaaO9
namespace Go.Proofs.Ytenbdjlhcadhaaa
open Go.RowKit
set_option linter.unusedVariables false
set_option maxRecDepth 100000
theorem run_neq_bool_same (w : World) (b : Bool) : (binOp .neq 4 (.bool b) (.bool b)).run Try.prog w = .ok (.bool false) w := by
  cases b <;> kernel_rfl
def put3 (w : World) (b : Nat) (v0 v1 v2 : Value) : World := ((w.setCell ⟨b, 0, none⟩ v0).setCell ⟨b, 1, none⟩ v1).setCell ⟨b, 2, none⟩ v2
theorem put3_chg (w : World) (b : Nat) (v0 v1 v2 : Value) : Chg (· = b) w (put3 w b v0 v1 v2) := Chg.setCell (S := fun k => k = b) (p := ⟨b, 2, none⟩) (Chg.setCell (S := fun k => k = b) (p := ⟨b, 1, none⟩) (Chg.setCell (S := fun k => k = b) (p := ⟨b, 0, none⟩) (Chg.refl _ _) rfl _) rfl _) rfl _
theorem put3_box {w : World} {b : Nat} {u0 u1 u2 : Value} (h : Box w b [u0, u1, u2]) (v0 v1 v2 : Value) : Box (put3 w b v0 v1 v2) b [v0, v1, v2] := h.put3 v0 v1 v2
end Go.Proofs.Ytenbdjlhcadhaaa
