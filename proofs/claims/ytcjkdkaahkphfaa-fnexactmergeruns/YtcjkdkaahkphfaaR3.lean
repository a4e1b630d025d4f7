/-
  A struct of four cells stored.
-/
import Derived.Test.YtcjkdkaahkphfaaM1
import Derived.Test.YtcjkdkaahkphfaaE
namespace Go.Proofs.Ytcjkdkaahkphfaa
open Go.RowKit
set_option linter.unusedVariables false

def put4 (w : World) (b : Nat) (x1 x2 x3 x4 : Value) : World := (((w.setCell ⟨b, 0, none⟩ x1).setCell ⟨b, 1, none⟩ x2).setCell ⟨b, 2, none⟩ x3).setCell ⟨b, 3, none⟩ x4
theorem put4_chg (w : World) (b : Nat) (x1 x2 x3 x4 : Value) : Chg (· = b) w (put4 w b x1 x2 x3 x4) :=
  ((((Chg.refl (· = b) w).setCell (p := ⟨b, 0, none⟩) rfl _).setCell (p := ⟨b, 1, none⟩) rfl _).setCell (p := ⟨b, 2, none⟩) rfl _).setCell (p := ⟨b, 3, none⟩) rfl _
theorem put4_box {w : World} {b : Nat} {y1 y2 y3 y4 : Value} (h : Box w b [y1, y2, y3, y4]) (x1 x2 x3 x4 : Value) : Box (put4 w b x1 x2 x3 x4) b [x1, x2, x3, x4] :=
  (((h.set 0 x1 (by simp)).set 1 x2 (by simp)).set 2 x3 (by simp)).set 3 x4 (by simp)
theorem put4_ok {w w2 : World} {b : Nat} {y1 y2 y3 y4 : Value} (hb : Below w.heap.size w w2) (hB : w.heap.size ≤ b) (hx : Box w2 b [y1, y2, y3, y4]) (x1 x2 x3 x4 : Value) :
    ((put4 w2 b x1 x2 x3 x4).cell? ⟨b, 0, none⟩ = some x1 ∧ (put4 w2 b x1 x2 x3 x4).cell? ⟨b, 1, none⟩ = some x2 ∧ (put4 w2 b x1 x2 x3 x4).cell? ⟨b, 2, none⟩ = some x3 ∧ (put4 w2 b x1 x2 x3 x4).cell? ⟨b, 3, none⟩ = some x4) ∧ Below w.heap.size w (put4 w2 b x1 x2 x3 x4) :=
  ⟨(put4_box hx x1 x2 x3 x4).c4.2, hb.trans ((put4_chg w2 b x1 x2 x3 x4).below hb.size (fun k hk => by omega))⟩
theorem Box.f4 {w : World} {b : Nat} {v0 v1 v2 v3 : Value} (h : Box w b [v0, v1, v2, v3]) : (w.frozen? ⟨b, 0, none⟩ = false ∧ w.frozen? ⟨b, 1, none⟩ = false ∧ w.frozen? ⟨b, 2, none⟩ = false ∧ w.frozen? ⟨b, 3, none⟩ = false) ∧ b < w.heap.size ∧ w.cell? ⟨b, 0, none⟩ = some v0 ∧ w.cell? ⟨b, 1, none⟩ = some v1 ∧ w.cell? ⟨b, 2, none⟩ = some v2 ∧ w.cell? ⟨b, 3, none⟩ = some v3 :=
  ⟨⟨h.2.2 0, h.2.2 1, h.2.2 2, h.2.2 3⟩, h.c4⟩
theorem owns_mono {w : World} {B b : Nat} {e : TypeId} {size : Nat} {v : Value} {n : Nat} {xs : List Value} (h : w.ownsRow B e size v n xs) (hb : b ≤ B) : w.ownsRow b e size v n xs :=
  ⟨h.1, h.2.imp id (fun ⟨g, cap, cur, a1, a2, a3⟩ => ⟨g, cap, cur, a1, Nat.le_trans hb a2, a3⟩)⟩

end Go.Proofs.Ytcjkdkaahkphfaa
