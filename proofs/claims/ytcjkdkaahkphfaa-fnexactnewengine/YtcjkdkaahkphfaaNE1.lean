/-
  NewEngine: both, the helpers of an engine without towers, metas and tables, and the law.
-/
import Derived.Test.YtcjkdkaahkphfaaNK4
namespace Go.Proofs.Ytcjkdkaahkphfaa
open Go.RowKit
set_option linter.unusedVariables false
set_option maxRecDepth 100000

theorem Box.c7 {w : World} {b : Nat} {v0 v1 v2 v3 v4 v5 v6 : Value} (h : Box w b [v0, v1, v2, v3, v4, v5, v6]) : b < w.heap.size ∧ w.cell? ⟨b, 0, none⟩ = some v0 ∧ w.cell? ⟨b, 1, none⟩ = some v1 ∧ w.cell? ⟨b, 2, none⟩ = some v2 ∧ w.cell? ⟨b, 3, none⟩ = some v3 ∧ w.cell? ⟨b, 4, none⟩ = some v4 ∧ w.cell? ⟨b, 5, none⟩ = some v5 ∧ w.cell? ⟨b, 6, none⟩ = some v6 :=
  ⟨h.1, h.2.1 0 _ rfl, h.2.1 1 _ rfl, h.2.1 2 _ rfl, h.2.1 3 _ rfl, h.2.1 4 _ rfl, h.2.1 5 _ rfl, h.2.1 6 _ rfl⟩
def put7 (w : World) (b : Nat) (v0 v1 v2 v3 v4 v5 v6 : Value) : World := ((((((w.setCell ⟨b, 0, none⟩ v0).setCell ⟨b, 1, none⟩ v1).setCell ⟨b, 2, none⟩ v2).setCell ⟨b, 3, none⟩ v3).setCell ⟨b, 4, none⟩ v4).setCell ⟨b, 5, none⟩ v5).setCell ⟨b, 6, none⟩ v6
theorem put7_box {w : World} {b : Nat} {a0 a1 a2 a3 a4 a5 a6 : Value} (h : Box w b [a0, a1, a2, a3, a4, a5, a6]) (v0 v1 v2 v3 v4 v5 v6 : Value) : Box (put7 w b v0 v1 v2 v3 v4 v5 v6) b [v0, v1, v2, v3, v4, v5, v6] :=
  ((((((h.set 0 v0 (by simp)).set 1 v1 (by simp)).set 2 v2 (by simp)).set 3 v3 (by simp)).set 4 v4 (by simp)).set 5 v5 (by simp)).set 6 v6 (by simp)
theorem put7_chg (w : World) (b : Nat) (v0 v1 v2 v3 v4 v5 v6 : Value) : Chg (· = b) w (put7 w b v0 v1 v2 v3 v4 v5 v6) :=
  (((((((Chg.refl (· = b) w).setCell (p := ⟨b, 0, none⟩) rfl v0).setCell (p := ⟨b, 1, none⟩) rfl v1).setCell (p := ⟨b, 2, none⟩) rfl v2).setCell (p := ⟨b, 3, none⟩) rfl v3).setCell (p := ⟨b, 4, none⟩) rfl v4).setCell (p := ⟨b, 5, none⟩) rfl v5).setCell (p := ⟨b, 6, none⟩) rfl v6

theorem newV_impl (w : World) : Calls Try.prog 22 #[] w fun e w' => e = .returned (.agg #[.int .i64 1, .int .i64 0, .slice none 0 0]) ∧ Below w.heap.size w w' := by
  go_enter Try.func22, Try.ntmps22
  go_wp2
  exact bodyPost_ret (v := .agg #[.int .i64 1, .int .i64 0, .slice none 0 0]) (by simp [results, Try.results22, go_sem]) rfl ⟨rfl, below_alloc _ _⟩
theorem newV_spec (w : World) : Calls Try.prog 20 #[] w fun e w' => e = .returned (.agg #[.int .i64 1, .int .i64 0, .slice none 0 0]) ∧ Below w.heap.size w w' := by
  go_enter Try.func20, Try.ntmps20
  go_wp2
  exact bodyPost_ret (v := .agg #[.int .i64 1, .int .i64 0, .slice none 0 0]) (by simp [results, Try.results20, go_sem]) rfl ⟨rfl, below_alloc _ _⟩

set_option maxHeartbeats 2000000 in
theorem newE_impl (w : World) :
    Calls Try.prog 6 #[] w fun e w' => (∃ g, e = .returned (.agg #[.int .i64 0, .slice (some ⟨g, 0, none⟩) 5 5, .slice none 0 0, .int .i64 1, .int .i64 0, .slice none 0 0, .slice none 0 0]) ∧ w.heap.size ≤ g ∧ Box w' g (m5.map (.int .i64))) ∧ Below w.heap.size w w' := by
  go_enter Try.func6, Try.ntmps6
  go_wp2_with fail
  refine (implNew_any _).mono ?_
  rintro e w1 ⟨⟨g, rfl, hg, bx⟩, hb1⟩
  have X1 := (Box.new w #[.int .i64 0, .slice none 0 0, .slice none 0 0, .int .i64 0, .int .i64 0, .slice none 0 0, .slice none 0 0] 31).below hb1
  have hB1 := below_then (below_alloc _ _) hb1
  have hg' : w.heap.size + 1 ≤ g := by simp at hg; omega
  clear hb1 hg
  go_wp2_with fail
  refine (newV_impl _).mono ?_
  rintro e w2 ⟨rfl, hb2⟩
  have X2 := X1.below hb2
  have hB2 := below_then hB1 hb2
  have bx2 := bx.below hb2
  clear hb2 X1 hB1 bx
  obtain ⟨hzz, x0, x1, x2, x3, x4, x5, x6⟩ := X2.c7
  have f0 := X2.2.2 0
  have f1 := X2.2.2 1
  have f2 := X2.2.2 2
  have f3 := X2.2.2 3
  have f4 := X2.2.2 4
  have f5 := X2.2.2 5
  have f6 := X2.2.2 6
  have Z := put7_box X2 (.int .i64 0) (.slice (some ⟨g, 0, none⟩) 5 5) (.slice none 0 0) (.int .i64 1) (.int .i64 0) (.slice none 0 0) (.slice none 0 0)
  have C := put7_chg w2 w.heap.size (.int .i64 0) (.slice (some ⟨g, 0, none⟩) 5 5) (.slice none 0 0) (.int .i64 1) (.int .i64 0) (.slice none 0 0) (.slice none 0 0)
  have B3 := C.box bx2 (by omega)
  have hB3 := hB2.trans (C.below (B := w.heap.size) (by omega) (fun k h => by omega))
  clear C
  go_wp2
  unfold put7 at Z B3 hB3
  obtain ⟨_, z0, z1, z2, z3, z4, z5, z6⟩ := Z.c7
  exact bodyPost_ret (v := .agg #[.int .i64 0, .slice (some ⟨g, 0, none⟩) 5 5, .slice none 0 0, .int .i64 1, .int .i64 0, .slice none 0 0, .slice none 0 0]) (by simp [results, Try.results6, go_sem, x0, x1, x2, x3, x4, x5, x6]) rfl ⟨⟨g, rfl, by omega, B3⟩, hB3⟩
end Go.Proofs.Ytcjkdkaahkphfaa
