/-
  The walk of FnExactReadEdit.
-/
import Derived.Test.YtenbdjlhcadhaaaRD7
import Derived.Test.YtenbdjlhcadhaaaW9
import Derived.Test.YtenbdjlhcadhaaaBB
namespace Go.Proofs.Ytenbdjlhcadhaaa
open Go.RowKit
set_option linter.unusedVariables false
set_option maxRecDepth 100000

set_option maxHeartbeats 8000000 in
theorem lawReadEdit (s : ByteArray) (w : World) :
    Calls Try.prog 9 #[.string s] w fun e w' => e = .returned (.bool true) ∧ Below w.heap.size w w' := by
  by_cases hl : s.size ≤ 1048576
  rotate_left
  · have hli : (1048576 : Int) < (s.size : Int) := by omega
    go_enter Try.func9, Try.ntmps9
    go_wp2
    go_ret
    exact ⟨rfl, Below.refl _ _⟩
  have S := specRead_any s w hl
  have I := fun W => implRead_any s W hl
  have hg := rd_good (s := s)
  generalize rdB s = ok at *
  generalize rdE s = EE at *
  obtain ⟨RX, RY, RD, RA⟩ := EE
  dsimp only at *
  obtain ⟨hgD, hgA⟩ := hg
  have NB := fun w => run_neq_bool_same w ok
  go_enter Try.func9, Try.ntmps9
  go_wp2_with fail
  refine S.mono ?_
  rintro e w1 ⟨pu, pv, rfl, PD, PA, hB⟩
  obtain ⟨pa, pc, rfl⟩ := owns_shape PD
  obtain ⟨pb, pd, rfl⟩ := owns_shape PA
  have hz0 := hB.size
  obtain ⟨W1, hW1⟩ : ∃ W1, W1 = w1.alloc (.cells #[.int .i64 RX, .int .i64 RY, .slice pa RD.length pc, .slice pb RA.length pd] 30) := ⟨_, rfl⟩
  have P : Box W1 w1.heap.size [.int .i64 RX, .int .i64 RY, .slice pa RD.length pc, .slice pb RA.length pd] := by rw [hW1]; exact Box.new w1 #[.int .i64 RX, .int .i64 RY, .slice pa RD.length pc, .slice pb RA.length pd] 30
  have hb1 : Below w1.heap.size w1 W1 := by rw [hW1]; exact below_alloc _ _
  replace PD := owns_below PD hb1
  replace PA := owns_below PA hb1
  replace hB := below_then hB hb1
  clear S hb1
  go_wp2_with fail
  rw [← hW1]; clear hW1
  have hlPD := owns_below_lt PD
  have hlPA := owns_below_lt PA
  have hPl := P.1
  generalize w1.heap.size = bp at *
  refine (I _).mono ?_
  rintro e w2 ⟨qu, qv, rfl, QD, QA, hb2⟩
  have hgQD := owns_ge QD
  have hgQA := owns_ge QA
  have hlQD := owns_below_lt QD
  have hlQA := owns_below_lt QA
  have hz1 := hB.size
  have hz2 := hb2.size
  replace PD := owns_below PD hb2
  replace PA := owns_below PA hb2
  replace P := P.below hb2
  replace hB := below_then hB hb2
  clear hb2
  obtain ⟨qa, qc, rfl⟩ := owns_shape QD
  obtain ⟨qb, qd, rfl⟩ := owns_shape QA
  obtain ⟨W2, hW2⟩ : ∃ W2, W2 = w2.alloc (.cells #[.int .i64 RX, .int .i64 RY, .slice qa RD.length qc, .slice qb RA.length qd] 30) := ⟨_, rfl⟩
  have Q : Box W2 w2.heap.size [.int .i64 RX, .int .i64 RY, .slice qa RD.length qc, .slice qb RA.length qd] := by rw [hW2]; exact Box.new w2 #[.int .i64 RX, .int .i64 RY, .slice qa RD.length qc, .slice qb RA.length qd] 30
  have hb2 : Below w2.heap.size w2 W2 := by rw [hW2]; exact below_alloc _ _
  have hzW : w2.heap.size < W2.heap.size := Q.1
  replace PD := owns_below PD hb2
  replace PA := owns_below PA hb2
  replace QD := owns_below QD hb2
  replace QA := owns_below QA hb2
  replace P := P.below hb2
  replace hB := below_then hB hb2
  clear hb2
  have HEQ := eqEdit_same RX RY (.slice qa RD.length qc) (.slice pa RD.length pc) (.slice qb RA.length qd) (.slice pb RA.length pd) RD RA W2 (IL_of_owns QD rfl) (IL_of_owns PD rfl) (IR_of_owns QA rfl) (IR_of_owns PA rfl) (by omega) (by omega)
  obtain ⟨pl, p0, p1, p2, p3, _⟩ := P.e4
  obtain ⟨ql, q0, q1, q2, q3, _⟩ := Q.e4
  subst hW2
  go_wp2_with fail
  refine HEQ.mono ?_
  rintro e w3 ⟨rfl, hb⟩
  replace PD := owns_below PD hb
  replace PA := owns_below PA hb
  replace QD := owns_below QD hb
  replace QA := owns_below QA hb
  replace P := P.below hb
  replace Q := Q.below hb
  replace hB := below_then hB hb
  have hz3 := hb.size
  clear hb HEQ pl p0 p1 p2 p3 ql q0 q1 q2 q3
  obtain ⟨ql, q0, q1, q2, q3, _⟩ := Q.e4
  go_wp2_with fail
  refine (markEdit_own _ _ _ _ _ _ _ _ RA 1 _ QD (by simp) QA (by omega) (by omega) (by omega) (by omega)).mono ?_
  rintro e w4 ⟨rfl, MD, MA, hc⟩
  clear ql q0 q1 q2 q3
  replace hB := hB.trans (hc.below (B := w.heap.size) (by omega) (fun b h => by rcases h with h | h | h <;> (try (have := hgQD _ h)) <;> (try (have := hgQA _ h)) <;> omega))
  replace P := hc.box P (fun h => by rcases h with h | h | h <;> (try (have := hgQD _ h)) <;> (try (have := hgQA _ h)) <;> omega)
  replace PD := hc.owns PD (fun b hb h => by have := hlPD b hb; rcases h with h | h | h <;> (try (have := hgQD _ h)) <;> (try (have := hgQA _ h)) <;> omega)
  replace PA := hc.owns PA (fun b hb h => by have := hlPA b hb; rcases h with h | h | h <;> (try (have := hgQD _ h)) <;> (try (have := hgQA _ h)) <;> omega)
  replace Q := hc.box Q (fun h => by rcases h with h | h | h <;> (try (have := hlQD _ h)) <;> (try (have := hlQA _ h)) <;> omega)
  clear hc QD QA
  obtain ⟨ql, q0, q1, q2, q3, _⟩ := Q.e4
  go_wp2_with fail
  refine (heldEdit_own _ _ _ _ _ _ _ _ 1 _ MD MA (by omega) (by omega) (by omega) (by omega)).mono ?_
  rintro e w5 ⟨rfl, hb⟩
  replace PD := owns_below PD hb
  replace PA := owns_below PA hb
  replace MD := owns_below MD hb
  replace MA := owns_below MA hb
  replace P := P.below hb
  replace Q := Q.below hb
  replace hB := below_then hB hb
  clear hb ql q0 q1 q2 q3
  go_wp2_with fail
  refine (I _).mono ?_
  rintro e w6 ⟨hu, hv, rfl, HD, HA, hb⟩
  replace PD := owns_below PD hb
  replace PA := owns_below PA hb
  replace MD := owns_below MD hb
  replace MA := owns_below MA hb
  replace P := P.below hb
  replace Q := Q.below hb
  replace hB := below_then hB hb
  clear hb I
  obtain ⟨ha, hc, rfl⟩ := owns_shape HD
  obtain ⟨hb', hd, rfl⟩ := owns_shape HA
  obtain ⟨W3, hW3⟩ : ∃ W3, W3 = w6.alloc (.cells #[.int .i64 RX, .int .i64 RY, .slice ha RD.length hc, .slice hb' RA.length hd] 30) := ⟨_, rfl⟩
  have H : Box W3 w6.heap.size [.int .i64 RX, .int .i64 RY, .slice ha RD.length hc, .slice hb' RA.length hd] := by rw [hW3]; exact Box.new w6 #[.int .i64 RX, .int .i64 RY, .slice ha RD.length hc, .slice hb' RA.length hd] 30
  have hb3 : Below w6.heap.size w6 W3 := by rw [hW3]; exact below_alloc _ _
  replace PD := owns_below PD hb3
  replace PA := owns_below PA hb3
  replace HD := owns_below HD hb3
  replace HA := owns_below HA hb3
  replace MD := owns_below MD hb3
  replace MA := owns_below MA hb3
  replace P := P.below hb3
  replace Q := Q.below hb3
  replace hB := below_then hB hb3
  clear hb3
  have HEQ := eqEdit_same RX RY (.slice ha RD.length hc) (.slice pa RD.length pc) (.slice hb' RA.length hd) (.slice pb RA.length pd) RD RA W3 (IL_of_owns HD rfl) (IL_of_owns PD rfl) (IR_of_owns HA rfl) (IR_of_owns PA rfl) (by omega) (by omega)
  obtain ⟨pl, p0, p1, p2, p3, _⟩ := P.e4
  obtain ⟨ql, q0, q1, q2, q3, _⟩ := H.e4
  subst hW3
  go_wp2_with fail
  refine HEQ.mono ?_
  rintro e w7 ⟨rfl, hb⟩
  replace MD := owns_below MD hb
  replace MA := owns_below MA hb
  replace Q := Q.below hb
  replace hB := below_then hB hb
  clear hb HEQ pl p0 p1 p2 p3 ql q0 q1 q2 q3
  obtain ⟨ql, q0, q1, q2, q3, _⟩ := Q.e4
  go_wp2_with fail
  refine (heldEdit_own _ _ _ _ _ _ _ _ 1 _ MD MA (by omega) (by omega) (by omega) (by omega)).mono ?_
  rintro e w8 ⟨rfl, hb⟩
  replace hB := below_then hB hb
  go_wp2
  go_ret
  exact ⟨rfl, hB⟩
end Go.Proofs.Ytenbdjlhcadhaaa
