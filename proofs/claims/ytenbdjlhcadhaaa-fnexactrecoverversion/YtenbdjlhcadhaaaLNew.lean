/-
  NewVersion, both, and the walk of FnExactNewVersion.
-/
import Derived.Test.YtenbdjlhcadhaaaA9
namespace Go.Proofs.Ytenbdjlhcadhaaa
open Go.RowKit
set_option linter.unusedVariables false
set_option maxRecDepth 100000

theorem specNew_any (w : World) : Calls Try.prog 25 #[] w fun e w' => e = .returned (.agg #[.int .i64 1, .int .i64 0, .slice none 0 0]) ∧ Below w.heap.size w w' := by
  go_enter Try.func25, Try.ntmps25
  go_wp2
  exact bodyPost_ret (v := .agg #[.int .i64 1, .int .i64 0, .slice none 0 0]) (by simp [results, Try.results25, go_sem]) rfl ⟨rfl, below_alloc _ _⟩
theorem implNew_any (w : World) : Calls Try.prog 26 #[] w fun e w' => e = .returned (.agg #[.int .i64 1, .int .i64 0, .slice none 0 0]) ∧ Below w.heap.size w w' := by
  go_enter Try.func26, Try.ntmps26
  go_wp2
  exact bodyPost_ret (v := .agg #[.int .i64 1, .int .i64 0, .slice none 0 0]) (by simp [results, Try.results26, go_sem]) rfl ⟨rfl, below_alloc _ _⟩
theorem heldVersion_nil (x y k : Int) (w : World) (h1 : 1 ≤ k) (h2 : k ≤ 50000000) : Calls Try.prog 29 #[.agg #[.int .i64 x, .int .i64 y, .slice none 0 0], .int .i64 k] w fun e w' => e = .returned (.int .i64 k) ∧ Below w.heap.size w w' := by
  have K := heldVersion_at x y (.slice none 0 0) 0 k w (IR_nil w) (by omega) h1 h2
  refine K.mono ?_
  rintro e w' ⟨rfl, hb⟩
  exact ⟨by simp, hb⟩

set_option maxHeartbeats 2000000 in
theorem lawNewVersion (w : World) : Calls Try.prog 4 #[] w fun e w' => e = .returned (.bool true) ∧ Below w.heap.size w w' := by
  go_enter Try.func4, Try.ntmps4
  go_wp2_with fail
  refine (specNew_any _).mono ?_
  rintro e w1 ⟨rfl, hB⟩
  have BX := below_alloc w1 (.cells #[.int .i64 1, .int .i64 0, .slice none 0 0] 25)
  have X := Box.new w1 #[.int .i64 1, .int .i64 0, .slice none 0 0] 25
  replace hB := below_then hB BX
  clear BX
  go_wp2_with fail
  refine (implNew_any _).mono ?_
  rintro e w2 ⟨rfl, hb2⟩
  replace hB := below_then hB hb2
  replace X := X.below hb2
  clear hb2
  have BX := below_alloc w2 (.cells #[.int .i64 1, .int .i64 0, .slice none 0 0] 25)
  have Y := Box.new w2 #[.int .i64 1, .int .i64 0, .slice none 0 0] 25
  replace hB := below_then hB BX
  replace X := X.below BX
  clear BX
  have pl := Y.1
  have p0 := Y.2.1 0 _ rfl
  have p1 := Y.2.1 1 _ rfl
  have p2 := Y.2.1 2 _ rfl
  have ql := X.1
  have q0 := X.2.1 0 _ rfl
  have q1 := X.2.1 1 _ rfl
  have q2 := X.2.1 2 _ rfl
  go_wp2_with fail
  refine (eqVersion_same _ _ _ _ [] _ (IR_nil _) (IR_nil _) (by simp)).mono ?_
  rintro e w3 ⟨rfl, hb⟩
  replace hB := below_then hB hb
  replace X := X.below hb
  replace Y := Y.below hb
  clear pl p0 p1 p2 ql q0 q1 q2 hb
  have ql := Y.1
  have q0 := Y.2.1 0 _ rfl
  have q1 := Y.2.1 1 _ rfl
  have q2 := Y.2.1 2 _ rfl
  go_wp2_with fail
  refine (markVersion_nil _ _ 1 _ (by omega) (by omega)).mono ?_
  rintro e w4 ⟨rfl, hb⟩
  replace hB := below_then hB hb
  replace X := X.below hb
  replace Y := Y.below hb
  clear ql q0 q1 q2 hb
  have ql := Y.1
  have q0 := Y.2.1 0 _ rfl
  have q1 := Y.2.1 1 _ rfl
  have q2 := Y.2.1 2 _ rfl
  go_wp2_with fail
  refine (heldVersion_nil _ _ 1 _ (by omega) (by omega)).mono ?_
  rintro e w5 ⟨rfl, hb⟩
  replace hB := below_then hB hb
  replace X := X.below hb
  replace Y := Y.below hb
  clear ql q0 q1 q2 hb
  go_wp2_with fail
  refine (implNew_any _).mono ?_
  rintro e w6 ⟨rfl, hb⟩
  replace hB := below_then hB hb
  replace X := X.below hb
  replace Y := Y.below hb
  clear hb
  have BX := below_alloc w6 (.cells #[.int .i64 1, .int .i64 0, .slice none 0 0] 25)
  have Z := Box.new w6 #[.int .i64 1, .int .i64 0, .slice none 0 0] 25
  replace hB := below_then hB BX
  replace X := X.below BX
  replace Y := Y.below BX
  clear BX
  have pl := Z.1
  have p0 := Z.2.1 0 _ rfl
  have p1 := Z.2.1 1 _ rfl
  have p2 := Z.2.1 2 _ rfl
  have ql := X.1
  have q0 := X.2.1 0 _ rfl
  have q1 := X.2.1 1 _ rfl
  have q2 := X.2.1 2 _ rfl
  go_wp2_with fail
  refine (eqVersion_same _ _ _ _ [] _ (IR_nil _) (IR_nil _) (by simp)).mono ?_
  rintro e w7 ⟨rfl, hb⟩
  replace hB := below_then hB hb
  replace X := X.below hb
  replace Y := Y.below hb
  replace Z := Z.below hb
  clear pl p0 p1 p2 ql q0 q1 q2 hb
  have ql := Y.1
  have q0 := Y.2.1 0 _ rfl
  have q1 := Y.2.1 1 _ rfl
  have q2 := Y.2.1 2 _ rfl
  go_wp2_with fail
  refine (heldVersion_nil _ _ 1 _ (by omega) (by omega)).mono ?_
  rintro e w8 ⟨rfl, hb⟩
  replace hB := below_then hB hb
  replace X := X.below hb
  replace Y := Y.below hb
  replace Z := Z.below hb
  clear ql q0 q1 q2 hb
  go_wp2
  go_ret
  exact ⟨rfl, hB⟩
end Go.Proofs.Ytenbdjlhcadhaaa
