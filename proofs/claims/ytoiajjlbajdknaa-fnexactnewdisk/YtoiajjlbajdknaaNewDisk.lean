/-
  At every room whatever, impl.NewDisk answers as its specification (each field and the bool), its answer owns its memory, and a second call leaves the first answer as it was: the law laws.FnExactNewDisk returns true. No condition.
  The frame of the row's step was written by the seed's proof-skeleton.mjs.
-/
import Derived.Test.YtoiajjlbajdknaaRows
import Derived.WalkKit
import Derived.ProofKit
import Derived.OpenShut
import Derived.Test.YtoiajjlbajdknaaW2
namespace Go.Proofs.Ytoiajjlbajdknaa
namespace fnExactNewDisk
open Go.ChangeShapes Go.WideShapes Go.ChangeAt Go.RowKit
set_option linter.unusedVariables false      -- a walk need not use every 'w<i>' (that an integer argument fits its kind)

theorem own : ownKnob Try.prog.godebug = none := by kernel_rfl

set_option maxHeartbeats 1000000 in
theorem walk_yes (r : Int) (h1 : 0 ≤ r) (h2 : r ≤ 100000) (w : World) :
    Calls Try.prog 3 #[.int .i64 r] w fun e w' => e = .returned (.bool true) ∧ Below w.heap.size w w' := by
  go_enter Try.func3, Try.ntmps3
  go_wp2_with fail
  refine (specNew_yes _ _ h1 h2).mono ?_
  rintro e w1 ⟨rfl, hb1⟩
  have hz1 := hb1.size
  go_wp2_with fail
  refine (implNew_yes _ _ h1 h2).mono ?_
  rintro e w2 ⟨rfl, hb2⟩
  have hz2 : w1.heap.size < w2.heap.size := by have := hb2.size; simp at this; omega
  obtain ⟨hc2, hf2⟩ := bcell hb2
  go_wp2_with fail
  refine (eqDisk_nil _ _).mono ?_
  rintro e w3 ⟨rfl, hb3⟩
  have hz3 : w2.heap.size < w3.heap.size := by have := hb3.size; simp at this; omega
  have hy3 : w1.heap.size < w3.heap.size := by omega
  obtain ⟨hc3, hf3⟩ := bcell hb3
  go_wp2_with fail
  refine (markDisk_nil _ _ _).mono ?_
  rintro e w4 ⟨rfl, hb4⟩
  have hz4 : w2.heap.size < w4.heap.size := by have := hb4.size; omega
  have hy4 : w1.heap.size < w4.heap.size := by omega
  obtain ⟨hc4, hf4⟩ := bcell hb4
  go_wp2_with fail
  refine (heldDisk_nil _ _ _ (by omega)).mono ?_
  rintro e w5 ⟨rfl, hb5⟩
  have hz5 : w2.heap.size < w5.heap.size := by have := hb5.size; omega
  have hy5 : w1.heap.size < w5.heap.size := by omega
  obtain ⟨hc5, hf5⟩ := bcell hb5
  go_wp2_with fail
  refine (implNew_yes _ _ h1 h2).mono ?_
  rintro e w6 ⟨rfl, hb6⟩
  have hz6 : w2.heap.size < w6.heap.size := by have := hb6.size; omega
  have hy6 : w1.heap.size < w6.heap.size := by omega
  obtain ⟨hc6, hf6⟩ := bcell hb6
  go_wp2_with fail
  refine (eqDisk_nil _ _).mono ?_
  rintro e w7 ⟨rfl, hb7⟩
  have hz7 : w2.heap.size < w7.heap.size := by have := hb7.size; simp at this; omega
  have hy7 : w1.heap.size < w7.heap.size := by omega
  obtain ⟨hc7, hf7⟩ := bcell hb7
  go_wp2_with fail
  refine (heldDisk_nil _ _ _ (by omega)).mono ?_
  rintro e w8 ⟨rfl, hb8⟩
  have hz8 : w2.heap.size < w8.heap.size := by have := hb8.size; omega
  have hy8 : w1.heap.size < w8.heap.size := by omega
  obtain ⟨hc8, hf8⟩ := bcell hb8
  go_wp2_with fail
  go_ret
  have b2 := (hb1.alloc hz1 _).trans (hb2.mono (by simp; omega))
  have b3 := (b2.alloc (by omega) _).trans (hb3.mono (by simp; omega))
  have b6 := ((b3.trans (hb4.mono (by omega))).trans (hb5.mono (by omega))).trans (hb6.mono (by omega))
  have b7 := (b6.alloc (by omega) _).trans (hb7.mono (by simp; omega))
  exact ⟨rfl, b7.trans (hb8.mono (by omega))⟩
set_option maxHeartbeats 1000000 in
theorem walk_no (r : Int) (h : r < 0 ∨ 100000 < r) (w : World) :
    Calls Try.prog 3 #[.int .i64 r] w fun e w' => e = .returned (.bool true) ∧ Below w.heap.size w w' := by
  go_enter Try.func3, Try.ntmps3
  go_wp2_with fail
  refine (specNew_no _ _ (by simp; omega)).mono ?_
  rintro e w1 ⟨rfl, hb1⟩
  have hz1 := hb1.size
  go_wp2_with fail
  refine (implNew_no _ _ h).mono ?_
  rintro e w2 ⟨rfl, hb2⟩
  have hz2 : w1.heap.size < w2.heap.size := by have := hb2.size; simp at this; omega
  obtain ⟨hc2, hf2⟩ := bcell hb2
  go_wp2_with fail
  refine (eqDisk_nil _ _).mono ?_
  rintro e w3 ⟨rfl, hb3⟩
  have hz3 : w2.heap.size < w3.heap.size := by have := hb3.size; simp at this; omega
  have hy3 : w1.heap.size < w3.heap.size := by omega
  obtain ⟨hc3, hf3⟩ := bcell hb3
  go_wp2_with fail
  refine (markDisk_nil _ _ _).mono ?_
  rintro e w4 ⟨rfl, hb4⟩
  have hz4 : w2.heap.size < w4.heap.size := by have := hb4.size; omega
  have hy4 : w1.heap.size < w4.heap.size := by omega
  obtain ⟨hc4, hf4⟩ := bcell hb4
  go_wp2_with fail
  refine (heldDisk_nil _ _ _ (by omega)).mono ?_
  rintro e w5 ⟨rfl, hb5⟩
  have hz5 : w2.heap.size < w5.heap.size := by have := hb5.size; omega
  have hy5 : w1.heap.size < w5.heap.size := by omega
  obtain ⟨hc5, hf5⟩ := bcell hb5
  go_wp2_with fail
  refine (implNew_no _ _ h).mono ?_
  rintro e w6 ⟨rfl, hb6⟩
  have hz6 : w2.heap.size < w6.heap.size := by have := hb6.size; omega
  have hy6 : w1.heap.size < w6.heap.size := by omega
  obtain ⟨hc6, hf6⟩ := bcell hb6
  go_wp2_with fail
  refine (eqDisk_nil _ _).mono ?_
  rintro e w7 ⟨rfl, hb7⟩
  have hz7 : w2.heap.size < w7.heap.size := by have := hb7.size; simp at this; omega
  have hy7 : w1.heap.size < w7.heap.size := by omega
  obtain ⟨hc7, hf7⟩ := bcell hb7
  go_wp2_with fail
  refine (heldDisk_nil _ _ _ (by omega)).mono ?_
  rintro e w8 ⟨rfl, hb8⟩
  have hz8 : w2.heap.size < w8.heap.size := by have := hb8.size; omega
  have hy8 : w1.heap.size < w8.heap.size := by omega
  obtain ⟨hc8, hf8⟩ := bcell hb8
  go_wp2_with fail
  go_ret
  have b2 := (hb1.alloc hz1 _).trans (hb2.mono (by simp; omega))
  have b3 := (b2.alloc (by omega) _).trans (hb3.mono (by simp; omega))
  have b6 := ((b3.trans (hb4.mono (by omega))).trans (hb5.mono (by omega))).trans (hb6.mono (by omega))
  have b7 := (b6.alloc (by omega) _).trans (hb7.mono (by simp; omega))
  exact ⟨rfl, b7.trans (hb8.mono (by omega))⟩
theorem walk (a0 : Int) (w : World) :
    Calls Try.prog 3 #[.int .i64 a0] w fun e w' => e = .returned (.bool true) ∧ Below w.heap.size w w' := by
  by_cases h : a0 < 0 ∨ 100000 < a0
  · exact walk_no a0 h w
  · exact walk_yes a0 (by omega) (by omega) w

/-! ### THE ROW's STEP: WRITTEN OUT: LEAVE IT -/
set_option maxRecDepth 100000 in
theorem lifted (os : Os) (started : os.Started) (H : Type) (enc : TypeId × Value → H) :
    ReturnsInHanded {} Try.checked os 3 .any (Rows.fnExactNewDiskSpec.pre6 enc Try.prog Try.f3 Rows.fnExactNewDiskRow.domain false) (Rows.fnExactNewDiskSpec.post enc Try.prog Try.f3 false true false false) := by
  refine returnsInHanded_of_change (C := Try.checked) own started (by kernel_rfl) Try.func3
    (ChangeSpec.witness6 (enc := enc) (C := Try.checked) false ⟨#[], #[.int .i64 0], []⟩ 8 (by kernel_rfl) (by kernel_rfl) (by kernel_rfl) (by kernel_rfl)) ?_
  intro W base args ds gs before hval0 hW hcnd _
  have hval : ∀ (j : Nat) t v, Try.f3.params[j]? = some t → args[j]? = some v → Value.okWide Try.prog W .any base t v := hval0
  have hW' := hW
  obtain ⟨p, q, hA0, hV, rfl, hfz, hnd⟩ := hW
  have hA : DataW.TrodAll enc Try.prog W 0 (fun _ => true) true Try.f3.params.toList args.toList ds p := hA0
  rw [Try.params3] at hA hval
  obtain ⟨v0, vs0, d0, ds0, p0, q0, hargs, rfl, rfl, h0, r0⟩ := trodAll_cons hA
  obtain ⟨rfl, rfl, rfl⟩ := trodAll_nil r0
  obtain rfl : args = #[v0] := by cases args; simp_all
  obtain ⟨rfl, rfl⟩ := trodVars_none hV
  obtain ⟨a0, rfl, rfl, rfl, w0⟩ := open_int Try.underlying3 (hval 0 3 v0 rfl rfl) h0
  clear hA0 hval0
  simp only [List.append_nil] at hW'
  refine (walk a0 W).mono fun e W' ⟨he, bel⟩ => ?_
  subst he
  exact ⟨_, rfl, _, _, _, [], _, [], hW', trodAll_mk1 (shut_bool Try.underlying4 _), (trodAll_cons_mk (shut_int Try.underlying3 w0) trodAll_mk0), rfl, bel.frame _, fun h => by cases h⟩

theorem over : Rows.fnExactNewDiskRow.holds Try.pinned (OpenSpec.ofChange Rows.fnExactNewDiskSpec) :=
  OpenClaim.holds_of_wide 3 Try.f3 rfl rfl rfl rfl rfl rfl rfl ⟨rfl, rfl, rfl, rfl, rfl⟩ rfl rfl rfl rfl rfl (by kernel_rfl) Try.func3 (by kernel_rfl)
    (of_decide_eq_true (by kernel_rfl)) (by unfold Func.isWrapper; first | (rw [if_pos (by decide +kernel)]; kernel_rfl) | (rw [if_neg (by decide +kernel)]; exact ⟨rfl, rfl⟩))
    (fun os started H enc _ => lifted os started H enc)

end fnExactNewDisk
theorem fnExactNewDisk_holds : Rows.FnExactNewDiskSaid := fnExactNewDisk.over
#print axioms fnExactNewDisk_holds
end Go.Proofs.Ytoiajjlbajdknaa
