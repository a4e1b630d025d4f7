/-
  At every number, impl.NewFilter answers as its specification: the law laws.FnExactNewFilter returns true. No condition.
-/
import Derived.Test.YtdcglghmhjbkkaaRows
import Derived.Test.YtdcglghmhjbkkaaChecked
import Derived.Test.YtdcglghmhjbkkaaF2
import Derived.OpenShut
import Derived.ChangeOld
import Derived.ShutString
import Derived.JoinedOf
import Derived.JoinedAt
import Derived.RowKit3
namespace Go.Proofs.Ytdcglghmhjbkkaa
namespace fnExactNewFilter
open Go.ChangeShapes Go.WideShapes Go.ChangeAt Go.RowKit
open Go.ChangeMaps (open_string shut_string)
set_option linter.unusedVariables false

set_option maxRecDepth 100000 in
set_option maxHeartbeats 1000000 in
theorem law (n : Int) (w : World) (_ : -9223372036854775808 ≤ n) (_ : n ≤ 9223372036854775807) :
    Calls Try.prog 5 #[.int .i64 n] w fun e w' => e = .returned (.bool true) ∧ Below w.heap.size w w' := by
  have S := fun w => specNew n w
  have I := fun w => implNew n w
  generalize newF n = R at *
  obtain ⟨rn, rs, rm, rb⟩ := R
  go_enter Try.func5, Try.ntmps5
  go_wp2_with fail
  refine (S _).mono ?_
  rintro e w1 ⟨rfl, hb1⟩
  go_wp2_with fail
  refine (I _).mono ?_
  rintro e w2 ⟨rfl, hb2⟩
  have X2 := (Box.new w1 #[.int .i64 rn, .string rs, .int .i64 rm] 24).below hb2
  have hB2 := below_then (hb1.alloc hb1.size _) hb2
  have X3 := X2.alloc (.cells #[.int .i64 rn, .string rs, .int .i64 rm] 24)
  clear S I X2 hb1 hb2
  obtain ⟨_, x0, x1, x2⟩ := X3.c3
  have hB3 := hB2.alloc hB2.size (.cells #[.int .i64 rn, .string rs, .int .i64 rm] 24)
  go_wp2_with fail
  refine (eqFilter_same rn rs rm _).mono ?_
  rintro e w3 ⟨rfl, hb3⟩
  have hB4 := below_then hB3 hb3
  cases rb
  all_goals
    go_wp2
    go_ret
    exact ⟨rfl, hB4⟩

theorem own : ownKnob Try.prog.godebug = none := by kernel_rfl

set_option maxRecDepth 100000 in
theorem lifted (os : Os) (started : os.Started) (H : Type) (enc : TypeId × Value → H) :
    ReturnsInHanded {} Try.checked os 5 .any (Rows.fnExactNewFilterSpec.pre6 enc Try.prog Try.f5 Rows.fnExactNewFilterRow.domain false) (Rows.fnExactNewFilterSpec.post enc Try.prog Try.f5 false true false false) := by
  refine returnsInHanded_of_change (C := Try.checked) own started (by kernel_rfl) Try.func5
    (ChangeSpec.witness6 (enc := enc) (C := Try.checked) false ⟨#[], #[.int .i64 0], []⟩ 8 (by kernel_rfl) (by kernel_rfl) (by kernel_rfl) (by kernel_rfl)) ?_
  intro W base args ds gs before hval0 hW hcnd _
  have hval : ∀ (j : Nat) t v, Try.f5.params[j]? = some t → args[j]? = some v → Value.okWide Try.prog W .any base t v := hval0
  have hW' := hW
  obtain ⟨p, q, hA0, hV, rfl, hfz, hnd⟩ := hW
  have hA : DataW.TrodAll enc Try.prog W 0 (fun _ => true) true Try.f5.params.toList args.toList ds p := hA0
  rw [Try.params5] at hA hval
  obtain ⟨rfl, rfl⟩ := trodVars_none hV
  obtain ⟨v0, vs0, d0, ds0, p0, q0, hargs0, hds0, hp0, h0, r0⟩ := trodAll_cons hA
  obtain ⟨e1, e2, e3⟩ := trodAll_nil r0
  subst e2 e3
  subst e1
  subst hds0 hp0
  obtain rfl : args = #[v0] := by cases args; simp_all
  obtain ⟨x0, rfl, rfl, rfl, w_0⟩ := open_int Try.underlying3 (hval 0 3 v0 rfl rfl) h0
  have b0 : -9223372036854775808 ≤ x0 ∧ x0 ≤ 9223372036854775807 := by
    have h := w_0
    simp only [Lit.wf, Bool.and_eq_true, decide_eq_true_eq] at h
    exact ⟨h.1, h.2⟩
  clear hA0 hval0
  refine (law x0 W b0.1 b0.2).mono fun e W' ⟨he, bel⟩ => ?_
  subst he
  exact ⟨_, rfl, _, _, _, [], _, [], hW', trodAll_mk1 (shut_bool Try.underlying4 _), (trodAll_cons_mk (shut_int Try.underlying3 w_0) trodAll_mk0), rfl, bel.frame _, fun h => by cases h⟩

theorem over : Rows.fnExactNewFilterRow.holds Try.pinned (OpenSpec.ofChange Rows.fnExactNewFilterSpec) :=
  OpenClaim.holds_of_wide 5 Try.f5 rfl rfl rfl rfl rfl rfl rfl ⟨rfl, rfl, rfl, rfl, rfl⟩ rfl rfl rfl rfl rfl (by kernel_rfl) Try.func5 (by kernel_rfl)
    (of_decide_eq_true (by kernel_rfl)) (by unfold Func.isWrapper; first | (rw [if_pos (by decide +kernel)]; kernel_rfl) | (rw [if_neg (by decide +kernel)]; exact ⟨rfl, rfl⟩))
    (fun os started H enc _ => lifted os started H enc)
end fnExactNewFilter
theorem fnExactNewFilter_holds : Rows.FnExactNewFilterSaid := fnExactNewFilter.over
#print axioms fnExactNewFilter_holds
end Go.Proofs.Ytdcglghmhjbkkaa
