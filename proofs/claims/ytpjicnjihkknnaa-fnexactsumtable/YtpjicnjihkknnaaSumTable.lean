/-
  impl.SumTable answers as its specification, and its answer owns its memory, behind another call too: the law laws.FnExactSumTable returns true. No condition.
-/
import Derived.Test.YtpjicnjihkknnaaRows
import Derived.Test.YtpjicnjihkknnaaChecked
import Derived.Test.YtpjicnjihkknnaaU1
import Derived.OpenShut
import Derived.ChangeOld
import Derived.ShutString
import Derived.JoinedOf
import Derived.JoinedAt
import Derived.RowKit3
namespace Go.Proofs.Ytpjicnjihkknnaa
namespace fnExactSumTable
open Go.ChangeShapes Go.WideShapes Go.ChangeAt Go.RowKit
open Go.ChangeMaps (open_string shut_string)
set_option linter.unusedVariables false

set_option maxRecDepth 100000 in
set_option maxHeartbeats 2000000 in
theorem law (w : World) :
    Calls Try.prog 8 #[] w fun e w' => e = .returned (.bool true) ∧ Below w.heap.size w w' := by
  have tlist : tblA.toList = tblL := rfl
  go_enter Try.func8, Try.ntmps8
  go_wp2_with fail
  refine (specTable_any _).mono ?_
  rintro e w1 ⟨g1, rfl, ow1, hb1⟩
  go_wp2_with fail
  refine (implTable_any _).mono ?_
  rintro e w2 ⟨g2, rfl, hr2, hg2, hb2⟩
  have bx2 := Box_of_row hr2
  rw [tlist] at bx2
  have ow2 := owns_below ow1 hb2
  have hB2 := below_then hb1 hb2
  have hlt := (owns_lt ow1).2
  have hz1 := hb1.size
  have hz2 := hb2.size
  clear ow1 hb1 hb2 hr2
  go_wp2_with fail
  refine (eqUint32S_same _ _ _ (TL_of_box bx2) (TL_of_owns ow2)).mono ?_
  rintro e w3 ⟨rfl, hb3⟩
  have ow3 := owns_below ow2 hb3
  have bx3 := bx2.below hb3
  have hB3 := below_then hB2 hb3
  have hz3 := hb3.size
  clear ow2 bx2 hb3 hB2
  go_wp2_with fail
  refine (markUint32S_any g2 tblL _ bx3 tblL_length).mono ?_
  rintro e w4 ⟨rfl, bx4, hc4⟩
  have hB4 : Below w.heap.size w w4 := hB3.trans (hc4.below (by omega) (fun b h => by omega))
  have ow4 := hc4.owns ow3 (fun g hg h => by simp only [Value.ownBlock, Option.some.injEq] at hg; omega)
  clear ow3 bx3 hc4 hB3
  go_wp2_with fail
  refine (heldUint32S_any g2 _ bx4).mono ?_
  rintro e w5 ⟨rfl, rfl⟩
  go_wp2_with fail
  refine (implTable_any _).mono ?_
  rintro e w6 ⟨g3, rfl, hr6, hg3, hb6⟩
  have bx6 := Box_of_row hr6
  rw [tlist] at bx6
  have ow6 := owns_below ow4 hb6
  have bg6 := bx4.below hb6
  have hB6 := below_then hB4 hb6
  clear ow4 bx4 hb6 hr6 hB4
  go_wp2_with fail
  refine (eqUint32S_same _ _ _ (TL_of_box bx6) (TL_of_owns ow6)).mono ?_
  rintro e w7 ⟨rfl, hb7⟩
  have bg7 := bg6.below hb7
  have hB7 := below_then hB6 hb7
  clear ow6 bx6 bg6 hb7 hB6
  go_wp2_with fail
  refine (heldUint32S_any g2 _ bg7).mono ?_
  rintro e w8 ⟨rfl, rfl⟩
  go_wp2
  go_ret
  exact ⟨rfl, hB7⟩


theorem own : ownKnob Try.prog.godebug = none := by kernel_rfl

set_option maxRecDepth 100000 in
theorem lifted (os : Os) (started : os.Started) (H : Type) (enc : TypeId × Value → H) :
    ReturnsInHanded {} Try.checked os 8 .any (Rows.fnExactSumTableSpec.pre6 enc Try.prog Try.f8 Rows.fnExactSumTableRow.domain false) (Rows.fnExactSumTableSpec.post enc Try.prog Try.f8 false true false false) := by
  refine returnsInHanded_of_change (C := Try.checked) own started (by kernel_rfl) Try.func8
    (ChangeSpec.witness6 (enc := enc) (C := Try.checked) false ⟨#[], #[], []⟩ 8 (by kernel_rfl) (by kernel_rfl) (by kernel_rfl) (by kernel_rfl)) ?_
  intro W base args ds gs before hval0 hW hcnd _
  have hval : ∀ (j : Nat) t v, Try.f8.params[j]? = some t → args[j]? = some v → Value.okWide Try.prog W .any base t v := hval0
  have hW' := hW
  obtain ⟨p, q, hA0, hV, rfl, hfz, hnd⟩ := hW
  have hA : DataW.TrodAll enc Try.prog W 0 (fun _ => true) true Try.f8.params.toList args.toList ds p := hA0
  rw [Try.params8] at hA hval
  obtain ⟨rfl, rfl⟩ := trodVars_none hV
  obtain ⟨e1, e2, e3⟩ := trodAll_nil hA
  subst e2 e3
  obtain rfl : args = #[] := by cases args; simp_all
  clear hA0 hval0
  refine (law  W ).mono fun e W' ⟨he, bel⟩ => ?_
  subst he
  exact ⟨_, rfl, _, _, _, [], _, [], hW', trodAll_mk1 (shut_bool Try.underlying4 _), trodAll_mk0, rfl, bel.frame _, fun h => by cases h⟩

theorem over : Rows.fnExactSumTableRow.holds Try.pinned (OpenSpec.ofChange Rows.fnExactSumTableSpec) :=
  OpenClaim.holds_of_wide 8 Try.f8 rfl rfl rfl rfl rfl rfl rfl ⟨rfl, rfl, rfl, rfl, rfl⟩ rfl rfl rfl rfl rfl (by kernel_rfl) Try.func8 (by kernel_rfl)
    (of_decide_eq_true (by kernel_rfl)) (by unfold Func.isWrapper; first | (rw [if_pos (by decide +kernel)]; kernel_rfl) | (rw [if_neg (by decide +kernel)]; exact ⟨rfl, rfl⟩))
    (fun os started H enc _ => lifted os started H enc)
end fnExactSumTable
theorem fnExactSumTable_holds : Rows.FnExactSumTableSaid := fnExactSumTable.over
#print axioms fnExactSumTable_holds
end Go.Proofs.Ytpjicnjihkknnaa
