/-
  At every two items whatever (any texts, any numbers), impl.CompareItem answers as its specification, the order and whether there is one, and leaves its arguments as they were: the law laws.FnExactCompareItem returns true. No condition.
-/
import Derived.Test.YtdaldkcildbcmaaRows
import Derived.Test.YtdaldkcildbcmaaChecked
import Derived.Test.YtdaldkcildbcmaaI3
import Derived.OpenShut
import Derived.ChangeOld
import Derived.ShutString
import Derived.JoinedOf
import Derived.JoinedAt
import Derived.RowKit3
import Derived.Lib.SmallJoins
namespace Go.Proofs.Ytdaldkcildbcmaa
namespace fnExactCompareItem
open Go.ChangeShapes Go.WideShapes Go.ChangeAt Go.RowKit Go.Joins
open Go.ChangeMaps (open_string shut_string)
set_option linter.unusedVariables false

theorem laidOut : laidOutB Try.prog = true := by kernel_rfl
theorem cells23 : Try.prog.cellsOf 23 = 4 := by kernel_rfl
theorem own : ownKnob Try.prog.godebug = none := by kernel_rfl

set_option maxRecDepth 100000 in
theorem lifted (os : Os) (started : os.Started) (H : Type) (enc : TypeId × Value → H) :
    ReturnsInHanded {} Try.checked os 4 .any (Rows.fnExactCompareItemSpec.pre6 enc Try.prog Try.f4 Rows.fnExactCompareItemRow.domain false) (Rows.fnExactCompareItemSpec.post enc Try.prog Try.f4 false true false false) := by
  refine returnsInHanded_of_change (C := Try.checked) own started (by kernel_rfl) Try.func4
    (ChangeSpec.witness6 (enc := enc) (C := Try.checked) false ⟨#[], #[.agg #[.string ⟨#[]⟩, .int .i64 0, .int .i64 0, .string ⟨#[]⟩], .agg #[.string ⟨#[]⟩, .int .i64 0, .int .i64 0, .string ⟨#[]⟩]], []⟩ 8 (by kernel_rfl) (by kernel_rfl) (by kernel_rfl) (by kernel_rfl)) ?_
  intro W base args ds gs before hval0 hW hcnd _
  have hval : ∀ (j : Nat) t v, Try.f4.params[j]? = some t → args[j]? = some v → Value.okWide Try.prog W .any base t v := hval0
  have hW' := hW
  obtain ⟨p, q, hA0, hV, rfl, hfz, hnd⟩ := hW
  have hA : DataW.TrodAll enc Try.prog W 0 (fun _ => true) true Try.f4.params.toList args.toList ds p := hA0
  rw [Try.params4] at hA hval
  obtain ⟨rfl, rfl⟩ := trodVars_none hV
  obtain ⟨v0, vs0, d0, ds0, p0, q0, hargs0, hds0, hp0', h0, r0⟩ := trodAll_cons hA
  obtain ⟨v1, vs1, d1, ds1, p1, q1, hargs1, hds1, hp1', h1, r1⟩ := trodAll_cons r0
  obtain ⟨e1, e2, e3⟩ := trodAll_nil r1
  subst e2 e3
  subst e1
  subst hargs1 hds1 hp1'
  subst hds0 hp0'
  obtain rfl : args = #[v0, v1] := by cases args; simp_all
  have k0 := h0
  have lt0 : ∀ x ∈ p0, x.block < W.heap.size := by obtain ⟨m, hm⟩ := k0; exact DataW.trod_lt m _ _ _ hm
  obtain ⟨a0, b0, c0, e0, ya0, yb0, yc0, ye0, n0, rfl, hd0, hp0, ta0, tb0, tc0, te0⟩ := open_agg4 Try.underlying23 (by kernel_rfl) cells23 (hval 0 23 v0 rfl rfl) h0
  obtain ⟨key0, z1, _, sk0⟩ := DataW.trod_string Try.underlying9 ta0
  obtain ⟨seq0, z2, _, _⟩ := DataW.trod_int Try.underlying3 tb0
  obtain ⟨knd0, z3, _, _⟩ := DataW.trod_int Try.underlying3 tc0
  obtain ⟨val0, z4, _, sv0⟩ := DataW.trod_string Try.underlying9 te0
  simp only [List.cons.injEq, and_true] at z1 z2 z3 z4
  subst z1 z2 z3 z4
  have k1 := h1
  have lt1 : ∀ x ∈ p1, x.block < W.heap.size := by obtain ⟨m, hm⟩ := k1; exact DataW.trod_lt m _ _ _ hm
  obtain ⟨a1, b1, c1, e1, ya1, yb1, yc1, ye1, n1, rfl, hd1, hp1, ta1, tb1, tc1, te1⟩ := open_agg4 Try.underlying23 (by kernel_rfl) cells23 (hval 1 23 v1 rfl rfl) h1
  obtain ⟨key1, z1, _, sk1⟩ := DataW.trod_string Try.underlying9 ta1
  obtain ⟨seq1, z2, _, _⟩ := DataW.trod_int Try.underlying3 tb1
  obtain ⟨knd1, z3, _, _⟩ := DataW.trod_int Try.underlying3 tc1
  obtain ⟨val1, z4, _, sv1⟩ := DataW.trod_string Try.underlying9 te1
  simp only [List.cons.injEq, and_true] at z1 z2 z3 z4
  subst z1 z2 z3 z4
  clear hA0 hval0
  refine (lawCompare key0 val0 key1 val1 seq0 knd0 seq1 knd1 W sk0 sv0 sk1 sv1).mono fun e W' ⟨he, bel⟩ => ?_
  subst he
  exact ⟨_, rfl, _, _, _, [], _, [], hW', trodAll_mk1 (shut_bool Try.underlying4 _), (trodAll_cons_mk (Below.trod laidOut (by kernel_rfl) (of_decide_eq_true (by kernel_rfl)) k0 bel lt0) (trodAll_cons_mk (Below.trod laidOut (by kernel_rfl) (of_decide_eq_true (by kernel_rfl)) k1 bel lt1) trodAll_mk0)), rfl, bel.frame _, fun h => by cases h⟩

theorem over : Rows.fnExactCompareItemRow.holds Try.pinned (OpenSpec.ofChange Rows.fnExactCompareItemSpec) :=
  OpenClaim.holds_of_wide 4 Try.f4 rfl rfl rfl rfl rfl rfl rfl ⟨rfl, rfl, rfl, rfl, rfl⟩ rfl rfl rfl rfl rfl (by kernel_rfl) Try.func4 (by kernel_rfl)
    (of_decide_eq_true (by kernel_rfl)) (by unfold Func.isWrapper; first | (rw [if_pos (by decide +kernel)]; kernel_rfl) | (rw [if_neg (by decide +kernel)]; exact ⟨rfl, rfl⟩))
    (fun os started H enc _ => lifted os started H enc)
end fnExactCompareItem
theorem fnExactCompareItem_holds : Rows.FnExactCompareItemSaid := fnExactCompareItem.over
#print axioms fnExactCompareItem_holds
end Go.Proofs.Ytdaldkcildbcmaa
