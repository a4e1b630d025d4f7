/-
  At every version and every edit, impl.ApplyEdit answers as its specification, and writes into no argument: the law laws.FnExactApplyEdit returns true. No condition.
-/
import Derived.Test.YtenbdjlhcadhaaaRows
import Derived.Test.YtenbdjlhcadhaaaChecked
import Derived.Test.YtenbdjlhcadhaaaLApply
import Derived.Test.YtenbdjlhcadhaaaM2
import Derived.OpenShut
import Derived.ChangeOld
import Derived.ShutString
import Derived.JoinedOf
import Derived.JoinedAt
import Derived.RowKit3
import Derived.Lib.SmallJoins
namespace Go.Proofs.Ytenbdjlhcadhaaa
namespace fnExactApplyEdit
open Go.ChangeShapes Go.WideShapes Go.ChangeAt Go.RowKit Go.Joins
open Go.ChangeMaps (open_string shut_string)
set_option linter.unusedVariables false

theorem law (nx1 sq1 : Int) (v1 : Value) (l1 : List Mt) (nx2 sq2 : Int) (q2 : Value) (dr2 : List Int) (v2 : Value) (l2 : List Mt) (w : World) (hv1 : IR w v1 l1) (hn1 : l1.length ≤ maxLen) (hs1 : ∀ i (h : i < l1.length), l1[i].k.size ≤ maxLen ∧ l1[i].v.size ≤ maxLen) (hq2 : IL w q2 dr2) (hd2 : dr2.length ≤ maxLen) (hv2 : IR w v2 l2) (hn2 : l2.length ≤ maxLen) (hs2 : ∀ i (h : i < l2.length), l2[i].k.size ≤ maxLen ∧ l2[i].v.size ≤ maxLen) :
    Calls Try.prog 6 #[.agg #[.int .i64 nx1, .int .i64 sq1, v1], .agg #[.int .i64 nx2, .int .i64 sq2, q2, v2]] w fun e w' => e = .returned (.bool true) ∧ Below w.heap.size w w' := lawApplyEdit nx1 sq1 v1 l1 nx2 sq2 q2 dr2 v2 l2 w hv1 hn1 hs1 hq2 hd2 hv2 hn2 hs2

theorem own : ownKnob Try.prog.godebug = none := by kernel_rfl
theorem laidOut : laidOutB Try.prog = true := by kernel_rfl
theorem cells122 : Try.prog.cellsOf 122 = 4 := by kernel_rfl
theorem cells3 : Try.prog.cellsOf 3 = 1 := by kernel_rfl
theorem cells49 : Try.prog.cellsOf 49 = 3 := by kernel_rfl
theorem cells55 : Try.prog.cellsOf 55 = 4 := by kernel_rfl
theorem cells5 : Try.prog.cellsOf 5 = 1 := by kernel_rfl
theorem cells9 : Try.prog.cellsOf 9 = 1 := by kernel_rfl

set_option maxRecDepth 100000 in
theorem lifted (os : Os) (started : os.Started) (H : Type) (enc : TypeId × Value → H) :
    ReturnsInHanded {} Try.checked os 6 .any (Rows.fnExactApplyEditSpec.pre6 enc Try.prog Try.f6 Rows.fnExactApplyEditRow.domain false) (Rows.fnExactApplyEditSpec.post enc Try.prog Try.f6 false true false false) := by
  refine returnsInHanded_of_change (C := Try.checked) own started (by kernel_rfl) Try.func6
    (ChangeSpec.witness6 (enc := enc) (C := Try.checked) false ⟨#[], #[.agg #[.int .i64 0, .int .i64 0, .slice none 0 0], .agg #[.int .i64 0, .int .i64 0, .slice none 0 0, .slice none 0 0]], []⟩ 8 (by kernel_rfl) (by kernel_rfl) (by kernel_rfl) (by kernel_rfl)) ?_
  intro W base args ds gs before hval0 hW hcnd _
  have hval : ∀ (j : Nat) t v, Try.f6.params[j]? = some t → args[j]? = some v → Value.okWide Try.prog W .any base t v := hval0
  have hW' := hW
  obtain ⟨p, q, hA0, hV, rfl, hfz, hnd⟩ := hW
  have hA : DataW.TrodAll enc Try.prog W 0 (fun _ => true) true Try.f6.params.toList args.toList ds p := hA0
  rw [Try.params6] at hA hval
  obtain ⟨rfl, rfl⟩ := trodVars_none hV
  obtain ⟨v0, vs0, d0, ds0, p0, q0, hargs0, hds0, hp0, h0, r0⟩ := trodAll_cons hA
  obtain ⟨v1, vs1, d1, ds1, p1, q1, hargs1, hds1, hp1, h1, r1⟩ := trodAll_cons r0
  obtain ⟨e1, e2, e3⟩ := trodAll_nil r1
  subst e2 e3
  subst e1
  subst hargs1 hds1 hp1
  subst hds0 hp0
  obtain rfl : args = #[v0, v1] := by cases args; simp_all
  have k0 := h0
  have lt0 : ∀ x ∈ p0, x.block < W.heap.size := by obtain ⟨m, hm⟩ := k0; exact DataW.trod_lt m _ _ _ hm
  obtain ⟨a0, b0, u0, _, _, _, m0, rfl, _, _, ta0, tb0, t0⟩ := open_agg3 Try.underlying49 (by kernel_rfl) cells49 (hval 0 49 v0 rfl rfl) h0
  obtain ⟨x0, ea0, _, _⟩ := DataW.trod_int Try.underlying3 ta0
  obtain ⟨z0, eb0, _, _⟩ := DataW.trod_int Try.underlying3 tb0
  simp only [List.cons.injEq, and_true] at ea0 eb0
  subst ea0 eb0
  obtain ⟨l0, P0, n0, s0⟩ := IR_of_trod Try.underlying47 Try.underlying122 cells122 (by kernel_rfl) Try.underlying3 Try.underlying3 Try.underlying9 Try.underlying9 t0
  have k1 := h1
  have lt1 : ∀ x ∈ p1, x.block < W.heap.size := by obtain ⟨m, hm⟩ := k1; exact DataW.trod_lt m _ _ _ hm
  obtain ⟨a1, b1, q_1, u1, _, _, _, _, m1, rfl, _, _, ta1, tb1, tq1, t1⟩ := open_agg4 Try.underlying55 (by kernel_rfl) cells55 (hval 1 55 v1 rfl rfl) h1
  obtain ⟨x1, ea1, _, _⟩ := DataW.trod_int Try.underlying3 ta1
  obtain ⟨z1, eb1, _, _⟩ := DataW.trod_int Try.underlying3 tb1
  simp only [List.cons.injEq, and_true] at ea1 eb1
  subst ea1 eb1
  obtain ⟨j1, Q1, nq1⟩ := IL_of_trod tq1
  obtain ⟨l1, P1, n1, s1⟩ := IR_of_trod Try.underlying47 Try.underlying122 cells122 (by kernel_rfl) Try.underlying3 Try.underlying3 Try.underlying9 Try.underlying9 t1
  clear hA0 hval0
  refine (law x0 z0 u0 l0 x1 z1 q_1 j1 u1 l1 W P0 n0 s0 Q1 nq1 P1 n1 s1).mono fun e W' ⟨he, bel⟩ => ?_
  subst he
  exact ⟨_, rfl, _, _, _, [], _, [], hW', trodAll_mk1 (shut_bool Try.underlying4 _), (trodAll_cons_mk (Below.trod laidOut (by kernel_rfl) (of_decide_eq_true (by kernel_rfl)) k0 bel lt0) (trodAll_cons_mk (Below.trod laidOut (by kernel_rfl) (of_decide_eq_true (by kernel_rfl)) k1 bel lt1) trodAll_mk0)), rfl, bel.frame _, fun h => by cases h⟩

theorem over : Rows.fnExactApplyEditRow.holds Try.pinned (OpenSpec.ofChange Rows.fnExactApplyEditSpec) :=
  OpenClaim.holds_of_wide 6 Try.f6 rfl rfl rfl rfl rfl rfl rfl ⟨rfl, rfl, rfl, rfl, rfl⟩ rfl rfl rfl rfl rfl (by kernel_rfl) Try.func6 (by kernel_rfl)
    (of_decide_eq_true (by kernel_rfl)) (by unfold Func.isWrapper; first | (rw [if_pos (by decide +kernel)]; kernel_rfl) | (rw [if_neg (by decide +kernel)]; exact ⟨rfl, rfl⟩))
    (fun os started H enc _ => lifted os started H enc)
end fnExactApplyEdit
theorem fnExactApplyEdit_holds : Rows.FnExactApplyEditSaid := fnExactApplyEdit.over
#print axioms fnExactApplyEdit_holds
end Go.Proofs.Ytenbdjlhcadhaaa
