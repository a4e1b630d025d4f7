/-
  At every node, impl.TimeoutNode answers as its specification, every field, writes into no argument, and what it answers is its own: the law laws.FnExactTimeoutNode returns true. No condition.
-/
import Derived.Test.YtapfhhmimkkhnaaRows
import Derived.Test.YtapfhhmimkkhnaaChecked
import Derived.Test.YtapfhhmimkkhnaaLT
import Derived.Test.YtapfhhmimkkhnaaO9
import Derived.OpenShut
import Derived.ChangeOld
import Derived.ShutString
import Derived.JoinedOf
import Derived.JoinedAt
import Derived.RowKit3
import Derived.Lib.SmallJoins
namespace Go.Proofs.Ytapfhhmimkkhnaa
namespace fnExactTimeoutNode
open Go.ChangeShapes Go.WideShapes Go.ChangeAt Go.RowKit Go.Joins
open Go.ChangeMaps (open_string shut_string)
set_option linter.unusedVariables false

theorem law (id pe te vo co ro : Int) (vl vv vm : Value) (log : List En) (vs mt : List Int) (w : World) (hl : ER w vl log) (hv : IL w vv vs) (hm : IL w vm mt) (nl : log.length ≤ maxLen) (nv : vs.length ≤ maxLen) (nm : mt.length ≤ maxLen) (ns : ∀ i (h : i < log.length), log[i].d.size ≤ maxLen) :
    Calls Try.prog 4 #[.agg #[.int .i64 id, .int .i64 pe, .int .i64 te, .int .i64 vo, vl, .int .i64 co, .int .i64 ro, vv, vm]] w fun e w' => e = .returned (.bool true) ∧ Below w.heap.size w w' := lawTimeoutNode id pe te vo co ro vl vv vm log vs mt w hl hv hm nl nv nm ns

theorem own : ownKnob Try.prog.godebug = none := by kernel_rfl
theorem laidOut : laidOutB Try.prog = true := by kernel_rfl
theorem cells136 : Try.prog.cellsOf 136 = 2 := by kernel_rfl
theorem cells3 : Try.prog.cellsOf 3 = 1 := by kernel_rfl
theorem cells49 : Try.prog.cellsOf 49 = 9 := by kernel_rfl
theorem cells142 : Try.prog.cellsOf 142 = 9 := by kernel_rfl
theorem cells5 : Try.prog.cellsOf 5 = 1 := by kernel_rfl
theorem cells9 : Try.prog.cellsOf 9 = 1 := by kernel_rfl

set_option maxRecDepth 100000 in
theorem lifted (os : Os) (started : os.Started) (H : Type) (enc : TypeId × Value → H) :
    ReturnsInHanded {} Try.checked os 4 .any (Rows.fnExactTimeoutNodeSpec.pre6 enc Try.prog Try.f4 Rows.fnExactTimeoutNodeRow.domain false) (Rows.fnExactTimeoutNodeSpec.post enc Try.prog Try.f4 false true false false) := by
  refine returnsInHanded_of_change (C := Try.checked) own started (by kernel_rfl) Try.func4
    (ChangeSpec.witness6 (enc := enc) (C := Try.checked) false ⟨#[], #[.agg #[.int .i64 0, .int .i64 0, .int .i64 0, .int .i64 0, .slice none 0 0, .int .i64 0, .int .i64 0, .slice none 0 0, .slice none 0 0]], []⟩ 8 (by kernel_rfl) (by kernel_rfl) (by kernel_rfl) (by kernel_rfl)) ?_
  intro W base args ds gs before hval0 hW hcnd _
  have hval : ∀ (j : Nat) t v, Try.f4.params[j]? = some t → args[j]? = some v → Value.okWide Try.prog W .any base t v := hval0
  have hW' := hW
  obtain ⟨p, q, hA0, hV, rfl, hfz, hnd⟩ := hW
  have hA : DataW.TrodAll enc Try.prog W 0 (fun _ => true) true Try.f4.params.toList args.toList ds p := hA0
  rw [Try.params4] at hA hval
  obtain ⟨rfl, rfl⟩ := trodVars_none hV
  obtain ⟨v0, vs0, d0, ds0, p0, q0, hargs0, hds0, hp0, h0, r0⟩ := trodAll_cons hA
  obtain ⟨e1, e2, e3⟩ := trodAll_nil r0
  subst e2 e3
  subst e1
  subst hds0 hp0
  obtain rfl : args = #[v0] := by cases args; simp_all
  have k0 := h0
  have lt0 : ∀ x ∈ p0, x.block < W.heap.size := by obtain ⟨m, hm⟩ := k0; exact DataW.trod_lt m _ _ _ hm
  obtain ⟨a0_0, a0_1, a0_2, a0_3, a0_4, a0_5, a0_6, a0_7, a0_8, _, _, _, _, _, _, _, _, _, m0, rfl, t0_0, t0_1, t0_2, t0_3, t0_4, t0_5, t0_6, t0_7, t0_8⟩ := open_agg9 Try.underlying49 (by kernel_rfl) cells49 (hval 0 49 v0 rfl rfl) h0
  obtain ⟨x0_0, ea, _, _⟩ := DataW.trod_int Try.underlying3 t0_0
  simp only [List.cons.injEq, and_true] at ea
  subst ea
  obtain ⟨x0_1, ea, _, _⟩ := DataW.trod_int Try.underlying3 t0_1
  simp only [List.cons.injEq, and_true] at ea
  subst ea
  obtain ⟨x0_2, ea, _, _⟩ := DataW.trod_int Try.underlying3 t0_2
  simp only [List.cons.injEq, and_true] at ea
  subst ea
  obtain ⟨x0_3, ea, _, _⟩ := DataW.trod_int Try.underlying3 t0_3
  simp only [List.cons.injEq, and_true] at ea
  subst ea
  obtain ⟨x0_5, ea, _, _⟩ := DataW.trod_int Try.underlying3 t0_5
  simp only [List.cons.injEq, and_true] at ea
  subst ea
  obtain ⟨x0_6, ea, _, _⟩ := DataW.trod_int Try.underlying3 t0_6
  simp only [List.cons.injEq, and_true] at ea
  subst ea
  obtain ⟨l0, P0, n0, s0⟩ := ER_of_trod Try.underlying47 Try.underlying136 cells136 (by kernel_rfl) Try.underlying3 Try.underlying9 t0_4
  obtain ⟨j0, Q0, nq0⟩ := IL_of_trod t0_7
  obtain ⟨k_0, R0, nr0⟩ := IL_of_trod t0_8
  clear hA0 hval0
  refine (law x0_0 x0_1 x0_2 x0_3 x0_5 x0_6 a0_4 a0_7 a0_8 l0 j0 k_0 W P0 Q0 R0 n0 nq0 nr0 s0).mono fun e W' ⟨he, bel⟩ => ?_
  subst he
  exact ⟨_, rfl, _, _, _, [], _, [], hW', trodAll_mk1 (shut_bool Try.underlying4 _), (trodAll_cons_mk (Below.trod laidOut (by kernel_rfl) (of_decide_eq_true (by kernel_rfl)) k0 bel lt0) trodAll_mk0), rfl, bel.frame _, fun h => by cases h⟩

theorem over : Rows.fnExactTimeoutNodeRow.holds Try.pinned (OpenSpec.ofChange Rows.fnExactTimeoutNodeSpec) :=
  OpenClaim.holds_of_wide 4 Try.f4 rfl rfl rfl rfl rfl rfl rfl ⟨rfl, rfl, rfl, rfl, rfl⟩ rfl rfl rfl rfl rfl (by kernel_rfl) Try.func4 (by kernel_rfl)
    (of_decide_eq_true (by kernel_rfl)) (by unfold Func.isWrapper; first | (rw [if_pos (by decide +kernel)]; kernel_rfl) | (rw [if_neg (by decide +kernel)]; exact ⟨rfl, rfl⟩))
    (fun os started H enc _ => lifted os started H enc)
end fnExactTimeoutNode
theorem fnExactTimeoutNode_holds : Rows.FnExactTimeoutNodeSaid := fnExactTimeoutNode.over
#print axioms fnExactTimeoutNode_holds
end Go.Proofs.Ytapfhhmimkkhnaa
