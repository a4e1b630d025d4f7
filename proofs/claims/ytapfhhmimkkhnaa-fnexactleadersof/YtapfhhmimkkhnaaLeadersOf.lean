/-
  At every cluster, impl.LeadersOf answers as its specification, every field, writes into no argument, and what it answers is its own: the law laws.FnExactLeadersOf returns true. No condition.
-/
import Derived.Test.YtapfhhmimkkhnaaRows
import Derived.Test.YtapfhhmimkkhnaaChecked
import Derived.Test.YtapfhhmimkkhnaaLLDToO9
import Derived.Test.YtapfhhmimkkhnaaCT
import Derived.OpenShut
import Derived.ChangeOld
import Derived.ShutString
import Derived.JoinedOf
import Derived.JoinedAt
import Derived.RowKit3
import Derived.Lib.SmallJoins
namespace Go.Proofs.Ytapfhhmimkkhnaa
namespace fnExactLeadersOf
open Go.ChangeShapes Go.WideShapes Go.ChangeAt Go.RowKit Go.Joins
open Go.ChangeMaps (open_string shut_string)
set_option linter.unusedVariables false

theorem law (vn vm vl : Value) (N : List Nv) (M : List Mv) (L : List Ld) (w : World) (h : CR w vn vm vl N M L) (nn : N.length ≤ maxLen) (nm : M.length ≤ maxLen) (nl : L.length ≤ maxLen) (zn : ∀ i (h : i < N.length), NZ N[i]) (zm : ∀ i (h : i < M.length), MZ M[i]) :
    Calls Try.prog 7 #[.agg #[vn, vm, vl]] w fun e w' => e = .returned (.bool true) ∧ Below w.heap.size w w' := lawLeadersOf vn vm vl N M L w h nn nm nl zn zm

theorem own : ownKnob Try.prog.godebug = none := by kernel_rfl
theorem laidOut : laidOutB Try.prog = true := by kernel_rfl
theorem cells136 : Try.prog.cellsOf 136 = 2 := by kernel_rfl
theorem cells3 : Try.prog.cellsOf 3 = 1 := by kernel_rfl
theorem cells49 : Try.prog.cellsOf 49 = 9 := by kernel_rfl
theorem cells142 : Try.prog.cellsOf 142 = 9 := by kernel_rfl
theorem cells5 : Try.prog.cellsOf 5 = 1 := by kernel_rfl
theorem cells9 : Try.prog.cellsOf 9 = 1 := by kernel_rfl

set_option maxRecDepth 100000 in
theorem lifted (os : Os) (started : os.Started) (H : Type) (enc : TypeId × Value → H) :
    ReturnsInHanded {} Try.checked os 7 .any (Rows.fnExactLeadersOfSpec.pre6 enc Try.prog Try.f7 Rows.fnExactLeadersOfRow.domain false) (Rows.fnExactLeadersOfSpec.post enc Try.prog Try.f7 false true false false) := by
  refine returnsInHanded_of_change (C := Try.checked) own started (by kernel_rfl) Try.func7
    (ChangeSpec.witness6 (enc := enc) (C := Try.checked) false ⟨#[], #[.agg #[.slice none 0 0, .slice none 0 0, .slice none 0 0]], []⟩ 8 (by kernel_rfl) (by kernel_rfl) (by kernel_rfl) (by kernel_rfl)) ?_
  intro W base args ds gs before hval0 hW hcnd _
  have hval : ∀ (j : Nat) t v, Try.f7.params[j]? = some t → args[j]? = some v → Value.okWide Try.prog W .any base t v := hval0
  have hW' := hW
  obtain ⟨p, q, hA0, hV, rfl, hfz, hnd⟩ := hW
  have hA : DataW.TrodAll enc Try.prog W 0 (fun _ => true) true Try.f7.params.toList args.toList ds p := hA0
  rw [Try.params7] at hA hval
  obtain ⟨rfl, rfl⟩ := trodVars_none hV
  obtain ⟨v0, vs0, d0, ds0, p0, q0, hargs0, hds0, hp0, h0, r0⟩ := trodAll_cons hA
  obtain ⟨e1, e2, e3⟩ := trodAll_nil r0
  subst e2 e3
  subst e1
  subst hds0 hp0
  obtain rfl : args = #[v0] := by cases args; simp_all
  have k0 := h0
  have lt0 : ∀ x ∈ p0, x.block < W.heap.size := by obtain ⟨m, hm⟩ := k0; exact DataW.trod_lt m _ _ _ hm
  obtain ⟨a0_0, a0_1, a0_2, _, _, _, m0, rfl, _, _, t0_0, t0_1, t0_2⟩ := open_agg3 Try.underlying70 (by kernel_rfl) cells70 (hval 0 70 v0 rfl rfl) h0
  obtain ⟨N0, M0, L0, P0, n0, nq0, nr0, s0, z0⟩ := CR_of_trod t0_0 t0_1 t0_2
  clear hA0 hval0
  refine (law a0_0 a0_1 a0_2 N0 M0 L0 W P0 n0 nq0 nr0 s0 z0).mono fun e W' ⟨he, bel⟩ => ?_
  subst he
  exact ⟨_, rfl, _, _, _, [], _, [], hW', trodAll_mk1 (shut_bool Try.underlying4 _), (trodAll_cons_mk (Below.trod laidOut (by kernel_rfl) (of_decide_eq_true (by kernel_rfl)) k0 bel lt0) trodAll_mk0), rfl, bel.frame _, fun h => by cases h⟩

theorem over : Rows.fnExactLeadersOfRow.holds Try.pinned (OpenSpec.ofChange Rows.fnExactLeadersOfSpec) :=
  OpenClaim.holds_of_wide 7 Try.f7 rfl rfl rfl rfl rfl rfl rfl ⟨rfl, rfl, rfl, rfl, rfl⟩ rfl rfl rfl rfl rfl (by kernel_rfl) Try.func7 (by kernel_rfl)
    (of_decide_eq_true (by kernel_rfl)) (by unfold Func.isWrapper; first | (rw [if_pos (by decide +kernel)]; kernel_rfl) | (rw [if_neg (by decide +kernel)]; exact ⟨rfl, rfl⟩))
    (fun os started H enc _ => lifted os started H enc)
end fnExactLeadersOf
theorem fnExactLeadersOf_holds : Rows.FnExactLeadersOfSaid := fnExactLeadersOf.over
#print axioms fnExactLeadersOf_holds
end Go.Proofs.Ytapfhhmimkkhnaa
