/-
  At every state and Id, impl.SessionOf answers as its specification, every field, and writes into no argument: the law laws.FnExactSessionOf returns true. No condition.
-/
import Derived.Test.YthlllegedfjhlaaRows
import Derived.Test.YthlllegedfjhlaaChecked
import Derived.Test.YthlllegedfjhlaaLSO
import Derived.Test.YthlllegedfjhlaaTP
import Derived.OpenShut
import Derived.ChangeOld
import Derived.ShutString
import Derived.JoinedOf
import Derived.JoinedAt
import Derived.RowKit3
import Derived.Lib.SmallJoins
namespace Go.Proofs.Ythlllegedfjhlaa
namespace fnExactSessionOf
open Go.ChangeShapes Go.WideShapes Go.ChangeAt Go.RowKit Go.Joins
open Go.ChangeMaps (open_string shut_string)
set_option linter.unusedVariables false

theorem law (a c : Value) (W : List Pr) (G : List Ss) (id : Int) (w : World) (hw : PR w a W) (hc : SR w c G) (hn : W.length ≤ maxLen) (hm : G.length ≤ maxLen) (hp : ∀ i (h : i < W.length), W[i].k.size ≤ maxLen ∧ W[i].v.size ≤ maxLen) (hs : ∀ i (h : i < G.length), G[i].v.size ≤ maxLen) (_ : -9223372036854775808 ≤ id) (_ : id ≤ 9223372036854775807) :
    Calls Try.prog 4 #[.agg #[a, c], .int .i64 id] w fun e w' => e = .returned (.bool true) ∧ Below w.heap.size w w' := law4 a c W G id w hw hc hn hm hp hs

theorem own : ownKnob Try.prog.godebug = none := by kernel_rfl
theorem laidOut : laidOutB Try.prog = true := by kernel_rfl
theorem cells65 : Try.prog.cellsOf 65 = 2 := by kernel_rfl
theorem cells25 : Try.prog.cellsOf 25 = 2 := by kernel_rfl
theorem cells5 : Try.prog.cellsOf 5 = 1 := by kernel_rfl
theorem cells9 : Try.prog.cellsOf 9 = 1 := by kernel_rfl

set_option maxRecDepth 100000 in
theorem lifted (os : Os) (started : os.Started) (H : Type) (enc : TypeId × Value → H) :
    ReturnsInHanded {} Try.checked os 4 .any (Rows.fnExactSessionOfSpec.pre6 enc Try.prog Try.f4 Rows.fnExactSessionOfRow.domain false) (Rows.fnExactSessionOfSpec.post enc Try.prog Try.f4 false true false false) := by
  refine returnsInHanded_of_change (C := Try.checked) own started (by kernel_rfl) Try.func4
    (ChangeSpec.witness6 (enc := enc) (C := Try.checked) false ⟨#[], #[.agg #[.slice none 0 0, .slice none 0 0], .int .i64 0], []⟩ 8 (by kernel_rfl) (by kernel_rfl) (by kernel_rfl) (by kernel_rfl)) ?_
  intro W base args ds gs before hval0 hW hcnd _
  have hval : ∀ (j : Nat) t v, Try.f4.params[j]? = some t → args[j]? = some v → Value.okWide Try.prog W .any base t v := hval0
  have hW' := hW
  obtain ⟨p, q, hA0, hV, rfl, hfz, hnd⟩ := hW
  have hA : DataW.TrodAll enc Try.prog W 0 (fun _ => true) true Try.f4.params.toList args.toList ds p := hA0
  rw [Try.params4] at hA hval
  obtain ⟨rfl, rfl⟩ := trodVars_none hV
  obtain ⟨v0, vs0, d0, ds0, p0, q0, hargs0, hds0, hp0, h0, r0⟩ := trodAll_cons hA
  obtain ⟨v1, vs1, d1, ds1, p1, q1, hargs1, hds1, hp1, h1, r1⟩ := trodAll_cons r0
  obtain ⟨e1, e2, e3⟩ := trodAll_nil r1
  subst e2 e3
  subst e1
  subst hargs1 hds1 hp1
  subst hds0 hp0
  obtain rfl : args = #[v0, v1] := by cases args; simp_all
  have k0 := h0
  have lt0 : ∀ x ∈ p0, x.block < W.heap.size := by obtain ⟨m, hm⟩ := k0; exact DataW.trod_lt m _ _ _ hm
  obtain ⟨a0_0, a0_1, _, _, m0, rfl, _, _, t0_0, t0_1⟩ := open_agg2 Try.underlying25 (by kernel_rfl) cells25 (hval 0 25 v0 rfl rfl) h0
  obtain ⟨lw0, PW0, nw0, sw0⟩ := PR_of_trod Try.underlying22 Try.underlying65 cells65 (by kernel_rfl) Try.underlying9 Try.underlying9 t0_0
  obtain ⟨lc0, PC0, nc0, sc0⟩ := SR_of_trod t0_1
  obtain ⟨x1, rfl, rfl, rfl, w_1⟩ := open_int Try.underlying3 (hval 1 3 v1 rfl rfl) h1
  have b1 : -9223372036854775808 ≤ x1 ∧ x1 ≤ 9223372036854775807 := by
    have h := w_1
    simp only [Lit.wf, Bool.and_eq_true, decide_eq_true_eq] at h
    exact ⟨h.1, h.2⟩
  clear hA0 hval0
  refine (law a0_0 a0_1 lw0 lc0 x1 W PW0 PC0 nw0 nc0 sw0 sc0 b1.1 b1.2).mono fun e W' ⟨he, bel⟩ => ?_
  subst he
  exact ⟨_, rfl, _, _, _, [], _, [], hW', trodAll_mk1 (shut_bool Try.underlying4 _), (trodAll_cons_mk (Below.trod laidOut (by kernel_rfl) (of_decide_eq_true (by kernel_rfl)) k0 bel lt0) (trodAll_cons_mk (shut_int Try.underlying3 w_1) trodAll_mk0)), rfl, bel.frame _, fun h => by cases h⟩

theorem over : Rows.fnExactSessionOfRow.holds Try.pinned (OpenSpec.ofChange Rows.fnExactSessionOfSpec) :=
  OpenClaim.holds_of_wide 4 Try.f4 rfl rfl rfl rfl rfl rfl rfl ⟨rfl, rfl, rfl, rfl, rfl⟩ rfl rfl rfl rfl rfl (by kernel_rfl) Try.func4 (by kernel_rfl)
    (of_decide_eq_true (by kernel_rfl)) (by unfold Func.isWrapper; first | (rw [if_pos (by decide +kernel)]; kernel_rfl) | (rw [if_neg (by decide +kernel)]; exact ⟨rfl, rfl⟩))
    (fun os started H enc _ => lifted os started H enc)
end fnExactSessionOf
theorem fnExactSessionOf_holds : Rows.FnExactSessionOfSaid := fnExactSessionOf.over
#print axioms fnExactSessionOf_holds
end Go.Proofs.Ythlllegedfjhlaa
