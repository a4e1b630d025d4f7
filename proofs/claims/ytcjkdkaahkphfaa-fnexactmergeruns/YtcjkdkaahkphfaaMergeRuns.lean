/-
  At every list of runs, impl.MergeRuns answers as its specification, and its answer owns its memory, behind another call too: the law laws.FnExactMergeRuns returns true. No condition.
-/
import Derived.Test.YtcjkdkaahkphfaaRows
import Derived.Test.YtcjkdkaahkphfaaChecked
import Derived.Test.YtcjkdkaahkphfaaLMergeRuns
import Derived.Test.YtcjkdkaahkphfaaF9
import Derived.Test.YtcjkdkaahkphfaaO8
import Derived.OpenShut
import Derived.ChangeOld
import Derived.ShutString
import Derived.JoinedOf
import Derived.JoinedAt
import Derived.RowKit3
namespace Go.Proofs.Ytcjkdkaahkphfaa
namespace fnExactMergeRuns
open Go.ChangeShapes Go.WideShapes Go.ChangeAt Go.RowKit
open Go.ChangeMaps (open_string shut_string)
set_option linter.unusedVariables false

theorem law (v : Value) (l : List (List It)) (w : World) (hv : RL w v l) (hn : l.length ≤ maxLen) (hs : ∀ i (h : i < l.length), l[i].length ≤ maxLen ∧ ∀ j (hj : j < l[i].length), l[i][j].k.size ≤ maxLen ∧ l[i][j].v.size ≤ maxLen) :
    Calls Try.prog 4 #[v] w fun e w' => e = .returned (.bool true) ∧ Below w.heap.size w w' := lawMergeRuns v l w hv hn hs

theorem own : ownKnob Try.prog.godebug = none := by kernel_rfl
theorem laidOut : laidOutB Try.prog = true := by kernel_rfl
theorem cells127 : Try.prog.cellsOf 106 = 4 := by kernel_rfl
theorem cells65 : Try.prog.cellsOf 61 = 1 := by kernel_rfl
theorem cells5 : Try.prog.cellsOf 5 = 1 := by kernel_rfl
theorem cells9 : Try.prog.cellsOf 9 = 1 := by kernel_rfl

set_option maxRecDepth 100000 in
theorem lifted (os : Os) (started : os.Started) (H : Type) (enc : TypeId × Value → H) :
    ReturnsInHanded {} Try.checked os 4 .any (Rows.fnExactMergeRunsSpec.pre6 enc Try.prog Try.f4 Rows.fnExactMergeRunsRow.domain false) (Rows.fnExactMergeRunsSpec.post enc Try.prog Try.f4 false true false false) := by
  refine returnsInHanded_of_change (C := Try.checked) own started (by kernel_rfl) Try.func4
    (ChangeSpec.witness6 (enc := enc) (C := Try.checked) false ⟨#[], #[.slice none 0 0], []⟩ 8 (by kernel_rfl) (by kernel_rfl) (by kernel_rfl) (by kernel_rfl)) ?_
  intro W base args ds gs before hval0 hW hcnd _
  have hval : ∀ (j : Nat) t v, Try.f4.params[j]? = some t → args[j]? = some v → Value.okWide Try.prog W .any base t v := hval0
  have hW' := hW
  obtain ⟨p, q, hA0, hV, rfl, hfz, hnd⟩ := hW
  have hA : DataW.TrodAll enc Try.prog W 0 (fun _ => true) true Try.f4.params.toList args.toList ds p := hA0
  rw [Try.params4] at hA hval
  obtain ⟨rfl, rfl⟩ := trodVars_none hV
  obtain ⟨v0, vs0, d0, ds0, p0, q0, hargs0, hds0, hp0, h0, r0⟩ := trodAll_cons hA
  obtain ⟨e1, e2, e3⟩ := trodAll_nil r0
  subst e2 e3
  subst e1
  subst hds0 hp0
  obtain rfl : args = #[v0] := by cases args; simp_all
  have k0 := h0
  have lt0 : ∀ x ∈ p0, x.block < W.heap.size := by obtain ⟨m, hm⟩ := k0; exact DataW.trod_lt m _ _ _ hm
  obtain ⟨l0, P0, n0, s0⟩ : ∃ l : List (List It), RL W v0 l ∧ l.length ≤ maxLen ∧ ∀ i (hi : i < l.length), l[i].length ≤ maxLen ∧ ∀ j (hj : j < l[i].length), l[i][j].k.size ≤ maxLen ∧ l[i][j].v.size ≤ maxLen := by
    obtain ⟨f, hf⟩ := k0
    obtain ⟨_, _, _, rfl⟩ := okWide_slice Try.underlying36 (hval 0 36 v0 rfl rfl)
    exact RL_of_trod Try.underlying36 Try.underlying61 cells65 (by kernel_rfl) Try.underlying59 Try.underlying106 cells127 (by kernel_rfl) Try.underlying9 Try.underlying3 Try.underlying3 Try.underlying9 hf
  clear hA0 hval0
  refine (law v0 l0 W P0 n0 s0).mono fun e W' ⟨he, bel⟩ => ?_
  subst he
  exact ⟨_, rfl, _, _, _, [], _, [], hW', trodAll_mk1 (shut_bool Try.underlying4 _), (trodAll_cons_mk (Below.trod laidOut (by kernel_rfl) (of_decide_eq_true (by kernel_rfl)) k0 bel lt0) trodAll_mk0), rfl, bel.frame _, fun h => by cases h⟩

theorem over : Rows.fnExactMergeRunsRow.holds Try.pinned (OpenSpec.ofChange Rows.fnExactMergeRunsSpec) :=
  OpenClaim.holds_of_wide 4 Try.f4 rfl rfl rfl rfl rfl rfl rfl ⟨rfl, rfl, rfl, rfl, rfl⟩ rfl rfl rfl rfl rfl (by kernel_rfl) Try.func4 (by kernel_rfl)
    (of_decide_eq_true (by kernel_rfl)) (by unfold Func.isWrapper; first | (rw [if_pos (by decide +kernel)]; kernel_rfl) | (rw [if_neg (by decide +kernel)]; exact ⟨rfl, rfl⟩))
    (fun os started H enc _ => lifted os started H enc)
end fnExactMergeRuns
theorem fnExactMergeRuns_holds : Rows.FnExactMergeRunsSaid := fnExactMergeRuns.over
#print axioms fnExactMergeRuns_holds
end Go.Proofs.Ytcjkdkaahkphfaa
