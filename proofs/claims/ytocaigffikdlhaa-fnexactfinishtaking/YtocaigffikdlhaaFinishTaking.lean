/-
  At every taking, impl.FinishTaking answers as its specification, writes into no argument, and its answer owns its memory: the law laws.FnExactFinishTaking returns true. No condition.
-/
import Derived.Test.YtocaigffikdlhaaRows
import Derived.Test.YtocaigffikdlhaaChecked
import Derived.Test.YtocaigffikdlhaaLFinishTaking
import Derived.Test.YtocaigffikdlhaaWT1
import Derived.Test.YtocaigffikdlhaaMT
import Derived.OpenShut
import Derived.ChangeOld
import Derived.ShutString
import Derived.JoinedOf
import Derived.JoinedAt
import Derived.RowKit3
import Derived.Lib.SmallJoins
namespace Go.Proofs.Ytocaigffikdlhaa
namespace fnExactFinishTaking
open Go.ChangeShapes Go.WideShapes Go.ChangeAt Go.RowKit Go.Joins
open Go.ChangeMaps (open_string shut_string)
set_option linter.unusedVariables false

theorem law (a c : Value) (W : List Wt) (G : List Ck) (w : World) (hw : WR w a W) (hc : IR w c G) (hn : W.length ≤ maxLen) (hm : G.length ≤ maxLen) (hs : ∀ i (h : i < G.length), G[i].k.size ≤ maxLen) :
    Calls Try.prog 12 #[.agg #[a, c]] w fun e w' => e = .returned (.bool true) ∧ Below w.heap.size w w' := law12 a c W G w hw hc hn hm hs

theorem own : ownKnob Try.prog.godebug = none := by kernel_rfl
theorem laidOut : laidOutB Try.prog = true := by kernel_rfl
theorem cells116 : Try.prog.cellsOf 116 = 2 := by kernel_rfl
theorem cells77 : Try.prog.cellsOf 77 = 4 := by kernel_rfl
theorem cells73 : Try.prog.cellsOf 73 = 2 := by kernel_rfl
theorem cells5 : Try.prog.cellsOf 5 = 1 := by kernel_rfl
theorem cells9 : Try.prog.cellsOf 9 = 1 := by kernel_rfl

set_option maxRecDepth 100000 in
theorem lifted (os : Os) (started : os.Started) (H : Type) (enc : TypeId × Value → H) :
    ReturnsInHanded {} Try.checked os 12 .any (Rows.fnExactFinishTakingSpec.pre6 enc Try.prog Try.f12 Rows.fnExactFinishTakingRow.domain false) (Rows.fnExactFinishTakingSpec.post enc Try.prog Try.f12 false true false false) := by
  refine returnsInHanded_of_change (C := Try.checked) own started (by kernel_rfl) Try.func12
    (ChangeSpec.witness6 (enc := enc) (C := Try.checked) false ⟨#[], #[.agg #[.slice none 0 0, .slice none 0 0]], []⟩ 8 (by kernel_rfl) (by kernel_rfl) (by kernel_rfl) (by kernel_rfl)) ?_
  intro W base args ds gs before hval0 hW hcnd _
  have hval : ∀ (j : Nat) t v, Try.f12.params[j]? = some t → args[j]? = some v → Value.okWide Try.prog W .any base t v := hval0
  have hW' := hW
  obtain ⟨p, q, hA0, hV, rfl, hfz, hnd⟩ := hW
  have hA : DataW.TrodAll enc Try.prog W 0 (fun _ => true) true Try.f12.params.toList args.toList ds p := hA0
  rw [Try.params12] at hA hval
  obtain ⟨rfl, rfl⟩ := trodVars_none hV
  obtain ⟨v0, vs0, d0, ds0, p0, q0, hargs0, hds0, hp0, h0, r0⟩ := trodAll_cons hA
  obtain ⟨e1, e2, e3⟩ := trodAll_nil r0
  subst e2 e3
  subst e1
  subst hds0 hp0
  obtain rfl : args = #[v0] := by cases args; simp_all
  have k0 := h0
  have lt0 : ∀ x ∈ p0, x.block < W.heap.size := by obtain ⟨m, hm⟩ := k0; exact DataW.trod_lt m _ _ _ hm
  obtain ⟨a0_0, a0_1, _, _, m0, rfl, _, _, t0_0, t0_1⟩ := open_agg2 Try.underlying73 (by kernel_rfl) cells73 (hval 0 73 v0 rfl rfl) h0
  obtain ⟨lw0, PW0, nw0, _⟩ := WR_of_trod Try.underlying64 Try.underlying116 cells116 (by kernel_rfl) Try.underlying3 Try.underlying35 t0_0
  obtain ⟨lc0, PC0, nc0, sc0⟩ := IR_of_trod Try.underlying71 Try.underlying77 cells77 (by kernel_rfl) Try.underlying3 Try.underlying3 Try.underlying9 Try.underlying35 t0_1
  clear hA0 hval0
  refine (law a0_0 a0_1 lw0 lc0 W PW0 PC0 nw0 nc0 sc0).mono fun e W' ⟨he, bel⟩ => ?_
  subst he
  exact ⟨_, rfl, _, _, _, [], _, [], hW', trodAll_mk1 (shut_bool Try.underlying4 _), (trodAll_cons_mk (Below.trod laidOut (by kernel_rfl) (of_decide_eq_true (by kernel_rfl)) k0 bel lt0) trodAll_mk0), rfl, bel.frame _, fun h => by cases h⟩

theorem over : Rows.fnExactFinishTakingRow.holds Try.pinned (OpenSpec.ofChange Rows.fnExactFinishTakingSpec) :=
  OpenClaim.holds_of_wide 12 Try.f12 rfl rfl rfl rfl rfl rfl rfl ⟨rfl, rfl, rfl, rfl, rfl⟩ rfl rfl rfl rfl rfl (by kernel_rfl) Try.func12 (by kernel_rfl)
    (of_decide_eq_true (by kernel_rfl)) (by unfold Func.isWrapper; first | (rw [if_pos (by decide +kernel)]; kernel_rfl) | (rw [if_neg (by decide +kernel)]; exact ⟨rfl, rfl⟩))
    (fun os started H enc _ => lifted os started H enc)
end fnExactFinishTaking
theorem fnExactFinishTaking_holds : Rows.FnExactFinishTakingSaid := fnExactFinishTaking.over
#print axioms fnExactFinishTaking_holds
end Go.Proofs.Ytocaigffikdlhaa
