/-
  At every list of texts, every order and all flips, impl.PlayTaking answers as its specification, writes into no argument, and its answer owns its memory: the law laws.FnExactPlayTaking returns true. No condition.
-/
import Derived.Test.YtocaigffikdlhaaRows
import Derived.Test.YtocaigffikdlhaaChecked
import Derived.Test.YtocaigffikdlhaaLPlayTaking
import Derived.Test.YtocaigffikdlhaaT1
import Derived.OpenShut
import Derived.ChangeOld
import Derived.ShutString
import Derived.JoinedOf
import Derived.JoinedAt
import Derived.RowKit3
import Derived.SliceStrings
namespace Go.Proofs.Ytocaigffikdlhaa
namespace fnExactPlayTaking
open Go.ChangeShapes Go.WideShapes Go.ChangeAt Go.RowKit
open Go.ChangeMaps (open_string shut_string)
set_option linter.unusedVariables false

theorem law (v : Value) (L : List ByteArray) (ov : Value) (O : List Int) (fv : Value) (F : List Int) (w : World) (hv : SL w v L) (hn : L.length ≤ maxLen) (hs : ∀ i (h : i < L.length), L[i].size ≤ maxLen) (ho : IL w ov O) (hO : O.length ≤ maxLen) (hf : IL w fv F) (hF : F.length ≤ maxLen) :
    Calls Try.prog 13 #[v, ov, fv] w fun e w' => e = .returned (.bool true) ∧ Below w.heap.size w w' := law13 v ov fv L O F w hv ho hf hn hs hO hF

theorem own : ownKnob Try.prog.godebug = none := by kernel_rfl
theorem laidOut : laidOutB Try.prog = true := by kernel_rfl
theorem cells116 : Try.prog.cellsOf 116 = 2 := by kernel_rfl
theorem cells77 : Try.prog.cellsOf 77 = 4 := by kernel_rfl
theorem cells73 : Try.prog.cellsOf 73 = 2 := by kernel_rfl
theorem cells5 : Try.prog.cellsOf 5 = 1 := by kernel_rfl
theorem cells9 : Try.prog.cellsOf 9 = 1 := by kernel_rfl

set_option maxRecDepth 100000 in
theorem lifted (os : Os) (started : os.Started) (H : Type) (enc : TypeId × Value → H) :
    ReturnsInHanded {} Try.checked os 13 .any (Rows.fnExactPlayTakingSpec.pre6 enc Try.prog Try.f13 Rows.fnExactPlayTakingRow.domain false) (Rows.fnExactPlayTakingSpec.post enc Try.prog Try.f13 false true false false) := by
  refine returnsInHanded_of_change (C := Try.checked) own started (by kernel_rfl) Try.func13
    (ChangeSpec.witness6 (enc := enc) (C := Try.checked) false ⟨#[], #[.slice none 0 0, .slice none 0 0, .slice none 0 0], []⟩ 8 (by kernel_rfl) (by kernel_rfl) (by kernel_rfl) (by kernel_rfl)) ?_
  intro W base args ds gs before hval0 hW hcnd _
  have hval : ∀ (j : Nat) t v, Try.f13.params[j]? = some t → args[j]? = some v → Value.okWide Try.prog W .any base t v := hval0
  have hW' := hW
  obtain ⟨p, q, hA0, hV, rfl, hfz, hnd⟩ := hW
  have hA : DataW.TrodAll enc Try.prog W 0 (fun _ => true) true Try.f13.params.toList args.toList ds p := hA0
  rw [Try.params13] at hA hval
  obtain ⟨rfl, rfl⟩ := trodVars_none hV
  obtain ⟨v0, vs0, d0, ds0, p0, q0, hargs0, hds0, hp0, h0, r0⟩ := trodAll_cons hA
  obtain ⟨v1, vs1, d1, ds1, p1, q1, hargs1, hds1, hp1, h1, r1⟩ := trodAll_cons r0
  obtain ⟨v2, vs2, d2, ds2, p2, q2, hargs2, hds2, hp2, h2, r2⟩ := trodAll_cons r1
  obtain ⟨e1, e2, e3⟩ := trodAll_nil r2
  subst e2 e3
  subst e1
  subst hargs2 hds2 hp2
  subst hargs1 hds1 hp1
  subst hds0 hp0
  obtain rfl : args = #[v0, v1, v2] := by cases args; simp_all
  have k0 := h0
  have lt0 : ∀ x ∈ p0, x.block < W.heap.size := by obtain ⟨m, hm⟩ := k0; exact DataW.trod_lt m _ _ _ hm
  obtain ⟨l0, P0, n0, s0⟩ : ∃ l : List ByteArray, SL W v0 l ∧ l.length ≤ maxLen ∧ ∀ i (hi : i < l.length), l[i].size ≤ maxLen := by
    obtain ⟨f, hf⟩ := k0
    obtain ⟨_, _, _, rfl⟩ := okWide_slice Try.underlying23 (hval 0 23 v0 rfl rfl)
    exact SL_of_trod Try.underlying23 Try.underlying9 cells9 hf
  have k1 := h1
  have lt1 : ∀ x ∈ p1, x.block < W.heap.size := by obtain ⟨m, hm⟩ := k1; exact DataW.trod_lt m _ _ _ hm
  obtain ⟨l1, P1, n1⟩ : ∃ l : List Int, IL W v1 l ∧ l.length ≤ maxLen := by
    obtain ⟨f, hf⟩ := k1
    obtain ⟨_, _, _, rfl⟩ := okWide_slice Try.underlying24 (hval 1 24 v1 rfl rfl)
    exact IL_of_trod hf
  have k2 := h2
  have lt2 : ∀ x ∈ p2, x.block < W.heap.size := by obtain ⟨m, hm⟩ := k2; exact DataW.trod_lt m _ _ _ hm
  obtain ⟨l2, P2, n2⟩ : ∃ l : List Int, IL W v2 l ∧ l.length ≤ maxLen := by
    obtain ⟨f, hf⟩ := k2
    obtain ⟨_, _, _, rfl⟩ := okWide_slice Try.underlying24 (hval 2 24 v2 rfl rfl)
    exact IL_of_trod hf
  clear hA0 hval0
  refine (law v0 l0 v1 l1 v2 l2 W P0 n0 s0 P1 n1 P2 n2).mono fun e W' ⟨he, bel⟩ => ?_
  subst he
  exact ⟨_, rfl, _, _, _, [], _, [], hW', trodAll_mk1 (shut_bool Try.underlying4 _), (trodAll_cons_mk (Below.trod laidOut (by kernel_rfl) (of_decide_eq_true (by kernel_rfl)) k0 bel lt0) (trodAll_cons_mk (Below.trod laidOut (by kernel_rfl) (of_decide_eq_true (by kernel_rfl)) k1 bel lt1) (trodAll_cons_mk (Below.trod laidOut (by kernel_rfl) (of_decide_eq_true (by kernel_rfl)) k2 bel lt2) trodAll_mk0))), rfl, bel.frame _, fun h => by cases h⟩

theorem over : Rows.fnExactPlayTakingRow.holds Try.pinned (OpenSpec.ofChange Rows.fnExactPlayTakingSpec) :=
  OpenClaim.holds_of_wide 13 Try.f13 rfl rfl rfl rfl rfl rfl rfl ⟨rfl, rfl, rfl, rfl, rfl⟩ rfl rfl rfl rfl rfl (by kernel_rfl) Try.func13 (by kernel_rfl)
    (of_decide_eq_true (by kernel_rfl)) (by unfold Func.isWrapper; first | (rw [if_pos (by decide +kernel)]; kernel_rfl) | (rw [if_neg (by decide +kernel)]; exact ⟨rfl, rfl⟩))
    (fun os started H enc _ => lifted os started H enc)
end fnExactPlayTaking
theorem fnExactPlayTaking_holds : Rows.FnExactPlayTakingSaid := fnExactPlayTaking.over
#print axioms fnExactPlayTaking_holds
end Go.Proofs.Ytocaigffikdlhaa
