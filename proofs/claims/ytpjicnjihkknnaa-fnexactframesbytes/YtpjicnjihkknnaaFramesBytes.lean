/-
  At every list of texts whatever (any memory), impl.FramesBytes answers as its specification (the text and the bool) and writes into no argument: the law laws.FnExactFramesBytes returns true. No condition.
-/
import Derived.Test.YtpjicnjihkknnaaRows
import Derived.Test.YtpjicnjihkknnaaChecked
import Derived.Test.YtpjicnjihkknnaaG1
import Derived.Test.YtpjicnjihkknnaaT1
import Derived.OpenShut
import Derived.ChangeOld
import Derived.ShutString
import Derived.JoinedOf
import Derived.JoinedAt
import Derived.RowKit3
import Derived.SliceStrings
namespace Go.Proofs.Ytpjicnjihkknnaa
namespace fnExactFramesBytes
open Go.ChangeShapes Go.WideShapes Go.ChangeAt Go.RowKit
open Go.ChangeMaps (open_string shut_string)
set_option linter.unusedVariables false

theorem cells9 : Try.prog.cellsOf 9 = 1 := by kernel_rfl
theorem size_of_totS (l : List ByteArray) (h : totS l ≤ 1048576) : ∀ i (hi : i < l.length), l[i].size ≤ 1048576 := by
  induction l with
  | nil => intro i hi; simp at hi
  | cons x r ih =>
    intro i hi
    simp only [totS] at h
    cases i with
    | zero => simp only [List.getElem_cons_zero]; omega
    | succ i => simp only [List.getElem_cons_succ]; exact ih (by omega) i (by simpa using hi)

set_option maxRecDepth 100000 in
set_option maxHeartbeats 2000000 in
theorem law (v : Value) (l : List ByteArray) (w : World) (hv : SL w v l) (hn : l.length ≤ maxLen) (hs : ∀ i (h : i < l.length), l[i].size ≤ maxLen) :
    Calls Try.prog 13 #[v] w fun e w' => e = .returned (.bool true) ∧ Below w.heap.size w w' := by
  go_enter Try.func13, Try.ntmps13
  go_wp2_with fail
  refine (szStringS_any v l 1048576 _ hv (by omega) (by omega) hn hs).mono ?_
  rintro e w1 ⟨⟨q, rfl, hq⟩, rfl⟩
  rcases hq with rfl | ⟨hq0, hqe⟩
  · go_wp2
    go_ret
    exact ⟨rfl, Below.refl _ _⟩
  · have m1 : l.length ≤ 1048576 := by omega
    have s1 := size_of_totS l (by omega)
    clear hqe hs hn
    go_wp2_with fail
    refine (toStringS_any v l _ hv m1).mono ?_
    rintro e w2 ⟨rfl, o2, hb2⟩
    have hB2 := hb2
    go_wp2_with fail
    refine (specFrames_any _ l _ (SL_of_owns o2) m1 s1).mono ?_
    rintro e w3 ⟨rfl, hb3⟩
    have hB3 := below_then hB2 hb3
    clear hb3 o2 hb2 hB2
    go_wp2_with fail
    refine (toStringS_any v l _ (hv.below hB3) m1).mono ?_
    rintro e w4 ⟨rfl, o4, hb4⟩
    have hB4 := below_then hB3 hb4
    clear hb4 hB3
    go_wp2_with fail
    refine (implFrames_any _ l _ (SL_of_owns o4) m1 s1).mono ?_
    rintro e w5 ⟨rfl, hb5⟩
    have o5 := owns_below o4 hb5
    have hB5 := below_then hB4 hb5
    clear hb5 hB4 o4
    generalize fsT l = T
    generalize fsOk l = bo
    go_wp2_with fail
    refine (toStringS_any v l _ (hv.below hB5) m1).mono ?_
    rintro e w6 ⟨rfl, o6, hb6⟩
    have o56 := owns_below o5 hb6
    have hB6 := below_then hB5 hb6
    clear hb6 hB5 o5
    go_wp2_with fail
    refine (eqStringS_same _ _ l _ (SL_of_owns o56) (SL_of_owns o6) m1).mono ?_
    rintro e w7 ⟨rfl, hb7⟩
    go_wp2
    go_ret
    exact ⟨rfl, below_then hB6 hb7⟩


theorem own : ownKnob Try.prog.godebug = none := by kernel_rfl
theorem laidOut : laidOutB Try.prog = true := by kernel_rfl

set_option maxRecDepth 100000 in
theorem lifted (os : Os) (started : os.Started) (H : Type) (enc : TypeId × Value → H) :
    ReturnsInHanded {} Try.checked os 13 .any (Rows.fnExactFramesBytesSpec.pre6 enc Try.prog Try.f13 Rows.fnExactFramesBytesRow.domain false) (Rows.fnExactFramesBytesSpec.post enc Try.prog Try.f13 false true false false) := by
  refine returnsInHanded_of_change (C := Try.checked) own started (by kernel_rfl) Try.func13
    (ChangeSpec.witness6 (enc := enc) (C := Try.checked) false ⟨#[], #[.slice none 0 0], []⟩ 8 (by kernel_rfl) (by kernel_rfl) (by kernel_rfl) (by kernel_rfl)) ?_
  intro W base args ds gs before hval0 hW hcnd _
  have hval : ∀ (j : Nat) t v, Try.f13.params[j]? = some t → args[j]? = some v → Value.okWide Try.prog W .any base t v := hval0
  have hW' := hW
  obtain ⟨p, q, hA0, hV, rfl, hfz, hnd⟩ := hW
  have hA : DataW.TrodAll enc Try.prog W 0 (fun _ => true) true Try.f13.params.toList args.toList ds p := hA0
  rw [Try.params13] at hA hval
  obtain ⟨rfl, rfl⟩ := trodVars_none hV
  obtain ⟨v0, vs0, d0, ds0, p0, q0, hargs0, hds0, hp0, h0, r0⟩ := trodAll_cons hA
  obtain ⟨e1, e2, e3⟩ := trodAll_nil r0
  subst e2 e3
  subst e1
  subst hds0 hp0
  obtain rfl : args = #[v0] := by cases args; simp_all
  have k0 := h0
  have lt0 : ∀ x ∈ p0, x.block < W.heap.size := by obtain ⟨m, hm⟩ := k0; exact DataW.trod_lt m _ _ _ hm
  obtain ⟨l0, P0, n0, s0⟩ : ∃ l : List ByteArray, SL W v0 l ∧ l.length ≤ maxLen ∧ ∀ i (hi : i < l.length), l[i].size ≤ maxLen := by
    obtain ⟨f, hf⟩ := k0
    obtain ⟨_, _, _, rfl⟩ := okWide_slice Try.underlying47 (hval 0 47 v0 rfl rfl)
    exact SL_of_trod Try.underlying47 Try.underlying9 cells9 hf
  clear hA0 hval0
  refine (law v0 l0 W P0 n0 s0).mono fun e W' ⟨he, bel⟩ => ?_
  subst he
  exact ⟨_, rfl, _, _, _, [], _, [], hW', trodAll_mk1 (shut_bool Try.underlying4 _), (trodAll_cons_mk (Below.trod laidOut (by kernel_rfl) (of_decide_eq_true (by kernel_rfl)) k0 bel lt0) trodAll_mk0), rfl, bel.frame _, fun h => by cases h⟩

theorem over : Rows.fnExactFramesBytesRow.holds Try.pinned (OpenSpec.ofChange Rows.fnExactFramesBytesSpec) :=
  OpenClaim.holds_of_wide 13 Try.f13 rfl rfl rfl rfl rfl rfl rfl ⟨rfl, rfl, rfl, rfl, rfl⟩ rfl rfl rfl rfl rfl (by kernel_rfl) Try.func13 (by kernel_rfl)
    (of_decide_eq_true (by kernel_rfl)) (by unfold Func.isWrapper; first | (rw [if_pos (by decide +kernel)]; kernel_rfl) | (rw [if_neg (by decide +kernel)]; exact ⟨rfl, rfl⟩))
    (fun os started H enc _ => lifted os started H enc)
end fnExactFramesBytes
theorem fnExactFramesBytes_holds : Rows.FnExactFramesBytesSaid := fnExactFramesBytes.over
#print axioms fnExactFramesBytes_holds
end Go.Proofs.Ytpjicnjihkknnaa
