/-
  At every list of keys and number whatever, impl.FilterOf answers as its specification and writes into no argument: the law laws.FnExactFilterOf returns true. No condition.
-/
import Derived.Test.YtdcglghmhjbkkaaRows
import Derived.Test.YtdcglghmhjbkkaaChecked
import Derived.Test.YtdcglghmhjbkkaaU2
import Derived.Test.YtdcglghmhjbkkaaT1
import Derived.OpenShut
import Derived.ChangeOld
import Derived.ShutString
import Derived.JoinedOf
import Derived.JoinedAt
import Derived.RowKit3
import Derived.SliceStrings
namespace Go.Proofs.Ytdcglghmhjbkkaa
namespace fnExactFilterOf
open Go.ChangeShapes Go.WideShapes Go.ChangeAt Go.RowKit
open Go.ChangeMaps (open_string shut_string)
set_option linter.unusedVariables false

set_option maxRecDepth 100000 in
set_option maxHeartbeats 2000000 in
theorem law (v : Value) (l : List ByteArray) (n : Int) (w : World) (hv : SL w v l) (hn : l.length ≤ maxLen) (hss : ∀ i (h : i < l.length), l[i].size ≤ maxLen) (_ : -9223372036854775808 ≤ n) (_ : n ≤ 9223372036854775807) :
    Calls Try.prog 11 #[v, .int .i64 n] w fun e w' => e = .returned (.bool true) ∧ Below w.heap.size w w' := by
  have SZ := szStringS_any v l 1048576 w hv (by omega) (by omega) hn hss
  have S := fun v w hv => specFil n v l w hv (by unfold maxLen at hn; omega)
  have I := fun v w hv => implFil n v l w hv (by unfold maxLen at hn; omega)
  generalize filF n l = R at *
  obtain ⟨rn, rs, rm, rb⟩ := R
  go_enter Try.func11, Try.ntmps11
  go_wp2_with fail
  refine SZ.mono ?_
  rintro e w1 ⟨⟨r, rfl, hr⟩, hw⟩
  rw [hw]; clear hw SZ
  rcases hr with rfl | ⟨hr0, hr1⟩
  · clear S I
    go_wp2
    go_ret
    exact ⟨rfl, Below.refl _ _⟩
  · have hl : l.length ≤ 1048576 := by omega
    clear hr1
    go_wp2_with fail
    refine (toStringS_any v l _ hv hl).mono ?_
    rintro e w2 ⟨rfl, o2, hb2⟩
    have V2 := hv.below hb2
    go_wp2_with fail
    refine (S _ _ (SL_of_owns o2)).mono ?_
    rintro e w3 ⟨rfl, hb3⟩
    have hB3 := below_then hb2 hb3
    have V3 := V2.below hb3
    have Y4 := Box.new w3 #[.int .i64 rn, .string rs, .int .i64 rm] 24
    have hB4 := hB3.alloc hB3.size (.cells #[.int .i64 rn, .string rs, .int .i64 rm] 24)
    have V4 := V3.below (below_alloc w3 (.cells #[.int .i64 rn, .string rs, .int .i64 rm] 24))
    clear o2 hb2 hb3 V2 V3 hB3 S hv
    go_wp2_with fail
    refine (toStringS_any v l _ V4 hl).mono ?_
    rintro e w5 ⟨rfl, o5, hb5⟩
    have V5 := V4.below hb5
    have hB5 := below_then hB4 hb5
    have Y5 := Y4.below hb5
    clear V4 hB4 Y4 hb5
    generalize (w3.alloc (.cells #[.int .i64 rn, .string rs, .int .i64 rm] 24)).heap.size = G at *
    go_wp2_with fail
    refine (I _ _ (SL_of_owns o5)).mono ?_
    rintro e w6 ⟨rfl, hb6⟩
    have V6 := V5.below hb6
    have O6 := owns_below o5 hb6
    have hB6 := below_then hB5 hb6
    have Y6 := Y5.below hb6
    have V7 := V6.below (below_alloc w6 (.cells #[.int .i64 rn, .string rs, .int .i64 rm] 24))
    have O7 := owns_below O6 (below_alloc w6 (.cells #[.int .i64 rn, .string rs, .int .i64 rm] 24))
    have hB7 := hB6.alloc hB6.size (.cells #[.int .i64 rn, .string rs, .int .i64 rm] 24)
    clear V5 o5 hB5 Y5 hb6 V6 O6 hB6 I
    obtain ⟨_, x0, x1, x2⟩ := Y6.c3
    go_wp2_with fail
    refine (eqFilter_same rn rs rm _).mono ?_
    rintro e w8 ⟨rfl, hb8⟩
    have V8 := V7.below hb8
    have O8 := owns_below O7 hb8
    have hB8 := below_then hB7 hb8
    clear V7 O7 hB7 hb8 x0 x1 x2 Y6
    cases rb
    all_goals
      go_wp2_with fail
      refine (toStringS_any v l _ V8 hl).mono ?_
      rintro e w9 ⟨rfl, o9, hb9⟩
      have O9 := owns_below O8 hb9
      have hB9 := below_then hB8 hb9
      clear O8 V8 hB8 hb9
      go_wp2_with fail
      refine (eqStringS_same _ _ l _ (SL_of_owns O9) (SL_of_owns o9) hl).mono ?_
      rintro e w10 ⟨rfl, hb10⟩
      have hB10 := below_then hB9 hb10
      go_wp2
      go_ret
      exact ⟨rfl, hB10⟩

theorem own : ownKnob Try.prog.godebug = none := by kernel_rfl
theorem laidOut : laidOutB Try.prog = true := by kernel_rfl
theorem cells47 : Try.prog.cellsOf 47 = 3 := by kernel_rfl
theorem cells9 : Try.prog.cellsOf 9 = 1 := by kernel_rfl

set_option maxRecDepth 100000 in
theorem lifted (os : Os) (started : os.Started) (H : Type) (enc : TypeId × Value → H) :
    ReturnsInHanded {} Try.checked os 11 .any (Rows.fnExactFilterOfSpec.pre6 enc Try.prog Try.f11 Rows.fnExactFilterOfRow.domain false) (Rows.fnExactFilterOfSpec.post enc Try.prog Try.f11 false true false false) := by
  refine returnsInHanded_of_change (C := Try.checked) own started (by kernel_rfl) Try.func11
    (ChangeSpec.witness6 (enc := enc) (C := Try.checked) false ⟨#[], #[.slice none 0 0, .int .i64 0], []⟩ 8 (by kernel_rfl) (by kernel_rfl) (by kernel_rfl) (by kernel_rfl)) ?_
  intro W base args ds gs before hval0 hW hcnd _
  have hval : ∀ (j : Nat) t v, Try.f11.params[j]? = some t → args[j]? = some v → Value.okWide Try.prog W .any base t v := hval0
  have hW' := hW
  obtain ⟨p, q, hA0, hV, rfl, hfz, hnd⟩ := hW
  have hA : DataW.TrodAll enc Try.prog W 0 (fun _ => true) true Try.f11.params.toList args.toList ds p := hA0
  rw [Try.params11] at hA hval
  obtain ⟨rfl, rfl⟩ := trodVars_none hV
  obtain ⟨v0, vs0, d0, ds0, p0, q0, hargs0, hds0, hp0, h0, r0⟩ := trodAll_cons hA
  obtain ⟨v1, vs1, d1, ds1, p1, q1, hargs1, hds1, hp1, h1, r1⟩ := trodAll_cons r0
  obtain ⟨e1, e2, e3⟩ := trodAll_nil r1
  subst e2 e3
  subst e1
  subst hargs1 hds1 hp1
  subst hds0 hp0
  obtain rfl : args = #[v0, v1] := by cases args; simp_all
  have k0 := h0
  have lt0 : ∀ x ∈ p0, x.block < W.heap.size := by obtain ⟨m, hm⟩ := k0; exact DataW.trod_lt m _ _ _ hm
  obtain ⟨l0, P0, n0, s0⟩ : ∃ l : List ByteArray, SL W v0 l ∧ l.length ≤ maxLen ∧ ∀ i (hi : i < l.length), l[i].size ≤ maxLen := by
    obtain ⟨f, hf⟩ := k0
    obtain ⟨_, _, _, rfl⟩ := okWide_slice Try.underlying33 (hval 0 33 v0 rfl rfl)
    exact SL_of_trod Try.underlying33 Try.underlying9 cells9 hf
  obtain ⟨x1, rfl, rfl, rfl, w_1⟩ := open_int Try.underlying3 (hval 1 3 v1 rfl rfl) h1
  have b1 : -9223372036854775808 ≤ x1 ∧ x1 ≤ 9223372036854775807 := by
    have h := w_1
    simp only [Lit.wf, Bool.and_eq_true, decide_eq_true_eq] at h
    exact ⟨h.1, h.2⟩
  clear hA0 hval0
  refine (law v0 l0 x1 W P0 n0 s0 b1.1 b1.2).mono fun e W' ⟨he, bel⟩ => ?_
  subst he
  exact ⟨_, rfl, _, _, _, [], _, [], hW', trodAll_mk1 (shut_bool Try.underlying4 _), (trodAll_cons_mk (Below.trod laidOut (by kernel_rfl) (of_decide_eq_true (by kernel_rfl)) k0 bel lt0) (trodAll_cons_mk (shut_int Try.underlying3 w_1) trodAll_mk0)), rfl, bel.frame _, fun h => by cases h⟩

theorem over : Rows.fnExactFilterOfRow.holds Try.pinned (OpenSpec.ofChange Rows.fnExactFilterOfSpec) :=
  OpenClaim.holds_of_wide 11 Try.f11 rfl rfl rfl rfl rfl rfl rfl ⟨rfl, rfl, rfl, rfl, rfl⟩ rfl rfl rfl rfl rfl (by kernel_rfl) Try.func11 (by kernel_rfl)
    (of_decide_eq_true (by kernel_rfl)) (by unfold Func.isWrapper; first | (rw [if_pos (by decide +kernel)]; kernel_rfl) | (rw [if_neg (by decide +kernel)]; exact ⟨rfl, rfl⟩))
    (fun os started H enc _ => lifted os started H enc)
end fnExactFilterOf
theorem fnExactFilterOf_holds : Rows.FnExactFilterOfSaid := fnExactFilterOf.over
#print axioms fnExactFilterOf_holds
end Go.Proofs.Ytdcglghmhjbkkaa
