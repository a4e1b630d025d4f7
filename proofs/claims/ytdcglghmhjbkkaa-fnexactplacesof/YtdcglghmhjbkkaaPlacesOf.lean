/-
  At every key and number, impl.PlacesOf answers as its specification, and its answer owns its memory, behind another call too: the law laws.FnExactPlacesOf returns true. No condition.
-/
import Derived.Test.YtdcglghmhjbkkaaRows
import Derived.Test.YtdcglghmhjbkkaaChecked
import Derived.Test.YtdcglghmhjbkkaaP3
import Derived.OpenShut
import Derived.ChangeOld
import Derived.ShutString
import Derived.JoinedOf
import Derived.JoinedAt
import Derived.RowKit3
namespace Go.Proofs.Ytdcglghmhjbkkaa
namespace fnExactPlacesOf
open Go.ChangeShapes Go.WideShapes Go.ChangeAt Go.RowKit
open Go.ChangeMaps (open_string shut_string)
set_option linter.unusedVariables false

set_option maxRecDepth 100000 in
set_option maxHeartbeats 2000000 in
theorem law_good (s : ByteArray) (nh : Nat) (w : World) (hk : goodK s = true) (h1 : 1 ≤ nh) (h8 : nh ≤ 8) :
    Calls Try.prog 7 #[.string s, .int .i64 (nh : Int)] w fun e w' => e = .returned (.bool true) ∧ Below w.heap.size w w' := by
  have hsz := goodK_size hk
  have S := fun w => specPlaces_good s nh w hk h1 h8
  have I := fun w => implPlaces_good s nh w hk h1 h8
  have HL := plZ_length s nh
  have HL2 : ((plZ s nh).map (Value.int .i64)).length = nh := by rw [List.length_map, HL]
  generalize plZ s nh = zs at *
  go_enter Try.func7, Try.ntmps7
  go_wp2_with fail
  refine (S _).mono ?_
  rintro e w1 ⟨v, rfl, o1, hb1⟩
  go_wp2_with fail
  refine (I _).mono ?_
  rintro e w2 ⟨g, rfl, o2, hb2⟩
  have O1 := owns_below o1 hb2
  have bx := box_of_owns o2 HL2
  have il2 := IL_of_owns o2 HL.symm
  have il1 := IL_of_owns O1 HL.symm
  have hlt1 := owns_lt' o1
  have hg := (owns_lt o2).1
  have hB2 := below_then hb1 hb2
  have hz1 := hb1.size
  clear S o1 o2 hb2 hb1
  go_wp2_with fail
  refine (eqIntS_same _ _ zs _ il2 il1 (by omega)).mono ?_
  rintro e w3 ⟨rfl, hb3⟩
  have O3 := owns_below O1 hb3
  have bx3 := bx.below hb3
  have hB3 := below_then hB2 hb3
  clear O1 bx il1 il2 hb3 hB2
  go_wp2_with fail
  refine (markIntS_any g nh nh _ 1 _ bx3 HL2 (by omega) (by omega) (by omega)).mono ?_
  rintro e w4 ⟨rfl, bx4, hc4⟩
  have O4 := hc4.owns O3 (fun b hb hh => by have := hlt1 b hb; omega)
  have hB4 := hB3.trans (hc4.below (B := w.heap.size) (by have := hB3.size; omega) (fun b h => by omega))
  clear O3 bx3 hc4 hB3
  go_wp2_with fail
  refine (heldIntS_any g nh nh 1 _ bx4 (by omega) (by omega) (by omega)).mono ?_
  rintro e w5 ⟨rfl, hw⟩
  rw [hw]; clear hw
  go_wp2_with fail
  refine (I _).mono ?_
  rintro e w6 ⟨g', rfl, o6, hb6⟩
  have O6 := owns_below O4 hb6
  have bx6 := bx4.below hb6
  have il6 := IL_of_owns o6 HL.symm
  have il1 := IL_of_owns O6 HL.symm
  have hB6 := below_then hB4 hb6
  clear O4 bx4 hB4 hb6 I O6 o6
  go_wp2_with fail
  refine (eqIntS_same _ _ zs _ il6 il1 (by omega)).mono ?_
  rintro e w7 ⟨rfl, hb7⟩
  have bx7 := bx6.below hb7
  have hB7 := below_then hB6 hb7
  clear il6 il1 bx6 hB6 hb7
  go_wp2_with fail
  refine (heldIntS_any g nh nh 1 _ bx7 (by omega) (by omega) (by omega)).mono ?_
  rintro e w8 ⟨rfl, hw⟩
  rw [hw]; clear hw
  go_wp2
  go_ret
  exact ⟨rfl, hB7⟩
set_option maxRecDepth 100000 in
set_option maxHeartbeats 2000000 in
theorem law (s : ByteArray) (n : Int) (w : World) (hs : s.size ≤ maxLen) (_ : -9223372036854775808 ≤ n) (_ : n ≤ 9223372036854775807) :
    Calls Try.prog 7 #[.string s, .int .i64 n] w fun e w' => e = .returned (.bool true) ∧ Below w.heap.size w w' := by
  unfold maxLen at hs
  cases hgk : goodK s && goodH n with
  | true =>
    rw [Bool.and_eq_true] at hgk
    obtain ⟨nh, rfl, h1, h8⟩ := goodH_nat hgk.2
    exact law_good s nh w hgk.1 h1 h8
  | false =>
    have S := fun w => specPlaces_bad s n w hgk
    have I := fun w => implPlaces_bad s n w hgk
    by_cases hbig : (s.size : Int) ≤ 1048576
    · go_enter Try.func7, Try.ntmps7
      go_wp2_with fail
      refine (S _).mono ?_
      rintro e w1 ⟨rfl, hb1⟩
      go_wp2_with fail
      refine (I _).mono ?_
      rintro e w2 ⟨rfl, hb2⟩
      have hB2 := below_then hb1 hb2
      clear S hb2 hb1
      go_wp2_with fail
      refine (eqIntS_same _ _ [] _ (IL_nil _) (IL_nil _) (by simp)).mono ?_
      rintro e w3 ⟨rfl, hb3⟩
      have hB3 := below_then hB2 hb3
      clear hb3 hB2
      go_wp2_with fail
      refine (markIntS_nil 1 _).mono ?_
      rintro e w4 ⟨rfl, hw⟩
      rw [hw]; clear hw
      go_wp2_with fail
      refine (heldIntS_nil 1 _).mono ?_
      rintro e w5 ⟨rfl, hw⟩
      rw [hw]; clear hw
      go_wp2_with fail
      refine (I _).mono ?_
      rintro e w6 ⟨rfl, hb6⟩
      have hB6 := below_then hB3 hb6
      clear hB3 hb6 I
      go_wp2_with fail
      refine (eqIntS_same _ _ [] _ (IL_nil _) (IL_nil _) (by simp)).mono ?_
      rintro e w7 ⟨rfl, hb7⟩
      have hB7 := below_then hB6 hb7
      clear hB6 hb7
      go_wp2_with fail
      refine (heldIntS_nil 1 _).mono ?_
      rintro e w8 ⟨rfl, hw⟩
      rw [hw]; clear hw
      go_wp2
      go_ret
      exact ⟨rfl, hB7⟩
    · clear S I
      go_enter Try.func7, Try.ntmps7
      go_wp2
      go_ret
      exact ⟨rfl, Below.refl _ _⟩

theorem own : ownKnob Try.prog.godebug = none := by kernel_rfl

set_option maxRecDepth 100000 in
theorem lifted (os : Os) (started : os.Started) (H : Type) (enc : TypeId × Value → H) :
    ReturnsInHanded {} Try.checked os 7 .any (Rows.fnExactPlacesOfSpec.pre6 enc Try.prog Try.f7 Rows.fnExactPlacesOfRow.domain false) (Rows.fnExactPlacesOfSpec.post enc Try.prog Try.f7 false true false false) := by
  refine returnsInHanded_of_change (C := Try.checked) own started (by kernel_rfl) Try.func7
    (ChangeSpec.witness6 (enc := enc) (C := Try.checked) false ⟨#[], #[.string ⟨#[]⟩, .int .i64 0], []⟩ 8 (by kernel_rfl) (by kernel_rfl) (by kernel_rfl) (by kernel_rfl)) ?_
  intro W base args ds gs before hval0 hW hcnd _
  have hval : ∀ (j : Nat) t v, Try.f7.params[j]? = some t → args[j]? = some v → Value.okWide Try.prog W .any base t v := hval0
  have hW' := hW
  obtain ⟨p, q, hA0, hV, rfl, hfz, hnd⟩ := hW
  have hA : DataW.TrodAll enc Try.prog W 0 (fun _ => true) true Try.f7.params.toList args.toList ds p := hA0
  rw [Try.params7] at hA hval
  obtain ⟨rfl, rfl⟩ := trodVars_none hV
  obtain ⟨v0, vs0, d0, ds0, p0, q0, hargs0, hds0, hp0, h0, r0⟩ := trodAll_cons hA
  obtain ⟨v1, vs1, d1, ds1, p1, q1, hargs1, hds1, hp1, h1, r1⟩ := trodAll_cons r0
  obtain ⟨e1, e2, e3⟩ := trodAll_nil r1
  subst e2 e3
  subst e1
  subst hargs1 hds1 hp1
  subst hds0 hp0
  obtain rfl : args = #[v0, v1] := by cases args; simp_all
  obtain ⟨x0, rfl, rfl, rfl, w_0⟩ := open_string Try.underlying9 (hval 0 9 v0 rfl rfl) h0
  obtain ⟨x1, rfl, rfl, rfl, w_1⟩ := open_int Try.underlying3 (hval 1 3 v1 rfl rfl) h1
  have b1 : -9223372036854775808 ≤ x1 ∧ x1 ≤ 9223372036854775807 := by
    have h := w_1
    simp only [Lit.wf, Bool.and_eq_true, decide_eq_true_eq] at h
    exact ⟨h.1, h.2⟩
  clear hA0 hval0
  refine (law x0 x1 W w_0 b1.1 b1.2).mono fun e W' ⟨he, bel⟩ => ?_
  subst he
  exact ⟨_, rfl, _, _, _, [], _, [], hW', trodAll_mk1 (shut_bool Try.underlying4 _), (trodAll_cons_mk (shut_string Try.underlying9 w_0) (trodAll_cons_mk (shut_int Try.underlying3 w_1) trodAll_mk0)), rfl, bel.frame _, fun h => by cases h⟩

theorem over : Rows.fnExactPlacesOfRow.holds Try.pinned (OpenSpec.ofChange Rows.fnExactPlacesOfSpec) :=
  OpenClaim.holds_of_wide 7 Try.f7 rfl rfl rfl rfl rfl rfl rfl ⟨rfl, rfl, rfl, rfl, rfl⟩ rfl rfl rfl rfl rfl (by kernel_rfl) Try.func7 (by kernel_rfl)
    (of_decide_eq_true (by kernel_rfl)) (by unfold Func.isWrapper; first | (rw [if_pos (by decide +kernel)]; kernel_rfl) | (rw [if_neg (by decide +kernel)]; exact ⟨rfl, rfl⟩))
    (fun os started H enc _ => lifted os started H enc)
end fnExactPlacesOf
theorem fnExactPlacesOf_holds : Rows.FnExactPlacesOfSaid := fnExactPlacesOf.over
#print axioms fnExactPlacesOf_holds
end Go.Proofs.Ytdcglghmhjbkkaa
