/-
  At every text, impl.IndexOf answers as its specification, and its answer owns its memory, behind another call too: the law laws.FnExactIndexOf returns true. No condition.
-/
import Derived.Test.YtfdaffnkgpdhhaaGreatRows
import Derived.Test.YtfdaffnkgpdhhaaGreatChecked
import Derived.Test.YtfdaffnkgpdhhaaGreatIm
import Derived.Test.YtfdaffnkgpdhhaaGreatQ9
import Derived.Test.YtfdaffnkgpdhhaaGreatLz
import Derived.OpenShut
import Derived.ChangeOld
import Derived.ShutString
import Derived.JoinedOf
import Derived.JoinedAt
import Derived.RowKit3
namespace Go.Proofs.YtfdaffnkgpdhhaaGreat
namespace fnExactIndexOf
open Go.ChangeShapes Go.WideShapes Go.ChangeAt Go.RowKit
open Go.ChangeMaps (open_string shut_string)
set_option linter.unusedVariables false

set_option maxRecDepth 100000 in
set_option maxHeartbeats 4000000 in
theorem law (s : ByteArray) (w : World) (hs : s.size ≤ maxLen) :
    Calls Tryz.prog 6 #[.string s] w fun e w' => e = .returned (.bool true) ∧ Below w.heap.size w w' := by
  unfold maxLen at hs
  by_cases h1 : (s.size : Int) ≤ 1048576
  · have S := fun w => specIndex_any s w (by omega)
    go_enter Tryz.func6, Tryz.ntmps6
    go_wp2_with fail
    refine (S _).mono ?_
    rintro e w1 ⟨l0, ok, v1, hres, rfl, o1, hb1⟩
    clear S
    have HL0 := hres.len
    obtain ⟨L, hL⟩ : ∃ L, L = plsL l0 (nb l0) := ⟨_, rfl⟩
    have hLn : L.length = nb l0 := by rw [hL, plsL_len]
    have HL : L.length ≤ 120 := by rw [hLn]; unfold nb; omega
    rw [← hL, ← hLn] at o1
    have I : ∀ w, Calls Tryz.prog 17 #[.string s] w fun e w' => ∃ v, e = .returned (.tuple #[v, .bool ok]) ∧ w'.ownsRow w.heap.size 50 4 v L.length (flatP L) ∧ Below w.heap.size w w' := fun w => (implIndex_any s w (by omega)).mono fun e w' ⟨l', ok', v', hr', he, ho, hb⟩ => by
      obtain ⟨rfl, rfl⟩ := hr'.same hres
      rw [← hL, ← hLn] at ho
      exact ⟨v', he, ho, hb⟩
    clear hres hL hLn HL0
    go_wp2_with fail
    refine (I _).mono ?_
    rintro e w2 ⟨v2, rfl, o2, hb2⟩
    have hlt1 := owns_below_lt o1
    have O1 := owns_below o1 hb2
    have ir1 := PR_of_owns O1 rfl
    have ir2 := PR_of_owns o2 rfl
    have hB2 := below_then hb1 hb2
    have hz1 := hb1.size
    have hz2 := hb2.size
    clear o1 hb1 hb2
    go_wp2_with fail
    refine (eqPlaceS_same _ _ L _ ir2 ir1 (by omega)).mono ?_
    rintro e w3 ⟨rfl, hb3⟩
    replace O1 := owns_below O1 hb3
    replace o2 := owns_below o2 hb3
    have hB3 := below_then hB2 hb3
    have hz3 := hb3.size
    clear ir1 ir2 hB2 hb3
    rcases o2.2 with ⟨rfl, h0⟩ | ⟨g, cap, cur, rfl, hbg, hh, _⟩
    · obtain rfl : L = [] := List.eq_nil_of_length_eq_zero h0
      clear o2 h0
      cases ok
      all_goals
        go_wp2_with fail
        refine (markPlaceS_nil 1 _ (by omega) (by omega)).mono ?_
        rintro e w4 ⟨rfl, hw⟩
        rw [hw]; clear hw
        go_wp2_with fail
        refine (heldPlaceS_at (.slice none 0 0) 0 1 _ (PR_nil _) (by omega) (by omega) (by omega)).mono ?_
        rintro e w5 ⟨rfl, hb5⟩
        replace O1 := owns_below O1 hb5
        have hB5 := below_then hB3 hb5
        clear hb5
        go_wp2_with fail
        refine (I _).mono ?_
        rintro e w6 ⟨v6, rfl, o6, hb6⟩
        have O6 := owns_below O1 hb6
        have hB6 := below_then hB5 hb6
        clear hB5 hb6 I
        go_wp2_with fail
        refine (eqPlaceS_same _ _ [] _ (PR_of_owns o6 rfl) (PR_of_owns O6 rfl) (by simp)).mono ?_
        rintro e w7 ⟨rfl, hb7⟩
        have hB7 := below_then hB6 hb7
        clear o6 O6 hB6 hb7
        go_wp2_with fail
        refine (heldPlaceS_at (.slice none 0 0) 0 1 _ (PR_nil _) (by omega) (by omega) (by omega)).mono ?_
        rintro e w8 ⟨rfl, hb8⟩
        have hB8 := below_then hB7 hb8
        clear hB7 hb8
        go_wp2
        go_ret
        exact ⟨rfl, hB8⟩
    · clear hh
      have M := fun w h => markPlaceS_at g cap w1.heap.size L 1 w h (by omega) (by omega) (by omega)
      have H := fun w h => heldPlaceS_at (.slice (some ⟨g, 0, none⟩) L.length cap) L.length 1 w h (by omega) (by omega) (by omega)
      have ML := mkPls_length 1 L.length
      have HI : ∀ w, w.ownsRow w1.heap.size 50 4 (.slice (some ⟨g, 0, none⟩) L.length cap) L.length (flatP (mkPls 1 L.length)) → PR w (.slice (some ⟨g, 0, none⟩) L.length cap) (mkPls 1 L.length) := fun w h => PR_of_owns h ML.symm
      cases ok
      all_goals
        go_wp2_with fail
        refine (M _ o2).mono ?_
        rintro e w4 ⟨rfl, o4, hc4⟩
        have O4 := hc4.owns O1 (fun b hb hh => by have := hlt1 b hb; omega)
        have hB4 := hB3.trans (hc4.below (B := w.heap.size) (by omega) (fun b h => by omega))
        have hz4 := hc4.size
        clear M o2 O1 hc4 hB3
        go_wp2_with fail
        refine (H _ (HI _ o4)).mono ?_
        rintro e w5 ⟨rfl, hb5⟩
        replace O4 := owns_below O4 hb5
        replace o4 := owns_below o4 hb5
        have hB5 := below_then hB4 hb5
        clear hb5 hB4
        go_wp2_with fail
        refine (I _).mono ?_
        rintro e w6 ⟨v6, rfl, o6, hb6⟩
        have O6 := owns_below O4 hb6
        have q6 := owns_below o4 hb6
        have hB6 := below_then hB5 hb6
        clear hB5 hb6 I O4 o4
        go_wp2_with fail
        refine (eqPlaceS_same _ _ L _ (PR_of_owns o6 rfl) (PR_of_owns O6 rfl) (by omega)).mono ?_
        rintro e w7 ⟨rfl, hb7⟩
        have q7 := owns_below q6 hb7
        have hB7 := below_then hB6 hb7
        clear o6 O6 hB6 hb7 q6
        go_wp2_with fail
        refine (H _ (HI _ q7)).mono ?_
        rintro e w8 ⟨rfl, hb8⟩
        have hB8 := below_then hB7 hb8
        clear hB7 hb8 H HI
        go_wp2
        go_ret
        exact ⟨rfl, hB8⟩
  · go_enter Tryz.func6, Tryz.ntmps6
    go_wp2
    go_ret
    exact ⟨rfl, Below.refl _ _⟩



theorem own : ownKnob Tryz.prog.godebug = none := by kernel_rfl

set_option maxRecDepth 100000 in
theorem lifted (os : Os) (started : os.Started) (H : Type) (enc : TypeId × Value → H) :
    ReturnsInHanded {} Tryz.checked os 6 .any (Rows.fnExactIndexOfSpec.pre6 enc Tryz.prog Tryz.f6 Rows.fnExactIndexOfRow.domain false) (Rows.fnExactIndexOfSpec.post enc Tryz.prog Tryz.f6 false true false false) := by
  refine returnsInHanded_of_change (C := Tryz.checked) own started (by kernel_rfl) Tryz.func6
    (ChangeSpec.witness6 (enc := enc) (C := Tryz.checked) false ⟨#[], #[.string ⟨#[]⟩], []⟩ 8 (by kernel_rfl) (by kernel_rfl) (by kernel_rfl) (by kernel_rfl)) ?_
  intro W base args ds gs before hval0 hW hcnd _
  have hval : ∀ (j : Nat) t v, Tryz.f6.params[j]? = some t → args[j]? = some v → Value.okWide Tryz.prog W .any base t v := hval0
  have hW' := hW
  obtain ⟨p, q, hA0, hV, rfl, hfz, hnd⟩ := hW
  have hA : DataW.TrodAll enc Tryz.prog W 0 (fun _ => true) true Tryz.f6.params.toList args.toList ds p := hA0
  rw [Tryz.params6] at hA hval
  obtain ⟨rfl, rfl⟩ := trodVars_none hV
  obtain ⟨v0, vs0, d0, ds0, p0, q0, hargs0, hds0, hp0, h0, r0⟩ := trodAll_cons hA
  obtain ⟨e1, e2, e3⟩ := trodAll_nil r0
  subst e2 e3
  subst e1
  subst hds0 hp0
  obtain rfl : args = #[v0] := by cases args; simp_all
  obtain ⟨x0, rfl, rfl, rfl, w_0⟩ := open_string Tryz.underlying9 (hval 0 9 v0 rfl rfl) h0
  clear hA0 hval0
  refine (law x0 W w_0).mono fun e W' ⟨he, bel⟩ => ?_
  subst he
  exact ⟨_, rfl, _, _, _, [], _, [], hW', trodAll_mk1 (shut_bool Tryz.underlying4 _), (trodAll_cons_mk (shut_string Tryz.underlying9 w_0) trodAll_mk0), rfl, bel.frame _, fun h => by cases h⟩

theorem over : Rows.fnExactIndexOfRow.holds Tryz.pinned (OpenSpec.ofChange Rows.fnExactIndexOfSpec) :=
  OpenClaim.holds_of_wide 6 Tryz.f6 rfl rfl rfl rfl rfl rfl rfl ⟨rfl, rfl, rfl, rfl, rfl⟩ rfl rfl rfl rfl rfl (by kernel_rfl) Tryz.func6 (by kernel_rfl)
    (of_decide_eq_true (by kernel_rfl)) (by unfold Func.isWrapper; first | (rw [if_pos (by decide +kernel)]; kernel_rfl) | (rw [if_neg (by decide +kernel)]; exact ⟨rfl, rfl⟩))
    (fun os started H enc _ => lifted os started H enc)
end fnExactIndexOf
theorem fnExactIndexOf_holds : Rows.FnExactIndexOfSaid := fnExactIndexOf.over
#print axioms fnExactIndexOf_holds
end Go.Proofs.YtfdaffnkgpdhhaaGreat
