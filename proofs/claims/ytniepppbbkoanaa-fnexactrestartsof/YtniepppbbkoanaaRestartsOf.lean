/-
  At every text, impl.RestartsOf answers as its specification, and its answer owns its memory, behind another call too: the law laws.FnExactRestartsOf returns true. No condition.
-/
import Derived.Test.YtniepppbbkoanaaRows
import Derived.Test.YtniepppbbkoanaaChecked
import Derived.Test.YtniepppbbkoanaaQ2
import Derived.OpenShut
import Derived.ChangeOld
import Derived.ShutString
import Derived.JoinedOf
import Derived.JoinedAt
import Derived.RowKit3
namespace Go.Proofs.Ytniepppbbkoanaa
namespace fnExactRestartsOf
open Go.ChangeShapes Go.WideShapes Go.ChangeAt Go.RowKit
open Go.ChangeMaps (open_string shut_string)
set_option linter.unusedVariables false

theorem box_of_owns {w : World} {base e g n c : Nat} {xs : List Value} (h : w.ownsRow base e 1 (.slice (some ⟨g, 0, none⟩) n c) n xs) (hl : xs.length = n) : Box w g xs :=
  ⟨(owns_lt h).2, fun j u hj => by
    have hj' := (List.getElem?_eq_some_iff.1 hj).1
    rw [h.cellAt j (by omega)]; exact hj, fun j => h.frozenAt j⟩
set_option maxRecDepth 100000 in
theorem markIntS_nil (k : Int) (w : World) : Calls Try.prog 36 #[.slice none 0 0, .int .i64 k] w fun e w' => e = .returned (.int .i64 k) ∧ w' = w := by
  go_enter Try.func36, Try.ntmps36
  go_wp2
  go_loopw [1, 5] (fun t i wr => i = .int .i64 0 ∧ t = .int .i64 k ∧ wr = w) (fun _ _ _ => 0)
  case atStart => exact ⟨rfl, rfl, rfl⟩
  case round =>
    obtain ⟨rfl, rfl, rfl⟩ := hrel
    go_wp2
    go_ret
    exact ⟨rfl, rfl⟩
set_option maxRecDepth 100000 in
theorem heldIntS_nil (k : Int) (w : World) : Calls Try.prog 37 #[.slice none 0 0, .int .i64 k] w fun e w' => e = .returned (.int .i64 k) ∧ w' = w := by
  go_enter Try.func37, Try.ntmps37
  go_wp2
  go_loopw [1, 5] (fun t i wr => i = .int .i64 0 ∧ t = .int .i64 k ∧ wr = w) (fun _ _ _ => 0)
  case atStart => exact ⟨rfl, rfl, rfl⟩
  case round =>
    obtain ⟨rfl, rfl, rfl⟩ := hrel
    go_wp2
    go_ret
    exact ⟨rfl, rfl⟩
set_option maxRecDepth 100000 in
set_option maxHeartbeats 4000000 in
theorem law (s : ByteArray) (w : World) (hs : s.size ≤ maxLen) :
    Calls Try.prog 10 #[.string s] w fun e w' => e = .returned (.bool true) ∧ Below w.heap.size w w' := by
  unfold maxLen at hs
  by_cases h1 : (s.size : Int) ≤ 1048576
  · have S := fun w => specRest_any s w (by omega)
    have I := fun w => implRest_any s w (by omega)
    have HL := rsL_len s
    generalize rsL s = L at *
    generalize rbOk s = ok at *
    have HM : (L.map (Value.int .i64)).length = L.length := List.length_map _
    go_enter Try.func10, Try.ntmps10
    go_wp2_with fail
    refine (S _).mono ?_
    rintro e w1 ⟨v1, rfl, o1, hb1⟩
    clear S
    go_wp2_with fail
    refine (I _).mono ?_
    rintro e w2 ⟨v2, rfl, o2, hb2⟩
    have hlt1 := owns_below_lt o1
    have O1 := owns_below o1 hb2
    have ir1 := IL_of_owns O1 rfl
    have ir2 := IL_of_owns o2 rfl
    have hB2 := below_then hb1 hb2
    have hz1 := hb1.size
    have hz2 := hb2.size
    clear o1 hb1 hb2
    go_wp2_with fail
    refine (eqIntS_same _ _ L _ ir2 ir1 (by omega)).mono ?_
    rintro e w3 ⟨rfl, hb3⟩
    replace O1 := owns_below O1 hb3
    replace o2 := owns_below o2 hb3
    have hB3 := below_then hB2 hb3
    have hz3 := hb3.size
    clear ir1 ir2 hB2 hb3
    rcases o2.2 with ⟨rfl, h0⟩ | ⟨g, cap, cur, rfl, hbg, hh, _⟩
    · obtain rfl : L = [] := List.eq_nil_of_length_eq_zero h0
      clear o2 h0 HM
      cases ok
      all_goals
        go_wp2_with fail
        refine (markIntS_nil 1 _).mono ?_
        rintro e w4 ⟨rfl, hw⟩
        rw [hw]; clear hw
        go_wp2_with fail
        refine (heldIntS_nil 1 _).mono ?_
        rintro e w5 ⟨rfl, hw⟩
        rw [hw]; clear hw
        go_wp2_with fail
        refine (I _).mono ?_
        rintro e w6 ⟨v6, rfl, o6, hb6⟩
        have O6 := owns_below O1 hb6
        have hB6 := below_then hB3 hb6
        clear hB3 hb6 I
        go_wp2_with fail
        refine (eqIntS_same _ _ [] _ (IL_of_owns o6 rfl) (IL_of_owns O6 rfl) (by simp)).mono ?_
        rintro e w7 ⟨rfl, hb7⟩
        have hB7 := below_then hB6 hb7
        clear o6 O6 hB6 hb7
        go_wp2_with fail
        refine (heldIntS_nil 1 _).mono ?_
        rintro e w8 ⟨rfl, hw⟩
        rw [hw]; clear hw
        go_wp2
        go_ret
        exact ⟨rfl, hB7⟩
    · clear hh
      have bx := box_of_owns o2 HM
      have M := fun w h => markIntS_any g cap L.length (L.map (.int .i64)) 1 w h HM (by omega) (by omega) (by omega)
      have H := fun w h => heldIntS_any g cap L.length 1 w h (by omega) (by omega) (by omega)
      clear o2
      cases ok
      all_goals
        go_wp2_with fail
        refine (M _ bx).mono ?_
        rintro e w4 ⟨rfl, bx4, hc4⟩
        have O4 := hc4.owns O1 (fun b hb hh => by have := hlt1 b hb; omega)
        have hB4 := hB3.trans (hc4.below (B := w.heap.size) (by omega) (fun b h => by omega))
        clear M bx O1 hc4 hB3
        go_wp2_with fail
        refine (H _ bx4).mono ?_
        rintro e w5 ⟨rfl, hw⟩
        rw [hw]; clear hw
        go_wp2_with fail
        refine (I _).mono ?_
        rintro e w6 ⟨v6, rfl, o6, hb6⟩
        have O6 := owns_below O4 hb6
        have bx6 := bx4.below hb6
        have hB6 := below_then hB4 hb6
        clear hB4 hb6 I O4 bx4
        go_wp2_with fail
        refine (eqIntS_same _ _ L _ (IL_of_owns o6 rfl) (IL_of_owns O6 rfl) (by omega)).mono ?_
        rintro e w7 ⟨rfl, hb7⟩
        have bx7 := bx6.below hb7
        have hB7 := below_then hB6 hb7
        clear o6 O6 hB6 hb7 bx6
        go_wp2_with fail
        refine (H _ bx7).mono ?_
        rintro e w8 ⟨rfl, hw⟩
        rw [hw]; clear hw
        go_wp2
        go_ret
        exact ⟨rfl, hB7⟩
  · go_enter Try.func10, Try.ntmps10
    go_wp2
    go_ret
    exact ⟨rfl, Below.refl _ _⟩


theorem own : ownKnob Try.prog.godebug = none := by kernel_rfl

set_option maxRecDepth 100000 in
theorem lifted (os : Os) (started : os.Started) (H : Type) (enc : TypeId × Value → H) :
    ReturnsInHanded {} Try.checked os 10 .any (Rows.fnExactRestartsOfSpec.pre6 enc Try.prog Try.f10 Rows.fnExactRestartsOfRow.domain false) (Rows.fnExactRestartsOfSpec.post enc Try.prog Try.f10 false true false false) := by
  refine returnsInHanded_of_change (C := Try.checked) own started (by kernel_rfl) Try.func10
    (ChangeSpec.witness6 (enc := enc) (C := Try.checked) false ⟨#[], #[.string ⟨#[]⟩], []⟩ 8 (by kernel_rfl) (by kernel_rfl) (by kernel_rfl) (by kernel_rfl)) ?_
  intro W base args ds gs before hval0 hW hcnd _
  have hval : ∀ (j : Nat) t v, Try.f10.params[j]? = some t → args[j]? = some v → Value.okWide Try.prog W .any base t v := hval0
  have hW' := hW
  obtain ⟨p, q, hA0, hV, rfl, hfz, hnd⟩ := hW
  have hA : DataW.TrodAll enc Try.prog W 0 (fun _ => true) true Try.f10.params.toList args.toList ds p := hA0
  rw [Try.params10] at hA hval
  obtain ⟨rfl, rfl⟩ := trodVars_none hV
  obtain ⟨v0, vs0, d0, ds0, p0, q0, hargs0, hds0, hp0, h0, r0⟩ := trodAll_cons hA
  obtain ⟨e1, e2, e3⟩ := trodAll_nil r0
  subst e2 e3
  subst e1
  subst hds0 hp0
  obtain rfl : args = #[v0] := by cases args; simp_all
  obtain ⟨x0, rfl, rfl, rfl, w_0⟩ := open_string Try.underlying9 (hval 0 9 v0 rfl rfl) h0
  clear hA0 hval0
  refine (law x0 W w_0).mono fun e W' ⟨he, bel⟩ => ?_
  subst he
  exact ⟨_, rfl, _, _, _, [], _, [], hW', trodAll_mk1 (shut_bool Try.underlying4 _), (trodAll_cons_mk (shut_string Try.underlying9 w_0) trodAll_mk0), rfl, bel.frame _, fun h => by cases h⟩

theorem over : Rows.fnExactRestartsOfRow.holds Try.pinned (OpenSpec.ofChange Rows.fnExactRestartsOfSpec) :=
  OpenClaim.holds_of_wide 10 Try.f10 rfl rfl rfl rfl rfl rfl rfl ⟨rfl, rfl, rfl, rfl, rfl⟩ rfl rfl rfl rfl rfl (by kernel_rfl) Try.func10 (by kernel_rfl)
    (of_decide_eq_true (by kernel_rfl)) (by unfold Func.isWrapper; first | (rw [if_pos (by decide +kernel)]; kernel_rfl) | (rw [if_neg (by decide +kernel)]; exact ⟨rfl, rfl⟩))
    (fun os started H enc _ => lifted os started H enc)
end fnExactRestartsOf
theorem fnExactRestartsOf_holds : Rows.FnExactRestartsOfSaid := fnExactRestartsOf.over
#print axioms fnExactRestartsOf_holds
end Go.Proofs.Ytniepppbbkoanaa
