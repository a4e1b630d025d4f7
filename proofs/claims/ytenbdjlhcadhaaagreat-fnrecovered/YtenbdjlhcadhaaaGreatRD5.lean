/-
  Numbers and texts read by the specification.
-/
import Derived.Test.YtenbdjlhcadhaaaGreatRD4
namespace Go.Proofs.YtenbdjlhcadhaaaGreat
open Go.RowKit
set_option linter.unusedVariables false
set_option maxRecDepth 100000

theorem Box.d2 {w : World} {b : Nat} {v u : Value} (h : Box w b [v, u]) : b < w.heap.size ∧ w.cell? ⟨b, 0, none⟩ = some v ∧ w.cell? ⟨b, 1, none⟩ = some u ∧ w.frozen? ⟨b, 0, none⟩ = false ∧ w.frozen? ⟨b, 1, none⟩ = false := ⟨h.1, h.2.1 0 _ rfl, h.2.1 1 _ rfl, h.2.2 0, h.2.2 1⟩
theorem set10 {w : World} {b : Nat} {v u : Value} (h : Box w b [v, u]) (v' u' : Value) : Box ((w.setCell ⟨b, 1, none⟩ u').setCell ⟨b, 0, none⟩ v') b [v', u'] ∧ Chg (· = b) w ((w.setCell ⟨b, 1, none⟩ u').setCell ⟨b, 0, none⟩ v') :=
  ⟨(h.set 1 u' (by simp)).set 0 v' (by simp), Chg.setCell (S := fun k => k = b) (p := ⟨b, 0, none⟩) (Chg.setCell (S := fun k => k = b) (p := ⟨b, 1, none⟩) (Chg.refl _ _) rfl _) rfl _⟩
theorem set0 {w : World} {b : Nat} {v u : Value} (h : Box w b [v, u]) (v' : Value) : Box (w.setCell ⟨b, 0, none⟩ v') b [v', u] ∧ Chg (· = b) w (w.setCell ⟨b, 0, none⟩ v') :=
  ⟨h.set 0 v' (by simp), Chg.setCell (S := fun k => k = b) (p := ⟨b, 0, none⟩) (Chg.refl _ _) rfl _⟩
theorem set_1 {w : World} {b : Nat} {v u : Value} (h : Box w b [v, u]) (u' : Value) : Box (w.setCell ⟨b, 1, none⟩ u') b [v, u'] ∧ Chg (· = b) w (w.setCell ⟨b, 1, none⟩ u') :=
  ⟨h.set 1 u' (by simp), Chg.setCell (S := fun k => k = b) (p := ⟨b, 1, none⟩) (Chg.refl _ _) rfl _⟩

set_option maxHeartbeats 2000000 in
theorem num_any (b : Nat) (r : ByteArray) (bad : Bool) (W : World) (hb : Box W b [.string r, .bool bad]) (hs : r.size ≤ 1048576) :
    Calls Tryz.prog 71 #[.pointer (some ⟨b, 0, none⟩)] W fun e w' => e = .returned (.int .i64 (tN r : Nat)) ∧ Box w' b [.string (tR r), .bool (bad || decide (tC r = 0))] ∧ Chg (· = b) W w' := by
  obtain ⟨hl, c0, c1, f0, f1⟩ := hb.d2
  have SL := fun w => str_from r (tC r) w (tC_le r)
  have TA : ∀ w, Calls Tryz.prog 87 #[.string r] w fun e w' => e = .returned (.tuple #[.int .i64 (tN r : Nat), .int .i64 (tC r : Nat)]) ∧ w' = w := fun w => l2Take_any r w hs
  have HZ := set10 hb (.string (tR r)) (.bool (bad || decide (tC r = 0)))
  have HT : r.extract (tC r) r.size = tR r := rfl
  rw [HT] at SL
  generalize tC r = p at *
  generalize tN r = n at *
  generalize tR r = r2 at *
  clear HT hb
  go_enter Tryz.func71, Tryz.ntmps71
  go_wp2_with fail
  refine (TA _).mono ?_
  rintro e w1 ⟨rfl, rfl⟩
  cases bad
  · by_cases hp : p = 0
    · subst hp
      simp only [decide_true, Bool.or_true] at HZ
      go_wp2_with (refine wpList_sliceOp _ rfl 9 _ _ _ _ rfl _ (SL _) ?_; simp only [Act.put, List.setIfInBounds_toArray, List.set_cons_zero, List.set_cons_succ])
      go_ret
      exact ⟨rfl, HZ.1, HZ.2⟩
    · simp only [hp, decide_false, Bool.or_false] at HZ
      have hpb : (((p : Nat) : Int) == 0) = false := by rw [beq_eq_false_iff_ne]; omega
      have hpd : (false || decide (p = 0)) = false := by simp [hp]
      go_wp2_with (refine wpList_sliceOp _ rfl 9 _ _ _ _ rfl _ (SL _) ?_; simp only [Act.put, List.setIfInBounds_toArray, List.set_cons_zero, List.set_cons_succ])
      go_ret
      refine ⟨rfl, ?_, ?_⟩
      · rw [hpd]; first | exact HZ.1 | (rw [hpb]; exact HZ.1)
      · first | exact HZ.2 | (rw [hpb]; exact HZ.2)
  · simp only [Bool.true_or] at HZ ⊢
    go_wp2_with (refine wpList_sliceOp _ rfl 9 _ _ _ _ rfl _ (SL _) ?_; simp only [Act.put, List.setIfInBounds_toArray, List.set_cons_zero, List.set_cons_succ])
    go_ret
    exact ⟨rfl, HZ.1, HZ.2⟩

set_option maxHeartbeats 2000000 in
theorem textR_any (b : Nat) (r : ByteArray) (bad : Bool) (W : World) (hb : Box W b [.string r, .bool bad]) (hs : r.size ≤ 1048576) :
    Calls Tryz.prog 72 #[.pointer (some ⟨b, 0, none⟩)] W fun e w' => ∃ (t r' : ByteArray) (bad' : Bool), e = .returned (.string t) ∧ t.size ≤ r.size ∧ r'.size ≤ r.size ∧ Box w' b [.string r', .bool bad'] ∧ (∀ (s : ByteArray) more, s.size ≤ 16 → bl r = varL s.size ++ bl s ++ more → t = s ∧ bl r' = more ∧ bad' = bad) ∧ Chg (· = b) W w' := by
  have NA := num_any b r bad W hb hs
  have hq := tR_size r
  have HV : Hid (∀ (s : ByteArray) more, s.size ≤ 16 → bl r = varL s.size ++ bl s ++ more → tN r = s.size ∧ s.size ≤ (tR r).size ∧ (tR r).extract 0 (tN r) = s ∧ bl ((tR r).extract (tN r) (tR r).size) = more ∧ (bad || decide (tC r = 0)) = bad) := fun s more h16 h => by
    obtain ⟨e1, e2, e3, e4, e5⟩ := xT_var h (by omega)
    have hx : xN r = tN r := by unfold xN; omega
    have hv := varL_pos s.size
    refine ⟨e3, e4, ?_, ?_, ?_⟩
    · rw [← hx]; exact e1
    · rw [← hx]; exact e2
    · rw [e5, decide_eq_false (by omega), Bool.or_false]
  have SF := fun (h : tN r ≤ (tR r).size) w => str_from (tR r) (tN r) w h
  have ST := fun (h : tN r ≤ (tR r).size) w => str_to (tR r) (tN r) w h
  have z1 : ((tR r).extract 0 (tN r)).size ≤ (tR r).size := by rw [ByteArray.size_extract]; omega
  have z2 : ((tR r).extract (tN r) (tR r).size).size ≤ (tR r).size := by rw [ByteArray.size_extract]; omega
  generalize (tR r).extract 0 (tN r) = t at *
  generalize (tR r).extract (tN r) (tR r).size = r3 at *
  generalize (bad || decide (tC r = 0)) = bd at *
  generalize tN r = n at *
  generalize tR r = r2 at *
  clear hb
  go_enter Tryz.func72, Tryz.ntmps72
  go_wp2_with fail
  refine NA.mono ?_
  rintro e w1 ⟨rfl, hb1, hC⟩
  obtain ⟨hl, c0, c1, f0, f1⟩ := hb1.d2
  by_cases hm : n ≤ r2.size
  · have SF' := SF hm
    have ST' := ST hm
    have HZ := set0 hb1 (.string r3)
    have hCC := hC.trans HZ.2
    clear SF ST
    go_wp2_with (first | (refine wpList_sliceOp _ rfl 9 _ _ _ _ rfl _ (ST' _) ?_; simp only [Act.put, List.setIfInBounds_toArray, List.set_cons_zero, List.set_cons_succ]) | (refine wpList_sliceOp _ rfl 9 _ _ _ _ rfl _ (SF' _) ?_; simp only [Act.put, List.setIfInBounds_toArray, List.set_cons_zero, List.set_cons_succ]))
    go_ret
    refine ⟨t, r3, bd, rfl, by omega, by omega, HZ.1, fun s more h16 h => ?_, hCC⟩
    obtain ⟨_, _, e3, e4, e5⟩ := HV.out s more h16 h
    exact ⟨e3, e4, e5⟩
  · have HZ := set_1 hb1 (.bool true)
    have hCC := hC.trans HZ.2
    clear SF ST
    go_wp2
    go_ret
    refine ⟨⟨#[]⟩, r2, true, rfl, Nat.zero_le _, hq, HZ.1, fun s more h16 h => ?_, hCC⟩
    obtain ⟨e1, e2, _⟩ := HV.out s more h16 h
    omega
end Go.Proofs.YtenbdjlhcadhaaaGreat
