/-
  Places: eqPlace, eqPlaceS, marks in a list of places.
-/
import Derived.Test.YtfdaffnkgpdhhaaGreatH7
import Derived.Test.YtfdaffnkgpdhhaaGreatQz
import Derived.Test.YtfdaffnkgpdhhaaGreatXz
namespace Go.Proofs.YtfdaffnkgpdhhaaGreat
open Go.RowKit
set_option linter.unusedVariables false
set_option maxRecDepth 100000

theorem flatP_set (l : List Pl) (i : Nat) (s : Pl) : ((((flatP l).set (i * 4) (.string s.k)).set (i * 4 + 1) (.int .i64 s.n)).set (i * 4 + 2) (.int .i64 s.a)).set (i * 4 + 3) (.int .i64 s.z) = flatP (l.set i s) := by
  induction l generalizing i with
  | nil => simp [flatP]
  | cons x r ih =>
    cases i with
    | zero => simp [flatP]
    | succ i =>
      rw [show (i + 1) * 4 = i * 4 + 1 + 1 + 1 + 1 from by omega, show i * 4 + 1 + 1 + 1 + 1 + 1 = (i * 4 + 1) + 1 + 1 + 1 + 1 from by omega, show i * 4 + 1 + 1 + 1 + 1 + 2 = (i * 4 + 2) + 1 + 1 + 1 + 1 from by omega, show i * 4 + 1 + 1 + 1 + 1 + 3 = (i * 4 + 3) + 1 + 1 + 1 + 1 from by omega]
      simp only [flatP, List.set_cons_succ]
      rw [ih i]
theorem eqPlace_same (k : ByteArray) (n d v : Int) (w : World) :
    Calls Tryz.prog 58 #[.agg #[.string k, .int .i64 n, .int .i64 d, .int .i64 v], .agg #[.string k, .int .i64 n, .int .i64 d, .int .i64 v]] w fun e w' => e = .returned (.bool true) ∧ Below w.heap.size w w' := by
  go_enter Tryz.func58, Tryz.ntmps58
  go_wp2
  go_ret
  exact ⟨rfl, below2 _ _ _⟩

set_option maxHeartbeats 2000000 in
theorem eqPlaceS_same (u v : Value) (l : List Pl) (w : World) (hu : PR w u l) (hv : PR w v l) (hn : l.length ≤ 1048576) :
    Calls Tryz.prog 26 #[u, v] w fun e w' => e = .returned (.bool true) ∧ Below w.heap.size w w' := by
  obtain ⟨a, cap, rfl, hc⟩ := hu
  obtain ⟨a', cap', rfl, hc'⟩ := hv
  go_enter Tryz.func26, Tryz.ntmps26
  go_wp2
  go_loopw [5] (fun i wr => ∃ k : Nat, k ≤ l.length ∧ i = .int .i64 k ∧ Below w.heap.size w wr) (fun i _ => l.length - (intOf i).toNat)
  case atStart => exact ⟨0, Nat.zero_le _, rfl, Below.refl _ _⟩
  case round =>
    obtain ⟨k, hk, rfl, hb⟩ := hrel
    by_cases hlt : k < l.length
    · obtain ⟨b, off, rfl, hbl, hcell⟩ := hc (by intro e; simp [e] at hlt)
      obtain ⟨b', off', rfl, hbl', hcell'⟩ := hc' (by intro e; simp [e] at hlt)
      obtain ⟨s, hse⟩ : ∃ s, s = l[k] := ⟨_, rfl⟩
      have hc0 := (hb.cell (p := ⟨b, off + k * 4, none⟩) hbl).trans (hcell k hlt).1
      have hc1 := (hb.cell (p := ⟨b, off + k * 4 + 1, none⟩) hbl).trans (hcell k hlt).2.1
      have hc2 := (hb.cell (p := ⟨b, off + k * 4 + 2, none⟩) hbl).trans (hcell k hlt).2.2.1
      have hc3 := (hb.cell (p := ⟨b, off + k * 4 + 3, none⟩) hbl).trans (hcell k hlt).2.2.2
      have hd0 := (hb.cell (p := ⟨b', off' + k * 4, none⟩) hbl').trans (hcell' k hlt).1
      have hd1 := (hb.cell (p := ⟨b', off' + k * 4 + 1, none⟩) hbl').trans (hcell' k hlt).2.1
      have hd2 := (hb.cell (p := ⟨b', off' + k * 4 + 2, none⟩) hbl').trans (hcell' k hlt).2.2.1
      have hd3 := (hb.cell (p := ⟨b', off' + k * 4 + 3, none⟩) hbl').trans (hcell' k hlt).2.2.2
      rw [← hse] at hc0 hc1 hc2 hc3 hd0 hd1 hd2 hd3
      clear hcell hse hc hcell' hc'
      have hz := hb.size
      obtain ⟨sk, sn, sd, sv⟩ := s
      dsimp only at hc0 hc1 hc2 hc3 hd0 hd1 hd2 hd3
      go_wp2_with fail
      go_region_held3 (fun w' => (w'.cell? ⟨b, off + k * 4, none⟩ = some (.string sk) ∧ w'.cell? ⟨b, off + k * 4 + 1, none⟩ = some (.int .i64 sn) ∧ w'.cell? ⟨b, off + k * 4 + 2, none⟩ = some (.int .i64 sd) ∧ w'.cell? ⟨b, off + k * 4 + 3, none⟩ = some (.int .i64 sv)) ∧ w'.cell? ⟨b', off' + k * 4, none⟩ = some (.string sk) ∧ w'.cell? ⟨b', off' + k * 4 + 1, none⟩ = some (.int .i64 sn) ∧ w'.cell? ⟨b', off' + k * 4 + 2, none⟩ = some (.int .i64 sd) ∧ w'.cell? ⟨b', off' + k * 4 + 3, none⟩ = some (.int .i64 sv)) (go_keep)
        (first | (go_at_call 58; refine (eqPlace_same _ _ _ _ _).mono ?_; rintro e w1 ⟨rfl, hb1'⟩; have hb1 := below_undrew hb1'; have hbl2 : b < wr.heap.size := (by omega); have hbl3 : b' < wr.heap.size := (by omega); replace hc0 := (hb1.cell (p := ⟨b, off + k * 4, none⟩) hbl2).trans hc0; replace hc1 := (hb1.cell (p := ⟨b, off + k * 4 + 1, none⟩) hbl2).trans hc1; replace hc2 := (hb1.cell (p := ⟨b, off + k * 4 + 2, none⟩) hbl2).trans hc2; replace hc3 := (hb1.cell (p := ⟨b, off + k * 4 + 3, none⟩) hbl2).trans hc3; replace hd0 := (hb1.cell (p := ⟨b', off' + k * 4, none⟩) hbl3).trans hd0; replace hd1 := (hb1.cell (p := ⟨b', off' + k * 4 + 1, none⟩) hbl3).trans hd1; replace hd2 := (hb1.cell (p := ⟨b', off' + k * 4 + 2, none⟩) hbl3).trans hd2; replace hd3 := (hb1.cell (p := ⟨b', off' + k * 4 + 3, none⟩) hbl3).trans hd3))
      go_wp2
      go_roundw
      case rel => exact ⟨k + 1, by omega, by go_num, hb.trans (hb1.mono hz)⟩
      case measure => simp [intOf]; omega
    · clear hc hc'
      go_wp2
      go_ret
      exact ⟨rfl, hb⟩
/-- The item marked from k on; the first j of l marked. -/
def mkPl (k : Int) : Pl := ⟨mkT k, k + 1, k + 1 + 1, k + 1 + 1 + 1⟩
def mkPls (k : Int) (n : Nat) : List Pl := (List.range n).map fun j : Nat => mkPl (k + 4 * (j : Int))
theorem mkPls_length (k : Int) (n : Nat) : (mkPls k n).length = n := by simp [mkPls]
theorem mkPls_at (k : Int) (n j : Nat) (h : j < n) : (mkPls k n)[j]'(by rw [mkPls_length]; exact h) = mkPl (k + 4 * (j : Int)) := by simp [mkPls]
def mkPp (l : List Pl) (k : Int) (j : Nat) : List Pl := (mkPls k l.length).take j ++ l.drop j
theorem mkPp_set (l : List Pl) (k : Int) (j : Nat) (h : j < l.length) : (mkPp l k j).set j (mkPl (k + 4 * (j : Int))) = mkPp l k (j + 1) := by
  unfold mkPp
  have h1 : ((mkPls k l.length).take j).length = j := by rw [List.length_take, mkPls_length]; omega
  rw [List.set_append_right _ _ (by omega), h1, Nat.sub_self, List.take_succ_eq_append_getElem (by rw [mkPls_length]; exact h), mkPls_at k _ j h, List.drop_eq_getElem_cons h, List.set_cons_zero, List.append_assoc]
  rfl
theorem mkPp_all (l : List Pl) (k : Int) : mkPp l k l.length = mkPls k l.length := by
  unfold mkPp
  rw [List.take_of_length_le (by rw [mkPls_length]; omega), List.drop_eq_nil_of_le (by omega), List.append_nil]
theorem mkPp_zero (l : List Pl) (k : Int) : mkPp l k 0 = l := by simp [mkPp]

set_option maxHeartbeats 4000000 in
theorem markPlaceS_at (g cap base : Nat) (l : List Pl) (k : Int) (w : World) (ho : w.ownsRow base 50 4 (.slice (some ⟨g, 0, none⟩) l.length cap) l.length (flatP l)) (hn : l.length ≤ 1000) (h1 : 1 ≤ k) (h2 : k ≤ 1000) :
    Calls Tryz.prog 27 #[.slice (some ⟨g, 0, none⟩) l.length cap, .int .i64 k] w fun e w' => e = .returned (.int .i64 (k + 4 * l.length)) ∧ w'.ownsRow base 50 4 (.slice (some ⟨g, 0, none⟩) l.length cap) l.length (flatP (mkPls k l.length)) ∧ Chg (· = g) w w' := by
  go_enter Tryz.func27, Tryz.ntmps27
  go_wp2
  go_loopw [1, 5] (fun t i wr => ∃ j : Nat, j ≤ l.length ∧ i = .int .i64 j ∧ t = .int .i64 (k + 4 * j) ∧ wr.ownsRow base 50 4 (.slice (some ⟨g, 0, none⟩) l.length cap) l.length (flatP (mkPp l k j)) ∧ Chg (· = g) w wr) (fun _ i _ => l.length - (intOf i).toNat)
  case atStart => exact ⟨0, Nat.zero_le _, rfl, by go_num, by rw [mkPp_zero]; exact ho, Chg.refl _ _⟩
  case round =>
    clear ho
    obtain ⟨j, hj, rfl, rfl, hown, hch⟩ := hrel
    by_cases hlt : j < l.length
    · have HS : Hid (flatP ((mkPp l k j).set j (mkPl (k + 4 * (j : Int)))) = flatP (mkPp l k (j + 1))) := by show _ = _; rw [mkPp_set l k j hlt]
      have HF : Hid (((((flatP (mkPp l k j)).set (j * 4) (.string (mkT (k + 4 * j)))).set (j * 4 + 1) (.int .i64 (k + 4 * j + 1))).set (j * 4 + 2) (.int .i64 (k + 4 * j + 1 + 1))).set (j * 4 + 3) (.int .i64 (k + 4 * j + 1 + 1 + 1)) = flatP ((mkPp l k j).set j (mkPl (k + 4 * (j : Int))))) := flatP_set (mkPp l k j) j (mkPl (k + 4 * (j : Int)))
      have HG : Hid (((((flatP (mkPp l k j)).set (j * 4) (.string (mkT (k + 4 * j)))).set (j * 4 + 1) (.int .i64 (k + 4 * j + 1))).set (j * 4 + 2) (.int .i64 (k + 4 * j + 1 + 1))).set (j * 4 + 3) (.int .i64 (k + 4 * j + 1 + 1 + 1)) = flatP (mkPp l k (j + 1))) := HF.out.trans HS.out
      clear HS HF
      generalize flatP (mkPp l k j) = ys at *
      have hgl := (owns_lt hown).2
      go_wp2_with fail
      refine (markText_any _ _ (by omega) (by omega)).mono ?_
      rintro e w1 ⟨rfl, hb1⟩
      replace hown := owns_below hown hb1
      have C1 := hch.trans (Chg.of_below hb1)
      have hgl1 := (owns_lt hown).2
      obtain ⟨⟨u0, d0⟩, f0⟩ := owns4_at hown j hlt 0 (by omega)
      rw [Nat.add_zero] at d0 f0
      have o1 := (hown.stored (j * 4) (.string (mkT (k + 4 * j)))).1
      have o2 := (o1.stored (j * 4 + 1) (.int .i64 (k + 4 * j + 1))).1
      have o3 := (o2.stored (j * 4 + 2) (.int .i64 (k + 4 * j + 1 + 1))).1
      obtain ⟨⟨u1, d1⟩, f1⟩ := owns4_at hown j hlt 1 (by omega)
      obtain ⟨⟨u2, d2⟩, f2⟩ := owns4_at hown j hlt 2 (by omega)
      have C2 := ((C1.setCell (p := ⟨g, j * 4, none⟩) rfl (.string (mkT (k + 4 * j)))).setCell (p := ⟨g, j * 4 + 1, none⟩) rfl (.int .i64 (k + 4 * j + 1))).setCell (p := ⟨g, j * 4 + 2, none⟩) rfl (.int .i64 (k + 4 * j + 1 + 1))
      generalize mkT (k + 4 * j) = t1 at *
      obtain ⟨⟨u3, d3⟩, f3⟩ := owns4_at hown j hlt 3 (by omega)
      have o4 := (o3.stored (j * 4 + 3) (.int .i64 (k + 4 * j + 1 + 1 + 1))).1
      have C4 := C2.setCell (p := ⟨g, j * 4 + 3, none⟩) rfl (.int .i64 (k + 4 * j + 1 + 1 + 1))
      have HO : Hid _ := o4
      clear C2 o3 o4 hown hch C1 hb1 o1 o2
      go_wp2
      go_roundw
      case rel => exact ⟨j + 1, by omega, by go_num, by go_num, by rw [← HG.out]; exact HO.out, C4⟩
      case measure => simp [intOf]; omega
    · obtain rfl : j = l.length := by omega
      rw [mkPp_all] at hown
      go_wp2
      go_ret
      exact ⟨rfl, hown, hch⟩

set_option maxHeartbeats 4000000 in
theorem heldPlaceS_at (v : Value) (n : Nat) (k : Int) (w : World) (hv : PR w v (mkPls k n)) (hn : n ≤ 1000) (h1 : 1 ≤ k) (h2 : k ≤ 1000) :
    Calls Tryz.prog 28 #[v, .int .i64 k] w fun e w' => e = .returned (.int .i64 (k + 4 * n)) ∧ Below w.heap.size w w' := by
  obtain ⟨a, cap, rfl, hc⟩ := hv
  rw [mkPls_length]
  go_enter Tryz.func28, Tryz.ntmps28
  go_wp2
  go_loopw [1, 5] (fun t i wr => ∃ j : Nat, j ≤ n ∧ i = .int .i64 j ∧ t = .int .i64 (k + 4 * j) ∧ Below w.heap.size w wr) (fun _ i _ => n - (intOf i).toNat)
  case atStart => exact ⟨0, Nat.zero_le _, rfl, by go_num, Below.refl _ _⟩
  case round =>
    obtain ⟨j, hj, rfl, rfl, hb⟩ := hrel
    by_cases hlt : j < n
    · obtain ⟨b, off, rfl, hbl, hcell⟩ := hc (by intro e; have := congrArg List.length e; rw [mkPls_length] at this; simp at this; omega)
      obtain ⟨c0, c1, c2, c3⟩ := hcell j (by rw [mkPls_length]; exact hlt)
      rw [mkPls_at k n j hlt] at c0 c1 c2 c3
      have hz := hb.size
      have hbW : b < wr.heap.size := by omega
      replace c0 := (hb.cell (p := ⟨b, off + j * 4, none⟩) hbl).trans c0
      replace c1 := (hb.cell (p := ⟨b, off + j * 4 + 1, none⟩) hbl).trans c1
      replace c2 := (hb.cell (p := ⟨b, off + j * 4 + 2, none⟩) hbl).trans c2
      replace c3 := (hb.cell (p := ⟨b, off + j * 4 + 3, none⟩) hbl).trans c3
      unfold mkPl at c0 c1 c2 c3
      dsimp only at c0 c1 c2 c3
      have KA := fun w => markText_any (k + 4 * j) w (by omega) (by omega)
      generalize mkT (k + 4 * j) = t1 at *
      have q0 := fun x : WC wr.heap.size wr => (x.ok.cell (p := ⟨b, off + j * 4, none⟩) hbW).trans c0
      have hne : Nonempty (WC wr.heap.size wr) := ⟨⟨_, Below.refl _ _⟩⟩
      clear hcell hc
      go_wp2_with fail
      refine wp_region_calm (B := wr.heap.size) (W := wr) (by kernel_rfl) (by kernel_rfl) (Below.refl _ _) ?_
      repeat (go_big_quiet_step (first | (go_at_call 57; with_reducible exact calm_of_below (Nat.le_refl _) (KA _))))
      refine wpQuiet_nil ?_
      intro _ hw'
      obtain ⟨x, hx⟩ := hw'
      subst hx
      have hB1 := hb.trans (x.ok.mono hz)
      replace c1 := (x.ok.cell (p := ⟨b, off + j * 4 + 1, none⟩) hbW).trans c1
      replace c2 := (x.ok.cell (p := ⟨b, off + j * 4 + 2, none⟩) hbW).trans c2
      replace c3 := (x.ok.cell (p := ⟨b, off + j * 4 + 3, none⟩) hbW).trans c3
      have hzx := x.ok.size
      clear KA q0 hne c0 hb
      generalize x.w = w1 at *
      clear x
      go_wp2
      go_roundw
      case rel => exact ⟨j + 1, by omega, by go_num, by go_num, hB1⟩
      case measure => simp [intOf]; omega
    · obtain rfl : j = n := by omega
      clear hc
      go_wp2
      go_ret
      exact ⟨rfl, hb⟩
theorem markPlaceS_nil (k : Int) (w : World) (h1 : 1 ≤ k) (h2 : k ≤ 1000) : Calls Tryz.prog 27 #[.slice none 0 0, .int .i64 k] w fun e w' => e = .returned (.int .i64 k) ∧ w' = w := by
  go_enter Tryz.func27, Tryz.ntmps27
  go_wp2
  go_loopw [1, 5] (fun t i wr => i = .int .i64 0 ∧ t = .int .i64 k ∧ wr = w) (fun _ _ _ => 0)
  case atStart => exact ⟨rfl, rfl, rfl⟩
  case round =>
    obtain ⟨rfl, rfl, rfl⟩ := hrel
    go_wp2
    go_ret
    exact ⟨rfl, rfl⟩
end Go.Proofs.YtfdaffnkgpdhhaaGreat
