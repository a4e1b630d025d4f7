/-
  Marks in a list of items: markText, markMetaS, heldMetaS.
-/
import Derived.Test.YtenbdjlhcadhaaaM1
namespace Go.Proofs.Ytenbdjlhcadhaaa
open Go.RowKit
set_option linter.unusedVariables false
set_option maxRecDepth 100000

set_option maxRecDepth 100000 in
set_option maxHeartbeats 1000000 in
theorem markText_any (k : Int) (w : World) (h1 : 1 ≤ k) (h2 : k ≤ 100000000) :
    Calls Try.prog 104 #[.int .i64 k] w fun e w' => e = .returned (.string (mkT k)) ∧ Below w.heap.size w w' := by
  obtain ⟨n, rfl⟩ := Int.eq_ofNat_of_zero_le (show 0 ≤ k from by omega)
  go_enter Try.func104, Try.ntmps104
  go_wp2
  go_loopw [0, 3] (fun k s wr => ∃ (j m : Nat) (acc : List UInt8), j ≤ 20 ∧ acc.length ≤ j ∧ m ≤ 100000000 ∧ m < 10 ^ (20 - j) ∧ k = .int .i64 m ∧ s = .string ⟨acc.toArray⟩ ∧ mkD 20 n [] = mkD (20 - j) m acc ∧ Below w.heap.size w wr) (fun k _ _ => (intOf k).toNat)
  case atStart => exact ⟨0, n, [], by omega, by simp, by omega, by omega, rfl, rfl, rfl, Below.refl _ _⟩
  case round =>
    obtain ⟨j, m, acc, hj, ha, hm, hp, rfl, rfl, he, hb⟩ := hrel
    have HE : Hid (mkD 20 n [] = mkD (20 - j) m acc) := he
    have HP : Hid (m < 10 ^ (20 - j)) := hp
    clear he hp
    by_cases h0 : (0 : Int) < (m : Int)
    · obtain ⟨c, hc⟩ : ∃ c : UInt8, c = UInt8.ofNat (48 + m % 10) := ⟨_, rfl⟩
      have hcn : ((c.toNat : Nat) : Int) = 48 + (m : Int) % 10 := by
        rw [hc, UInt8.toNat_ofNat']; omega
      have hcv : (convert 22 9 (.slice (some ⟨wr.heap.size, 0, none⟩) 1 1)).run Try.prog (wr.alloc (.cells #[.int .u8 (48 + (m : Int) % 10)] 5)) = .ok (.string ⟨#[c]⟩) (wr.alloc (.cells #[.int .u8 (48 + (m : Int) % 10)] 5)) := by
        have := run_convert_bytes_back (P := Try.prog) (wr.alloc (.cells #[.int .u8 (48 + (m : Int) % 10)] 5)) 22 9 5 ⟨wr.heap.size, 0, none⟩ 1 [c] Try.underlying22 Try.underlying5 Try.underlying9 (by
          intro j hj
          have : j = 0 := by simpa using hj
          subst this
          simp [Addr.add, hcn])
        simpa using this
      have hz := hb.size
      have hj20 : j < 20 := by
        rcases Nat.lt_or_ge j 20 with h | h
        · exact h
        · have := HP.out; rw [show 20 - j = 0 from by omega] at this; omega
      have HN : Hid (mkD 20 n [] = mkD (20 - (j + 1)) (m / 10) (c :: acc)) := by
        show mkD 20 n [] = _
        rw [HE.out, show 20 - j = (20 - (j + 1)) + 1 from by omega, mkD, if_neg (by omega), ← hc]
      have HP2 : Hid (m / 10 < 10 ^ (20 - (j + 1))) := by
        show m / 10 < _
        have := HP.out
        rw [show 20 - j = (20 - (j + 1)) + 1 from by omega, Nat.pow_succ] at this
        omega
      clear hc hcn
      go_wp2
      go_roundw
      case rel => exact ⟨j + 1, m / 10, c :: acc, by omega, by simp; omega, by omega, HP2.out, by go_num, congrArg Value.string (bcat [c] acc), HN.out, hb.alloc hz _⟩
      case measure => simp [intOf]; omega
    · obtain rfl : m = 0 := by omega
      go_wp2
      go_ret
      refine ⟨?_, hb⟩
      rw [mkT_pos n (by omega), HE.out, mkD_zero]
      exact congrArg (fun s => Ending.returned (Value.string s)) (bcat [109] acc)


/-- The meta marked from k on; the first j of l marked. -/
def mkIt (k : Int) : Mt := ⟨k, k + 1, mkT (k + 1 + 1), mkT (k + 1 + 1 + 1)⟩
def mkIts (k : Int) (n : Nat) : List Mt := (List.range n).map fun j : Nat => mkIt (k + 4 * (j : Int))
theorem mkIts_length (k : Int) (n : Nat) : (mkIts k n).length = n := by simp [mkIts]
theorem mkIts_at (k : Int) (n j : Nat) (h : j < n) : (mkIts k n)[j]'(by rw [mkIts_length]; exact h) = mkIt (k + 4 * (j : Int)) := by simp [mkIts]
def mkP (l : List Mt) (k : Int) (j : Nat) : List Mt := (mkIts k l.length).take j ++ l.drop j
theorem mkP_set (l : List Mt) (k : Int) (j : Nat) (h : j < l.length) : (mkP l k j).set j (mkIt (k + 4 * (j : Int))) = mkP l k (j + 1) := by
  unfold mkP
  have h1 : ((mkIts k l.length).take j).length = j := by rw [List.length_take, mkIts_length]; omega
  rw [List.set_append_right _ _ (by omega), h1, Nat.sub_self, List.take_succ_eq_append_getElem (by rw [mkIts_length]; exact h), mkIts_at k _ j h, List.drop_eq_getElem_cons h, List.set_cons_zero, List.append_assoc]
  rfl
theorem mkP_all (l : List Mt) (k : Int) : mkP l k l.length = mkIts k l.length := by
  unfold mkP
  rw [List.take_of_length_le (by rw [mkIts_length]; omega), List.drop_eq_nil_of_le (by omega), List.append_nil]
theorem mkP_zero (l : List Mt) (k : Int) : mkP l k 0 = l := by simp [mkP]

set_option maxHeartbeats 4000000 in
theorem markMetaS_at (g cap base : Nat) (l : List Mt) (k : Int) (w : World) (ho : w.ownsRow base 82 4 (.slice (some ⟨g, 0, none⟩) l.length cap) l.length (flat4 l)) (hn : l.length ≤ 1048576) (h1 : 1 ≤ k) (h2 : k ≤ 50000000) :
    Calls Try.prog 70 #[.slice (some ⟨g, 0, none⟩) l.length cap, .int .i64 k] w fun e w' => e = .returned (.int .i64 (k + 4 * l.length)) ∧ w'.ownsRow base 82 4 (.slice (some ⟨g, 0, none⟩) l.length cap) l.length (flat4 (mkIts k l.length)) ∧ Chg (· = g) w w' := by
  go_enter Try.func70, Try.ntmps70
  go_wp2
  go_loopw [1, 5] (fun t i wr => ∃ j : Nat, j ≤ l.length ∧ i = .int .i64 j ∧ t = .int .i64 (k + 4 * j) ∧ wr.ownsRow base 82 4 (.slice (some ⟨g, 0, none⟩) l.length cap) l.length (flat4 (mkP l k j)) ∧ Chg (· = g) w wr) (fun _ i _ => l.length - (intOf i).toNat)
  case atStart => exact ⟨0, Nat.zero_le _, rfl, by go_num, by rw [mkP_zero]; exact ho, Chg.refl _ _⟩
  case round =>
    clear ho
    obtain ⟨j, hj, rfl, rfl, hown, hch⟩ := hrel
    by_cases hlt : j < l.length
    · have HS : Hid (flat4 ((mkP l k j).set j (mkIt (k + 4 * (j : Int)))) = flat4 (mkP l k (j + 1))) := by show _ = _; rw [mkP_set l k j hlt]
      have HF : Hid (((((flat4 (mkP l k j)).set (j * 4) (.int .i64 (k + 4 * j))).set (j * 4 + 1) (.int .i64 (k + 4 * j + 1))).set (j * 4 + 2) (.string (mkT (k + 4 * j + 1 + 1)))).set (j * 4 + 3) (.string (mkT (k + 4 * j + 1 + 1 + 1))) = flat4 ((mkP l k j).set j (mkIt (k + 4 * (j : Int))))) := flat4_set (mkP l k j) j (mkIt (k + 4 * (j : Int)))
      have HG : Hid (((((flat4 (mkP l k j)).set (j * 4) (.int .i64 (k + 4 * j))).set (j * 4 + 1) (.int .i64 (k + 4 * j + 1))).set (j * 4 + 2) (.string (mkT (k + 4 * j + 1 + 1)))).set (j * 4 + 3) (.string (mkT (k + 4 * j + 1 + 1 + 1))) = flat4 (mkP l k (j + 1))) := HF.out.trans HS.out
      clear HS HF
      generalize flat4 (mkP l k j) = ys at *
      have hgl := (owns_lt hown).2
      have o1 := (hown.stored (j * 4) (.int .i64 (k + 4 * j))).1
      have o2 := (o1.stored (j * 4 + 1) (.int .i64 (k + 4 * j + 1))).1
      obtain ⟨⟨u0, d0⟩, f0⟩ := owns4_at hown j hlt 0 (by omega)
      rw [Nat.add_zero] at d0 f0
      obtain ⟨⟨u1, d1⟩, f1⟩ := owns4_at hown j hlt 1 (by omega)
      have C2 := (hch.setCell (p := ⟨g, j * 4, none⟩) rfl (.int .i64 (k + 4 * j))).setCell (p := ⟨g, j * 4 + 1, none⟩) rfl (.int .i64 (k + 4 * j + 1))
      clear hown hch o1
      go_wp2_with fail
      refine (markText_any _ _ (by omega) (by omega)).mono ?_
      rintro e w1 ⟨rfl, hb1⟩
      replace o2 := owns_below o2 hb1
      have C1 := C2.trans (Chg.of_below hb1)
      have hgl1 := (owns_lt o2).2
      obtain ⟨⟨u2, d2⟩, f2⟩ := owns4_at o2 j hlt 2 (by omega)
      have o3 := (o2.stored (j * 4 + 2) (.string (mkT (k + 4 * j + 1 + 1)))).1
      have C3 := C1.setCell (p := ⟨g, j * 4 + 2, none⟩) rfl (.string (mkT (k + 4 * j + 1 + 1)))
      clear d0 f0 d1 f1 C1 C2 hb1 o2
      generalize mkT (k + 4 * j + 1 + 1) = t1 at *
      go_wp2_with fail
      refine (markText_any _ _ (by omega) (by omega)).mono ?_
      rintro e w2 ⟨rfl, hb2⟩
      replace o3 := owns_below o3 hb2
      have C4 := C3.trans (Chg.of_below hb2)
      have hgl2 := (owns_lt o3).2
      obtain ⟨⟨u3, d3⟩, f3⟩ := owns4_at o3 j hlt 3 (by omega)
      have o4 := (o3.stored (j * 4 + 3) (.string (mkT (k + 4 * j + 1 + 1 + 1)))).1
      have C5 := C4.setCell (p := ⟨g, j * 4 + 3, none⟩) rfl (.string (mkT (k + 4 * j + 1 + 1 + 1)))
      have HO : Hid _ := o4
      clear d2 f2 C4 C3 o3 hb2 o4
      generalize mkT (k + 4 * j + 1 + 1 + 1) = t2 at *
      go_wp2
      go_roundw
      case rel => exact ⟨j + 1, by omega, by go_num, by go_num, by rw [← HG.out]; exact HO.out, C5⟩
      case measure => simp [intOf]; omega
    · obtain rfl : j = l.length := by omega
      rw [mkP_all] at hown
      go_wp2
      go_ret
      exact ⟨rfl, hown, hch⟩

set_option maxHeartbeats 4000000 in
theorem heldMetaS_at (v : Value) (n : Nat) (k : Int) (w : World) (hv : IR w v (mkIts k n)) (hn : n ≤ 1048576) (h1 : 1 ≤ k) (h2 : k ≤ 50000000) :
    Calls Try.prog 71 #[v, .int .i64 k] w fun e w' => e = .returned (.int .i64 (k + 4 * n)) ∧ Below w.heap.size w w' := by
  obtain ⟨a, cap, rfl, hc⟩ := hv
  rw [mkIts_length]
  go_enter Try.func71, Try.ntmps71
  go_wp2
  go_loopw [1, 5] (fun t i wr => ∃ j : Nat, j ≤ n ∧ i = .int .i64 j ∧ t = .int .i64 (k + 4 * j) ∧ Below w.heap.size w wr) (fun _ i _ => n - (intOf i).toNat)
  case atStart => exact ⟨0, Nat.zero_le _, rfl, by go_num, Below.refl _ _⟩
  case round =>
    obtain ⟨j, hj, rfl, rfl, hb⟩ := hrel
    by_cases hlt : j < n
    · obtain ⟨b, off, rfl, hbl, hcell⟩ := hc (by intro e; have := congrArg List.length e; rw [mkIts_length] at this; simp at this; omega)
      obtain ⟨c0, c1, c2, c3⟩ := hcell j (by rw [mkIts_length]; exact hlt)
      rw [mkIts_at k n j hlt] at c0 c1 c2 c3
      have hz := hb.size
      have hbW : b < wr.heap.size := by omega
      replace c0 := (hb.cell (p := ⟨b, off + j * 4, none⟩) hbl).trans c0
      replace c1 := (hb.cell (p := ⟨b, off + j * 4 + 1, none⟩) hbl).trans c1
      replace c2 := (hb.cell (p := ⟨b, off + j * 4 + 2, none⟩) hbl).trans c2
      replace c3 := (hb.cell (p := ⟨b, off + j * 4 + 3, none⟩) hbl).trans c3
      unfold mkIt at c0 c1 c2 c3
      dsimp only at c0 c1 c2 c3
      have KA := fun w => markText_any (k + 4 * j + 1 + 1) w (by omega) (by omega)
      have KB := fun w => markText_any (k + 4 * j + 1 + 1 + 1) w (by omega) (by omega)
      generalize mkT (k + 4 * j + 1 + 1) = t1 at *
      generalize mkT (k + 4 * j + 1 + 1 + 1) = t2 at *
      have q2 := fun x : WC wr.heap.size wr => (x.ok.cell (p := ⟨b, off + j * 4 + 2, none⟩) hbW).trans c2
      have hne : Nonempty (WC wr.heap.size wr) := ⟨⟨_, Below.refl _ _⟩⟩
      clear hcell hc
      go_wp2_with fail
      refine wp_region_calm (B := wr.heap.size) (W := wr) (by kernel_rfl) (by kernel_rfl) (Below.refl _ _) ?_
      repeat (go_big_quiet_step (first | (go_at_call 104; with_reducible exact calm_of_below (Nat.le_refl _) (KA _))))
      refine wpQuiet_nil ?_
      intro _ hw'
      obtain ⟨x, hx⟩ := hw'
      subst hx
      have hB1 := hb.trans (x.ok.mono hz)
      replace c3 := (x.ok.cell (p := ⟨b, off + j * 4 + 3, none⟩) hbW).trans c3
      have hzx := x.ok.size
      clear KA q2 hne c0 c1 c2 hb
      generalize x.w = w1 at *
      clear x
      have hbW1 : b < w1.heap.size := by omega
      have q3 := fun x : WC w1.heap.size w1 => (x.ok.cell (p := ⟨b, off + j * 4 + 3, none⟩) hbW1).trans c3
      have hne : Nonempty (WC w1.heap.size w1) := ⟨⟨_, Below.refl _ _⟩⟩
      go_wp2_with fail
      refine wp_region_calm (B := w1.heap.size) (W := w1) (by kernel_rfl) (by kernel_rfl) (Below.refl _ _) ?_
      repeat (go_big_quiet_step (first | (go_at_call 104; with_reducible exact calm_of_below (Nat.le_refl _) (KB _))))
      refine wpQuiet_nil ?_
      intro _ hw'
      obtain ⟨x, hx⟩ := hw'
      subst hx
      have hB2 := hB1.trans (x.ok.mono (by omega))
      clear KB q3 hne c3 hB1
      generalize x.w = w2 at *
      clear x
      go_wp2
      go_roundw
      case rel => exact ⟨j + 1, by omega, by go_num, by go_num, hB2⟩
      case measure => simp [intOf]; omega
    · obtain rfl : j = n := by omega
      clear hc
      go_wp2
      go_ret
      exact ⟨rfl, hb⟩
theorem markMetaS_nil (k : Int) (w : World) (h1 : 1 ≤ k) (h2 : k ≤ 50000000) : Calls Try.prog 70 #[.slice none 0 0, .int .i64 k] w fun e w' => e = .returned (.int .i64 k) ∧ w' = w := by
  go_enter Try.func70, Try.ntmps70
  go_wp2
  go_loopw [1, 5] (fun t i wr => i = .int .i64 0 ∧ t = .int .i64 k ∧ wr = w) (fun _ _ _ => 0)
  case atStart => exact ⟨rfl, rfl, rfl⟩
  case round =>
    obtain ⟨rfl, rfl, rfl⟩ := hrel
    go_wp2
    go_ret
    exact ⟨rfl, rfl⟩
end Go.Proofs.Ytenbdjlhcadhaaa
