/-
  Marks in a list of entries: markText, markEntryS, heldEntryS; rows marked and held, nil or not.
-/
import Derived.Test.YtapfhhmimkkhnaaR1
import Derived.Test.YtapfhhmimkkhnaaK9
namespace Go.Proofs.Ytapfhhmimkkhnaa
open Go.RowKit
set_option linter.unusedVariables false
set_option maxRecDepth 100000

set_option maxRecDepth 100000 in
set_option maxHeartbeats 1000000 in
theorem markText_any (k : Int) (w : World) (h1 : 1 ≤ k) (h2 : k ≤ 100000000) :
    Calls Try.prog 108 #[.int .i64 k] w fun e w' => e = .returned (.string (mkT k)) ∧ Below w.heap.size w w' := by
  obtain ⟨n, rfl⟩ := Int.eq_ofNat_of_zero_le (show 0 ≤ k from by omega)
  go_enter Try.func108, Try.ntmps108
  go_wp2
  go_loopw [0, 3] (fun k s wr => ∃ (j m : Nat) (acc : List UInt8), j ≤ 20 ∧ acc.length ≤ j ∧ m ≤ 100000000 ∧ m < 10 ^ (20 - j) ∧ k = .int .i64 m ∧ s = .string ⟨acc.toArray⟩ ∧ mkD 20 n [] = mkD (20 - j) m acc ∧ Below w.heap.size w wr) (fun k _ _ => (intOf k).toNat)
  case atStart => exact ⟨0, n, [], by omega, by simp, by omega, by omega, rfl, rfl, rfl, Below.refl _ _⟩
  case round =>
    obtain ⟨j, m, acc, hj, ha, hm, hp, rfl, rfl, he, hb⟩ := hrel
    have HE : Hid (mkD 20 n [] = mkD (20 - j) m acc) := he
    have HP : Hid (m < 10 ^ (20 - j)) := hp
    clear he hp
    by_cases h0 : (0 : Int) < (m : Int)
    · obtain ⟨c, hc⟩ : ∃ c : UInt8, c = UInt8.ofNat (48 + m % 10) := ⟨_, rfl⟩
      have hcn : ((c.toNat : Nat) : Int) = 48 + (m : Int) % 10 := by
        rw [hc, UInt8.toNat_ofNat']; omega
      have hcv : (convert 22 9 (.slice (some ⟨wr.heap.size, 0, none⟩) 1 1)).run Try.prog (wr.alloc (.cells #[.int .u8 (48 + (m : Int) % 10)] 5)) = .ok (.string ⟨#[c]⟩) (wr.alloc (.cells #[.int .u8 (48 + (m : Int) % 10)] 5)) := by
        have := run_convert_bytes_back (P := Try.prog) (wr.alloc (.cells #[.int .u8 (48 + (m : Int) % 10)] 5)) 22 9 5 ⟨wr.heap.size, 0, none⟩ 1 [c] Try.underlying22 Try.underlying5 Try.underlying9 (by
          intro j hj
          have : j = 0 := by simpa using hj
          subst this
          simp [Addr.add, hcn])
        simpa using this
      have hz := hb.size
      have hj20 : j < 20 := by
        rcases Nat.lt_or_ge j 20 with h | h
        · exact h
        · have := HP.out; rw [show 20 - j = 0 from by omega] at this; omega
      have HN : Hid (mkD 20 n [] = mkD (20 - (j + 1)) (m / 10) (c :: acc)) := by
        show mkD 20 n [] = _
        rw [HE.out, show 20 - j = (20 - (j + 1)) + 1 from by omega, mkD, if_neg (by omega), ← hc]
      have HP2 : Hid (m / 10 < 10 ^ (20 - (j + 1))) := by
        show m / 10 < _
        have := HP.out
        rw [show 20 - j = (20 - (j + 1)) + 1 from by omega, Nat.pow_succ] at this
        omega
      clear hc hcn
      go_wp2
      go_roundw
      case rel => exact ⟨j + 1, m / 10, c :: acc, by omega, by simp; omega, by omega, HP2.out, by go_num, congrArg Value.string (bcat [c] acc), HN.out, hb.alloc hz _⟩
      case measure => simp [intOf]; omega
    · obtain rfl : m = 0 := by omega
      go_wp2
      go_ret
      refine ⟨?_, hb⟩
      rw [mkT_pos n (by omega), HE.out, mkD_zero]
      exact congrArg (fun s => Ending.returned (Value.string s)) (bcat [109] acc)



/-- The entry marked from k on; the first j of l marked. -/
def mkE (k : Int) : En := ⟨k, mkT (k + 1)⟩
def mkEs (k : Int) (n : Nat) : List En := (List.range n).map fun j : Nat => mkE (k + 2 * (j : Int))
theorem mkEs_length (k : Int) (n : Nat) : (mkEs k n).length = n := by simp [mkEs]
theorem mkEs_at (k : Int) (n j : Nat) (h : j < n) : (mkEs k n)[j]'(by rw [mkEs_length]; exact h) = mkE (k + 2 * (j : Int)) := by simp [mkEs]
def mkPE (l : List En) (k : Int) (j : Nat) : List En := (mkEs k l.length).take j ++ l.drop j
theorem mkPE_set (l : List En) (k : Int) (j : Nat) (h : j < l.length) : (mkPE l k j).set j (mkE (k + 2 * (j : Int))) = mkPE l k (j + 1) := by
  unfold mkPE
  have h1 : ((mkEs k l.length).take j).length = j := by rw [List.length_take, mkEs_length]; omega
  rw [List.set_append_right _ _ (by omega), h1, Nat.sub_self, List.take_succ_eq_append_getElem (by rw [mkEs_length]; exact h), mkEs_at k _ j h, List.drop_eq_getElem_cons h, List.set_cons_zero, List.append_assoc]
  rfl
theorem mkPE_all (l : List En) (k : Int) : mkPE l k l.length = mkEs k l.length := by
  unfold mkPE
  rw [List.take_of_length_le (by rw [mkEs_length]; omega), List.drop_eq_nil_of_le (by omega), List.append_nil]
theorem mkPE_zero (l : List En) (k : Int) : mkPE l k 0 = l := by simp [mkPE]

set_option maxHeartbeats 4000000 in
theorem markEntryS_at (g cap base : Nat) (l : List En) (k : Int) (w : World) (ho : w.ownsRow base 34 2 (.slice (some ⟨g, 0, none⟩) l.length cap) l.length (flat2 l)) (hn : l.length ≤ 1048576) (h1 : 1 ≤ k) (h2 : k ≤ 50000000) :
    Calls Try.prog 50 #[.slice (some ⟨g, 0, none⟩) l.length cap, .int .i64 k] w fun e w' => e = .returned (.int .i64 (k + 2 * l.length)) ∧ w'.ownsRow base 34 2 (.slice (some ⟨g, 0, none⟩) l.length cap) l.length (flat2 (mkEs k l.length)) ∧ Chg (· = g) w w' := by
  go_enter Try.func50, Try.ntmps50
  go_wp2
  go_loopw [1, 5] (fun t i wr => ∃ j : Nat, j ≤ l.length ∧ i = .int .i64 j ∧ t = .int .i64 (k + 2 * j) ∧ wr.ownsRow base 34 2 (.slice (some ⟨g, 0, none⟩) l.length cap) l.length (flat2 (mkPE l k j)) ∧ Chg (· = g) w wr) (fun _ i _ => l.length - (intOf i).toNat)
  case atStart => exact ⟨0, Nat.zero_le _, rfl, by go_num, by rw [mkPE_zero]; exact ho, Chg.refl _ _⟩
  case round =>
    clear ho
    obtain ⟨j, hj, rfl, rfl, hown, hch⟩ := hrel
    by_cases hlt : j < l.length
    · have HS : Hid (flat2 ((mkPE l k j).set j (mkE (k + 2 * (j : Int)))) = flat2 (mkPE l k (j + 1))) := by show _ = _; rw [mkPE_set l k j hlt]
      have HF : Hid (((flat2 (mkPE l k j)).set (j * 2) (.int .i64 (k + 2 * j))).set (j * 2 + 1) (.string (mkT (k + 2 * j + 1))) = flat2 ((mkPE l k j).set j (mkE (k + 2 * (j : Int))))) := flat2_set (mkPE l k j) j (mkE (k + 2 * (j : Int)))
      have HG : Hid (((flat2 (mkPE l k j)).set (j * 2) (.int .i64 (k + 2 * j))).set (j * 2 + 1) (.string (mkT (k + 2 * j + 1))) = flat2 (mkPE l k (j + 1))) := HF.out.trans HS.out
      clear HS HF
      generalize flat2 (mkPE l k j) = ys at *
      have hgl := (owns_lt hown).2
      have o1 := (hown.stored (j * 2) (.int .i64 (k + 2 * j))).1
      obtain ⟨⟨u0, d0⟩, f0⟩ := owns2_at hown j hlt 0 (by omega)
      rw [Nat.add_zero] at d0 f0
      have C2 := hch.setCell (p := ⟨g, j * 2, none⟩) rfl (.int .i64 (k + 2 * j))
      clear hown hch
      go_wp2_with fail
      refine (markText_any _ _ (by omega) (by omega)).mono ?_
      rintro e w1 ⟨rfl, hb1⟩
      replace o1 := owns_below o1 hb1
      have C1 := C2.trans (Chg.of_below hb1)
      have hgl1 := (owns_lt o1).2
      obtain ⟨⟨u2, d2⟩, f2⟩ := owns2_at o1 j hlt 1 (by omega)
      have o3 := (o1.stored (j * 2 + 1) (.string (mkT (k + 2 * j + 1)))).1
      have C3 := C1.setCell (p := ⟨g, j * 2 + 1, none⟩) rfl (.string (mkT (k + 2 * j + 1)))
      have HO : Hid _ := o3
      clear d0 f0 C1 C2 hb1 o1 o3
      generalize mkT (k + 2 * j + 1) = t1 at *
      go_wp2
      go_roundw
      case rel => exact ⟨j + 1, by omega, by go_num, by go_num, by rw [← HG.out]; exact HO.out, C3⟩
      case measure => simp [intOf]; omega
    · obtain rfl : j = l.length := by omega
      rw [mkPE_all] at hown
      go_wp2
      go_ret
      exact ⟨rfl, hown, hch⟩

set_option maxHeartbeats 4000000 in
theorem heldEntryS_at (v : Value) (n : Nat) (k : Int) (w : World) (hv : ER w v (mkEs k n)) (hn : n ≤ 1048576) (h1 : 1 ≤ k) (h2 : k ≤ 50000000) :
    Calls Try.prog 51 #[v, .int .i64 k] w fun e w' => e = .returned (.int .i64 (k + 2 * n)) ∧ Below w.heap.size w w' := by
  obtain ⟨a, cap, rfl, hc⟩ := hv
  rw [mkEs_length]
  go_enter Try.func51, Try.ntmps51
  go_wp2
  go_loopw [1, 5] (fun t i wr => ∃ j : Nat, j ≤ n ∧ i = .int .i64 j ∧ t = .int .i64 (k + 2 * j) ∧ Below w.heap.size w wr) (fun _ i _ => n - (intOf i).toNat)
  case atStart => exact ⟨0, Nat.zero_le _, rfl, by go_num, Below.refl _ _⟩
  case round =>
    obtain ⟨j, hj, rfl, rfl, hb⟩ := hrel
    by_cases hlt : j < n
    · obtain ⟨b, off, rfl, hbl, hcell⟩ := hc (by intro e; have := congrArg List.length e; rw [mkEs_length] at this; simp at this; omega)
      obtain ⟨c0, c1⟩ := hcell j (by rw [mkEs_length]; exact hlt)
      rw [mkEs_at k n j hlt] at c0 c1
      have hz := hb.size
      have hbW : b < wr.heap.size := by omega
      replace c0 := (hb.cell (p := ⟨b, off + j * 2, none⟩) hbl).trans c0
      replace c1 := (hb.cell (p := ⟨b, off + j * 2 + 1, none⟩) hbl).trans c1
      unfold mkE at c0 c1
      dsimp only at c0 c1
      have KA := fun w => markText_any (k + 2 * j + 1) w (by omega) (by omega)
      generalize mkT (k + 2 * j + 1) = t1 at *
      have q2 := fun x : WC wr.heap.size wr => (x.ok.cell (p := ⟨b, off + j * 2 + 1, none⟩) hbW).trans c1
      have hne : Nonempty (WC wr.heap.size wr) := ⟨⟨_, Below.refl _ _⟩⟩
      clear hcell hc
      go_wp2_with fail
      refine wp_region_calm (B := wr.heap.size) (W := wr) (by kernel_rfl) (by kernel_rfl) (Below.refl _ _) ?_
      repeat (go_big_quiet_step (first | (go_at_call 108; with_reducible exact calm_of_below (Nat.le_refl _) (KA _))))
      refine wpQuiet_nil ?_
      intro _ hw'
      obtain ⟨x, hx⟩ := hw'
      subst hx
      have hB1 := hb.trans (x.ok.mono hz)
      clear KA q2 hne c0 c1 hb
      generalize x.w = w1 at *
      clear x
      go_wp2
      go_roundw
      case rel => exact ⟨j + 1, by omega, by go_num, by go_num, hB1⟩
      case measure => simp [intOf]; omega
    · obtain rfl : j = n := by omega
      clear hc
      go_wp2
      go_ret
      exact ⟨rfl, hb⟩
theorem markEntryS_nil (k : Int) (w : World) (h1 : 1 ≤ k) (h2 : k ≤ 50000000) : Calls Try.prog 50 #[.slice none 0 0, .int .i64 k] w fun e w' => e = .returned (.int .i64 k) ∧ w' = w := by
  go_enter Try.func50, Try.ntmps50
  go_wp2
  go_loopw [1, 5] (fun t i wr => i = .int .i64 0 ∧ t = .int .i64 k ∧ wr = w) (fun _ _ _ => 0)
  case atStart => exact ⟨rfl, rfl, rfl⟩
  case round =>
    obtain ⟨rfl, rfl, rfl⟩ := hrel
    go_wp2
    go_ret
    exact ⟨rfl, rfl⟩
theorem owns_type_ne {w : World} {b1 b2 : Nat} {e1 e2 : TypeId} {s1 s2 : Nat} {v1 v2 : Value} {n1 n2 : Nat} {x1 x2 : List Value} (h1 : w.ownsRow b1 e1 s1 v1 n1 x1) (h2 : w.ownsRow b2 e2 s2 v2 n2 x2) (hne : e1 ≠ e2) : ∀ g, v1.ownBlock = some g → v2.ownBlock ≠ some g := by
  intro g hg hg2
  rcases h1.2 with ⟨rfl, _⟩ | ⟨g1, c1, cur1, rfl, _, hh1, _⟩
  · simp [Value.ownBlock] at hg
  · rcases h2.2 with ⟨rfl, _⟩ | ⟨g2, c2, cur2, rfl, _, hh2, _⟩
    · simp [Value.ownBlock] at hg2
    · simp only [Value.ownBlock, Option.some.injEq] at hg hg2
      subst hg hg2
      rw [hh1] at hh2
      simp only [Option.some.injEq, Obj.cells.injEq] at hh2
      exact hne hh2.2.1
theorem owns_mono' {w : World} {base base' : Nat} {e : TypeId} {size : Nat} {v : Value} {n : Nat} {xs : List Value} (h : w.ownsRow base e size v n xs) (hb : base' ≤ base) : w.ownsRow base' e size v n xs := by
  refine ⟨h.1, ?_⟩
  rcases h.2 with h0 | ⟨g, cap, cur, hv, hbg, r⟩
  · exact .inl h0
  · exact .inr ⟨g, cap, cur, hv, Nat.le_trans hb hbg, r⟩
theorem ownB_slice (g n cap : Nat) : (Value.slice (some ⟨g, 0, none⟩) n cap).ownBlock = some g := rfl

theorem markIntS_own (v : Value) (base n : Nat) (l : List Value) (k : Int) (w : World) (ho : w.ownsRow base 3 1 v n l) (hl : l.length = n) (hn : n ≤ 1048576) (hk0 : 0 ≤ k) (hk1 : k ≤ 1073741824) :
    Calls Try.prog 85 #[v, .int .i64 k] w fun e w' => e = .returned (.int .i64 (k + n)) ∧ w'.ownsRow base 3 1 v n (mkI k n) ∧ Chg (fun b => v.ownBlock = some b) w w' := by
  rcases ho.2 with ⟨rfl, h0⟩ | ⟨g, cap, cur, rfl, _⟩
  · subst h0
    refine (markIntS_nil k w).mono ?_
    rintro e w' ⟨rfl, rfl⟩
    exact ⟨by simp, World.ownsRow_nil _ _ _ _, Chg.refl _ _⟩
  · subst hl
    refine (markIntS_at g cap base l k w ho hn hk0 hk1).mono ?_
    rintro e w' ⟨rfl, h1, h2⟩
    exact ⟨rfl, h1, h2.mono fun b hb => by rw [hb]; rfl⟩
theorem heldIntS_own (v : Value) (base n : Nat) (k : Int) (w : World) (ho : w.ownsRow base 3 1 v n (mkI k n)) (hn : n ≤ 1048576) (hk0 : 0 ≤ k) (hk1 : k ≤ 1073741824) :
    Calls Try.prog 86 #[v, .int .i64 k] w fun e w' => e = .returned (.int .i64 (k + n)) ∧ w' = w := by
  rcases ho.2 with ⟨rfl, h0⟩ | ⟨g, cap, cur, rfl, _⟩
  · subst h0
    refine (heldIntS_nil k w).mono ?_
    rintro e w' ⟨rfl, rfl⟩
    exact ⟨by simp, rfl⟩
  · exact heldIntS_at g cap base n k w ho hn hk0 hk1
theorem markEntryS_own (v : Value) (base : Nat) (l : List En) (k : Int) (w : World) (ho : w.ownsRow base 34 2 v l.length (flat2 l)) (hn : l.length ≤ 1048576) (h1 : 1 ≤ k) (h2 : k ≤ 50000000) :
    Calls Try.prog 50 #[v, .int .i64 k] w fun e w' => e = .returned (.int .i64 (k + 2 * l.length)) ∧ w'.ownsRow base 34 2 v l.length (flat2 (mkEs k l.length)) ∧ Chg (fun b => v.ownBlock = some b) w w' := by
  rcases ho.2 with ⟨rfl, h0⟩ | ⟨g, cap, cur, rfl, _⟩
  · rw [h0]
    refine (markEntryS_nil k w h1 h2).mono ?_
    rintro e w' ⟨rfl, rfl⟩
    exact ⟨by simp, World.ownsRow_nil _ _ _ _, Chg.refl _ _⟩
  · refine (markEntryS_at g cap base l k w ho hn h1 h2).mono ?_
    rintro e w' ⟨rfl, h1, h2⟩
    exact ⟨rfl, h1, h2.mono fun b hb => by rw [hb]; rfl⟩
end Go.Proofs.Ytapfhhmimkkhnaa
