/-
  Messages without entries, in a row: held; nil or not.
-/
import Derived.Test.YtapfhhmimkkhnaaQ4
namespace Go.Proofs.Ytapfhhmimkkhnaa
open Go.RowKit Go.Maps
set_option linter.unusedVariables false
set_option maxRecDepth 100000

set_option maxHeartbeats 8000000 in
theorem heldMsgS_at (v : Value) (n : Nat) (k : Int) (w : World) (hv : MR w v (mkQs k n)) (hn : n ≤ 1048576) (h1 : 1 ≤ k) (h2 : k ≤ 40000000) :
    Calls Try.prog 32 #[v, .int .i64 k] w fun e w' => e = .returned (.int .i64 (k + 8 * n)) ∧ Below w.heap.size w w' := by
  obtain ⟨a, cap, rfl, hc⟩ := hv
  rw [mkQs_length]
  go_enter Try.func32, Try.ntmps32
  go_wp2
  go_loopw [1, 5] (fun t i wr => ∃ j : Nat, j ≤ n ∧ i = .int .i64 j ∧ t = .int .i64 (k + 8 * j) ∧ Below w.heap.size w wr) (fun _ i _ => n - (intOf i).toNat)
  case atStart => exact ⟨0, Nat.zero_le _, rfl, by go_num, Below.refl _ _⟩
  case round =>
    obtain ⟨j, hj, rfl, rfl, hb⟩ := hrel
    by_cases hlt : j < n
    · obtain ⟨b, off, rfl, hbl, hcell⟩ := hc (by intro e; have := congrArg List.length e; rw [mkQs_length] at this; simp at this; omega)
      obtain ⟨c0, c1, c2, c3, c4, c5, c6, c7, c8⟩ := hcell j (by rw [mkQs_length]; exact hlt)
      rw [mkQs_at k n j hlt] at c0 c1 c2 c3 c4 c5 c7 c8
      have hz := hb.size
      have hbW : b < wr.heap.size := by omega
      replace c0 := (hb.cell (p := ⟨b, off + j * 9, none⟩) hbl).trans c0
      replace c1 := (hb.cell (p := ⟨b, off + j * 9 + 1, none⟩) hbl).trans c1
      replace c2 := (hb.cell (p := ⟨b, off + j * 9 + 2, none⟩) hbl).trans c2
      replace c3 := (hb.cell (p := ⟨b, off + j * 9 + 3, none⟩) hbl).trans c3
      replace c4 := (hb.cell (p := ⟨b, off + j * 9 + 4, none⟩) hbl).trans c4
      replace c5 := (hb.cell (p := ⟨b, off + j * 9 + 5, none⟩) hbl).trans c5
      replace c6 := (hb.cell (p := ⟨b, off + j * 9 + 6, none⟩) hbl).trans c6
      replace c7 := (hb.cell (p := ⟨b, off + j * 9 + 7, none⟩) hbl).trans c7
      replace c8 := (hb.cell (p := ⟨b, off + j * 9 + 8, none⟩) hbl).trans c8
      unfold mkQ at c0 c1 c2 c3 c4 c5 c7 c8
      dsimp only at c0 c1 c2 c3 c4 c5 c7 c8
      have KE := heldEntryS_at (.slice none 0 0) 0 (k + 8 * j + 1 + 1 + 1 + 1 + 1 + 1) wr (ER_nil _) (by omega) (by omega) (by omega)
      simp only [Int.ofNat_zero, Int.mul_zero, Int.add_zero] at KE
      have NB := fun W => run_neq_b W ((k + 8 * j + 1 + 1 + 1 + 1 + 1 + 1 + 1) % 3 == 0)
      have q6 : ¬ k + 8 * j + 1 + 1 + 1 + 1 + 1 + 1 < 0 := by omega
      clear hcell hc
      go_wp2_with fail
      refine KE.mono ?_
      rintro e w1 ⟨rfl, hb1⟩
      replace c7 := (hb1.cell (p := ⟨b, off + j * 9 + 7, none⟩) hbW).trans c7
      replace c8 := (hb1.cell (p := ⟨b, off + j * 9 + 8, none⟩) hbW).trans c8
      have hB1 := hb.trans (hb1.mono hz)
      have hbW1 : b < w1.heap.size := by have := hb1.size; omega
      clear KE c0 c1 c2 c3 c4 c5 c6 hb1 hb
      go_wp2
      go_roundw
      case rel => exact ⟨j + 1, by omega, by go_num, by go_num, hB1⟩
      case measure => simp [intOf]; omega
    · obtain rfl : j = n := by omega
      clear hc
      go_wp2
      go_ret
      exact ⟨rfl, hb⟩
theorem markMsgS_nil (k : Int) (w : World) : Calls Try.prog 30 #[.slice none 0 0, .int .i64 k] w fun e w' => e = .returned (.int .i64 k) ∧ w' = w := by
  go_enter Try.func30, Try.ntmps30
  go_wp2
  go_loopw [1, 5] (fun t i wr => i = .int .i64 0 ∧ t = .int .i64 k ∧ wr = w) (fun _ _ _ => 0)
  case atStart => exact ⟨rfl, rfl, rfl⟩
  case round =>
    obtain ⟨rfl, rfl, rfl⟩ := hrel
    go_wp2
    go_ret
    exact ⟨rfl, rfl⟩
theorem markMsgS_own (v : Value) (base : Nat) (l : List Mq) (k : Int) (w : World) (ho : w.ownsRow base 38 9 v l.length (flat9 l)) (hn : l.length ≤ 1048576) (h1 : 1 ≤ k) (h2 : k ≤ 40000000) :
    Calls Try.prog 30 #[v, .int .i64 k] w fun e w' => e = .returned (.int .i64 (k + 8 * l.length)) ∧ w'.ownsRow base 38 9 v l.length (flat9 (mkQs k l.length)) ∧ Chg (fun b => v.ownBlock = some b) w w' := by
  rcases ho.2 with ⟨rfl, h0⟩ | ⟨g, cap, cur, rfl, _⟩
  · rw [h0]
    refine (markMsgS_nil k w).mono ?_
    rintro e w' ⟨rfl, rfl⟩
    exact ⟨by simp, World.ownsRow_nil _ _ _ _, Chg.refl _ _⟩
  · refine (markMsgS_at g cap base l k w ho hn h1 h2).mono ?_
    rintro e w' ⟨rfl, h1, h2⟩
    exact ⟨rfl, h1, h2.mono fun b hb => by rw [hb]; rfl⟩
end Go.Proofs.Ytapfhhmimkkhnaa
