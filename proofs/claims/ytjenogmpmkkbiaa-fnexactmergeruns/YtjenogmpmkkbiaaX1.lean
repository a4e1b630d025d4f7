/-
  The cursor's text.
-/
import Derived.Test.YtjenogmpmkkbiaaD5
namespace Go.Proofs.Ytjenogmpmkkbiaa
open Go.RowKit
set_option linter.unusedVariables false
set_option maxRecDepth 100000

set_option maxRecDepth 100000 in
set_option maxHeartbeats 2000000 in
theorem text_any (b : Nat) (l : List UInt8) (K : Nat) (n : Nat) (w : World) (h : Cur w b l K) (hl : l.length ≤ 9223372036854775807) (hK : K ≤ 10000000) (hn : n ≤ 10000) :
    Calls Try.prog 106 #[.pointer (some ⟨b, 0, none⟩), .int .i64 n] w fun e w' => (∃ s : ByteArray, e = .returned (.string s) ∧ s.size = n) ∧ Cur w' b l (K + 2 * n) ∧ Chg (· = b) w w' := by
  obtain ⟨i0, hi, hz0, hz1, hz2⟩ := info_parts Try.info5
  have hbw := h.lt
  go_enter Try.func106, Try.ntmps106
  go_wp2_with (at_make; refine wpList_make_full _ rfl _ _ 22 rfl w.heap.size 5 i0 _ 1 Try.underlying22 hi hz0 hz1 .i64 .i64 _ _ n rfl rfl rfl rfl (by rw [hz2]; omega) (by unfold maxLen; omega) (Nat.le_refl _) ?_; intro w0 hown0 hgr0)
  rw [madeB] at hown0
  have hb0 : Below w.heap.size w w0 := (Below.refl _ _).grown hgr0 (Nat.le_refl _) (by simp)
  have hc0 := h.chg hb0
  have hch0 : Chg (· = b) w w0 := Chg.of_below hb0
  clear hgr0 hi hz0 hz1 hz2 hb0 h
  go_loopw [11] (fun i wr => ∃ (j : Nat) (m : List UInt8), j ≤ n ∧ m.length = n ∧ i = .int .i64 j ∧ wr.ownsRow w.heap.size 5 1 (.slice (some ⟨w.heap.size, 0, none⟩) n n) n (bcs m) ∧ Cur wr b l (K + 2 * j) ∧ Chg (· = b) w wr) (fun i _ => n - (intOf i).toNat)
  case atStart => exact ⟨0, List.replicate n 0, by omega, by simp, rfl, hown0, hc0, hch0⟩
  case round =>
    obtain ⟨j, m, hj, hm, rfl, hown, hc, hch⟩ := hrel
    clear hown0 hc0 hch0
    by_cases hlt : j < n
    · go_wp2_with fail
      refine (pick_any b l (K + 2 * j) 256 _ hc hl (by omega) (by omega)).mono ?_
      rintro e w1 ⟨⟨x, rfl, hx⟩, hc1, hch1⟩
      have hx256 : x < 256 := by omega
      have hown1 := hch1.owns hown (fun g hg h => by simp only [Value.ownBlock, Option.some.injEq] at hg; omega)
      have d0 : w1.cell? ⟨w.heap.size, j, none⟩ = some (.int .u8 (m[j].toNat : Int)) := by rw [hown1.cellAt j (by omega)]; simp [bcs, show j < m.length from by omega]
      have f0 : w1.frozen? ⟨w.heap.size, j, none⟩ = false := hown1.frozenAt _
      have hlt1 := (owns_lt hown1).2
      have HO : Hid _ := (hown1.stored j (.int .u8 (x : Int))).1
      have HS : Hid ((bcs m).set j (.int .u8 (x : Int)) = bcs (m.set j (UInt8.ofNat x))) := bcs_set m j x hx256
      have HC : Hid (Cur (w1.setCell ⟨w.heap.size, j, none⟩ (.int .u8 (x : Int))) b l (K + 2 * (j + 1))) := cur_set hc1 (by omega) _ hbw _
      have HH : Hid (Chg (· = b) w (w1.setCell ⟨w.heap.size, j, none⟩ (.int .u8 (x : Int)))) := chg_new (hch.trans hch1) _ (Nat.le_refl _) _
      generalize (m[j].toNat : Int) = old at d0
      clear hc hown hch hch1 hown1 hc1
      go_wp2
      go_roundw
      case rel => exact ⟨j + 1, m.set j (UInt8.ofNat x), by omega, by simpa using hm, by go_num, by rw [← HS.out]; exact HO.out, HC.out, HH.out⟩
      case measure => simp [intOf]; omega
    · obtain rfl : j = n := by omega
      subst hm
      have hcv := conv_back hown
      go_wp2
      go_ret
      exact ⟨⟨_, rfl, by show m.toArray.size = _; simp⟩, hc, hch⟩
end Go.Proofs.Ytjenogmpmkkbiaa
