/-
  The law's helpers szBlob, szName (alone and in lists), toBlob, toName.
-/
import Derived.Test.YtoiajjlbajdknaaProg
import Derived.Test.YtoiajjlbajdknaaB
import Derived.WalkLawsBesides
namespace Go.Proofs.Ytoiajjlbajdknaa
open Go.RowKit

set_option maxHeartbeats 400000 in
theorem szBlob_any (s : ByteArray) (m left : Int) (w : World) (h0 : 0 ≤ left) (h1 : left ≤ 1048576) (hs : s.size ≤ maxLen) :
    Calls Try.prog 74 #[.agg #[.string s, .int .i64 m], .int .i64 left] w fun e w' => e = .returned (.int .i64 (if (s.size : Int) ≤ left then left - s.size else -1)) ∧ Below w.heap.size w w' := by
  unfold maxLen at hs
  by_cases h : (s.size : Int) ≤ left
  · go_enter Try.func74, Try.ntmps74
    go_wp2
    go_ret
    exact ⟨by simp, below_alloc _ _⟩
  · go_enter Try.func74, Try.ntmps74
    go_wp2
    go_ret
    exact ⟨by simp, below_alloc _ _⟩

set_option maxHeartbeats 400000 in
theorem szName_any (s : ByteArray) (m left : Int) (w : World) (h0 : 0 ≤ left) (h1 : left ≤ 1048576) (hs : s.size ≤ maxLen) :
    Calls Try.prog 75 #[.agg #[.string s, .int .i64 m], .int .i64 left] w fun e w' => e = .returned (.int .i64 (if (s.size : Int) ≤ left then left - s.size else -1)) ∧ Below w.heap.size w w' := by
  unfold maxLen at hs
  by_cases h : (s.size : Int) ≤ left
  · go_enter Try.func75, Try.ntmps75
    go_wp2
    go_ret
    exact ⟨by simp, below_alloc _ _⟩
  · go_enter Try.func75, Try.ntmps75
    go_wp2
    go_ret
    exact ⟨by simp, below_alloc _ _⟩

set_option maxHeartbeats 400000 in
theorem szBlobS_any (v : Value) (l : List (ByteArray × Int)) (left : Int) (w : World) (hv : PL w v l) (h0 : 0 ≤ left) (h1 : left ≤ 1048576) (hn : l.length ≤ maxLen) (hs : ∀ i (h : i < l.length), l[i].1.size ≤ maxLen) :
    Calls Try.prog 51 #[v, .int .i64 left] w fun e w' => (∃ r : Int, e = .returned (.int .i64 r) ∧ (r = -1 ∨ (0 ≤ r ∧ (tot l : Int) + l.length + r = left))) ∧ Below w.heap.size w w' := by
  obtain ⟨a, cap, rfl, hc⟩ := hv
  unfold maxLen at hn
  by_cases hl : l.length ≤ left
  · go_enter Try.func51, Try.ntmps51
    go_wp2
    go_loopw [1, 5] (fun t i wr => ∃ k : Nat, k ≤ l.length ∧ i = .int .i64 k ∧ (tot (l.take k) : Int) ≤ left - l.length ∧ t = .int .i64 (left - l.length - tot (l.take k)) ∧ Below w.heap.size w wr) (fun _ i _ => l.length - (intOf i).toNat)
    case atStart => exact ⟨0, Nat.zero_le _, rfl, by simp [tot]; omega, by simp [tot], Below.refl _ _⟩
    case round =>
      obtain ⟨k, hk, rfl, ht, rfl, hb⟩ := hrel
      by_cases hlt : k < l.length
      · obtain ⟨b, off, rfl, hbl, hcell⟩ := hc (by intro e; simp [e] at hlt)
        obtain ⟨s, hse⟩ : ∃ s, s = l[k].1 := ⟨_, rfl⟩
        obtain ⟨m, hme⟩ : ∃ m, m = l[k].2 := ⟨_, rfl⟩
        have hc0 : wr.cell? ⟨b, off + k * 2, none⟩ = some (.string s) := by rw [hse]; exact (hb.cell (p := ⟨b, off + k * 2, none⟩) hbl).trans (hcell k hlt).1
        have hc1 : wr.cell? ⟨b, off + k * 2 + 1, none⟩ = some (.int .i64 m) := by rw [hme]; exact (hb.cell (p := ⟨b, off + k * 2 + 1, none⟩) hbl).trans (hcell k hlt).2
        have hss : s.size ≤ maxLen := by rw [hse]; exact hs k hlt
        have HT : Hid (tot (l.take (k + 1)) = tot (l.take k) + s.size) := by rw [hse]; exact tot_take_succ l k hlt
        clear hcell hs hse hme hc
        have hz := hb.size
        by_cases hle : (s.size : Int) ≤ left - l.length - tot (l.take k)
        · go_wp2_with fail
          refine (szBlob_any _ _ _ _ (by omega) (by omega) hss).mono ?_
          rintro e w1 ⟨rfl, hb1⟩
          go_wp2_with fail
          go_roundw
          case rel => exact ⟨k + 1, by omega, by go_num, by rw [HT.out]; omega, by rw [HT.out]; go_num, hb.trans (hb1.mono hz)⟩
          case measure => simp [intOf]; omega
        · go_wp2_with fail
          refine (szBlob_any _ _ _ _ (by omega) (by omega) hss).mono ?_
          rintro e w1 ⟨rfl, hb1⟩
          go_wp2_with fail
          go_ret
          exact ⟨⟨-1, rfl, .inl rfl⟩, hb.trans (hb1.mono hz)⟩
      · go_wp2
        go_ret
        have : k = l.length := by omega
        subst this
        exact ⟨⟨_, rfl, .inr (by rw [List.take_length] at *; omega)⟩, hb⟩
  · go_enter Try.func51, Try.ntmps51
    go_wp2
    go_ret
    exact ⟨⟨-1, rfl, .inl rfl⟩, Below.refl _ _⟩

set_option maxHeartbeats 400000 in
theorem szNameS_any (v : Value) (l : List (ByteArray × Int)) (left : Int) (w : World) (hv : PL w v l) (h0 : 0 ≤ left) (h1 : left ≤ 1048576) (hn : l.length ≤ maxLen) (hs : ∀ i (h : i < l.length), l[i].1.size ≤ maxLen) :
    Calls Try.prog 52 #[v, .int .i64 left] w fun e w' => (∃ r : Int, e = .returned (.int .i64 r) ∧ (r = -1 ∨ (0 ≤ r ∧ (tot l : Int) + l.length + r = left))) ∧ Below w.heap.size w w' := by
  obtain ⟨a, cap, rfl, hc⟩ := hv
  unfold maxLen at hn
  by_cases hl : l.length ≤ left
  · go_enter Try.func52, Try.ntmps52
    go_wp2
    go_loopw [1, 5] (fun t i wr => ∃ k : Nat, k ≤ l.length ∧ i = .int .i64 k ∧ (tot (l.take k) : Int) ≤ left - l.length ∧ t = .int .i64 (left - l.length - tot (l.take k)) ∧ Below w.heap.size w wr) (fun _ i _ => l.length - (intOf i).toNat)
    case atStart => exact ⟨0, Nat.zero_le _, rfl, by simp [tot]; omega, by simp [tot], Below.refl _ _⟩
    case round =>
      obtain ⟨k, hk, rfl, ht, rfl, hb⟩ := hrel
      by_cases hlt : k < l.length
      · obtain ⟨b, off, rfl, hbl, hcell⟩ := hc (by intro e; simp [e] at hlt)
        obtain ⟨s, hse⟩ : ∃ s, s = l[k].1 := ⟨_, rfl⟩
        obtain ⟨m, hme⟩ : ∃ m, m = l[k].2 := ⟨_, rfl⟩
        have hc0 : wr.cell? ⟨b, off + k * 2, none⟩ = some (.string s) := by rw [hse]; exact (hb.cell (p := ⟨b, off + k * 2, none⟩) hbl).trans (hcell k hlt).1
        have hc1 : wr.cell? ⟨b, off + k * 2 + 1, none⟩ = some (.int .i64 m) := by rw [hme]; exact (hb.cell (p := ⟨b, off + k * 2 + 1, none⟩) hbl).trans (hcell k hlt).2
        have hss : s.size ≤ maxLen := by rw [hse]; exact hs k hlt
        have HT : Hid (tot (l.take (k + 1)) = tot (l.take k) + s.size) := by rw [hse]; exact tot_take_succ l k hlt
        clear hcell hs hse hme hc
        have hz := hb.size
        by_cases hle : (s.size : Int) ≤ left - l.length - tot (l.take k)
        · go_wp2_with fail
          refine (szName_any _ _ _ _ (by omega) (by omega) hss).mono ?_
          rintro e w1 ⟨rfl, hb1⟩
          go_wp2_with fail
          go_roundw
          case rel => exact ⟨k + 1, by omega, by go_num, by rw [HT.out]; omega, by rw [HT.out]; go_num, hb.trans (hb1.mono hz)⟩
          case measure => simp [intOf]; omega
        · go_wp2_with fail
          refine (szName_any _ _ _ _ (by omega) (by omega) hss).mono ?_
          rintro e w1 ⟨rfl, hb1⟩
          go_wp2_with fail
          go_ret
          exact ⟨⟨-1, rfl, .inl rfl⟩, hb.trans (hb1.mono hz)⟩
      · go_wp2
        go_ret
        have : k = l.length := by omega
        subst this
        exact ⟨⟨_, rfl, .inr (by rw [List.take_length] at *; omega)⟩, hb⟩
  · go_enter Try.func52, Try.ntmps52
    go_wp2
    go_ret
    exact ⟨⟨-1, rfl, .inl rfl⟩, Below.refl _ _⟩

set_option maxHeartbeats 400000 in
theorem toBlob_any (s : ByteArray) (m : Int) (w : World) :
    Calls Try.prog 77 #[.agg #[.string s, .int .i64 m]] w fun e w' => e = .returned (.agg #[.string s, .int .i64 m]) ∧ Below w.heap.size w w' := by
  go_enter Try.func77, Try.ntmps77
  go_wp2
  exact bodyPost_ret (v := .agg #[.string s, .int .i64 m]) (by simp [results, Try.results77, go_sem]) rfl ⟨rfl, by repeat (first | exact Below.refl _ _ | refine Below.alloc ?_ (by simp; try omega) _)⟩

set_option maxHeartbeats 400000 in
theorem toName_any (s : ByteArray) (m : Int) (w : World) :
    Calls Try.prog 78 #[.agg #[.string s, .int .i64 m]] w fun e w' => e = .returned (.agg #[.string s, .int .i64 m]) ∧ Below w.heap.size w w' := by
  go_enter Try.func78, Try.ntmps78
  go_wp2
  exact bodyPost_ret (v := .agg #[.string s, .int .i64 m]) (by simp [results, Try.results78, go_sem]) rfl ⟨rfl, by repeat (first | exact Below.refl _ _ | refine Below.alloc ?_ (by simp; try omega) _)⟩

end Go.Proofs.Ytoiajjlbajdknaa
