/-
  The law's helpers szBlob, szName (alone and in lists), toBlob, toName.
  toBlobS, toNameS: new rows with the same pairs.
  eqBlobS, eqNameS, eqDisk on alike lists.
-/
import Derived.Test.YtbgemebpfcbloaaProg
import Derived.Test.YtbgemebpfcbloaaxAToxL
import Derived.WalkLawsBesides
import Derived.Deep.RegionWith
import Derived.Deep.DeepCutAuto
namespace Go.Proofs.Ytbgemebpfcbloaa
open Go.RowKit

set_option maxHeartbeats 400000 in
theorem szBlob_any (s : ByteArray) (m left : Int) (w : World) (h0 : 0 ≤ left) (h1 : left ≤ 1048576) (hs : s.size ≤ maxLen) :
    Calls Try.prog 120 #[.agg #[.string s, .int .i64 m], .int .i64 left] w fun e w' => e = .returned (.int .i64 (if (s.size : Int) ≤ left then left - s.size else -1)) ∧ Below w.heap.size w w' := by
  unfold maxLen at hs
  by_cases h : (s.size : Int) ≤ left
  · go_enter Try.func120, Try.ntmps120
    go_wp2
    go_ret
    exact ⟨by simp, below_alloc _ _⟩
  · go_enter Try.func120, Try.ntmps120
    go_wp2
    go_ret
    exact ⟨by simp, below_alloc _ _⟩

set_option maxHeartbeats 400000 in
theorem szName_any (s : ByteArray) (m left : Int) (w : World) (h0 : 0 ≤ left) (h1 : left ≤ 1048576) (hs : s.size ≤ maxLen) :
    Calls Try.prog 121 #[.agg #[.string s, .int .i64 m], .int .i64 left] w fun e w' => e = .returned (.int .i64 (if (s.size : Int) ≤ left then left - s.size else -1)) ∧ Below w.heap.size w w' := by
  unfold maxLen at hs
  by_cases h : (s.size : Int) ≤ left
  · go_enter Try.func121, Try.ntmps121
    go_wp2
    go_ret
    exact ⟨by simp, below_alloc _ _⟩
  · go_enter Try.func121, Try.ntmps121
    go_wp2
    go_ret
    exact ⟨by simp, below_alloc _ _⟩

set_option maxHeartbeats 400000 in
theorem szBlobS_any (v : Value) (l : List (ByteArray × Int)) (left : Int) (w : World) (hv : PL w v l) (h0 : 0 ≤ left) (h1 : left ≤ 1048576) (hn : l.length ≤ maxLen) (hs : ∀ i (h : i < l.length), l[i].1.size ≤ maxLen) :
    Calls Try.prog 73 #[v, .int .i64 left] w fun e w' => (∃ r : Int, e = .returned (.int .i64 r) ∧ (r = -1 ∨ (0 ≤ r ∧ (tot l : Int) + l.length + r = left))) ∧ Below w.heap.size w w' := by
  obtain ⟨a, cap, rfl, hc⟩ := hv
  unfold maxLen at hn
  by_cases hl : l.length ≤ left
  · go_enter Try.func73, Try.ntmps73
    go_wp2
    go_loopw [1, 5] (fun t i wr => ∃ k : Nat, k ≤ l.length ∧ i = .int .i64 k ∧ (tot (l.take k) : Int) ≤ left - l.length ∧ t = .int .i64 (left - l.length - tot (l.take k)) ∧ Below w.heap.size w wr) (fun _ i _ => l.length - (intOf i).toNat)
    case atStart => exact ⟨0, Nat.zero_le _, rfl, by simp [tot]; omega, by simp [tot], Below.refl _ _⟩
    case round =>
      obtain ⟨k, hk, rfl, ht, rfl, hb⟩ := hrel
      by_cases hlt : k < l.length
      · obtain ⟨b, off, rfl, hbl, hcell⟩ := hc (by intro e; simp [e] at hlt)
        obtain ⟨s, hse⟩ : ∃ s, s = l[k].1 := ⟨_, rfl⟩
        obtain ⟨m, hme⟩ : ∃ m, m = l[k].2 := ⟨_, rfl⟩
        have hc0 : wr.cell? ⟨b, off + k * 2, none⟩ = some (.string s) := by rw [hse]; exact (hb.cell (p := ⟨b, off + k * 2, none⟩) hbl).trans (hcell k hlt).1
        have hc1 : wr.cell? ⟨b, off + k * 2 + 1, none⟩ = some (.int .i64 m) := by rw [hme]; exact (hb.cell (p := ⟨b, off + k * 2 + 1, none⟩) hbl).trans (hcell k hlt).2
        have hss : s.size ≤ maxLen := by rw [hse]; exact hs k hlt
        have HT : Hid (tot (l.take (k + 1)) = tot (l.take k) + s.size) := by rw [hse]; exact tot_take_succ l k hlt
        clear hcell hs hse hme hc
        have hz := hb.size
        by_cases hle : (s.size : Int) ≤ left - l.length - tot (l.take k)
        · go_wp2_with fail
          refine (szBlob_any _ _ _ _ (by omega) (by omega) hss).mono ?_
          rintro e w1 ⟨rfl, hb1⟩
          go_wp2_with fail
          go_roundw
          case rel => exact ⟨k + 1, by omega, by go_num, by rw [HT.out]; omega, by rw [HT.out]; go_num, hb.trans (hb1.mono hz)⟩
          case measure => simp [intOf]; omega
        · go_wp2_with fail
          refine (szBlob_any _ _ _ _ (by omega) (by omega) hss).mono ?_
          rintro e w1 ⟨rfl, hb1⟩
          go_wp2_with fail
          go_ret
          exact ⟨⟨-1, rfl, .inl rfl⟩, hb.trans (hb1.mono hz)⟩
      · go_wp2
        go_ret
        have : k = l.length := by omega
        subst this
        exact ⟨⟨_, rfl, .inr (by rw [List.take_length] at *; omega)⟩, hb⟩
  · go_enter Try.func73, Try.ntmps73
    go_wp2
    go_ret
    exact ⟨⟨-1, rfl, .inl rfl⟩, Below.refl _ _⟩

set_option maxHeartbeats 400000 in
theorem szNameS_any (v : Value) (l : List (ByteArray × Int)) (left : Int) (w : World) (hv : PL w v l) (h0 : 0 ≤ left) (h1 : left ≤ 1048576) (hn : l.length ≤ maxLen) (hs : ∀ i (h : i < l.length), l[i].1.size ≤ maxLen) :
    Calls Try.prog 74 #[v, .int .i64 left] w fun e w' => (∃ r : Int, e = .returned (.int .i64 r) ∧ (r = -1 ∨ (0 ≤ r ∧ (tot l : Int) + l.length + r = left))) ∧ Below w.heap.size w w' := by
  obtain ⟨a, cap, rfl, hc⟩ := hv
  unfold maxLen at hn
  by_cases hl : l.length ≤ left
  · go_enter Try.func74, Try.ntmps74
    go_wp2
    go_loopw [1, 5] (fun t i wr => ∃ k : Nat, k ≤ l.length ∧ i = .int .i64 k ∧ (tot (l.take k) : Int) ≤ left - l.length ∧ t = .int .i64 (left - l.length - tot (l.take k)) ∧ Below w.heap.size w wr) (fun _ i _ => l.length - (intOf i).toNat)
    case atStart => exact ⟨0, Nat.zero_le _, rfl, by simp [tot]; omega, by simp [tot], Below.refl _ _⟩
    case round =>
      obtain ⟨k, hk, rfl, ht, rfl, hb⟩ := hrel
      by_cases hlt : k < l.length
      · obtain ⟨b, off, rfl, hbl, hcell⟩ := hc (by intro e; simp [e] at hlt)
        obtain ⟨s, hse⟩ : ∃ s, s = l[k].1 := ⟨_, rfl⟩
        obtain ⟨m, hme⟩ : ∃ m, m = l[k].2 := ⟨_, rfl⟩
        have hc0 : wr.cell? ⟨b, off + k * 2, none⟩ = some (.string s) := by rw [hse]; exact (hb.cell (p := ⟨b, off + k * 2, none⟩) hbl).trans (hcell k hlt).1
        have hc1 : wr.cell? ⟨b, off + k * 2 + 1, none⟩ = some (.int .i64 m) := by rw [hme]; exact (hb.cell (p := ⟨b, off + k * 2 + 1, none⟩) hbl).trans (hcell k hlt).2
        have hss : s.size ≤ maxLen := by rw [hse]; exact hs k hlt
        have HT : Hid (tot (l.take (k + 1)) = tot (l.take k) + s.size) := by rw [hse]; exact tot_take_succ l k hlt
        clear hcell hs hse hme hc
        have hz := hb.size
        by_cases hle : (s.size : Int) ≤ left - l.length - tot (l.take k)
        · go_wp2_with fail
          refine (szName_any _ _ _ _ (by omega) (by omega) hss).mono ?_
          rintro e w1 ⟨rfl, hb1⟩
          go_wp2_with fail
          go_roundw
          case rel => exact ⟨k + 1, by omega, by go_num, by rw [HT.out]; omega, by rw [HT.out]; go_num, hb.trans (hb1.mono hz)⟩
          case measure => simp [intOf]; omega
        · go_wp2_with fail
          refine (szName_any _ _ _ _ (by omega) (by omega) hss).mono ?_
          rintro e w1 ⟨rfl, hb1⟩
          go_wp2_with fail
          go_ret
          exact ⟨⟨-1, rfl, .inl rfl⟩, hb.trans (hb1.mono hz)⟩
      · go_wp2
        go_ret
        have : k = l.length := by omega
        subst this
        exact ⟨⟨_, rfl, .inr (by rw [List.take_length] at *; omega)⟩, hb⟩
  · go_enter Try.func74, Try.ntmps74
    go_wp2
    go_ret
    exact ⟨⟨-1, rfl, .inl rfl⟩, Below.refl _ _⟩

set_option maxHeartbeats 400000 in
theorem toBlob_any (s : ByteArray) (m : Int) (w : World) :
    Calls Try.prog 122 #[.agg #[.string s, .int .i64 m]] w fun e w' => e = .returned (.agg #[.string s, .int .i64 m]) ∧ Below w.heap.size w w' := by
  go_enter Try.func122, Try.ntmps122
  go_wp2
  exact bodyPost_ret (v := .agg #[.string s, .int .i64 m]) (by simp [results, Try.results122, go_sem]) rfl ⟨rfl, by repeat (first | exact Below.refl _ _ | refine Below.alloc ?_ (by simp; try omega) _)⟩

set_option maxHeartbeats 400000 in
theorem toName_any (s : ByteArray) (m : Int) (w : World) :
    Calls Try.prog 123 #[.agg #[.string s, .int .i64 m]] w fun e w' => e = .returned (.agg #[.string s, .int .i64 m]) ∧ Below w.heap.size w w' := by
  go_enter Try.func123, Try.ntmps123
  go_wp2
  exact bodyPost_ret (v := .agg #[.string s, .int .i64 m]) (by simp [results, Try.results123, go_sem]) rfl ⟨rfl, by repeat (first | exact Below.refl _ _ | refine Below.alloc ?_ (by simp; try omega) _)⟩

end Go.Proofs.Ytbgemebpfcbloaa

namespace Go.Proofs.Ytbgemebpfcbloaa
open Go.RowKit

theorem Try.info43 : (Try.prog.info? 43).map (fun i => (i.zero, i.size, i.bytes)) = some (some (.agg #[.string ⟨#[]⟩, .int .i64 0]), 2, 24) := by kernel_rfl
theorem Try.info39 : (Try.prog.info? 39).map (fun i => (i.zero, i.size, i.bytes)) = some (some (.agg #[.string ⟨#[]⟩, .int .i64 0]), 2, 24) := by kernel_rfl

set_option maxHeartbeats 400000 in
theorem toBlobS_any (v : Value) (l : List (ByteArray × Int)) (w : World) (hv : PL w v l) (hn : l.length ≤ 1048576) :
    Calls Try.prog 75 #[v] w fun e w' => e = .returned (.slice (some ⟨w.heap.size, 0, none⟩) l.length l.length) ∧ w'.ownsRow w.heap.size 43 2 (.slice (some ⟨w.heap.size, 0, none⟩) l.length l.length) l.length (flat l) ∧ Below w.heap.size w w' := by
  obtain ⟨a, cap, rfl, hc⟩ := hv
  obtain ⟨i0, hi, hz0, hz1, hz2⟩ := info_parts Try.info43
  go_enter Try.func75, Try.ntmps75
  go_wp2_with (at_make; refine wpList_make_full _ rfl _ _ 23 rfl w.heap.size 43 i0 _ 2 Try.underlying23 hi hz0 hz1 .i64 .i64 _ _ l.length rfl rfl rfl rfl (by rw [hz2]; omega) (by unfold maxLen; omega) (Nat.le_refl _) ?_; intro w0 hown0 hgr0)
  rw [flat_zeros, ← part_zero] at hown0
  have hb0 : Below w.heap.size w w0 := (Below.refl _ _).grown hgr0 (Nat.le_refl _) (by simp)
  have hlt0 : w.heap.size < w0.heap.size := (owns_lt hown0).2
  clear hgr0 hi hz0 hz1 hz2
  go_loopw [4] (fun i wr => ∃ k : Nat, k ≤ l.length ∧ i = .int .i64 k ∧ wr.ownsRow w.heap.size 43 2 (.slice (some ⟨w.heap.size, 0, none⟩) l.length l.length) l.length (flat (part l k)) ∧ Below w.heap.size w wr ∧ w.heap.size < wr.heap.size) (fun i _ => l.length - (intOf i).toNat)
  case atStart => exact ⟨0, Nat.zero_le _, rfl, hown0, hb0, hlt0⟩
  case round =>
    obtain ⟨k, hk, rfl, hown, hb, hlt1⟩ := hrel
    clear hown0 hb0 hlt0
    by_cases hlt : k < l.length
    · obtain ⟨b, off, rfl, hbl, hcell⟩ := hc (by intro e; simp [e] at hlt)
      obtain ⟨s, hse⟩ : ∃ s, s = l[k].1 := ⟨_, rfl⟩
      obtain ⟨m, hme⟩ : ∃ m, m = l[k].2 := ⟨_, rfl⟩
      have hc0 : wr.cell? ⟨b, off + k * 2, none⟩ = some (.string s) := by rw [hse]; exact (hb.cell (p := ⟨b, off + k * 2, none⟩) hbl).trans (hcell k hlt).1
      have hc1 : wr.cell? ⟨b, off + k * 2 + 1, none⟩ = some (.int .i64 m) := by rw [hme]; exact (hb.cell (p := ⟨b, off + k * 2 + 1, none⟩) hbl).trans (hcell k hlt).2
      have HS : Hid ((part l k).set k (s, m) = part l (k + 1)) := by rw [hse, hme]; exact part_set l k hlt
      have HP : Hid ((part l k).length = l.length) := part_length l k hk
      clear hcell hse hme hc
      have hz := hb.size
      go_wp2_with fail
      refine (toBlob_any _ _ _).mono ?_
      rintro e w1 ⟨rfl, hb1⟩
      have hown1 := owns_below hown hb1
      obtain ⟨d0, d1, f0, f1⟩ := owns_at hown1 k hlt (by rw [HP.out]; omega)
      have hz1 := hb1.size
      go_wp2
      go_roundw
      case rel =>
        refine ⟨k + 1, by omega, by go_num, ?_, ?_, ?_⟩
        · rw [← HS.out]; exact owns_set hown1 k s m
        · exact ((hb.trans (hb1.mono hz)).setCell (by simp) _).setCell (by simp) _
        · simp; omega
      case measure => simp [intOf]; omega
    · go_wp2
      go_ret
      have : k = l.length := by omega
      subst this
      rw [part_all] at hown
      exact ⟨rfl, hown, hb⟩

set_option maxHeartbeats 400000 in
theorem toNameS_any (v : Value) (l : List (ByteArray × Int)) (w : World) (hv : PL w v l) (hn : l.length ≤ 1048576) :
    Calls Try.prog 76 #[v] w fun e w' => e = .returned (.slice (some ⟨w.heap.size, 0, none⟩) l.length l.length) ∧ w'.ownsRow w.heap.size 39 2 (.slice (some ⟨w.heap.size, 0, none⟩) l.length l.length) l.length (flat l) ∧ Below w.heap.size w w' := by
  obtain ⟨a, cap, rfl, hc⟩ := hv
  obtain ⟨i0, hi, hz0, hz1, hz2⟩ := info_parts Try.info39
  go_enter Try.func76, Try.ntmps76
  go_wp2_with (at_make; refine wpList_make_full _ rfl _ _ 24 rfl w.heap.size 39 i0 _ 2 Try.underlying24 hi hz0 hz1 .i64 .i64 _ _ l.length rfl rfl rfl rfl (by rw [hz2]; omega) (by unfold maxLen; omega) (Nat.le_refl _) ?_; intro w0 hown0 hgr0)
  rw [flat_zeros, ← part_zero] at hown0
  have hb0 : Below w.heap.size w w0 := (Below.refl _ _).grown hgr0 (Nat.le_refl _) (by simp)
  have hlt0 : w.heap.size < w0.heap.size := (owns_lt hown0).2
  clear hgr0 hi hz0 hz1 hz2
  go_loopw [4] (fun i wr => ∃ k : Nat, k ≤ l.length ∧ i = .int .i64 k ∧ wr.ownsRow w.heap.size 39 2 (.slice (some ⟨w.heap.size, 0, none⟩) l.length l.length) l.length (flat (part l k)) ∧ Below w.heap.size w wr ∧ w.heap.size < wr.heap.size) (fun i _ => l.length - (intOf i).toNat)
  case atStart => exact ⟨0, Nat.zero_le _, rfl, hown0, hb0, hlt0⟩
  case round =>
    obtain ⟨k, hk, rfl, hown, hb, hlt1⟩ := hrel
    clear hown0 hb0 hlt0
    by_cases hlt : k < l.length
    · obtain ⟨b, off, rfl, hbl, hcell⟩ := hc (by intro e; simp [e] at hlt)
      obtain ⟨s, hse⟩ : ∃ s, s = l[k].1 := ⟨_, rfl⟩
      obtain ⟨m, hme⟩ : ∃ m, m = l[k].2 := ⟨_, rfl⟩
      have hc0 : wr.cell? ⟨b, off + k * 2, none⟩ = some (.string s) := by rw [hse]; exact (hb.cell (p := ⟨b, off + k * 2, none⟩) hbl).trans (hcell k hlt).1
      have hc1 : wr.cell? ⟨b, off + k * 2 + 1, none⟩ = some (.int .i64 m) := by rw [hme]; exact (hb.cell (p := ⟨b, off + k * 2 + 1, none⟩) hbl).trans (hcell k hlt).2
      have HS : Hid ((part l k).set k (s, m) = part l (k + 1)) := by rw [hse, hme]; exact part_set l k hlt
      have HP : Hid ((part l k).length = l.length) := part_length l k hk
      clear hcell hse hme hc
      have hz := hb.size
      go_wp2_with fail
      refine (toName_any _ _ _).mono ?_
      rintro e w1 ⟨rfl, hb1⟩
      have hown1 := owns_below hown hb1
      obtain ⟨d0, d1, f0, f1⟩ := owns_at hown1 k hlt (by rw [HP.out]; omega)
      have hz1 := hb1.size
      go_wp2
      go_roundw
      case rel =>
        refine ⟨k + 1, by omega, by go_num, ?_, ?_, ?_⟩
        · rw [← HS.out]; exact owns_set hown1 k s m
        · exact ((hb.trans (hb1.mono hz)).setCell (by simp) _).setCell (by simp) _
        · simp; omega
      case measure => simp [intOf]; omega
    · go_wp2
      go_ret
      have : k = l.length := by omega
      subst this
      rw [part_all] at hown
      exact ⟨rfl, hown, hb⟩

theorem toBlobS_ex (v : Value) (l : List (ByteArray × Int)) (w : World) (hv : PL w v l) (hn : l.length ≤ 1048576) :
    Calls Try.prog 75 #[v] w fun e w' => ∃ g : Nat, w.heap.size ≤ g ∧ e = .returned (.slice (some ⟨g, 0, none⟩) l.length l.length) ∧ w'.ownsRow g 43 2 (.slice (some ⟨g, 0, none⟩) l.length l.length) l.length (flat l) ∧ Below w.heap.size w w' :=
  (toBlobS_any v l w hv hn).mono fun _ _ ⟨he, ho, hb⟩ => ⟨_, Nat.le_refl _, he, ho, hb⟩

theorem toNameS_ex (v : Value) (l : List (ByteArray × Int)) (w : World) (hv : PL w v l) (hn : l.length ≤ 1048576) :
    Calls Try.prog 76 #[v] w fun e w' => ∃ g : Nat, w.heap.size ≤ g ∧ e = .returned (.slice (some ⟨g, 0, none⟩) l.length l.length) ∧ w'.ownsRow g 39 2 (.slice (some ⟨g, 0, none⟩) l.length l.length) l.length (flat l) ∧ Below w.heap.size w w' :=
  (toNameS_any v l w hv hn).mono fun _ _ ⟨he, ho, hb⟩ => ⟨_, Nat.le_refl _, he, ho, hb⟩

end Go.Proofs.Ytbgemebpfcbloaa

namespace Go.Proofs.Ytbgemebpfcbloaa
open Go.RowKit

set_option maxHeartbeats 400000 in
theorem eqBlob_same (s : ByteArray) (m : Int) (w : World) :
    Calls Try.prog 124 #[.agg #[.string s, .int .i64 m], .agg #[.string s, .int .i64 m]] w fun e w' => e = .returned (.bool true) ∧ Below w.heap.size w w' := by
  go_enter Try.func124, Try.ntmps124
  go_wp2
  go_ret
  exact ⟨rfl, (below_alloc _ _).alloc (by simp) _⟩

set_option maxHeartbeats 400000 in
theorem eqName_same (s : ByteArray) (m : Int) (w : World) :
    Calls Try.prog 125 #[.agg #[.string s, .int .i64 m], .agg #[.string s, .int .i64 m]] w fun e w' => e = .returned (.bool true) ∧ Below w.heap.size w w' := by
  go_enter Try.func125, Try.ntmps125
  go_wp2
  go_ret
  exact ⟨rfl, (below_alloc _ _).alloc (by simp) _⟩

set_option maxHeartbeats 400000 in
theorem eqBlobS_same (u v : Value) (l : List (ByteArray × Int)) (w : World) (hu : PL w u l) (hv : PL w v l) (hn : l.length ≤ 1048576) :
    Calls Try.prog 77 #[u, v] w fun e w' => e = .returned (.bool true) ∧ Below w.heap.size w w' := by
  obtain ⟨a, cap, rfl, hc⟩ := hu
  obtain ⟨a', cap', rfl, hc'⟩ := hv
  go_enter Try.func77, Try.ntmps77
  go_wp2
  go_loopw [5] (fun i wr => ∃ k : Nat, k ≤ l.length ∧ i = .int .i64 k ∧ Below w.heap.size w wr) (fun i _ => l.length - (intOf i).toNat)
  case atStart => exact ⟨0, Nat.zero_le _, rfl, Below.refl _ _⟩
  case round =>
    obtain ⟨k, hk, rfl, hb⟩ := hrel
    by_cases hlt : k < l.length
    · obtain ⟨b, off, rfl, hbl, hcell⟩ := hc (by intro e; simp [e] at hlt)
      obtain ⟨b', off', rfl, hbl', hcell'⟩ := hc' (by intro e; simp [e] at hlt)
      obtain ⟨s, hse⟩ : ∃ s, s = l[k].1 := ⟨_, rfl⟩
      obtain ⟨m, hme⟩ : ∃ m, m = l[k].2 := ⟨_, rfl⟩
      have hc0 : wr.cell? ⟨b, off + k * 2, none⟩ = some (.string s) := by rw [hse]; exact (hb.cell (p := ⟨b, off + k * 2, none⟩) hbl).trans (hcell k hlt).1
      have hc1 : wr.cell? ⟨b, off + k * 2 + 1, none⟩ = some (.int .i64 m) := by rw [hme]; exact (hb.cell (p := ⟨b, off + k * 2 + 1, none⟩) hbl).trans (hcell k hlt).2
      have hd0 : wr.cell? ⟨b', off' + k * 2, none⟩ = some (.string s) := by rw [hse]; exact (hb.cell (p := ⟨b', off' + k * 2, none⟩) hbl').trans (hcell' k hlt).1
      have hd1 : wr.cell? ⟨b', off' + k * 2 + 1, none⟩ = some (.int .i64 m) := by rw [hme]; exact (hb.cell (p := ⟨b', off' + k * 2 + 1, none⟩) hbl').trans (hcell' k hlt).2
      clear hcell hse hme hc hcell' hc'
      have hz := hb.size
      go_wp2_with fail
      go_region_with (go_at_call 124; refine (eqBlob_same _ _ _).mono ?_; rintro e w1 ⟨rfl, hb1⟩)
      all_goals
        go_wp2
        go_roundw
        case rel => exact ⟨k + 1, by omega, by go_num, hb.drew.trans (hb1.mono hz)⟩
        case measure => simp [intOf]; omega
    · go_wp2
      go_ret
      exact ⟨rfl, hb⟩

set_option maxHeartbeats 400000 in
theorem eqNameS_same (u v : Value) (l : List (ByteArray × Int)) (w : World) (hu : PL w u l) (hv : PL w v l) (hn : l.length ≤ 1048576) :
    Calls Try.prog 78 #[u, v] w fun e w' => e = .returned (.bool true) ∧ Below w.heap.size w w' := by
  obtain ⟨a, cap, rfl, hc⟩ := hu
  obtain ⟨a', cap', rfl, hc'⟩ := hv
  go_enter Try.func78, Try.ntmps78
  go_wp2
  go_loopw [5] (fun i wr => ∃ k : Nat, k ≤ l.length ∧ i = .int .i64 k ∧ Below w.heap.size w wr) (fun i _ => l.length - (intOf i).toNat)
  case atStart => exact ⟨0, Nat.zero_le _, rfl, Below.refl _ _⟩
  case round =>
    obtain ⟨k, hk, rfl, hb⟩ := hrel
    by_cases hlt : k < l.length
    · obtain ⟨b, off, rfl, hbl, hcell⟩ := hc (by intro e; simp [e] at hlt)
      obtain ⟨b', off', rfl, hbl', hcell'⟩ := hc' (by intro e; simp [e] at hlt)
      obtain ⟨s, hse⟩ : ∃ s, s = l[k].1 := ⟨_, rfl⟩
      obtain ⟨m, hme⟩ : ∃ m, m = l[k].2 := ⟨_, rfl⟩
      have hc0 : wr.cell? ⟨b, off + k * 2, none⟩ = some (.string s) := by rw [hse]; exact (hb.cell (p := ⟨b, off + k * 2, none⟩) hbl).trans (hcell k hlt).1
      have hc1 : wr.cell? ⟨b, off + k * 2 + 1, none⟩ = some (.int .i64 m) := by rw [hme]; exact (hb.cell (p := ⟨b, off + k * 2 + 1, none⟩) hbl).trans (hcell k hlt).2
      have hd0 : wr.cell? ⟨b', off' + k * 2, none⟩ = some (.string s) := by rw [hse]; exact (hb.cell (p := ⟨b', off' + k * 2, none⟩) hbl').trans (hcell' k hlt).1
      have hd1 : wr.cell? ⟨b', off' + k * 2 + 1, none⟩ = some (.int .i64 m) := by rw [hme]; exact (hb.cell (p := ⟨b', off' + k * 2 + 1, none⟩) hbl').trans (hcell' k hlt).2
      clear hcell hse hme hc hcell' hc'
      have hz := hb.size
      go_wp2_with fail
      go_region_with (go_at_call 125; refine (eqName_same _ _ _).mono ?_; rintro e w1 ⟨rfl, hb1⟩)
      all_goals
        go_wp2
        go_roundw
        case rel => exact ⟨k + 1, by omega, by go_num, hb.drew.trans (hb1.mono hz)⟩
        case measure => simp [intOf]; omega
    · go_wp2
      go_ret
      exact ⟨rfl, hb⟩

set_option maxHeartbeats 1000000 in
theorem eqDisk_same (u1 u2 u3 v1 v2 v3 : Value) (bl lv sf : List (ByteArray × Int)) (r : Int) (w : World) (hu1 : PL w u1 bl) (hv1 : PL w v1 bl) (hu2 : PL w u2 lv) (hv2 : PL w v2 lv) (hu3 : PL w u3 sf) (hv3 : PL w v3 sf)
    (hn1 : bl.length ≤ 1048576) (hn2 : lv.length ≤ 1048576) (hn3 : sf.length ≤ 1048576) :
    Calls Try.prog 31 #[.agg #[u1, u2, u3, .int .i64 r], .agg #[v1, v2, v3, .int .i64 r]] w fun e w' => e = .returned (.bool true) ∧ Below w.heap.size w w' := by
  go_enter Try.func31, Try.ntmps31
  go_wp2_with fail
  refine (eqBlobS_same _ _ bl _ ((hu1.alloc _).alloc _) ((hv1.alloc _).alloc _) hn1).mono ?_
  rintro e w1 ⟨rfl, hb1⟩
  have hB1 := below_then (below2 _ _ _) hb1
  have X1 := ((Box.new w #[u1, u2, u3, .int .i64 r] 26).alloc (.cells #[v1, v2, v3, .int .i64 r] 26)).below hb1
  have Y1 := (Box.new (w.alloc (.cells #[u1, u2, u3, .int .i64 r] 26)) #[v1, v2, v3, .int .i64 r] 26).below hb1
  simp only [World.size_alloc] at Y1
  clear hb1
  obtain ⟨_, p0, p1, p2, p3⟩ := X1.c4
  obtain ⟨_, q0, q1, q2, q3⟩ := Y1.c4
  go_wp2_with fail
  refine (eqNameS_same _ _ lv _ (hu2.below hB1) (hv2.below hB1) hn2).mono ?_
  rintro e w2 ⟨rfl, hb2⟩
  have hB2 := below_then hB1 hb2
  have X2 := X1.below hb2
  have Y2 := Y1.below hb2
  clear p0 p1 p2 p3 q0 q1 q2 q3 X1 Y1 hb2
  obtain ⟨_, p0, p1, p2, p3⟩ := X2.c4
  obtain ⟨_, q0, q1, q2, q3⟩ := Y2.c4
  go_wp2_with fail
  refine (eqNameS_same _ _ sf _ (hu3.below hB2) (hv3.below hB2) hn3).mono ?_
  rintro e w3 ⟨rfl, hb3⟩
  have hB3 := below_then hB2 hb3
  have X3 := X2.below hb3
  have Y3 := Y2.below hb3
  clear p0 p1 p2 p3 q0 q1 q2 q3 X2 Y2 hb3
  obtain ⟨_, p0, p1, p2, p3⟩ := X3.c4
  obtain ⟨_, q0, q1, q2, q3⟩ := Y3.c4
  go_wp2
  go_ret
  exact ⟨rfl, hB3⟩

end Go.Proofs.Ytbgemebpfcbloaa
