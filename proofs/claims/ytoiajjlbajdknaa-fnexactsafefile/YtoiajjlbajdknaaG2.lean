/-
  toBlobS, toNameS: new rows with the same pairs.
-/
import Derived.Test.YtoiajjlbajdknaaG1
import Derived.Deep.RegionWith
namespace Go.Proofs.Ytoiajjlbajdknaa
open Go.RowKit

theorem Try.info77 : (Try.prog.info? 77).map (fun i => (i.zero, i.size, i.bytes)) = some (some (.agg #[.string ⟨#[]⟩, .int .i64 0]), 2, 24) := by kernel_rfl
theorem Try.info93 : (Try.prog.info? 93).map (fun i => (i.zero, i.size, i.bytes)) = some (some (.agg #[.string ⟨#[]⟩, .int .i64 0]), 2, 24) := by kernel_rfl

set_option maxHeartbeats 400000 in
theorem toBlobS_any (v : Value) (l : List (ByteArray × Int)) (w : World) (hv : PL w v l) (hn : l.length ≤ 1048576) :
    Calls Try.prog 55 #[v] w fun e w' => e = .returned (.slice (some ⟨w.heap.size, 0, none⟩) l.length l.length) ∧ w'.ownsRow w.heap.size 77 2 (.slice (some ⟨w.heap.size, 0, none⟩) l.length l.length) l.length (flat l) ∧ Below w.heap.size w w' := by
  obtain ⟨a, cap, rfl, hc⟩ := hv
  obtain ⟨i0, hi, hz0, hz1, hz2⟩ := info_parts Try.info77
  go_enter Try.func55, Try.ntmps55
  go_wp2_with (at_make; refine wpList_make_full _ rfl _ _ 22 rfl w.heap.size 77 i0 _ 2 Try.underlying22 hi hz0 hz1 .i64 .i64 _ _ l.length rfl rfl rfl rfl (by rw [hz2]; omega) (by unfold maxLen; omega) (Nat.le_refl _) ?_; intro w0 hown0 hgr0)
  rw [flat_zeros, ← part_zero] at hown0
  have hb0 : Below w.heap.size w w0 := (Below.refl _ _).grown hgr0 (Nat.le_refl _) (by simp)
  have hlt0 : w.heap.size < w0.heap.size := (owns_lt hown0).2
  clear hgr0 hi hz0 hz1 hz2
  go_loopw [4] (fun i wr => ∃ k : Nat, k ≤ l.length ∧ i = .int .i64 k ∧ wr.ownsRow w.heap.size 77 2 (.slice (some ⟨w.heap.size, 0, none⟩) l.length l.length) l.length (flat (part l k)) ∧ Below w.heap.size w wr ∧ w.heap.size < wr.heap.size) (fun i _ => l.length - (intOf i).toNat)
  case atStart => exact ⟨0, Nat.zero_le _, rfl, hown0, hb0, hlt0⟩
  case round =>
    obtain ⟨k, hk, rfl, hown, hb, hlt1⟩ := hrel
    clear hown0 hb0 hlt0
    by_cases hlt : k < l.length
    · obtain ⟨b, off, rfl, hbl, hcell⟩ := hc (by intro e; simp [e] at hlt)
      obtain ⟨s, hse⟩ : ∃ s, s = l[k].1 := ⟨_, rfl⟩
      obtain ⟨m, hme⟩ : ∃ m, m = l[k].2 := ⟨_, rfl⟩
      have hc0 : wr.cell? ⟨b, off + k * 2, none⟩ = some (.string s) := by rw [hse]; exact (hb.cell (p := ⟨b, off + k * 2, none⟩) hbl).trans (hcell k hlt).1
      have hc1 : wr.cell? ⟨b, off + k * 2 + 1, none⟩ = some (.int .i64 m) := by rw [hme]; exact (hb.cell (p := ⟨b, off + k * 2 + 1, none⟩) hbl).trans (hcell k hlt).2
      have HS : Hid ((part l k).set k (s, m) = part l (k + 1)) := by rw [hse, hme]; exact part_set l k hlt
      have HP : Hid ((part l k).length = l.length) := part_length l k hk
      clear hcell hse hme hc
      have hz := hb.size
      go_wp2_with fail
      refine (toBlob_any _ _ _).mono ?_
      rintro e w1 ⟨rfl, hb1⟩
      have hown1 := owns_below hown hb1
      obtain ⟨d0, d1, f0, f1⟩ := owns_at hown1 k hlt (by rw [HP.out]; omega)
      have hz1 := hb1.size
      go_wp2
      go_roundw
      case rel =>
        refine ⟨k + 1, by omega, by go_num, ?_, ?_, ?_⟩
        · rw [← HS.out]; exact owns_set hown1 k s m
        · exact ((hb.trans (hb1.mono hz)).setCell (by simp) _).setCell (by simp) _
        · simp; omega
      case measure => simp [intOf]; omega
    · go_wp2
      go_ret
      have : k = l.length := by omega
      subst this
      rw [part_all] at hown
      exact ⟨rfl, hown, hb⟩

set_option maxHeartbeats 400000 in
theorem toNameS_any (v : Value) (l : List (ByteArray × Int)) (w : World) (hv : PL w v l) (hn : l.length ≤ 1048576) :
    Calls Try.prog 56 #[v] w fun e w' => e = .returned (.slice (some ⟨w.heap.size, 0, none⟩) l.length l.length) ∧ w'.ownsRow w.heap.size 93 2 (.slice (some ⟨w.heap.size, 0, none⟩) l.length l.length) l.length (flat l) ∧ Below w.heap.size w w' := by
  obtain ⟨a, cap, rfl, hc⟩ := hv
  obtain ⟨i0, hi, hz0, hz1, hz2⟩ := info_parts Try.info93
  go_enter Try.func56, Try.ntmps56
  go_wp2_with (at_make; refine wpList_make_full _ rfl _ _ 23 rfl w.heap.size 93 i0 _ 2 Try.underlying23 hi hz0 hz1 .i64 .i64 _ _ l.length rfl rfl rfl rfl (by rw [hz2]; omega) (by unfold maxLen; omega) (Nat.le_refl _) ?_; intro w0 hown0 hgr0)
  rw [flat_zeros, ← part_zero] at hown0
  have hb0 : Below w.heap.size w w0 := (Below.refl _ _).grown hgr0 (Nat.le_refl _) (by simp)
  have hlt0 : w.heap.size < w0.heap.size := (owns_lt hown0).2
  clear hgr0 hi hz0 hz1 hz2
  go_loopw [4] (fun i wr => ∃ k : Nat, k ≤ l.length ∧ i = .int .i64 k ∧ wr.ownsRow w.heap.size 93 2 (.slice (some ⟨w.heap.size, 0, none⟩) l.length l.length) l.length (flat (part l k)) ∧ Below w.heap.size w wr ∧ w.heap.size < wr.heap.size) (fun i _ => l.length - (intOf i).toNat)
  case atStart => exact ⟨0, Nat.zero_le _, rfl, hown0, hb0, hlt0⟩
  case round =>
    obtain ⟨k, hk, rfl, hown, hb, hlt1⟩ := hrel
    clear hown0 hb0 hlt0
    by_cases hlt : k < l.length
    · obtain ⟨b, off, rfl, hbl, hcell⟩ := hc (by intro e; simp [e] at hlt)
      obtain ⟨s, hse⟩ : ∃ s, s = l[k].1 := ⟨_, rfl⟩
      obtain ⟨m, hme⟩ : ∃ m, m = l[k].2 := ⟨_, rfl⟩
      have hc0 : wr.cell? ⟨b, off + k * 2, none⟩ = some (.string s) := by rw [hse]; exact (hb.cell (p := ⟨b, off + k * 2, none⟩) hbl).trans (hcell k hlt).1
      have hc1 : wr.cell? ⟨b, off + k * 2 + 1, none⟩ = some (.int .i64 m) := by rw [hme]; exact (hb.cell (p := ⟨b, off + k * 2 + 1, none⟩) hbl).trans (hcell k hlt).2
      have HS : Hid ((part l k).set k (s, m) = part l (k + 1)) := by rw [hse, hme]; exact part_set l k hlt
      have HP : Hid ((part l k).length = l.length) := part_length l k hk
      clear hcell hse hme hc
      have hz := hb.size
      go_wp2_with fail
      refine (toName_any _ _ _).mono ?_
      rintro e w1 ⟨rfl, hb1⟩
      have hown1 := owns_below hown hb1
      obtain ⟨d0, d1, f0, f1⟩ := owns_at hown1 k hlt (by rw [HP.out]; omega)
      have hz1 := hb1.size
      go_wp2
      go_roundw
      case rel =>
        refine ⟨k + 1, by omega, by go_num, ?_, ?_, ?_⟩
        · rw [← HS.out]; exact owns_set hown1 k s m
        · exact ((hb.trans (hb1.mono hz)).setCell (by simp) _).setCell (by simp) _
        · simp; omega
      case measure => simp [intOf]; omega
    · go_wp2
      go_ret
      have : k = l.length := by omega
      subst this
      rw [part_all] at hown
      exact ⟨rfl, hown, hb⟩

theorem toBlobS_ex (v : Value) (l : List (ByteArray × Int)) (w : World) (hv : PL w v l) (hn : l.length ≤ 1048576) :
    Calls Try.prog 55 #[v] w fun e w' => ∃ g : Nat, w.heap.size ≤ g ∧ e = .returned (.slice (some ⟨g, 0, none⟩) l.length l.length) ∧ w'.ownsRow g 77 2 (.slice (some ⟨g, 0, none⟩) l.length l.length) l.length (flat l) ∧ Below w.heap.size w w' :=
  (toBlobS_any v l w hv hn).mono fun _ _ ⟨he, ho, hb⟩ => ⟨_, Nat.le_refl _, he, ho, hb⟩

theorem toNameS_ex (v : Value) (l : List (ByteArray × Int)) (w : World) (hv : PL w v l) (hn : l.length ≤ 1048576) :
    Calls Try.prog 56 #[v] w fun e w' => ∃ g : Nat, w.heap.size ≤ g ∧ e = .returned (.slice (some ⟨g, 0, none⟩) l.length l.length) ∧ w'.ownsRow g 93 2 (.slice (some ⟨g, 0, none⟩) l.length l.length) l.length (flat l) ∧ Below w.heap.size w w' :=
  (toNameS_any v l w hv hn).mono fun _ _ ⟨he, ho, hb⟩ => ⟨_, Nat.le_refl _, he, ho, hb⟩

end Go.Proofs.Ytoiajjlbajdknaa
