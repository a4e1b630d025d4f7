/-
  eqBlobS, eqNameS, eqDisk on alike lists.
-/
import Derived.Test.YtoiajjlbajdknaaG2
import Derived.Deep.RegionWith
import Derived.Deep.DeepCutAuto
namespace Go.Proofs.Ytoiajjlbajdknaa
open Go.RowKit

set_option maxHeartbeats 400000 in
theorem eqBlob_same (s : ByteArray) (m : Int) (w : World) :
    Calls Try.prog 72 #[.agg #[.string s, .int .i64 m], .agg #[.string s, .int .i64 m]] w fun e w' => e = .returned (.bool true) ∧ Below w.heap.size w w' := by
  go_enter Try.func72, Try.ntmps72
  go_wp2
  go_ret
  exact ⟨rfl, (below_alloc _ _).alloc (by simp) _⟩

set_option maxHeartbeats 400000 in
theorem eqName_same (s : ByteArray) (m : Int) (w : World) :
    Calls Try.prog 73 #[.agg #[.string s, .int .i64 m], .agg #[.string s, .int .i64 m]] w fun e w' => e = .returned (.bool true) ∧ Below w.heap.size w w' := by
  go_enter Try.func73, Try.ntmps73
  go_wp2
  go_ret
  exact ⟨rfl, (below_alloc _ _).alloc (by simp) _⟩

set_option maxHeartbeats 400000 in
theorem eqBlobS_same (u v : Value) (l : List (ByteArray × Int)) (w : World) (hu : PL w u l) (hv : PL w v l) (hn : l.length ≤ 1048576) :
    Calls Try.prog 45 #[u, v] w fun e w' => e = .returned (.bool true) ∧ Below w.heap.size w w' := by
  obtain ⟨a, cap, rfl, hc⟩ := hu
  obtain ⟨a', cap', rfl, hc'⟩ := hv
  go_enter Try.func45, Try.ntmps45
  go_wp2
  go_loopw [5] (fun i wr => ∃ k : Nat, k ≤ l.length ∧ i = .int .i64 k ∧ Below w.heap.size w wr) (fun i _ => l.length - (intOf i).toNat)
  case atStart => exact ⟨0, Nat.zero_le _, rfl, Below.refl _ _⟩
  case round =>
    obtain ⟨k, hk, rfl, hb⟩ := hrel
    by_cases hlt : k < l.length
    · obtain ⟨b, off, rfl, hbl, hcell⟩ := hc (by intro e; simp [e] at hlt)
      obtain ⟨b', off', rfl, hbl', hcell'⟩ := hc' (by intro e; simp [e] at hlt)
      obtain ⟨s, hse⟩ : ∃ s, s = l[k].1 := ⟨_, rfl⟩
      obtain ⟨m, hme⟩ : ∃ m, m = l[k].2 := ⟨_, rfl⟩
      have hc0 : wr.cell? ⟨b, off + k * 2, none⟩ = some (.string s) := by rw [hse]; exact (hb.cell (p := ⟨b, off + k * 2, none⟩) hbl).trans (hcell k hlt).1
      have hc1 : wr.cell? ⟨b, off + k * 2 + 1, none⟩ = some (.int .i64 m) := by rw [hme]; exact (hb.cell (p := ⟨b, off + k * 2 + 1, none⟩) hbl).trans (hcell k hlt).2
      have hd0 : wr.cell? ⟨b', off' + k * 2, none⟩ = some (.string s) := by rw [hse]; exact (hb.cell (p := ⟨b', off' + k * 2, none⟩) hbl').trans (hcell' k hlt).1
      have hd1 : wr.cell? ⟨b', off' + k * 2 + 1, none⟩ = some (.int .i64 m) := by rw [hme]; exact (hb.cell (p := ⟨b', off' + k * 2 + 1, none⟩) hbl').trans (hcell' k hlt).2
      clear hcell hse hme hc hcell' hc'
      have hz := hb.size
      go_wp2_with fail
      go_region_with (go_at_call 72; refine (eqBlob_same _ _ _).mono ?_; rintro e w1 ⟨rfl, hb1⟩)
      all_goals
        go_wp2
        go_roundw
        case rel => exact ⟨k + 1, by omega, by go_num, hb.drew.trans (hb1.mono hz)⟩
        case measure => simp [intOf]; omega
    · go_wp2
      go_ret
      exact ⟨rfl, hb⟩

set_option maxHeartbeats 400000 in
theorem eqNameS_same (u v : Value) (l : List (ByteArray × Int)) (w : World) (hu : PL w u l) (hv : PL w v l) (hn : l.length ≤ 1048576) :
    Calls Try.prog 46 #[u, v] w fun e w' => e = .returned (.bool true) ∧ Below w.heap.size w w' := by
  obtain ⟨a, cap, rfl, hc⟩ := hu
  obtain ⟨a', cap', rfl, hc'⟩ := hv
  go_enter Try.func46, Try.ntmps46
  go_wp2
  go_loopw [5] (fun i wr => ∃ k : Nat, k ≤ l.length ∧ i = .int .i64 k ∧ Below w.heap.size w wr) (fun i _ => l.length - (intOf i).toNat)
  case atStart => exact ⟨0, Nat.zero_le _, rfl, Below.refl _ _⟩
  case round =>
    obtain ⟨k, hk, rfl, hb⟩ := hrel
    by_cases hlt : k < l.length
    · obtain ⟨b, off, rfl, hbl, hcell⟩ := hc (by intro e; simp [e] at hlt)
      obtain ⟨b', off', rfl, hbl', hcell'⟩ := hc' (by intro e; simp [e] at hlt)
      obtain ⟨s, hse⟩ : ∃ s, s = l[k].1 := ⟨_, rfl⟩
      obtain ⟨m, hme⟩ : ∃ m, m = l[k].2 := ⟨_, rfl⟩
      have hc0 : wr.cell? ⟨b, off + k * 2, none⟩ = some (.string s) := by rw [hse]; exact (hb.cell (p := ⟨b, off + k * 2, none⟩) hbl).trans (hcell k hlt).1
      have hc1 : wr.cell? ⟨b, off + k * 2 + 1, none⟩ = some (.int .i64 m) := by rw [hme]; exact (hb.cell (p := ⟨b, off + k * 2 + 1, none⟩) hbl).trans (hcell k hlt).2
      have hd0 : wr.cell? ⟨b', off' + k * 2, none⟩ = some (.string s) := by rw [hse]; exact (hb.cell (p := ⟨b', off' + k * 2, none⟩) hbl').trans (hcell' k hlt).1
      have hd1 : wr.cell? ⟨b', off' + k * 2 + 1, none⟩ = some (.int .i64 m) := by rw [hme]; exact (hb.cell (p := ⟨b', off' + k * 2 + 1, none⟩) hbl').trans (hcell' k hlt).2
      clear hcell hse hme hc hcell' hc'
      have hz := hb.size
      go_wp2_with fail
      go_region_with (go_at_call 73; refine (eqName_same _ _ _).mono ?_; rintro e w1 ⟨rfl, hb1⟩)
      all_goals
        go_wp2
        go_roundw
        case rel => exact ⟨k + 1, by omega, by go_num, hb.drew.trans (hb1.mono hz)⟩
        case measure => simp [intOf]; omega
    · go_wp2
      go_ret
      exact ⟨rfl, hb⟩

set_option maxHeartbeats 1000000 in
theorem eqDisk_same (u1 u2 u3 v1 v2 v3 : Value) (bl lv sf : List (ByteArray × Int)) (r : Int) (w : World) (hu1 : PL w u1 bl) (hv1 : PL w v1 bl) (hu2 : PL w u2 lv) (hv2 : PL w v2 lv) (hu3 : PL w u3 sf) (hv3 : PL w v3 sf)
    (hn1 : bl.length ≤ 1048576) (hn2 : lv.length ≤ 1048576) (hn3 : sf.length ≤ 1048576) :
    Calls Try.prog 13 #[.agg #[u1, u2, u3, .int .i64 r], .agg #[v1, v2, v3, .int .i64 r]] w fun e w' => e = .returned (.bool true) ∧ Below w.heap.size w w' := by
  go_enter Try.func13, Try.ntmps13
  go_wp2_with fail
  refine (eqBlobS_same _ _ bl _ ((hu1.alloc _).alloc _) ((hv1.alloc _).alloc _) hn1).mono ?_
  rintro e w1 ⟨rfl, hb1⟩
  have hB1 := below_then (below2 _ _ _) hb1
  have X1 := ((Box.new w #[u1, u2, u3, .int .i64 r] 25).alloc (.cells #[v1, v2, v3, .int .i64 r] 25)).below hb1
  have Y1 := (Box.new (w.alloc (.cells #[u1, u2, u3, .int .i64 r] 25)) #[v1, v2, v3, .int .i64 r] 25).below hb1
  simp only [World.size_alloc] at Y1
  clear hb1
  obtain ⟨_, p0, p1, p2, p3⟩ := X1.c4
  obtain ⟨_, q0, q1, q2, q3⟩ := Y1.c4
  go_wp2_with fail
  refine (eqNameS_same _ _ lv _ (hu2.below hB1) (hv2.below hB1) hn2).mono ?_
  rintro e w2 ⟨rfl, hb2⟩
  have hB2 := below_then hB1 hb2
  have X2 := X1.below hb2
  have Y2 := Y1.below hb2
  clear p0 p1 p2 p3 q0 q1 q2 q3 X1 Y1 hb2
  obtain ⟨_, p0, p1, p2, p3⟩ := X2.c4
  obtain ⟨_, q0, q1, q2, q3⟩ := Y2.c4
  go_wp2_with fail
  refine (eqNameS_same _ _ sf _ (hu3.below hB2) (hv3.below hB2) hn3).mono ?_
  rintro e w3 ⟨rfl, hb3⟩
  have hB3 := below_then hB2 hb3
  have X3 := X2.below hb3
  have Y3 := Y2.below hb3
  clear p0 p1 p2 p3 q0 q1 q2 q3 X2 Y2 hb3
  obtain ⟨_, p0, p1, p2, p3⟩ := X3.c4
  obtain ⟨_, q0, q1, q2, q3⟩ := Y3.c4
  go_wp2
  go_ret
  exact ⟨rfl, hB3⟩

end Go.Proofs.Ytoiajjlbajdknaa
