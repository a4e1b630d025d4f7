/-
  spec.GoodDisk.
-/
import Derived.Test.YtbgemebpfcbloaaG10
namespace Go.Proofs.Ytbgemebpfcbloaa
open Go.RowKit
set_option maxRecDepth 100000
set_option linter.unusedVariables false

set_option maxHeartbeats 4000000 in
theorem specGood_60 (a1 : Option Addr) (c1 : Nat) (bl : List (ByteArray × Int)) (v2 v3 : Value) (r : Int) (u : Int) (w : World) (hc : bl ≠ [] → ∃ b off, a1 = some ⟨b, off, none⟩ ∧ b < w.heap.size ∧ ∀ i (h : i < bl.length), w.cell? ⟨b, off + i * 2, none⟩ = some (.string bl[i].1) ∧ w.cell? ⟨b, off + i * 2 + 1, none⟩ = some (.int .i64 bl[i].2)) (hn : bl.length ≤ 1048576) (hs : ∀ i (h : i < bl.length), bl[i].1.size ≤ 1048576) (h60 : (60 : Int) < bl.length) :
    Calls Try.prog 13 #[.agg #[.slice a1 bl.length c1, v2, v3, .int .i64 r]] w fun e w' => e = .returned (.bool (okBs bl && false)) ∧ Below w.heap.size w w' := by
  have hd0 : decide ((bl.length : Int) ≤ 60) = false := by simp; omega
  have X : ∀ x : WC (w.heap.size + 1) (w.alloc (.cells #[.slice a1 bl.length c1, v2, v3, .int .i64 r] 26)), Box x.w w.heap.size [.slice a1 bl.length c1, v2, v3, .int .i64 r] := fun x => (Box.new w #[.slice a1 bl.length c1, v2, v3, .int .i64 r] 26).below (by simpa using x.ok)
  have p0 := fun x => (X x).2.1 0 _ rfl
  have p1 := fun x => (X x).2.1 1 _ rfl
  have p2 := fun x => (X x).2.1 2 _ rfl
  have p3 := fun x => (X x).2.1 3 _ rfl
  have hne : Nonempty (WC (w.heap.size + 1) (w.alloc (.cells #[.slice a1 bl.length c1, v2, v3, .int .i64 r] 26))) := ⟨⟨_, Below.refl _ _⟩⟩
  go_enter Try.func13, Try.ntmps13
  go_wp2
  go_loopw [8] (fun i wr => ∃ k : Nat, k ≤ bl.length ∧ i = .int .i64 k ∧ okBs (bl.take k) = true ∧ Below (w.heap.size + 1) (w.alloc (.cells #[.slice a1 bl.length c1, v2, v3, .int .i64 r] 26)) wr) (fun i _ => bl.length - (intOf i).toNat)
  case atStart => exact ⟨0, Nat.zero_le _, rfl, by simp [okBs], Below.refl _ _⟩
  case round =>
    obtain ⟨k, hk, rfl, hok, hb⟩ := hrel
    have HO : Hid (okBs (bl.take k) = true) := hok
    clear hok
    have hz := hb.size
    simp only [World.size_alloc] at hz
    have hb' : Below w.heap.size w wr := (below_alloc _ _).trans (hb.mono (by omega))
    by_cases hlt : k < bl.length
    · clear p0 p1 p2 p3
      obtain ⟨b, off, rfl, hbl, hcell⟩ := hc (by intro e; simp [e] at hlt)
      obtain ⟨s, hse⟩ : ∃ s, s = bl[k].1 := ⟨_, rfl⟩
      obtain ⟨m, hme⟩ : ∃ m, m = bl[k].2 := ⟨_, rfl⟩
      have hc0 : wr.cell? ⟨b, off + k * 2, none⟩ = some (.string s) := by rw [hse]; exact (hb'.cell (p := ⟨b, off + k * 2, none⟩) hbl).trans (hcell k hlt).1
      have hc1 : wr.cell? ⟨b, off + k * 2 + 1, none⟩ = some (.int .i64 m) := by rw [hme]; exact (hb'.cell (p := ⟨b, off + k * 2 + 1, none⟩) hbl).trans (hcell k hlt).2
      have hss : s.size ≤ 1048576 := by rw [hse]; exact hs k hlt
      have HE : Hid (okB bl[k] = (decide ((s.size : Int) ≤ 4000) && (decide (0 ≤ m) && decide (m ≤ s.size)))) := by rw [hse, hme]; rfl
      clear hcell hs hse hme hc X
      by_cases h1 : (s.size : Int) ≤ 4000
      · cases h2 : (decide (0 ≤ m) && decide (m ≤ (s.size : Int))) with
        | true =>
          go_wp2_with fail
          refine (l1In_any _ _ _ _).mono ?_
          rintro e w1 ⟨rfl, rfl⟩
          go_wp2
          go_roundw
          case rel => exact ⟨k + 1, by omega, by go_num, by rw [okBs_succ bl k hlt, HO.out, HE.out, h2]; simp [h1], hb.alloc (by omega) _⟩
          case measure => simp [intOf]; omega
        | false =>
          have HF : Hid (okBs bl = false) := okBs_false bl k hlt (by rw [HE.out, h2]; simp)
          go_wp2_with fail
          refine (l1In_any _ _ _ _).mono ?_
          rintro e w1 ⟨rfl, rfl⟩
          go_wp2
          go_ret
          exact ⟨ret_bool (by first | rfl | (rw [HF.out]; rfl) | rw [HF.out]), hb'.alloc (by omega) _⟩
      · have HF : Hid (okBs bl = false) := okBs_false bl k hlt (by rw [HE.out]; simp; omega)
        go_wp2
        go_ret
        exact ⟨ret_bool (by first | rfl | (rw [HF.out]; rfl) | rw [HF.out]), hb'.alloc (by omega) _⟩
    · have : k = bl.length := by omega
      subst this
      have HF : Hid (okBs bl = true) := by have := HO.out; rwa [List.take_length] at this
      go_wp2_with fail
      refine wp_region_calm (B := w.heap.size + 1) (W := (w.alloc (.cells #[.slice a1 bl.length c1, v2, v3, .int .i64 r] 26))) (by kernel_rfl) (by kernel_rfl) hb ?_
      repeat (go_big_quiet_step (fail))
      refine wpQuiet_nil ?_
      intro _ hw'
      obtain ⟨x, hx⟩ := hw'
      subst hx
      go_wp2
      go_ret
      exact ⟨ret_bool (by first | rfl | (rw [HF.out]; rfl) | rw [HF.out]), (below_alloc _ _).trans (x.ok.mono (by omega))⟩

set_option maxHeartbeats 4000000 in
theorem specGood_l (a1 : Option Addr) (c1 : Nat) (bl : List (ByteArray × Int)) (v2 v3 : Value) (r : Int) (u : Int) (w : World) (hc : bl ≠ [] → ∃ b off, a1 = some ⟨b, off, none⟩ ∧ b < w.heap.size ∧ ∀ i (h : i < bl.length), w.cell? ⟨b, off + i * 2, none⟩ = some (.string bl[i].1) ∧ w.cell? ⟨b, off + i * 2 + 1, none⟩ = some (.int .i64 bl[i].2)) (hn : bl.length ≤ 1048576) (hs : ∀ i (h : i < bl.length), bl[i].1.size ≤ 1048576) (h60 : (bl.length : Int) ≤ 60) (K2 : KC w (w.alloc (.cells #[.slice a1 bl.length c1, v2, v3, .int .i64 r] 26)) 59 #[v2, .int .i64 bl.length] (.bool false)) :
    Calls Try.prog 13 #[.agg #[.slice a1 bl.length c1, v2, v3, .int .i64 r]] w fun e w' => e = .returned (.bool (okBs bl && false)) ∧ Below w.heap.size w w' := by
  have hd0 : decide ((bl.length : Int) ≤ 60) = true := by simp [h60]
  have X : ∀ x : WC (w.heap.size + 1) (w.alloc (.cells #[.slice a1 bl.length c1, v2, v3, .int .i64 r] 26)), Box x.w w.heap.size [.slice a1 bl.length c1, v2, v3, .int .i64 r] := fun x => (Box.new w #[.slice a1 bl.length c1, v2, v3, .int .i64 r] 26).below (by simpa using x.ok)
  have p0 := fun x => (X x).2.1 0 _ rfl
  have p1 := fun x => (X x).2.1 1 _ rfl
  have p2 := fun x => (X x).2.1 2 _ rfl
  have p3 := fun x => (X x).2.1 3 _ rfl
  have hne : Nonempty (WC (w.heap.size + 1) (w.alloc (.cells #[.slice a1 bl.length c1, v2, v3, .int .i64 r] 26))) := ⟨⟨_, Below.refl _ _⟩⟩
  go_enter Try.func13, Try.ntmps13
  go_wp2
  go_loopw [8] (fun i wr => ∃ k : Nat, k ≤ bl.length ∧ i = .int .i64 k ∧ okBs (bl.take k) = true ∧ Below (w.heap.size + 1) (w.alloc (.cells #[.slice a1 bl.length c1, v2, v3, .int .i64 r] 26)) wr) (fun i _ => bl.length - (intOf i).toNat)
  case atStart => exact ⟨0, Nat.zero_le _, rfl, by simp [okBs], Below.refl _ _⟩
  case round =>
    obtain ⟨k, hk, rfl, hok, hb⟩ := hrel
    have HO : Hid (okBs (bl.take k) = true) := hok
    clear hok
    have hz := hb.size
    simp only [World.size_alloc] at hz
    have hb' : Below w.heap.size w wr := (below_alloc _ _).trans (hb.mono (by omega))
    by_cases hlt : k < bl.length
    · clear p0 p1 p2 p3
      obtain ⟨b, off, rfl, hbl, hcell⟩ := hc (by intro e; simp [e] at hlt)
      obtain ⟨s, hse⟩ : ∃ s, s = bl[k].1 := ⟨_, rfl⟩
      obtain ⟨m, hme⟩ : ∃ m, m = bl[k].2 := ⟨_, rfl⟩
      have hc0 : wr.cell? ⟨b, off + k * 2, none⟩ = some (.string s) := by rw [hse]; exact (hb'.cell (p := ⟨b, off + k * 2, none⟩) hbl).trans (hcell k hlt).1
      have hc1 : wr.cell? ⟨b, off + k * 2 + 1, none⟩ = some (.int .i64 m) := by rw [hme]; exact (hb'.cell (p := ⟨b, off + k * 2 + 1, none⟩) hbl).trans (hcell k hlt).2
      have hss : s.size ≤ 1048576 := by rw [hse]; exact hs k hlt
      have HE : Hid (okB bl[k] = (decide ((s.size : Int) ≤ 4000) && (decide (0 ≤ m) && decide (m ≤ s.size)))) := by rw [hse, hme]; rfl
      clear hcell hs hse hme hc X
      by_cases h1 : (s.size : Int) ≤ 4000
      · cases h2 : (decide (0 ≤ m) && decide (m ≤ (s.size : Int))) with
        | true =>
          go_wp2_with fail
          refine (l1In_any _ _ _ _).mono ?_
          rintro e w1 ⟨rfl, rfl⟩
          go_wp2
          go_roundw
          case rel => exact ⟨k + 1, by omega, by go_num, by rw [okBs_succ bl k hlt, HO.out, HE.out, h2]; simp [h1], hb.alloc (by omega) _⟩
          case measure => simp [intOf]; omega
        | false =>
          have HF : Hid (okBs bl = false) := okBs_false bl k hlt (by rw [HE.out, h2]; simp)
          go_wp2_with fail
          refine (l1In_any _ _ _ _).mono ?_
          rintro e w1 ⟨rfl, rfl⟩
          go_wp2
          go_ret
          exact ⟨ret_bool (by first | rfl | (rw [HF.out]; rfl) | rw [HF.out]), hb'.alloc (by omega) _⟩
      · have HF : Hid (okBs bl = false) := okBs_false bl k hlt (by rw [HE.out]; simp; omega)
        go_wp2
        go_ret
        exact ⟨ret_bool (by first | rfl | (rw [HF.out]; rfl) | rw [HF.out]), hb'.alloc (by omega) _⟩
    · have : k = bl.length := by omega
      subst this
      have HF : Hid (okBs bl = true) := by have := HO.out; rwa [List.take_length] at this
      go_wp2_with fail
      refine wp_region_calm (B := w.heap.size + 1) (W := (w.alloc (.cells #[.slice a1 bl.length c1, v2, v3, .int .i64 r] 26))) (by kernel_rfl) (by kernel_rfl) hb ?_
      repeat (go_big_quiet_step (((go_at_call_of 59 v2; exact K2 _))))
      refine wpQuiet_nil ?_
      intro _ hw'
      obtain ⟨x, hx⟩ := hw'
      subst hx
      go_wp2
      go_ret
      exact ⟨ret_bool (by first | rfl | (rw [HF.out]; rfl) | rw [HF.out]), (below_alloc _ _).trans (x.ok.mono (by omega))⟩

set_option maxHeartbeats 4000000 in
theorem specGood_s (a1 : Option Addr) (c1 : Nat) (bl : List (ByteArray × Int)) (v2 v3 : Value) (r : Int) (u : Int) (w : World) (hc : bl ≠ [] → ∃ b off, a1 = some ⟨b, off, none⟩ ∧ b < w.heap.size ∧ ∀ i (h : i < bl.length), w.cell? ⟨b, off + i * 2, none⟩ = some (.string bl[i].1) ∧ w.cell? ⟨b, off + i * 2 + 1, none⟩ = some (.int .i64 bl[i].2)) (hn : bl.length ≤ 1048576) (hs : ∀ i (h : i < bl.length), bl[i].1.size ≤ 1048576) (h60 : (bl.length : Int) ≤ 60) (K2 : KC w (w.alloc (.cells #[.slice a1 bl.length c1, v2, v3, .int .i64 r] 26)) 59 #[v2, .int .i64 bl.length] (.bool true)) (K3 : KC w (w.alloc (.cells #[.slice a1 bl.length c1, v2, v3, .int .i64 r] 26)) 59 #[v3, .int .i64 bl.length] (.bool false)) :
    Calls Try.prog 13 #[.agg #[.slice a1 bl.length c1, v2, v3, .int .i64 r]] w fun e w' => e = .returned (.bool (okBs bl && false)) ∧ Below w.heap.size w w' := by
  have hd0 : decide ((bl.length : Int) ≤ 60) = true := by simp [h60]
  have X : ∀ x : WC (w.heap.size + 1) (w.alloc (.cells #[.slice a1 bl.length c1, v2, v3, .int .i64 r] 26)), Box x.w w.heap.size [.slice a1 bl.length c1, v2, v3, .int .i64 r] := fun x => (Box.new w #[.slice a1 bl.length c1, v2, v3, .int .i64 r] 26).below (by simpa using x.ok)
  have p0 := fun x => (X x).2.1 0 _ rfl
  have p1 := fun x => (X x).2.1 1 _ rfl
  have p2 := fun x => (X x).2.1 2 _ rfl
  have p3 := fun x => (X x).2.1 3 _ rfl
  have hne : Nonempty (WC (w.heap.size + 1) (w.alloc (.cells #[.slice a1 bl.length c1, v2, v3, .int .i64 r] 26))) := ⟨⟨_, Below.refl _ _⟩⟩
  go_enter Try.func13, Try.ntmps13
  go_wp2
  go_loopw [8] (fun i wr => ∃ k : Nat, k ≤ bl.length ∧ i = .int .i64 k ∧ okBs (bl.take k) = true ∧ Below (w.heap.size + 1) (w.alloc (.cells #[.slice a1 bl.length c1, v2, v3, .int .i64 r] 26)) wr) (fun i _ => bl.length - (intOf i).toNat)
  case atStart => exact ⟨0, Nat.zero_le _, rfl, by simp [okBs], Below.refl _ _⟩
  case round =>
    obtain ⟨k, hk, rfl, hok, hb⟩ := hrel
    have HO : Hid (okBs (bl.take k) = true) := hok
    clear hok
    have hz := hb.size
    simp only [World.size_alloc] at hz
    have hb' : Below w.heap.size w wr := (below_alloc _ _).trans (hb.mono (by omega))
    by_cases hlt : k < bl.length
    · clear p0 p1 p2 p3
      obtain ⟨b, off, rfl, hbl, hcell⟩ := hc (by intro e; simp [e] at hlt)
      obtain ⟨s, hse⟩ : ∃ s, s = bl[k].1 := ⟨_, rfl⟩
      obtain ⟨m, hme⟩ : ∃ m, m = bl[k].2 := ⟨_, rfl⟩
      have hc0 : wr.cell? ⟨b, off + k * 2, none⟩ = some (.string s) := by rw [hse]; exact (hb'.cell (p := ⟨b, off + k * 2, none⟩) hbl).trans (hcell k hlt).1
      have hc1 : wr.cell? ⟨b, off + k * 2 + 1, none⟩ = some (.int .i64 m) := by rw [hme]; exact (hb'.cell (p := ⟨b, off + k * 2 + 1, none⟩) hbl).trans (hcell k hlt).2
      have hss : s.size ≤ 1048576 := by rw [hse]; exact hs k hlt
      have HE : Hid (okB bl[k] = (decide ((s.size : Int) ≤ 4000) && (decide (0 ≤ m) && decide (m ≤ s.size)))) := by rw [hse, hme]; rfl
      clear hcell hs hse hme hc X
      by_cases h1 : (s.size : Int) ≤ 4000
      · cases h2 : (decide (0 ≤ m) && decide (m ≤ (s.size : Int))) with
        | true =>
          go_wp2_with fail
          refine (l1In_any _ _ _ _).mono ?_
          rintro e w1 ⟨rfl, rfl⟩
          go_wp2
          go_roundw
          case rel => exact ⟨k + 1, by omega, by go_num, by rw [okBs_succ bl k hlt, HO.out, HE.out, h2]; simp [h1], hb.alloc (by omega) _⟩
          case measure => simp [intOf]; omega
        | false =>
          have HF : Hid (okBs bl = false) := okBs_false bl k hlt (by rw [HE.out, h2]; simp)
          go_wp2_with fail
          refine (l1In_any _ _ _ _).mono ?_
          rintro e w1 ⟨rfl, rfl⟩
          go_wp2
          go_ret
          exact ⟨ret_bool (by first | rfl | (rw [HF.out]; rfl) | rw [HF.out]), hb'.alloc (by omega) _⟩
      · have HF : Hid (okBs bl = false) := okBs_false bl k hlt (by rw [HE.out]; simp; omega)
        go_wp2
        go_ret
        exact ⟨ret_bool (by first | rfl | (rw [HF.out]; rfl) | rw [HF.out]), hb'.alloc (by omega) _⟩
    · have : k = bl.length := by omega
      subst this
      have HF : Hid (okBs bl = true) := by have := HO.out; rwa [List.take_length] at this
      go_wp2_with fail
      refine wp_region_calm (B := w.heap.size + 1) (W := (w.alloc (.cells #[.slice a1 bl.length c1, v2, v3, .int .i64 r] 26))) (by kernel_rfl) (by kernel_rfl) hb ?_
      repeat (go_big_quiet_step ((first | (go_at_call_of 59 v2; exact K2 _) | (go_at_call_of 59 v3; exact K3 _))))
      refine wpQuiet_nil ?_
      intro _ hw'
      obtain ⟨x, hx⟩ := hw'
      subst hx
      go_wp2
      go_ret
      exact ⟨ret_bool (by first | rfl | (rw [HF.out]; rfl) | rw [HF.out]), (below_alloc _ _).trans (x.ok.mono (by omega))⟩

set_option maxHeartbeats 4000000 in
theorem specGood_r (a1 : Option Addr) (c1 : Nat) (bl : List (ByteArray × Int)) (v2 v3 : Value) (r : Int) (u : Int) (w : World) (hc : bl ≠ [] → ∃ b off, a1 = some ⟨b, off, none⟩ ∧ b < w.heap.size ∧ ∀ i (h : i < bl.length), w.cell? ⟨b, off + i * 2, none⟩ = some (.string bl[i].1) ∧ w.cell? ⟨b, off + i * 2 + 1, none⟩ = some (.int .i64 bl[i].2)) (hn : bl.length ≤ 1048576) (hs : ∀ i (h : i < bl.length), bl[i].1.size ≤ 1048576) (h60 : (bl.length : Int) ≤ 60) (K2 : KC w (w.alloc (.cells #[.slice a1 bl.length c1, v2, v3, .int .i64 r] 26)) 59 #[v2, .int .i64 bl.length] (.bool true)) (K3 : KC w (w.alloc (.cells #[.slice a1 bl.length c1, v2, v3, .int .i64 r] 26)) 59 #[v3, .int .i64 bl.length] (.bool true)) (K4 : KC w (w.alloc (.cells #[.slice a1 bl.length c1, v2, v3, .int .i64 r] 26)) 58 #[.int .i64 r, .int .i64 0, .int .i64 100000] (.bool false)) :
    Calls Try.prog 13 #[.agg #[.slice a1 bl.length c1, v2, v3, .int .i64 r]] w fun e w' => e = .returned (.bool (okBs bl && false)) ∧ Below w.heap.size w w' := by
  have hd0 : decide ((bl.length : Int) ≤ 60) = true := by simp [h60]
  have X : ∀ x : WC (w.heap.size + 1) (w.alloc (.cells #[.slice a1 bl.length c1, v2, v3, .int .i64 r] 26)), Box x.w w.heap.size [.slice a1 bl.length c1, v2, v3, .int .i64 r] := fun x => (Box.new w #[.slice a1 bl.length c1, v2, v3, .int .i64 r] 26).below (by simpa using x.ok)
  have p0 := fun x => (X x).2.1 0 _ rfl
  have p1 := fun x => (X x).2.1 1 _ rfl
  have p2 := fun x => (X x).2.1 2 _ rfl
  have p3 := fun x => (X x).2.1 3 _ rfl
  have hne : Nonempty (WC (w.heap.size + 1) (w.alloc (.cells #[.slice a1 bl.length c1, v2, v3, .int .i64 r] 26))) := ⟨⟨_, Below.refl _ _⟩⟩
  go_enter Try.func13, Try.ntmps13
  go_wp2
  go_loopw [8] (fun i wr => ∃ k : Nat, k ≤ bl.length ∧ i = .int .i64 k ∧ okBs (bl.take k) = true ∧ Below (w.heap.size + 1) (w.alloc (.cells #[.slice a1 bl.length c1, v2, v3, .int .i64 r] 26)) wr) (fun i _ => bl.length - (intOf i).toNat)
  case atStart => exact ⟨0, Nat.zero_le _, rfl, by simp [okBs], Below.refl _ _⟩
  case round =>
    obtain ⟨k, hk, rfl, hok, hb⟩ := hrel
    have HO : Hid (okBs (bl.take k) = true) := hok
    clear hok
    have hz := hb.size
    simp only [World.size_alloc] at hz
    have hb' : Below w.heap.size w wr := (below_alloc _ _).trans (hb.mono (by omega))
    by_cases hlt : k < bl.length
    · clear p0 p1 p2 p3
      obtain ⟨b, off, rfl, hbl, hcell⟩ := hc (by intro e; simp [e] at hlt)
      obtain ⟨s, hse⟩ : ∃ s, s = bl[k].1 := ⟨_, rfl⟩
      obtain ⟨m, hme⟩ : ∃ m, m = bl[k].2 := ⟨_, rfl⟩
      have hc0 : wr.cell? ⟨b, off + k * 2, none⟩ = some (.string s) := by rw [hse]; exact (hb'.cell (p := ⟨b, off + k * 2, none⟩) hbl).trans (hcell k hlt).1
      have hc1 : wr.cell? ⟨b, off + k * 2 + 1, none⟩ = some (.int .i64 m) := by rw [hme]; exact (hb'.cell (p := ⟨b, off + k * 2 + 1, none⟩) hbl).trans (hcell k hlt).2
      have hss : s.size ≤ 1048576 := by rw [hse]; exact hs k hlt
      have HE : Hid (okB bl[k] = (decide ((s.size : Int) ≤ 4000) && (decide (0 ≤ m) && decide (m ≤ s.size)))) := by rw [hse, hme]; rfl
      clear hcell hs hse hme hc X
      by_cases h1 : (s.size : Int) ≤ 4000
      · cases h2 : (decide (0 ≤ m) && decide (m ≤ (s.size : Int))) with
        | true =>
          go_wp2_with fail
          refine (l1In_any _ _ _ _).mono ?_
          rintro e w1 ⟨rfl, rfl⟩
          go_wp2
          go_roundw
          case rel => exact ⟨k + 1, by omega, by go_num, by rw [okBs_succ bl k hlt, HO.out, HE.out, h2]; simp [h1], hb.alloc (by omega) _⟩
          case measure => simp [intOf]; omega
        | false =>
          have HF : Hid (okBs bl = false) := okBs_false bl k hlt (by rw [HE.out, h2]; simp)
          go_wp2_with fail
          refine (l1In_any _ _ _ _).mono ?_
          rintro e w1 ⟨rfl, rfl⟩
          go_wp2
          go_ret
          exact ⟨ret_bool (by first | rfl | (rw [HF.out]; rfl) | rw [HF.out]), hb'.alloc (by omega) _⟩
      · have HF : Hid (okBs bl = false) := okBs_false bl k hlt (by rw [HE.out]; simp; omega)
        go_wp2
        go_ret
        exact ⟨ret_bool (by first | rfl | (rw [HF.out]; rfl) | rw [HF.out]), hb'.alloc (by omega) _⟩
    · have : k = bl.length := by omega
      subst this
      have HF : Hid (okBs bl = true) := by have := HO.out; rwa [List.take_length] at this
      go_wp2_with fail
      refine wp_region_calm (B := w.heap.size + 1) (W := (w.alloc (.cells #[.slice a1 bl.length c1, v2, v3, .int .i64 r] 26))) (by kernel_rfl) (by kernel_rfl) hb ?_
      repeat (go_big_quiet_step ((first | (go_at_call_of 59 v2; exact K2 _) | (go_at_call_of 59 v3; exact K3 _) | (go_at_call 58; exact K4 _))))
      refine wpQuiet_nil ?_
      intro _ hw'
      obtain ⟨x, hx⟩ := hw'
      subst hx
      go_wp2
      go_ret
      exact ⟨ret_bool (by first | rfl | (rw [HF.out]; rfl) | rw [HF.out]), (below_alloc _ _).trans (x.ok.mono (by omega))⟩

set_option maxHeartbeats 4000000 in
theorem specGood_all (a1 : Option Addr) (c1 : Nat) (bl : List (ByteArray × Int)) (v2 v3 : Value) (r : Int) (u : Int) (w : World) (hc : bl ≠ [] → ∃ b off, a1 = some ⟨b, off, none⟩ ∧ b < w.heap.size ∧ ∀ i (h : i < bl.length), w.cell? ⟨b, off + i * 2, none⟩ = some (.string bl[i].1) ∧ w.cell? ⟨b, off + i * 2 + 1, none⟩ = some (.int .i64 bl[i].2)) (hn : bl.length ≤ 1048576) (hs : ∀ i (h : i < bl.length), bl[i].1.size ≤ 1048576) (h60 : (bl.length : Int) ≤ 60) (K2 : KC w (w.alloc (.cells #[.slice a1 bl.length c1, v2, v3, .int .i64 r] 26)) 59 #[v2, .int .i64 bl.length] (.bool true)) (K3 : KC w (w.alloc (.cells #[.slice a1 bl.length c1, v2, v3, .int .i64 r] 26)) 59 #[v3, .int .i64 bl.length] (.bool true)) (K4 : KC w (w.alloc (.cells #[.slice a1 bl.length c1, v2, v3, .int .i64 r] 26)) 58 #[.int .i64 r, .int .i64 0, .int .i64 100000] (.bool true)) (K5 : KC w (w.alloc (.cells #[.slice a1 bl.length c1, v2, v3, .int .i64 r] 26)) 60 #[.agg #[.slice a1 bl.length c1, v2, v3, .int .i64 r]] (.int .i64 u)) :
    Calls Try.prog 13 #[.agg #[.slice a1 bl.length c1, v2, v3, .int .i64 r]] w fun e w' => e = .returned (.bool (okBs bl && decide (u ≤ r))) ∧ Below w.heap.size w w' := by
  have hd0 : decide ((bl.length : Int) ≤ 60) = true := by simp [h60]
  have X : ∀ x : WC (w.heap.size + 1) (w.alloc (.cells #[.slice a1 bl.length c1, v2, v3, .int .i64 r] 26)), Box x.w w.heap.size [.slice a1 bl.length c1, v2, v3, .int .i64 r] := fun x => (Box.new w #[.slice a1 bl.length c1, v2, v3, .int .i64 r] 26).below (by simpa using x.ok)
  have p0 := fun x => (X x).2.1 0 _ rfl
  have p1 := fun x => (X x).2.1 1 _ rfl
  have p2 := fun x => (X x).2.1 2 _ rfl
  have p3 := fun x => (X x).2.1 3 _ rfl
  have hne : Nonempty (WC (w.heap.size + 1) (w.alloc (.cells #[.slice a1 bl.length c1, v2, v3, .int .i64 r] 26))) := ⟨⟨_, Below.refl _ _⟩⟩
  go_enter Try.func13, Try.ntmps13
  go_wp2
  go_loopw [8] (fun i wr => ∃ k : Nat, k ≤ bl.length ∧ i = .int .i64 k ∧ okBs (bl.take k) = true ∧ Below (w.heap.size + 1) (w.alloc (.cells #[.slice a1 bl.length c1, v2, v3, .int .i64 r] 26)) wr) (fun i _ => bl.length - (intOf i).toNat)
  case atStart => exact ⟨0, Nat.zero_le _, rfl, by simp [okBs], Below.refl _ _⟩
  case round =>
    obtain ⟨k, hk, rfl, hok, hb⟩ := hrel
    have HO : Hid (okBs (bl.take k) = true) := hok
    clear hok
    have hz := hb.size
    simp only [World.size_alloc] at hz
    have hb' : Below w.heap.size w wr := (below_alloc _ _).trans (hb.mono (by omega))
    by_cases hlt : k < bl.length
    · clear p0 p1 p2 p3
      obtain ⟨b, off, rfl, hbl, hcell⟩ := hc (by intro e; simp [e] at hlt)
      obtain ⟨s, hse⟩ : ∃ s, s = bl[k].1 := ⟨_, rfl⟩
      obtain ⟨m, hme⟩ : ∃ m, m = bl[k].2 := ⟨_, rfl⟩
      have hc0 : wr.cell? ⟨b, off + k * 2, none⟩ = some (.string s) := by rw [hse]; exact (hb'.cell (p := ⟨b, off + k * 2, none⟩) hbl).trans (hcell k hlt).1
      have hc1 : wr.cell? ⟨b, off + k * 2 + 1, none⟩ = some (.int .i64 m) := by rw [hme]; exact (hb'.cell (p := ⟨b, off + k * 2 + 1, none⟩) hbl).trans (hcell k hlt).2
      have hss : s.size ≤ 1048576 := by rw [hse]; exact hs k hlt
      have HE : Hid (okB bl[k] = (decide ((s.size : Int) ≤ 4000) && (decide (0 ≤ m) && decide (m ≤ s.size)))) := by rw [hse, hme]; rfl
      clear hcell hs hse hme hc X
      by_cases h1 : (s.size : Int) ≤ 4000
      · cases h2 : (decide (0 ≤ m) && decide (m ≤ (s.size : Int))) with
        | true =>
          go_wp2_with fail
          refine (l1In_any _ _ _ _).mono ?_
          rintro e w1 ⟨rfl, rfl⟩
          go_wp2
          go_roundw
          case rel => exact ⟨k + 1, by omega, by go_num, by rw [okBs_succ bl k hlt, HO.out, HE.out, h2]; simp [h1], hb.alloc (by omega) _⟩
          case measure => simp [intOf]; omega
        | false =>
          have HF : Hid (okBs bl = false) := okBs_false bl k hlt (by rw [HE.out, h2]; simp)
          go_wp2_with fail
          refine (l1In_any _ _ _ _).mono ?_
          rintro e w1 ⟨rfl, rfl⟩
          go_wp2
          go_ret
          exact ⟨ret_bool (by first | rfl | (rw [HF.out]; rfl) | rw [HF.out]), hb'.alloc (by omega) _⟩
      · have HF : Hid (okBs bl = false) := okBs_false bl k hlt (by rw [HE.out]; simp; omega)
        go_wp2
        go_ret
        exact ⟨ret_bool (by first | rfl | (rw [HF.out]; rfl) | rw [HF.out]), hb'.alloc (by omega) _⟩
    · have : k = bl.length := by omega
      subst this
      have HF : Hid (okBs bl = true) := by have := HO.out; rwa [List.take_length] at this
      go_wp2_with fail
      refine wp_region_calm (B := w.heap.size + 1) (W := (w.alloc (.cells #[.slice a1 bl.length c1, v2, v3, .int .i64 r] 26))) (by kernel_rfl) (by kernel_rfl) hb ?_
      repeat (go_big_quiet_step ((first | (go_at_call_of 59 v2; exact K2 _) | (go_at_call_of 59 v3; exact K3 _) | (go_at_call 58; exact K4 _) | (go_at_call 60; exact K5 _))))
      refine wpQuiet_nil ?_
      intro _ hw'
      obtain ⟨x, hx⟩ := hw'
      subst hx
      go_wp2
      go_ret
      exact ⟨ret_bool (by first | rfl | (rw [HF.out]; rfl) | rw [HF.out]), (below_alloc _ _).trans (x.ok.mono (by omega))⟩

theorem specGood_any (v1 v2 v3 : Value) (bl lv sf : List (ByteArray × Int)) (r : Int) (w : World) (h1 : PL w v1 bl) (h2 : PL w v2 lv) (h3 : PL w v3 sf)
    (hn1 : tot bl + bl.length ≤ 1048576) (hn2 : tot lv + lv.length ≤ 1048576) (hn3 : tot sf + sf.length ≤ 1048576) (hs1 : ∀ i (h : i < bl.length), bl[i].1.size ≤ 1048576) (hs2 : ∀ i (h : i < lv.length), lv[i].1.size ≤ 1048576) (hs3 : ∀ i (h : i < sf.length), sf[i].1.size ≤ 1048576) :
    Calls Try.prog 13 #[.agg #[v1, v2, v3, .int .i64 r]] w fun e w' => e = .returned (.bool (goodD bl lv sf r)) ∧ Below w.heap.size w w' := by
  have hv1 := h1
  obtain ⟨a1, c1, rfl, hc⟩ := hv1
  have K2 : KC w (w.alloc (.cells #[.slice a1 bl.length c1, v2, v3, .int .i64 r] 26)) 59 #[v2, .int .i64 bl.length] (.bool (okNs lv bl.length)) := KC.of fun w' hb => l1Names_any _ lv bl.length _ (h2.below hb) (by omega) (by omega) hs2
  have K3 : KC w (w.alloc (.cells #[.slice a1 bl.length c1, v2, v3, .int .i64 r] 26)) 59 #[v3, .int .i64 bl.length] (.bool (okNs sf bl.length)) := KC.of fun w' hb => l1Names_any _ sf bl.length _ (h3.below hb) (by omega) (by omega) hs3
  have K4 : KC w (w.alloc (.cells #[.slice a1 bl.length c1, v2, v3, .int .i64 r] 26)) 58 #[.int .i64 r, .int .i64 0, .int .i64 100000] (.bool (decide (0 ≤ r) && decide (r ≤ 100000))) := KC.of fun w' hb => (l1In_any _ _ _ _).mono fun e w'' ⟨he, hw⟩ => ⟨he, by rw [hw]; exact Below.refl _ _⟩
  have K5 : KC w (w.alloc (.cells #[.slice a1 bl.length c1, v2, v3, .int .i64 r] 26)) 60 #[.agg #[.slice a1 bl.length c1, v2, v3, .int .i64 r]] (.int .i64 (used bl lv sf : Nat)) := KC.of fun w' hb => l1Used_any _ _ _ bl lv sf r _ (h1.below hb) (h2.below hb) (h3.below hb) hn1 (by omega) (by omega)
  have hn : bl.length ≤ 1048576 := by omega
  by_cases h60 : (bl.length : Int) ≤ 60
  · cases g2 : okNs lv bl.length with
    | false => exact (specGood_l a1 c1 bl v2 v3 r 0 w hc hn hs1 h60 (K2.bool g2)).mono fun e w' ⟨he, hb⟩ => ⟨by rw [he, goodD, g2]; simp, hb⟩
    | true =>
      cases g3 : okNs sf bl.length with
      | false => exact (specGood_s a1 c1 bl v2 v3 r 0 w hc hn hs1 h60 (K2.bool g2) (K3.bool g3)).mono fun e w' ⟨he, hb⟩ => ⟨by rw [he, goodD, g2, g3]; simp, hb⟩
      | true =>
        cases g4 : (decide (0 ≤ r) && decide (r ≤ 100000)) with
        | false => exact (specGood_r a1 c1 bl v2 v3 r 0 w hc hn hs1 h60 (K2.bool g2) (K3.bool g3) (K4.bool g4)).mono fun e w' ⟨he, hb⟩ => ⟨by rw [he, goodD, g2, g3, g4]; simp, hb⟩
        | true => exact (specGood_all a1 c1 bl v2 v3 r _ w hc hn hs1 h60 (K2.bool g2) (K3.bool g3) (K4.bool g4) K5).mono fun e w' ⟨he, hb⟩ => ⟨by rw [he, goodD, g2, g3, g4]; simp [h60], hb⟩
  · exact (specGood_60 a1 c1 bl v2 v3 r 0 w hc hn hs1 (by omega)).mono fun e w' ⟨he, hb⟩ => ⟨by rw [he, goodD]; simp [h60], hb⟩
end Go.Proofs.Ytbgemebpfcbloaa
