/-
  NewestOf, both.
-/
import Derived.Test.YtjenogmpmkkbiaaM8
namespace Go.Proofs.Ytjenogmpmkkbiaa
open Go.RowKit
set_option linter.unusedVariables false
set_option maxRecDepth 100000

def nwV (l : List It) : Int := if mayM l then newestL l else 0
theorem maxTo_step (l : List It) (k : Nat) (h : k < l.length) : maxTo l (k + 1) = max (maxTo l k) l[k].n := by
  unfold maxTo; rw [getD_at l k h]; cases k <;> rfl

set_option maxHeartbeats 2000000 in
theorem implNewest_any (v : Value) (l : List It) (w : World) (hv : IR w v l) (hn : l.length ≤ 1048576) (hs : ∀ i (h : i < l.length), l[i].k.size ≤ 1048576 ∧ l[i].v.size ≤ 1048576) :
    Calls Try.prog 19 #[.agg #[v]] w fun e w' => e = .returned (.tuple #[.int .i64 (nwV l), .bool (mayM l)]) ∧ Below w.heap.size w w' := by
  have hv1 := hv.below (below_alloc w (.cells #[v] 25))
  have K := mayMerge_any v l _ hv1 hn hs
  obtain ⟨a, cap, rfl, hc⟩ := hv
  have X := Box.new w #[.slice a l.length cap] 25
  have HV : Hid (nwV l = if mayM l then newestL l else 0) := rfl
  generalize hm : mayM l = m at *
  clear hv1 hs hm
  go_enter Try.func19, Try.ntmps19
  go_wp2_with fail
  refine K.mono ?_
  rintro e w1 ⟨rfl, hb⟩
  have c0 := (X.below hb).2.1 0 _ rfl
  have hb1 := below_then (below_alloc w (.cells #[.slice a l.length cap] 25)) hb
  have hz := hb1.size
  clear X hb K
  cases m with
  | false =>
    have HV2 : Hid (nwV l = 0) := by show _ = _; rw [HV.out]; rfl
    clear HV hc
    go_wp2
    exact bodyPost_ret (v := .tuple #[.int .i64 0, .bool false]) (by simp [results, Try.results19, go_sem]) rfl ⟨by rw [HV2.out], hb1⟩
  | true =>
    have HV2 : Hid (nwV l = maxTo l l.length) := by show _ = _; rw [HV.out]; rfl
    clear HV
    go_wp2
    clear c0
    go_loopw [4, 13] (fun t i wr => ∃ k : Nat, k ≤ l.length ∧ i = .int .i64 k ∧ t = .int .i64 (maxTo l k) ∧ Below w.heap.size w wr) (fun _ i _ => l.length - (intOf i).toNat)
    case atStart => exact ⟨0, Nat.zero_le _, rfl, rfl, hb1⟩
    case round =>
      clear hb1 hz
      obtain ⟨k, hk, rfl, rfl, hb⟩ := hrel
      have hz := hb.size
      by_cases hlt : k < l.length
      · obtain ⟨b, off, rfl, hbl, hcell⟩ := hc (by intro e; simp [e] at hlt)
        have hc0 := (hb.cell (p := ⟨b, off + k * 4, none⟩) hbl).trans (hcell k hlt).1
        have hc1 := (hb.cell (p := ⟨b, off + k * 4 + 1, none⟩) hbl).trans (hcell k hlt).2.1
        have hc2 := (hb.cell (p := ⟨b, off + k * 4 + 2, none⟩) hbl).trans (hcell k hlt).2.2.1
        have hc3 := (hb.cell (p := ⟨b, off + k * 4 + 3, none⟩) hbl).trans (hcell k hlt).2.2.2
        have HX : Hid (maxTo l (k + 1) = max (maxTo l k) l[k].n) := maxTo_step l k hlt
        clear hcell hc
        generalize maxTo l k = t at *
        generalize l[k] = s at *
        obtain ⟨sk, sn, sd, sv⟩ := s
        dsimp only at *
        go_wp2
        go_roundw
        case rel => exact ⟨k + 1, by omega, by go_num, by rw [HX.out]; exact congrArg (Value.int .i64) (by split <;> omega), hb.alloc hz _⟩
        case measure => simp [intOf]; omega
      · obtain rfl : k = l.length := by omega
        clear hc
        go_wp2
        exact bodyPost_ret (v := .tuple #[.int .i64 (maxTo l l.length), .bool true]) (by simp [results, Try.results19, go_sem]) rfl ⟨by rw [HV2.out], hb⟩

set_option maxHeartbeats 2000000 in
theorem specNewest_any (v : Value) (l : List It) (w : World) (hv : IR w v l) (hn : l.length ≤ 1048576) (hs : ∀ i (h : i < l.length), l[i].k.size ≤ 1048576 ∧ l[i].v.size ≤ 1048576) :
    Calls Try.prog 45 #[.agg #[v]] w fun e w' => e = .returned (.tuple #[.int .i64 (nwV l), .bool (mayM l)]) ∧ Below w.heap.size w w' := by
  have hv1 := hv.below (below_alloc w (.cells #[v] 25))
  have K := l8Run_any v l _ hv1 hn hs
  obtain ⟨a, cap, rfl, hc⟩ := hv
  have X := Box.new w #[.slice a l.length cap] 25
  have HV : Hid (nwV l = if mayM l then newestL l else 0) := rfl
  generalize hm : mayM l = m at *
  clear hv1 hs hm
  go_enter Try.func45, Try.ntmps45
  go_wp2_with fail
  refine K.mono ?_
  rintro e w1 ⟨rfl, hb⟩
  have c0 := (X.below hb).2.1 0 _ rfl
  have hb1 := below_then (below_alloc w (.cells #[.slice a l.length cap] 25)) hb
  have hz := hb1.size
  clear X hb K
  cases m with
  | false =>
    have HV2 : Hid (nwV l = 0) := by show _ = _; rw [HV.out]; rfl
    clear HV hc
    go_wp2
    exact bodyPost_ret (v := .tuple #[.int .i64 0, .bool false]) (by simp [results, Try.results45, go_sem]) rfl ⟨by rw [HV2.out], hb1⟩
  | true =>
    have HV2 : Hid (nwV l = maxTo l l.length) := by show _ = _; rw [HV.out]; rfl
    clear HV
    go_wp2
    clear c0
    go_loopw [4, 13] (fun t i wr => ∃ k : Nat, k ≤ l.length ∧ i = .int .i64 k ∧ t = .int .i64 (maxTo l k) ∧ Below w.heap.size w wr) (fun _ i _ => l.length - (intOf i).toNat)
    case atStart => exact ⟨0, Nat.zero_le _, rfl, rfl, hb1⟩
    case round =>
      clear hb1 hz
      obtain ⟨k, hk, rfl, rfl, hb⟩ := hrel
      have hz := hb.size
      by_cases hlt : k < l.length
      · obtain ⟨b, off, rfl, hbl, hcell⟩ := hc (by intro e; simp [e] at hlt)
        have hc0 := (hb.cell (p := ⟨b, off + k * 4, none⟩) hbl).trans (hcell k hlt).1
        have hc1 := (hb.cell (p := ⟨b, off + k * 4 + 1, none⟩) hbl).trans (hcell k hlt).2.1
        have hc2 := (hb.cell (p := ⟨b, off + k * 4 + 2, none⟩) hbl).trans (hcell k hlt).2.2.1
        have hc3 := (hb.cell (p := ⟨b, off + k * 4 + 3, none⟩) hbl).trans (hcell k hlt).2.2.2
        have HX : Hid (maxTo l (k + 1) = max (maxTo l k) l[k].n) := maxTo_step l k hlt
        clear hcell hc
        generalize maxTo l k = t at *
        generalize l[k] = s at *
        obtain ⟨sk, sn, sd, sv⟩ := s
        dsimp only at *
        by_cases hgt : t < sn
        · go_wp2
          go_roundw
          case rel => exact ⟨k + 1, by omega, by go_num, by rw [HX.out, Int.max_eq_right (by omega)], hb.alloc hz _⟩
          case measure => simp [intOf]; omega
        · go_wp2
          go_roundw
          case rel => exact ⟨k + 1, by omega, by go_num, by rw [HX.out, Int.max_eq_left (by omega)], hb.alloc hz _⟩
          case measure => simp [intOf]; omega
      · obtain rfl : k = l.length := by omega
        clear hc
        go_wp2
        exact bodyPost_ret (v := .tuple #[.int .i64 (maxTo l l.length), .bool true]) (by simp [results, Try.results45, go_sem]) rfl ⟨by rw [HV2.out], hb⟩
end Go.Proofs.Ytjenogmpmkkbiaa
