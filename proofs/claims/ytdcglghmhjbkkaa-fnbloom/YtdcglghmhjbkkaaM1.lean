/-
  Filters: spec.l5May, spec.MayHave.
-/
import Derived.Test.YtdcglghmhjbkkaaR4
namespace Go.Proofs.Ytdcglghmhjbkkaa
open Go.RowKit
set_option linter.unusedVariables false
set_option maxRecDepth 100000

/-- What MayHave answers. -/
def mayF (n : Int) (s : ByteArray) (m : Int) (k : ByteArray) : Bool × Bool :=
  if goodK k && goodF n s m then (hasBs s.data.toList (plK k n.toNat), true) else (false, false)
theorem all_step (l : List UInt8) (ps : List Nat) (k : Nat) (h : k < ps.length) : hasBs l (ps.drop k) = (hasB l ps[k] && hasBs l (ps.drop (k + 1))) := by
  rw [List.drop_eq_getElem_cons h]; rfl

theorem bit_val (c : UInt8) (i : Nat) : (bits BinOp.and IntKind.u8 ((c.toNat : Int) / 2 ^ i) 1 == 0) = !decide (c.toNat / 2 ^ i % 2 = 1) := by
  have hc := c.toNat_lt
  have h1 : c.toNat / 2 ^ i < 256 := Nat.lt_of_le_of_lt (Nat.div_le_self _ _) hc
  have e1 : (c.toNat : Int) / 2 ^ i = ((c.toNat / 2 ^ i : Nat) : Int) := by
    rw [Int.natCast_ediv, Int.natCast_pow]; rfl
  rw [e1]
  generalize c.toNat / 2 ^ i = x at *
  have e2 := u8_and_nat x 1 h1 (by omega)
  rw [show ((1 : Nat) : Int) = 1 from rfl] at e2
  rw [e2, Nat.and_one_is_mod]
  rw [Bool.eq_iff_iff]; simp; omega
theorem hasB_val (s : ByteArray) (p : Nat) (h : p / 8 < s.size) : hasB s.data.toList p = decide (s[p / 8].toNat / 2 ^ (p % 8) % 2 = 1) := by
  unfold hasB
  have e3 : s.data.toList.getD (p / 8) 0 = s[p / 8] := by
    have hj : p / 8 < s.data.toList.length := by simpa using h
    have hL : s.data.toList[p / 8] = s[p / 8] := by simp; rfl
    rw [List.getD_eq_getElem?_getD, List.getElem?_eq_getElem hj, hL]; rfl
  rw [e3]
set_option maxHeartbeats 4000000 in
theorem l5May_any (nh : Nat) (s : ByteArray) (m : Int) (key : ByteArray) (w : World) (hk : goodK key = true) (hg : goodF (nh : Int) s m = true) :
    Calls Try.prog 60 #[.agg #[.int .i64 (nh : Int), .string s, .int .i64 m], .string key] w fun e w' =>
      e = .returned (.bool (hasBs s.data.toList (plK key nh))) ∧ Below w.heap.size w w' := by
  obtain ⟨gh, hs, hm0, hm1⟩ := goodF_parts hg
  obtain ⟨nh', e1, h1, h8⟩ := goodH_nat gh
  obtain rfl : nh = nh' := by omega
  clear e1
  have hl : s.data.toList.length = 32 := by simpa using hs
  have P := fun w => l5Places_any key nh w hk h8
  have hps := plK_lt key nh
  have hpl := plK_length key nh
  have hpz : plZ key nh = (plK key nh).map Int.ofNat := rfl
  rw [hpz] at P
  clear hpz
  generalize plK key nh = ps at *
  have hq : ∀ (k : Nat) (hk : k < ps.length), ps[k] < 256 := fun k hk => hps _ (List.getElem_mem hk)
  have HR : Hid (hasBs s.data.toList ps = hasBs s.data.toList (ps.drop 0)) := rfl
  generalize hasBs s.data.toList ps = R at *
  have X0 := Box.new w #[.int .i64 (nh : Int), .string s, .int .i64 m] 24
  have hb0 := below_alloc w (.cells #[.int .i64 (nh : Int), .string s, .int .i64 m] 24)
  go_enter Try.func60, Try.ntmps60
  go_wp2_with fail
  refine (P _).mono ?_
  rintro e w2 ⟨v, rfl, o2, hb2⟩
  have il := IL_of_owns (zs := ps.map Int.ofNat) o2 (by rw [List.length_map]; exact hpl.symm)
  have X2 := X0.below hb2
  have hB2 := below_then hb0 hb2
  obtain ⟨a, cap', rfl, hc⟩ := il
  rw [List.length_map]
  clear o2 X0 hb0 hb2 P
  obtain ⟨_, x0, x1, x2⟩ := X2.c3
  go_wp2_with fail
  go_loopw [12] (fun i wr => ∃ k : Nat, k ≤ ps.length ∧ i = .int .i64 k ∧ R = hasBs s.data.toList (ps.drop k) ∧ wr = w2) (fun i _ => ps.length - (intOf i).toNat)
  case atStart => exact ⟨0, Nat.zero_le _, rfl, HR.out, rfl⟩
  case round =>
    obtain ⟨k, hk, rfl, hall, rfl⟩ := hrel
    clear HR
    by_cases hlt : k < ps.length
    · rw [all_step _ _ _ hlt] at hall
      obtain ⟨b, off, rfl, hbl, hcell⟩ := hc (by intro e; rw [List.map_eq_nil_iff] at e; simp [e] at hlt)
      have hp0 := hq k hlt
      have hc0 : wr.cell? ⟨b, off + k, none⟩ = some (.int .i64 ((ps[k] : Nat) : Int)) := by
        have e2 := hcell k (by simpa using hlt)
        rw [List.getElem_map] at e2; exact e2
      have hpl2 : ps[k] / 8 < s.size := by omega
      have HH : Hid (R = (hasB s.data.toList ps[k] && hasBs s.data.toList (ps.drop (k + 1)))) := hall
      clear hall hcell hc hq
      generalize ps[k] = p at *
      have hcl := s[p / 8].toNat_lt
      have hbv := bit_val s[p / 8] (p % 8)
      rw [← hasB_val s p hpl2] at hbv
      cases hbit : hasB s.data.toList p with
      | true =>
        rw [hbit] at hbv HH
        go_wp2
        go_roundw
        case rel => exact ⟨k + 1, by omega, by go_num, by rw [HH.out, Bool.true_and], trivial⟩
        case measure => simp [intOf]; omega
      | false =>
        rw [hbit] at hbv HH
        obtain rfl : R = false := by rw [HH.out, Bool.false_and]
        go_wp2
        go_ret
        exact ⟨rfl, hB2⟩
    · rw [List.drop_eq_nil_of_le (by omega)] at hall
      obtain rfl : R = true := hall
      clear hc
      go_wp2
      go_ret
      exact ⟨rfl, hB2⟩

set_option maxHeartbeats 4000000 in
theorem specMay_bad (n : Int) (s : ByteArray) (m : Int) (key : ByteArray) (w : World) (hg : (goodK key && goodF n s m) = false) :
    Calls Try.prog 37 #[.agg #[.int .i64 n, .string s, .int .i64 m], .string key] w fun e w' =>
      e = .returned (.tuple #[.bool false, .bool false]) ∧ Below w.heap.size w w' := by
  have hb0 := below_alloc w (.cells #[.int .i64 n, .string s, .int .i64 m] 24)
  have G := fun w => specGood_any n s m w
  have K := fun w => l4Key_any key w
  cases hgf : goodF n s m with
  | false =>
    rw [hgf] at G
    go_enter Try.func37, Try.ntmps37
    go_wp2_with fail
    refine (G _).mono ?_
    rintro e w1 ⟨rfl, hb1⟩
    have hB1 := below_then hb0 hb1
    clear hb1 G K
    go_wp2
    go_ret2
    exact ⟨rfl, hB1⟩
  | true =>
    have hkf : goodK key = false := by rw [hgf, Bool.and_true] at hg; exact hg
    rw [hgf] at G
    rw [hkf] at K
    go_enter Try.func37, Try.ntmps37
    go_wp2_with fail
    refine (G _).mono ?_
    rintro e w1 ⟨rfl, hb1⟩
    have hB1 := below_then hb0 hb1
    clear hb1 G
    go_wp2_with fail
    refine (K _).mono ?_
    rintro e w2 ⟨rfl, hw⟩
    rw [hw]; clear hw K
    go_wp2
    go_ret2
    exact ⟨rfl, hB1⟩
set_option maxHeartbeats 4000000 in
theorem specMay_good (nh : Nat) (s : ByteArray) (m : Int) (key : ByteArray) (w : World) (hk : goodK key = true) (hg : goodF (nh : Int) s m = true) :
    Calls Try.prog 37 #[.agg #[.int .i64 (nh : Int), .string s, .int .i64 m], .string key] w fun e w' =>
      e = .returned (.tuple #[.bool (hasBs s.data.toList (plK key nh)), .bool true]) ∧ Below w.heap.size w w' := by
  have X0 := Box.new w #[.int .i64 (nh : Int), .string s, .int .i64 m] 24
  have hb0 := below_alloc w (.cells #[.int .i64 (nh : Int), .string s, .int .i64 m] 24)
  have G := fun w => specGood_any (nh : Int) s m w
  have K := fun w => l4Key_any key w
  have A := fun w => l5May_any nh s m key w hk hg
  generalize hasBs s.data.toList (plK key nh) = R at *
  rw [hg] at G
  rw [hk] at K
  go_enter Try.func37, Try.ntmps37
  go_wp2_with fail
  refine (G _).mono ?_
  rintro e w1 ⟨rfl, hb1⟩
  have X1 := X0.below hb1
  have hB1 := below_then hb0 hb1
  clear X0 hb0 hb1 G
  go_wp2_with fail
  refine (K _).mono ?_
  rintro e w2 ⟨rfl, hw⟩
  rw [hw]; clear hw K
  obtain ⟨_, x0, x1, x2⟩ := X1.c3
  go_wp2_with fail
  refine (A _).mono ?_
  rintro e w2 ⟨rfl, hb2⟩
  have hB2 := below_then hB1 hb2
  clear X1 hB1 hb2 A x0 x1 x2
  go_wp2
  go_ret2
  exact ⟨rfl, hB2⟩
theorem specMay (n : Int) (s : ByteArray) (m : Int) (key : ByteArray) (w : World) :
    Calls Try.prog 37 #[.agg #[.int .i64 n, .string s, .int .i64 m], .string key] w fun e w' =>
      e = .returned (.tuple #[.bool (mayF n s m key).1, .bool (mayF n s m key).2]) ∧ Below w.heap.size w w' := by
  unfold mayF
  cases hg : goodK key && goodF n s m with
  | false => exact specMay_bad n s m key w hg
  | true =>
    rw [Bool.and_eq_true] at hg
    obtain ⟨nh, rfl, _⟩ := goodH_nat (goodF_parts hg.2).1
    exact specMay_good nh s m key w hg.1 hg.2
end Go.Proofs.Ytdcglghmhjbkkaa
