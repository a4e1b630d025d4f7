/-
  Filters: JoinFilters, both.
-/
import Derived.Test.YtdcglghmhjbkkaaJ1
namespace Go.Proofs.Ytdcglghmhjbkkaa
open Go.RowKit
set_option linter.unusedVariables false
set_option maxRecDepth 100000

theorem chg_drew {S : Nat → Prop} {w w' : World} (h : Chg S w w') : Chg S w w'.drew := ⟨h.os, h.tape, h.output, h.size, h.block⟩
theorem wr_drew {w : World} {g : Nat} {l : List UInt8} (h : Wr w g l) : Wr w.drew g l := h

set_option maxHeartbeats 4000000 in
theorem implJoin_bad (n : Int) (s : ByteArray) (m : Int) (n2 : Int) (s2 : ByteArray) (m2 : Int) (w : World) (hg : (goodF n s m && goodF n2 s2 m2 && decide (n = n2)) = false) :
    Calls Try.prog 23 #[.agg #[.int .i64 n, .string s, .int .i64 m], .agg #[.int .i64 n2, .string s2, .int .i64 m2]] w fun e w' =>
      e = .returned (.tuple #[.agg #[.int .i64 0, .string ⟨#[]⟩, .int .i64 0], .bool false]) ∧ Below w.heap.size w w' := by
  have G := fun w => implGood_any n s m w
  have G2 := fun w => implGood_any n2 s2 m2 w
  have hb3 := below3 w (.cells #[.int .i64 n, .string s, .int .i64 m] 24) (.cells #[.int .i64 n2, .string s2, .int .i64 m2] 24) (.cells #[.int .i64 0, .string ⟨#[]⟩, .int .i64 0] 24)
  obtain ⟨X0, Y0, Z0⟩ := three_boxes w (.int .i64 n) (.string s) (.int .i64 m) (.int .i64 n2) (.string s2) (.int .i64 m2) (.int .i64 0) (.string ⟨#[]⟩) (.int .i64 0)
  cases h1 : goodF n s m with
  | false =>
      rw [h1] at G
      go_enter Try.func23, Try.ntmps23
      go_wp2_with fail
      refine (G _).mono ?_
      rintro e w1 ⟨rfl, hb1⟩
      have Z1 := Z0.below hb1
      have hB1 := below_then hb3 hb1
      clear X0 Y0 Z0 hb3 hb1 G G2
      obtain ⟨⟨f0, f1, f2⟩, c0, c1, c2, c3⟩ := Z1.f3
      obtain ⟨⟨t0, t1, t2⟩, hB⟩ := put3_ok hB1 (by omega) Z1 (.int .i64 0) (.string ⟨#[]⟩) (.int .i64 0)
      go_wp2
      change bodyPost _ _ _ _ _ (put3 w1 (w.heap.size + 1 + 1) (.int .i64 0) (.string ⟨#[]⟩) (.int .i64 0))
      generalize put3 w1 (w.heap.size + 1 + 1) (.int .i64 0) (.string ⟨#[]⟩) (.int .i64 0) = W at *
      exact bodyPost_ret (v := .tuple #[.agg #[.int .i64 0, .string ⟨#[]⟩, .int .i64 0], .bool false]) (by simp [results, Try.results23, go_sem, t0, t1, t2]) rfl ⟨rfl, hB⟩
  | true =>
    rw [h1] at G hg
    cases h2 : goodF n2 s2 m2 with
    | false =>
      rw [h2] at G2
      go_enter Try.func23, Try.ntmps23
      go_wp2_with fail
      refine (G _).mono ?_
      rintro e w1 ⟨rfl, hb1⟩
      have Y1 := Y0.below hb1
      have Z1 := Z0.below hb1
      have hB1 := below_then hb3 hb1
      clear X0 Y0 Z0 hb3 hb1 G
      obtain ⟨_, y0, y1, y2⟩ := Y1.c3
      go_wp2_with fail
      refine (G2 _).mono ?_
      rintro e w2 ⟨rfl, hb2⟩
      have Z2 := Z1.below hb2
      have hB2 := below_then hB1 hb2
      clear Y1 Z1 hB1 hb2 y0 y1 y2 G2
      obtain ⟨⟨f0, f1, f2⟩, c0, c1, c2, c3⟩ := Z2.f3
      obtain ⟨⟨t0, t1, t2⟩, hB⟩ := put3_ok hB2 (by omega) Z2 (.int .i64 0) (.string ⟨#[]⟩) (.int .i64 0)
      go_wp2
      change bodyPost _ _ _ _ _ (put3 w2 (w.heap.size + 1 + 1) (.int .i64 0) (.string ⟨#[]⟩) (.int .i64 0))
      generalize put3 w2 (w.heap.size + 1 + 1) (.int .i64 0) (.string ⟨#[]⟩) (.int .i64 0) = W at *
      exact bodyPost_ret (v := .tuple #[.agg #[.int .i64 0, .string ⟨#[]⟩, .int .i64 0], .bool false]) (by simp [results, Try.results23, go_sem, t0, t1, t2]) rfl ⟨rfl, hB⟩
    | true =>
      rw [h2] at G2 hg
      have hne : (n == n2) = false := by
        rw [Bool.true_and, Bool.true_and, decide_eq_false_iff_not] at hg
        rw [beq_eq_false_iff_ne]; exact hg
      have hne2 : (n != n2) = true := by rw [bne, hne]; rfl
      have hne3 : decide (n = n2) = false := by simpa using hne
      have hne4 : n ≠ n2 := by simpa using hne
      go_enter Try.func23, Try.ntmps23
      go_wp2_with fail
      refine (G _).mono ?_
      rintro e w1 ⟨rfl, hb1⟩
      have X1 := X0.below hb1
      have Y1 := Y0.below hb1
      have Z1 := Z0.below hb1
      have hB1 := below_then hb3 hb1
      clear X0 Y0 Z0 hb3 hb1 G
      obtain ⟨_, y0, y1, y2⟩ := Y1.c3
      go_wp2_with fail
      refine (G2 _).mono ?_
      rintro e w2 ⟨rfl, hb2⟩
      have X2 := X1.below hb2
      have Y2 := Y1.below hb2
      have Z2 := Z1.below hb2
      have hB2 := below_then hB1 hb2
      clear X1 Y1 Z1 hB1 hb2 y0 y1 y2 G2
      obtain ⟨hzx, x0, x1, x2⟩ := X2.c3
      obtain ⟨hzy, y0, y1, y2⟩ := Y2.c3
      obtain ⟨⟨f0, f1, f2⟩, c0, c1, c2, c3⟩ := Z2.f3
      obtain ⟨⟨t0, t1, t2⟩, hB⟩ := put3_ok hB2 (by omega) Z2 (.int .i64 0) (.string ⟨#[]⟩) (.int .i64 0)
      go_wp2
      change bodyPost _ _ _ _ _ (put3 w2 (w.heap.size + 1 + 1) (.int .i64 0) (.string ⟨#[]⟩) (.int .i64 0))
      generalize put3 w2 (w.heap.size + 1 + 1) (.int .i64 0) (.string ⟨#[]⟩) (.int .i64 0) = W at *
      exact bodyPost_ret (v := .tuple #[.agg #[.int .i64 0, .string ⟨#[]⟩, .int .i64 0], .bool false]) (by simp [results, Try.results23, go_sem, t0, t1, t2]) rfl ⟨rfl, hB⟩

set_option maxHeartbeats 4000000 in
theorem specJoin_bad (n : Int) (s : ByteArray) (m : Int) (n2 : Int) (s2 : ByteArray) (m2 : Int) (w : World) (hg : (goodF n s m && goodF n2 s2 m2 && decide (n = n2)) = false) :
    Calls Try.prog 24 #[.agg #[.int .i64 n, .string s, .int .i64 m], .agg #[.int .i64 n2, .string s2, .int .i64 m2]] w fun e w' =>
      e = .returned (.tuple #[.agg #[.int .i64 0, .string ⟨#[]⟩, .int .i64 0], .bool false]) ∧ Below w.heap.size w w' := by
  have G := fun w => specGood_any n s m w
  have G2 := fun w => specGood_any n2 s2 m2 w
  have hb3 := below3 w (.cells #[.int .i64 n, .string s, .int .i64 m] 24) (.cells #[.int .i64 n2, .string s2, .int .i64 m2] 24) (.cells #[.int .i64 0, .string ⟨#[]⟩, .int .i64 0] 24)
  obtain ⟨X0, Y0, Z0⟩ := three_boxes w (.int .i64 n) (.string s) (.int .i64 m) (.int .i64 n2) (.string s2) (.int .i64 m2) (.int .i64 0) (.string ⟨#[]⟩) (.int .i64 0)
  cases h1 : goodF n s m with
  | false =>
      rw [h1] at G
      go_enter Try.func24, Try.ntmps24
      go_wp2_with fail
      refine (G _).mono ?_
      rintro e w1 ⟨rfl, hb1⟩
      have Z1 := Z0.below hb1
      have hB1 := below_then hb3 hb1
      clear X0 Y0 Z0 hb3 hb1 G G2
      obtain ⟨⟨f0, f1, f2⟩, c0, c1, c2, c3⟩ := Z1.f3
      obtain ⟨⟨t0, t1, t2⟩, hB⟩ := put3_ok hB1 (by omega) Z1 (.int .i64 0) (.string ⟨#[]⟩) (.int .i64 0)
      go_wp2
      change bodyPost _ _ _ _ _ (put3 w1 (w.heap.size + 1 + 1) (.int .i64 0) (.string ⟨#[]⟩) (.int .i64 0))
      generalize put3 w1 (w.heap.size + 1 + 1) (.int .i64 0) (.string ⟨#[]⟩) (.int .i64 0) = W at *
      exact bodyPost_ret (v := .tuple #[.agg #[.int .i64 0, .string ⟨#[]⟩, .int .i64 0], .bool false]) (by simp [results, Try.results24, go_sem, t0, t1, t2]) rfl ⟨rfl, hB⟩
  | true =>
    rw [h1] at G hg
    cases h2 : goodF n2 s2 m2 with
    | false =>
      rw [h2] at G2
      go_enter Try.func24, Try.ntmps24
      go_wp2_with fail
      refine (G _).mono ?_
      rintro e w1 ⟨rfl, hb1⟩
      have Y1 := Y0.below hb1
      have Z1 := Z0.below hb1
      have hB1 := below_then hb3 hb1
      clear X0 Y0 Z0 hb3 hb1 G
      obtain ⟨_, y0, y1, y2⟩ := Y1.c3
      go_wp2_with fail
      refine (G2 _).mono ?_
      rintro e w2 ⟨rfl, hb2⟩
      have Z2 := Z1.below hb2
      have hB2 := below_then hB1 hb2
      clear Y1 Z1 hB1 hb2 y0 y1 y2 G2
      obtain ⟨⟨f0, f1, f2⟩, c0, c1, c2, c3⟩ := Z2.f3
      obtain ⟨⟨t0, t1, t2⟩, hB⟩ := put3_ok hB2 (by omega) Z2 (.int .i64 0) (.string ⟨#[]⟩) (.int .i64 0)
      go_wp2
      change bodyPost _ _ _ _ _ (put3 w2 (w.heap.size + 1 + 1) (.int .i64 0) (.string ⟨#[]⟩) (.int .i64 0))
      generalize put3 w2 (w.heap.size + 1 + 1) (.int .i64 0) (.string ⟨#[]⟩) (.int .i64 0) = W at *
      exact bodyPost_ret (v := .tuple #[.agg #[.int .i64 0, .string ⟨#[]⟩, .int .i64 0], .bool false]) (by simp [results, Try.results24, go_sem, t0, t1, t2]) rfl ⟨rfl, hB⟩
    | true =>
      rw [h2] at G2 hg
      have hne : (n == n2) = false := by
        rw [Bool.true_and, Bool.true_and, decide_eq_false_iff_not] at hg
        rw [beq_eq_false_iff_ne]; exact hg
      have hne2 : (n != n2) = true := by rw [bne, hne]; rfl
      have hne3 : decide (n = n2) = false := by simpa using hne
      have hne4 : n ≠ n2 := by simpa using hne
      go_enter Try.func24, Try.ntmps24
      go_wp2_with fail
      refine (G _).mono ?_
      rintro e w1 ⟨rfl, hb1⟩
      have X1 := X0.below hb1
      have Y1 := Y0.below hb1
      have Z1 := Z0.below hb1
      have hB1 := below_then hb3 hb1
      clear X0 Y0 Z0 hb3 hb1 G
      obtain ⟨_, y0, y1, y2⟩ := Y1.c3
      go_wp2_with fail
      refine (G2 _).mono ?_
      rintro e w2 ⟨rfl, hb2⟩
      have X2 := X1.below hb2
      have Y2 := Y1.below hb2
      have Z2 := Z1.below hb2
      have hB2 := below_then hB1 hb2
      clear X1 Y1 Z1 hB1 hb2 y0 y1 y2 G2
      obtain ⟨hzx, x0, x1, x2⟩ := X2.c3
      obtain ⟨hzy, y0, y1, y2⟩ := Y2.c3
      obtain ⟨⟨f0, f1, f2⟩, c0, c1, c2, c3⟩ := Z2.f3
      obtain ⟨⟨t0, t1, t2⟩, hB⟩ := put3_ok hB2 (by omega) Z2 (.int .i64 0) (.string ⟨#[]⟩) (.int .i64 0)
      go_wp2
      change bodyPost _ _ _ _ _ (put3 w2 (w.heap.size + 1 + 1) (.int .i64 0) (.string ⟨#[]⟩) (.int .i64 0))
      generalize put3 w2 (w.heap.size + 1 + 1) (.int .i64 0) (.string ⟨#[]⟩) (.int .i64 0) = W at *
      exact bodyPost_ret (v := .tuple #[.agg #[.int .i64 0, .string ⟨#[]⟩, .int .i64 0], .bool false]) (by simp [results, Try.results24, go_sem, t0, t1, t2]) rfl ⟨rfl, hB⟩

set_option maxHeartbeats 4000000 in
theorem specJoin_good (n : Int) (s : ByteArray) (m : Int) (s2 : ByteArray) (m2 : Int) (w : World) (hg : goodF n s m = true) (hg2 : goodF n s2 m2 = true) :
    Calls Try.prog 24 #[.agg #[.int .i64 n, .string s, .int .i64 m], .agg #[.int .i64 n, .string s2, .int .i64 m2]] w fun e w' =>
      e = .returned (.tuple #[.agg #[.int .i64 n, .string (joinB s s2), .int .i64 (cap6 (m + m2))], .bool true]) ∧ Below w.heap.size w w' := by
  obtain ⟨gh, hs, hm0, hm1⟩ := goodF_parts hg
  obtain ⟨_, hs2, hn0, hn1⟩ := goodF_parts hg2
  have hl : s.data.toList.length = 32 := by simpa using hs
  have hl2 : s2.data.toList.length = 32 := by simpa using hs2
  have G := fun w => specGood_any n s m w
  have G2 := fun w => specGood_any n s2 m2 w
  rw [hg] at G
  rw [hg2] at G2
  have HB : Hid (joinB s s2 = ⟨(orK s.data.toList s2.data.toList 32).toArray⟩) := rfl
  generalize joinB s s2 = B at *
  have hb3 := below3 w (.cells #[.int .i64 n, .string s, .int .i64 m] 24) (.cells #[.int .i64 n, .string s2, .int .i64 m2] 24) (.cells #[.int .i64 0, .string ⟨#[]⟩, .int .i64 0] 24)
  obtain ⟨X0, Y0, Z0⟩ := three_boxes w (.int .i64 n) (.string s) (.int .i64 m) (.int .i64 n) (.string s2) (.int .i64 m2) (.int .i64 0) (.string ⟨#[]⟩) (.int .i64 0)
  go_enter Try.func24, Try.ntmps24
  go_wp2_with fail
  refine (G _).mono ?_
  rintro e w1 ⟨rfl, hb1⟩
  have X1 := X0.below hb1
  have Y1 := Y0.below hb1
  have Z1 := Z0.below hb1
  have hB1 := below_then hb3 hb1
  clear X0 Y0 Z0 hb3 hb1 G
  obtain ⟨_, y0, y1, y2⟩ := Y1.c3
  go_wp2_with fail
  refine (G2 _).mono ?_
  rintro e w2 ⟨rfl, hb2⟩
  have X2 := X1.below hb2
  have Y2 := Y1.below hb2
  have Z2 := Z1.below hb2
  have hB2 := below_then hB1 hb2
  clear X1 Y1 Z1 hB1 hb2 y0 y1 y2 G2
  obtain ⟨hzx, x0, x1, x2⟩ := X2.c3
  obtain ⟨hzy, y0, y1, y2⟩ := Y2.c3
  obtain ⟨cap, w3, hcv, wr3, hb3⟩ := bytes_of s w2
  rw [hs] at hcv
  have X3 := X2.below hb3
  have Y3 := Y2.below hb3
  have Z3 := Z2.below hb3
  have hB3 := below_then hB2 hb3
  have hzz := Z2.1
  go_wp2_with fail
  clear X2 Y2 Z2 hB2 hb3 x0 x1 x2 y0 y1 y2 hcv hzx hzy
  generalize w2.heap.size = G at *
  go_loopw [29] (fun i wr => ∃ k : Nat, k ≤ 32 ∧ i = .int .i64 k ∧ Wr wr G (orK s.data.toList s2.data.toList k) ∧ Chg (· = G) w3 wr) (fun i _ => 32 - (intOf i).toNat)
  case atStart => exact ⟨0, Nat.zero_le _, rfl, wr3, Chg.refl _ _⟩
  case round =>
    obtain ⟨k, hk, rfl, hwr, hch⟩ := hrel
    clear wr3
    have hlk := orK_length s.data.toList s2.data.toList k
    by_cases hlt : k < 32
    · have Y4 := hch.box Y3 (by omega)
      obtain ⟨hzy, y0, y1, y2⟩ := Y4.c3
      have hz4 := hwr.1
      have hkk : k < (orK s.data.toList s2.data.toList k).length := by omega
      have hc1 : wr.cell? ⟨G, k, none⟩ = some (.int .u8 ((s.data.toList.getD k 0).toNat : Int)) := by
        rw [(hwr.2 k hkk).1, ← orK_at s.data.toList s2.data.toList k k (Nat.le_refl _)]
        simp [hkk]
      have hf1 : wr.frozen? ⟨G, k, none⟩ = false := (hwr.2 k hkk).2
      have hks : k < s2.size := by omega
      have hj : k < s2.data.toList.length := by omega
      have hL : s2.data.toList[k] = s2[k] := by simp; rfl
      have hLd : s2.data.toList.getD k 0 = s2[k] := by rw [List.getD_eq_getElem?_getD, List.getElem?_eq_getElem hj, hL]; rfl
      have HX : Hid (Wr (wr.setCell ⟨G, k, none⟩ (.int .u8 (bits BinOp.or IntKind.u8 ((s.data.toList.getD k 0).toNat : Int) (s2[k].toNat : Int)))) G (orK s.data.toList s2.data.toList (k + 1))) := by
        show Wr _ _ _
        rw [or_two, orK, hLd]; exact hwr.set k hkk _
      have hcl := (s.data.toList.getD k 0).toNat_lt
      have hdl := s2[k].toNat_lt
      clear hwr Y4 hL hLd
      generalize s.data.toList.getD k 0 = c at *
      go_wp2_with fail
      go_region
      go_wp2
      go_roundw
      case rel => exact ⟨k + 1, by omega, by go_num, wr_drew HX.out, chg_drew (hch.setCell rfl _)⟩
      case measure => simp [intOf]; omega
    · obtain rfl : k = 32 := by omega
      have hcv := conv_wr (cap := cap) (n := 32) hwr (by omega)
      rw [← HB.out] at hcv
      have X4 := hch.box X3 (by omega)
      have Y4 := hch.box Y3 (by omega)
      have Z4 := hch.box Z3 (by omega)
      have hB4 := hB3.trans (hch.below (B := w.heap.size) hB3.size (fun b h => by omega))
      clear HB hwr hch X3 Y3 Z3 hB3 hlk
      obtain ⟨⟨f0, f1, f2⟩, zx, x0, x1, x2⟩ := X4.f3
      obtain ⟨hzy, y0, y1, y2⟩ := Y4.c3
      obtain ⟨⟨j0, j1, j2⟩, zz, z0, z1, z2⟩ := Z4.f3
      have HC : Hid (cap6 (m + m2) = if 1000000 < m + m2 then 1000000 else m + m2) := by
        show _ = _
        unfold cap6; split <;> split <;> omega
      have hwr2 : IntKind.i64.wrap (m + m2) = m + m2 := by rw [IntKind.wrap_i64]; omega
      by_cases hmm : 1000000 < m + m2
      · rw [if_pos hmm] at HC
        have X5 := ((X4.set 1 (.string B) (by simp)).set 2 (.int .i64 (m + m2)) (by simp)).set 2 (.int .i64 1000000) (by simp)
        have q2 : (((wr.setCell ⟨w.heap.size, 1, none⟩ (.string B)).setCell ⟨w.heap.size, 2, none⟩ (.int .i64 (m + m2))).setCell ⟨w.heap.size, 2, none⟩ (.int .i64 1000000)).cell? ⟨w.heap.size, 2, none⟩ = some (.int .i64 1000000) := X5.c3.2.2.2
        clear X5
        go_wp2
        obtain ⟨⟨t0, t1, t2⟩, hB⟩ := put3_ok (((hB4.setCell (p := ⟨w.heap.size, 1, none⟩) (Nat.le_refl _) _).setCell (p := ⟨w.heap.size, 2, none⟩) (Nat.le_refl _) _).setCell (p := ⟨w.heap.size, 2, none⟩) (Nat.le_refl _) _) (by omega) (((Z4.setOther ⟨w.heap.size, 1, none⟩ _ (by simp; omega)).setOther ⟨w.heap.size, 2, none⟩ _ (by simp; omega)).setOther ⟨w.heap.size, 2, none⟩ _ (by simp; omega)) (.int .i64 n) (.string B) (.int .i64 (1000000))
        change bodyPost _ _ _ _ _ (put3 (((wr.setCell ⟨w.heap.size, 1, none⟩ (.string B)).setCell ⟨w.heap.size, 2, none⟩ (.int .i64 (m + m2))).setCell ⟨w.heap.size, 2, none⟩ (.int .i64 1000000)) (w.heap.size + 1 + 1) (.int .i64 n) (.string B) (.int .i64 (1000000)))
        generalize put3 (((wr.setCell ⟨w.heap.size, 1, none⟩ (.string B)).setCell ⟨w.heap.size, 2, none⟩ (.int .i64 (m + m2))).setCell ⟨w.heap.size, 2, none⟩ (.int .i64 1000000)) (w.heap.size + 1 + 1) (.int .i64 n) (.string B) (.int .i64 (1000000)) = W at *
        exact bodyPost_ret (v := .tuple #[.agg #[.int .i64 n, .string B, .int .i64 (1000000)], .bool true]) (by simp [results, Try.results24, go_sem, t0, t1, t2]) rfl ⟨by rw [HC.out], hB⟩
      · rw [if_neg hmm] at HC
        go_wp2
        obtain ⟨⟨t0, t1, t2⟩, hB⟩ := put3_ok ((hB4.setCell (p := ⟨w.heap.size, 1, none⟩) (Nat.le_refl _) _).setCell (p := ⟨w.heap.size, 2, none⟩) (Nat.le_refl _) _) (by omega) ((Z4.setOther ⟨w.heap.size, 1, none⟩ _ (by simp; omega)).setOther ⟨w.heap.size, 2, none⟩ _ (by simp; omega)) (.int .i64 n) (.string B) (.int .i64 (m + m2))
        change bodyPost _ _ _ _ _ (put3 ((wr.setCell ⟨w.heap.size, 1, none⟩ (.string B)).setCell ⟨w.heap.size, 2, none⟩ (.int .i64 (m + m2))) (w.heap.size + 1 + 1) (.int .i64 n) (.string B) (.int .i64 (m + m2)))
        generalize put3 ((wr.setCell ⟨w.heap.size, 1, none⟩ (.string B)).setCell ⟨w.heap.size, 2, none⟩ (.int .i64 (m + m2))) (w.heap.size + 1 + 1) (.int .i64 n) (.string B) (.int .i64 (m + m2)) = W at *
        exact bodyPost_ret (v := .tuple #[.agg #[.int .i64 n, .string B, .int .i64 (m + m2)], .bool true]) (by simp [results, Try.results24, go_sem, t0, t1, t2]) rfl ⟨by rw [HC.out], hB⟩

theorem implJoin (n : Int) (s : ByteArray) (m : Int) (n2 : Int) (s2 : ByteArray) (m2 : Int) (w : World) :
    Calls Try.prog 23 #[.agg #[.int .i64 n, .string s, .int .i64 m], .agg #[.int .i64 n2, .string s2, .int .i64 m2]] w fun e w' =>
      e = .returned (.tuple #[.agg #[.int .i64 (joinF n s m n2 s2 m2).1, .string (joinF n s m n2 s2 m2).2.1, .int .i64 (joinF n s m n2 s2 m2).2.2.1], .bool (joinF n s m n2 s2 m2).2.2.2]) ∧ Below w.heap.size w w' := by
  unfold joinF
  cases hg : goodF n s m && goodF n2 s2 m2 && decide (n = n2) with
  | false => exact implJoin_bad n s m n2 s2 m2 w hg
  | true =>
    rw [Bool.and_eq_true, Bool.and_eq_true, decide_eq_true_eq] at hg
    obtain ⟨⟨h1, h2⟩, rfl⟩ := hg
    exact implJoin_good n s m s2 m2 w h1 h2

theorem specJoin (n : Int) (s : ByteArray) (m : Int) (n2 : Int) (s2 : ByteArray) (m2 : Int) (w : World) :
    Calls Try.prog 24 #[.agg #[.int .i64 n, .string s, .int .i64 m], .agg #[.int .i64 n2, .string s2, .int .i64 m2]] w fun e w' =>
      e = .returned (.tuple #[.agg #[.int .i64 (joinF n s m n2 s2 m2).1, .string (joinF n s m n2 s2 m2).2.1, .int .i64 (joinF n s m n2 s2 m2).2.2.1], .bool (joinF n s m n2 s2 m2).2.2.2]) ∧ Below w.heap.size w w' := by
  unfold joinF
  cases hg : goodF n s m && goodF n2 s2 m2 && decide (n = n2) with
  | false => exact specJoin_bad n s m n2 s2 m2 w hg
  | true =>
    rw [Bool.and_eq_true, Bool.and_eq_true, decide_eq_true_eq] at hg
    obtain ⟨⟨h1, h2⟩, rfl⟩ := hg
    exact specJoin_good n s m s2 m2 w h1 h2
end Go.Proofs.Ytdcglghmhjbkkaa
