/-
  Filters: impl.AddKey whole.
-/
import Derived.Test.YtdcglghmhjbkkaaR3
namespace Go.Proofs.Ytdcglghmhjbkkaa
open Go.RowKit
set_option linter.unusedVariables false
set_option maxRecDepth 100000

theorem two_boxes (w : World) (a b c d e f : Value) : Box ((w.alloc (.cells #[a, b, c] 24)).alloc (.cells #[d, e, f] 24)) w.heap.size [a, b, c] ∧ Box ((w.alloc (.cells #[a, b, c] 24)).alloc (.cells #[d, e, f] 24)) (w.heap.size + 1) [d, e, f] :=
  ⟨(Box.new w #[a, b, c] 24).alloc _, by simpa using Box.new (w.alloc (.cells #[a, b, c] 24)) #[d, e, f] 24⟩

set_option maxHeartbeats 4000000 in
theorem implAdd_bad (n : Int) (s : ByteArray) (m : Int) (key : ByteArray) (w : World) (hg : (goodK key && goodF n s m) = false) :
    Calls Try.prog 14 #[.agg #[.int .i64 n, .string s, .int .i64 m], .string key] w fun e w' =>
      e = .returned (.tuple #[.agg #[.int .i64 0, .string ⟨#[]⟩, .int .i64 0], .bool false]) ∧ Below w.heap.size w w' := by
  have hb2 := below2 w (.cells #[.int .i64 n, .string s, .int .i64 m] 24) (.cells #[.int .i64 0, .string ⟨#[]⟩, .int .i64 0] 24)
  obtain ⟨X0, Z0⟩ := two_boxes w (.int .i64 n) (.string s) (.int .i64 m) (.int .i64 0) (.string ⟨#[]⟩) (.int .i64 0)
  cases hkh : goodK key && goodH n with
  | false =>
    have P := fun w => implPlaces_bad key n w hkh
    go_enter Try.func14, Try.ntmps14
    go_wp2_with fail
    refine (P _).mono ?_
    rintro e w1 ⟨rfl, hb1⟩
    have Z1 := Z0.below hb1
    have hB1 := below_then hb2 hb1
    clear X0 Z0 hb2 hb1 P
    obtain ⟨⟨f0, f1, f2⟩, c0, c1, c2, c3⟩ := Z1.f3
    obtain ⟨⟨t0, t1, t2⟩, hB⟩ := put3_ok hB1 (by omega) Z1 (.int .i64 0) (.string ⟨#[]⟩) (.int .i64 0)
    go_wp2
    change bodyPost _ _ _ _ _ (put3 w1 (w.heap.size + 1) (.int .i64 0) (.string ⟨#[]⟩) (.int .i64 0))
    generalize put3 w1 (w.heap.size + 1) (.int .i64 0) (.string ⟨#[]⟩) (.int .i64 0) = W at *
    exact bodyPost_ret (v := .tuple #[.agg #[.int .i64 0, .string ⟨#[]⟩, .int .i64 0], .bool false]) (by simp [results, Try.results14, go_sem, t0, t1, t2]) rfl ⟨rfl, hB⟩
  | true =>
    rw [Bool.and_eq_true] at hkh
    have hgf : goodF n s m = false := by rw [hkh.1] at hg; simpa using hg
    obtain ⟨nh, rfl, h1, h8⟩ := goodH_nat hkh.2
    have P := fun w => implPlaces_good key nh w hkh.1 h1 h8
    have G := fun w => implGood_any (nh : Int) s m w
    rw [hgf] at G
    clear hg hkh hgf
    go_enter Try.func14, Try.ntmps14
    go_wp2_with fail
    refine (P _).mono ?_
    rintro e w1 ⟨g, rfl, o1, hb1⟩
    have X1 := X0.below hb1
    have Z1 := Z0.below hb1
    have hB1 := below_then hb2 hb1
    clear X0 Z0 hb2 hb1 P o1
    obtain ⟨_, x0, x1, x2⟩ := X1.c3
    go_wp2_with fail
    refine (G _).mono ?_
    rintro e w2 ⟨rfl, hb2⟩
    have Z2 := Z1.below hb2
    have hB2 := below_then hB1 hb2
    clear X1 Z1 hB1 hb2 x0 x1 x2 G
    obtain ⟨⟨f0, f1, f2⟩, c0, c1, c2, c3⟩ := Z2.f3
    obtain ⟨⟨t0, t1, t2⟩, hB⟩ := put3_ok hB2 (by omega) Z2 (.int .i64 0) (.string ⟨#[]⟩) (.int .i64 0)
    go_wp2
    change bodyPost _ _ _ _ _ (put3 w2 (w.heap.size + 1) (.int .i64 0) (.string ⟨#[]⟩) (.int .i64 0))
    generalize put3 w2 (w.heap.size + 1) (.int .i64 0) (.string ⟨#[]⟩) (.int .i64 0) = W at *
    exact bodyPost_ret (v := .tuple #[.agg #[.int .i64 0, .string ⟨#[]⟩, .int .i64 0], .bool false]) (by simp [results, Try.results14, go_sem, t0, t1, t2]) rfl ⟨rfl, hB⟩
theorem implAdd (n : Int) (s : ByteArray) (m : Int) (key : ByteArray) (w : World) :
    Calls Try.prog 14 #[.agg #[.int .i64 n, .string s, .int .i64 m], .string key] w fun e w' =>
      e = .returned (.tuple #[.agg #[.int .i64 (addF n s m key).1, .string (addF n s m key).2.1, .int .i64 (addF n s m key).2.2.1], .bool (addF n s m key).2.2.2]) ∧ Below w.heap.size w w' := by
  unfold addF
  cases hg : goodK key && goodF n s m with
  | false => exact implAdd_bad n s m key w hg
  | true =>
    rw [Bool.and_eq_true] at hg
    obtain ⟨nh, rfl, _⟩ := goodH_nat (goodF_parts hg.2).1
    exact implAdd_good nh s m key w hg.1 hg.2

set_option maxHeartbeats 4000000 in
theorem l5Add_any (nh : Nat) (s : ByteArray) (m : Int) (key : ByteArray) (w : World) (hk : goodK key = true) (hg : goodF (nh : Int) s m = true) :
    Calls Try.prog 48 #[.agg #[.int .i64 (nh : Int), .string s, .int .i64 m], .string key] w fun e w' =>
      e = .returned (.agg #[.int .i64 (nh : Int), .string (addB s nh key), .int .i64 (cap6 (m + 1))]) ∧ Below w.heap.size w w' := by
  obtain ⟨gh, hs, hm0, hm1⟩ := goodF_parts hg
  obtain ⟨nh', e1, h1, h8⟩ := goodH_nat gh
  obtain rfl : nh = nh' := by omega
  clear e1
  have hl : s.data.toList.length = 32 := by simpa using hs
  have P := fun w => l5Places_any key nh w hk h8
  have HB : Hid (addB s nh key = ⟨(setBs s.data.toList (plK key nh)).toArray⟩) := rfl
  generalize addB s nh key = B at *
  have hps := plK_lt key nh
  have hpl := plK_length key nh
  have hpz : plZ key nh = (plK key nh).map Int.ofNat := rfl
  rw [hpz] at P
  clear hpz
  generalize plK key nh = ps at *
  have hq : ∀ (k : Nat) (hk : k < ps.length), ps[k] < 256 := fun k hk => hps _ (List.getElem_mem hk)
  have hb2 := below2 w (.cells #[.int .i64 (nh : Int), .string s, .int .i64 m] 24) (.cells #[.int .i64 0, .string ⟨#[]⟩, .int .i64 0] 24)
  obtain ⟨X0, Z0⟩ := two_boxes w (.int .i64 (nh : Int)) (.string s) (.int .i64 m) (.int .i64 0) (.string ⟨#[]⟩) (.int .i64 0)
  obtain ⟨cap, W1, hcv, wr1, hb1⟩ := bytes_of s ((w.alloc (.cells #[.int .i64 (nh : Int), .string s, .int .i64 m] 24)).alloc (.cells #[.int .i64 0, .string ⟨#[]⟩, .int .i64 0] 24))
  rw [hs] at hcv
  have X1 := X0.below hb1
  have Z1 := Z0.below hb1
  have hB1 := below_then hb2 hb1
  have hzz : ((w.alloc (.cells #[.int .i64 (nh : Int), .string s, .int .i64 m] 24)).alloc (.cells #[.int .i64 0, .string ⟨#[]⟩, .int .i64 0] 24)).heap.size = w.heap.size + 1 + 1 := by simp
  rw [hzz] at hcv wr1
  clear hzz X0 Z0 hb2 hb1
  have hx1 := X1.c3
  go_enter Try.func48, Try.ntmps48
  go_wp2_with fail
  refine (P _).mono ?_
  rintro e w2 ⟨v, rfl, o2, hb2⟩
  have hge := owns_ge o2
  have il := IL_of_owns (zs := ps.map Int.ofNat) o2 (by rw [List.length_map]; exact hpl.symm)
  have X2 := X1.below hb2
  have Z2 := Z1.below hb2
  have wr2 := wr1.below hb2
  have hB2 := below_then hB1 hb2
  have hz1 := wr1.1
  obtain ⟨a, cap', rfl, hc⟩ := il
  rw [List.length_map] at hge ⊢
  clear o2 X1 Z1 wr1 hB1 hb2 hx1 P hcv
  go_wp2_with fail
  go_loopw [16] (fun i wr => ∃ k : Nat, k ≤ ps.length ∧ i = .int .i64 k ∧ Wr wr (w.heap.size + 1 + 1) (setBs s.data.toList (ps.take k)) ∧ Chg (· = w.heap.size + 1 + 1) w2 wr) (fun i _ => ps.length - (intOf i).toNat)
  case atStart => exact ⟨0, Nat.zero_le _, rfl, wr2, Chg.refl _ _⟩
  case round =>
    obtain ⟨k, hk, rfl, hwr, hch⟩ := hrel
    clear wr2
    have hlk : (setBs s.data.toList (ps.take k)).length = 32 := by rw [setBs_length]; exact hl
    by_cases hlt : k < ps.length
    · obtain ⟨b, off, rfl, hbl, hcell⟩ := hc (by intro e; rw [List.map_eq_nil_iff] at e; simp [e] at hlt)
      have hgb := hge b rfl
      have hp0 := hq k hlt
      have hc0 : wr.cell? ⟨b, off + k, none⟩ = some (.int .i64 ((ps[k] : Nat) : Int)) := by
        have e := hch.block b hbl (by omega)
        have e2 := hcell k (by simpa using hlt)
        rw [List.getElem_map] at e2
        simp only [World.cell?] at e2 ⊢
        rw [e]; exact e2
      obtain ⟨r, hr⟩ : ∃ r, r = setBs s.data.toList (ps.take k) := ⟨_, rfl⟩
      have HS : Hid (setBs s.data.toList (ps.take (k + 1)) = setB r ps[k]) := by show _ = _; rw [hr]; exact setBs_take_succ _ ps k hlt
      rw [← hr] at hwr hlk
      have hpl2 : ps[k] / 8 < r.length := by omega
      have hz3 := hwr.1
      have hc1 : wr.cell? ⟨w.heap.size + 1 + 1, ps[k] / 8, none⟩ = some (.int .u8 ((r.getD (ps[k] / 8) 0).toNat : Int)) := by
        rw [(hwr.2 _ hpl2).1]; simp [hpl2]
      have hf1 : wr.frozen? ⟨w.heap.size + 1 + 1, ps[k] / 8, none⟩ = false := (hwr.2 _ hpl2).2
      have hcl := (r.getD (ps[k] / 8) 0).toNat_lt
      have HV : Hid (bits BinOp.or IntKind.u8 ((r.getD (ps[k] / 8) 0).toNat : Int) (2 ^ (ps[k] % 8) % 256) = (((r.getD (ps[k] / 8) 0) ||| UInt8.ofNat (2 ^ (ps[k] % 8))).toNat : Int)) := or_bit _ _
      have HX : Hid (Wr (wr.setCell ⟨w.heap.size + 1 + 1, ps[k] / 8, none⟩ (.int .u8 (bits BinOp.or IntKind.u8 ((r.getD (ps[k] / 8) 0).toNat : Int) (2 ^ (ps[k] % 8) % 256)))) (w.heap.size + 1 + 1) (setB r ps[k])) := by
        show Wr _ _ _
        rw [HV.out]; exact hwr.set _ hpl2 _
      clear hr hcell hc hq HV hwr
      generalize ps[k] = p at *
      generalize (r.getD (p / 8) 0) = c at *
      go_wp2
      go_roundw
      case rel =>
        refine ⟨k + 1, by omega, by go_num, ?_, hch.setCell rfl _⟩
        rw [HS.out]; exact HX.out
      case measure => simp [intOf]; omega
    · obtain rfl : k = ps.length := by omega
      rw [List.take_length] at hwr hlk
      have hcv := conv_wr (cap := cap) hwr hlk
      rw [← HB.out] at hcv
      have X3 := hch.box X2 (by omega)
      have Z3 := hch.box Z2 (by omega)
      have hB3 := hB2.trans (hch.below (B := w.heap.size) (by have := hB2.size; omega) (fun b h => by omega))
      clear HB hwr hch X2 Z2 hB2 hc hge hq hps hlk
      obtain ⟨⟨f0, f1, f2⟩, zx, x0, x1, x2⟩ := X3.f3
      obtain ⟨⟨j0, j1, j2⟩, zz, z0, z1, z2⟩ := Z3.f3
      have HC : Hid (cap6 (m + 1) = if m < 1000000 then m + 1 else m) := by
        show _ = _
        unfold cap6; split <;> split <;> omega
      by_cases hmm : m < 1000000
      · rw [if_pos hmm] at HC
        go_wp2
        obtain ⟨⟨t0, t1, t2⟩, hB⟩ := put3_ok ((hB3.setCell (p := ⟨w.heap.size, 1, none⟩) (Nat.le_refl _) _).setCell (p := ⟨w.heap.size, 2, none⟩) (Nat.le_refl _) _) (by omega) ((Z3.setOther ⟨w.heap.size, 1, none⟩ _ (by simp)).setOther ⟨w.heap.size, 2, none⟩ _ (by simp)) (.int .i64 (nh : Int)) (.string B) (.int .i64 (m + 1))
        change bodyPost _ _ _ _ _ (put3 ((wr.setCell ⟨w.heap.size, 1, none⟩ (.string B)).setCell ⟨w.heap.size, 2, none⟩ (.int .i64 (m + 1))) (w.heap.size + 1) (.int .i64 (nh : Int)) (.string B) (.int .i64 (m + 1)))
        generalize put3 ((wr.setCell ⟨w.heap.size, 1, none⟩ (.string B)).setCell ⟨w.heap.size, 2, none⟩ (.int .i64 (m + 1))) (w.heap.size + 1) (.int .i64 (nh : Int)) (.string B) (.int .i64 (m + 1)) = W at *
        exact bodyPost_ret (v := .agg #[.int .i64 (nh : Int), .string B, .int .i64 (m + 1)]) (by simp [results, Try.results48, go_sem, t0, t1, t2]) rfl ⟨by rw [HC.out], hB⟩
      · rw [if_neg hmm] at HC
        go_wp2
        obtain ⟨⟨t0, t1, t2⟩, hB⟩ := put3_ok (hB3.setCell (p := ⟨w.heap.size, 1, none⟩) (Nat.le_refl _) _) (by omega) (Z3.setOther ⟨w.heap.size, 1, none⟩ _ (by simp)) (.int .i64 (nh : Int)) (.string B) (.int .i64 (m))
        change bodyPost _ _ _ _ _ (put3 (wr.setCell ⟨w.heap.size, 1, none⟩ (.string B)) (w.heap.size + 1) (.int .i64 (nh : Int)) (.string B) (.int .i64 (m)))
        generalize put3 (wr.setCell ⟨w.heap.size, 1, none⟩ (.string B)) (w.heap.size + 1) (.int .i64 (nh : Int)) (.string B) (.int .i64 (m)) = W at *
        exact bodyPost_ret (v := .agg #[.int .i64 (nh : Int), .string B, .int .i64 (m)]) (by simp [results, Try.results48, go_sem, t0, t1, t2]) rfl ⟨by rw [HC.out], hB⟩

set_option maxHeartbeats 4000000 in
theorem specAdd_bad (n : Int) (s : ByteArray) (m : Int) (key : ByteArray) (w : World) (hg : (goodK key && goodF n s m) = false) :
    Calls Try.prog 15 #[.agg #[.int .i64 n, .string s, .int .i64 m], .string key] w fun e w' =>
      e = .returned (.tuple #[.agg #[.int .i64 0, .string ⟨#[]⟩, .int .i64 0], .bool false]) ∧ Below w.heap.size w w' := by
  have hb2 := below2 w (.cells #[.int .i64 n, .string s, .int .i64 m] 24) (.cells #[.int .i64 0, .string ⟨#[]⟩, .int .i64 0] 24)
  obtain ⟨X0, Z0⟩ := two_boxes w (.int .i64 n) (.string s) (.int .i64 m) (.int .i64 0) (.string ⟨#[]⟩) (.int .i64 0)
  have G := fun w => specGood_any n s m w
  have K := fun w => l4Key_any key w
  cases hgf : goodF n s m with
  | false =>
    rw [hgf] at G
    go_enter Try.func15, Try.ntmps15
    go_wp2_with fail
    refine (G _).mono ?_
    rintro e w1 ⟨rfl, hb1⟩
    have Z1 := Z0.below hb1
    have hB1 := below_then hb2 hb1
    clear X0 Z0 hb2 hb1 G K
    obtain ⟨⟨f0, f1, f2⟩, c0, c1, c2, c3⟩ := Z1.f3
    obtain ⟨⟨t0, t1, t2⟩, hB⟩ := put3_ok hB1 (by omega) Z1 (.int .i64 0) (.string ⟨#[]⟩) (.int .i64 0)
    go_wp2
    change bodyPost _ _ _ _ _ (put3 w1 (w.heap.size + 1) (.int .i64 0) (.string ⟨#[]⟩) (.int .i64 0))
    generalize put3 w1 (w.heap.size + 1) (.int .i64 0) (.string ⟨#[]⟩) (.int .i64 0) = W at *
    exact bodyPost_ret (v := .tuple #[.agg #[.int .i64 0, .string ⟨#[]⟩, .int .i64 0], .bool false]) (by simp [results, Try.results15, go_sem, t0, t1, t2]) rfl ⟨rfl, hB⟩
  | true =>
    have hkf : goodK key = false := by rw [hgf, Bool.and_true] at hg; exact hg
    rw [hgf] at G
    rw [hkf] at K
    go_enter Try.func15, Try.ntmps15
    go_wp2_with fail
    refine (G _).mono ?_
    rintro e w1 ⟨rfl, hb1⟩
    have Z1 := Z0.below hb1
    have hB1 := below_then hb2 hb1
    clear X0 Z0 hb2 hb1 G
    go_wp2_with fail
    refine (K _).mono ?_
    rintro e w2 ⟨rfl, hw⟩
    rw [hw]; clear hw K
    obtain ⟨⟨f0, f1, f2⟩, c0, c1, c2, c3⟩ := Z1.f3
    obtain ⟨⟨t0, t1, t2⟩, hB⟩ := put3_ok hB1 (by omega) Z1 (.int .i64 0) (.string ⟨#[]⟩) (.int .i64 0)
    go_wp2
    change bodyPost _ _ _ _ _ (put3 w1 (w.heap.size + 1) (.int .i64 0) (.string ⟨#[]⟩) (.int .i64 0))
    generalize put3 w1 (w.heap.size + 1) (.int .i64 0) (.string ⟨#[]⟩) (.int .i64 0) = W at *
    exact bodyPost_ret (v := .tuple #[.agg #[.int .i64 0, .string ⟨#[]⟩, .int .i64 0], .bool false]) (by simp [results, Try.results15, go_sem, t0, t1, t2]) rfl ⟨rfl, hB⟩
set_option maxHeartbeats 4000000 in
theorem specAdd_good (nh : Nat) (s : ByteArray) (m : Int) (key : ByteArray) (w : World) (hk : goodK key = true) (hg : goodF (nh : Int) s m = true) :
    Calls Try.prog 15 #[.agg #[.int .i64 (nh : Int), .string s, .int .i64 m], .string key] w fun e w' =>
      e = .returned (.tuple #[.agg #[.int .i64 (nh : Int), .string (addB s nh key), .int .i64 (cap6 (m + 1))], .bool true]) ∧ Below w.heap.size w w' := by
  have hb2 := below2 w (.cells #[.int .i64 (nh : Int), .string s, .int .i64 m] 24) (.cells #[.int .i64 0, .string ⟨#[]⟩, .int .i64 0] 24)
  obtain ⟨X0, Z0⟩ := two_boxes w (.int .i64 (nh : Int)) (.string s) (.int .i64 m) (.int .i64 0) (.string ⟨#[]⟩) (.int .i64 0)
  have G := fun w => specGood_any (nh : Int) s m w
  have K := fun w => l4Key_any key w
  have A := fun w => l5Add_any nh s m key w hk hg
  generalize addB s nh key = B at *
  generalize cap6 (m + 1) = c at *
  rw [hg] at G
  rw [hk] at K
  go_enter Try.func15, Try.ntmps15
  go_wp2_with fail
  refine (G _).mono ?_
  rintro e w1 ⟨rfl, hb1⟩
  have X1 := X0.below hb1
  have Z1 := Z0.below hb1
  have hB1 := below_then hb2 hb1
  clear X0 Z0 hb2 hb1 G
  go_wp2_with fail
  refine (K _).mono ?_
  rintro e w2 ⟨rfl, hw⟩
  rw [hw]; clear hw K
  obtain ⟨_, x0, x1, x2⟩ := X1.c3
  go_wp2_with fail
  refine (A _).mono ?_
  rintro e w2 ⟨rfl, hb2⟩
  have Z2 := Z1.below hb2
  have hB2 := below_then hB1 hb2
  clear X1 Z1 hB1 hb2 A x0 x1 x2
  obtain ⟨⟨f0, f1, f2⟩, c0, c1, c2, c3⟩ := Z2.f3
  obtain ⟨⟨t0, t1, t2⟩, hB⟩ := put3_ok hB2 (by omega) Z2 (.int .i64 (nh : Int)) (.string B) (.int .i64 c)
  go_wp2
  change bodyPost _ _ _ _ _ (put3 w2 (w.heap.size + 1) (.int .i64 (nh : Int)) (.string B) (.int .i64 c))
  generalize put3 w2 (w.heap.size + 1) (.int .i64 (nh : Int)) (.string B) (.int .i64 c) = W at *
  exact bodyPost_ret (v := .tuple #[.agg #[.int .i64 (nh : Int), .string B, .int .i64 c], .bool true]) (by simp [results, Try.results15, go_sem, t0, t1, t2]) rfl ⟨rfl, hB⟩
theorem specAdd (n : Int) (s : ByteArray) (m : Int) (key : ByteArray) (w : World) :
    Calls Try.prog 15 #[.agg #[.int .i64 n, .string s, .int .i64 m], .string key] w fun e w' =>
      e = .returned (.tuple #[.agg #[.int .i64 (addF n s m key).1, .string (addF n s m key).2.1, .int .i64 (addF n s m key).2.2.1], .bool (addF n s m key).2.2.2]) ∧ Below w.heap.size w w' := by
  unfold addF
  cases hg : goodK key && goodF n s m with
  | false => exact specAdd_bad n s m key w hg
  | true =>
    rw [Bool.and_eq_true] at hg
    obtain ⟨nh, rfl, _⟩ := goodH_nat (goodF_parts hg.2).1
    exact specAdd_good nh s m key w hg.1 hg.2
end Go.Proofs.Ytdcglghmhjbkkaa
