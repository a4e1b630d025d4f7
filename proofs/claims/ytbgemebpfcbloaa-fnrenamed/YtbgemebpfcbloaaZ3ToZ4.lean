/-
  spec.l1Crash.
  spec.l1Do: what is looked up; steps that are bad.
-/
import Derived.Test.YtbgemebpfcbloaaZ2
namespace Go.Proofs.Ytbgemebpfcbloaa
open Go.RowKit Go.Maps
set_option linter.unusedVariables false
set_option maxRecDepth 100000

/-- The first i blobs behind a crash, the others as they were. -/
def mixL (kn : Nat) (bl : List (ByteArray × Int)) (i : Nat) : List (ByteArray × Int) := (bl.map (crB kn)).take i ++ bl.drop i
theorem mixL_length (kn : Nat) (bl : List (ByteArray × Int)) (i : Nat) (h : i ≤ bl.length) : (mixL kn bl i).length = bl.length := by simp [mixL]; omega
theorem mixL_zero (kn : Nat) (bl : List (ByteArray × Int)) : mixL kn bl 0 = bl := by simp [mixL]
theorem mixL_all (kn : Nat) (bl : List (ByteArray × Int)) : mixL kn bl bl.length = bl.map (crB kn) := by
  unfold mixL; rw [List.drop_length, List.append_nil, List.take_of_length_le (by simp)]
theorem mixL_at (kn : Nat) (bl : List (ByteArray × Int)) (i : Nat) (h : i < bl.length) : (mixL kn bl i)[i]'(by rw [mixL_length kn bl i (by omega)]; exact h) = bl[i] := by
  simp only [mixL]
  rw [List.getElem_append_right (by simp; omega)]
  simp [Nat.min_eq_left (Nat.le_of_lt h)]
theorem mixL_set (kn : Nat) (bl : List (ByteArray × Int)) (i : Nat) (h : i < bl.length) : (mixL kn bl i).set i (crB kn bl[i]) = mixL kn bl (i + 1) := by
  apply List.ext_getElem?
  intro j
  have hl := mixL_length kn bl i (by omega)
  by_cases hj : j = i
  · subst hj
    rw [List.getElem?_set_self (by omega)]
    unfold mixL
    rw [List.getElem?_append_left (by simp; omega), List.getElem?_take_of_lt (by omega)]
    simp [h]
  · rw [List.getElem?_set_ne (by omega)]
    unfold mixL
    by_cases hji : j < i
    · rw [List.getElem?_append_left (by simp; omega), List.getElem?_append_left (by simp; omega), List.getElem?_take_of_lt hji, List.getElem?_take_of_lt (by omega)]
    · rw [List.getElem?_append_right (by simp; omega), List.getElem?_append_right (by simp; omega)]
      simp only [List.length_take, List.length_map, List.getElem?_drop]
      congr 1
      omega

set_option maxHeartbeats 4000000 in
theorem l1Crash_any (g1 c1 g2 c2 g3 c3 : Nat) (bl lv sf : List (ByteArray × Int)) (r : Int) (base kn : Nat) (w : World) (hM : MadeS base w g1 c1 g2 c2 g3 c3 bl lv sf) (hbase : base ≤ w.heap.size) (hk : kn ≤ 4000) (hg : okBs bl = true) (hn1 : bl.length ≤ 60) (hn3 : sf.length ≤ 20) :
    Calls Try.prog 111 #[.agg #[.slice (some ⟨g1, 0, none⟩) bl.length c1, .slice (some ⟨g2, 0, none⟩) lv.length c2, .slice (some ⟨g3, 0, none⟩) sf.length c3, .int .i64 r], .int .i64 kn] w fun e w' => (∃ g5 c5, e = .returned (.agg #[.slice (some ⟨g1, 0, none⟩) (bl.map (crB kn)).length c1, .slice (some ⟨g5, 0, none⟩) sf.length c5, .slice (some ⟨g3, 0, none⟩) sf.length c3, .int .i64 r]) ∧ MadeS base w' g1 c1 g5 c5 g3 c3 (bl.map (crB kn)) sf sf) ∧ Below base w w' := by
  obtain ⟨j0, hj, kz0, kzs, kzb⟩ := info_parts Try.info39
  obtain ⟨o1, o2, o3, d12, d13, d23⟩ := hM
  have q1 := owns_lt o1
  have q3 := owns_lt o3
  obtain ⟨W0, hW0⟩ : ∃ W0, W0 = ((w.alloc (.cells #[.slice (some ⟨g1, 0, none⟩) bl.length c1, .slice (some ⟨g2, 0, none⟩) lv.length c2, .slice (some ⟨g3, 0, none⟩) sf.length c3, .int .i64 r] 26)).alloc (.cells #[.slice none 0 0, .slice none 0 0, .slice none 0 0, .int .i64 0] 26)).alloc (.cells #[] 39) := ⟨_, rfl⟩
  have hB0 : Below w.heap.size w W0 := by rw [hW0]; exact below3 _ _ _ _
  have X0 : Box W0 w.heap.size [.slice (some ⟨g1, 0, none⟩) bl.length c1, .slice (some ⟨g2, 0, none⟩) lv.length c2, .slice (some ⟨g3, 0, none⟩) sf.length c3, .int .i64 r] := by rw [hW0]; exact ((Box.new w _ _).alloc _).alloc _
  have Z0 : Box W0 (w.heap.size + 1) [.slice none 0 0, .slice none 0 0, .slice none 0 0, .int .i64 0] := by
    rw [hW0]
    have := (Box.new (w.alloc (.cells #[.slice (some ⟨g1, 0, none⟩) bl.length c1, .slice (some ⟨g2, 0, none⟩) lv.length c2, .slice (some ⟨g3, 0, none⟩) sf.length c3, .int .i64 r] 26)) #[.slice none 0 0, .slice none 0 0, .slice none 0 0, .int .i64 0] 26).alloc (.cells #[] 39)
    simpa using this
  have hzW : W0.heap.size = w.heap.size + 3 := by rw [hW0]; simp
  have E0 : W0.ownsRow (w.heap.size + 2) 39 2 (.slice (some ⟨w.heap.size + 1 + 1, 0, none⟩) 0 0) 0 [] := by
    rw [hW0]
    have := World.ownsRow_made (base := w.heap.size + 2) (e := 39) (size := 2) ((w.alloc (.cells #[.slice (some ⟨g1, 0, none⟩) bl.length c1, .slice (some ⟨g2, 0, none⟩) lv.length c2, .slice (some ⟨g3, 0, none⟩) sf.length c3, .int .i64 r] 26)).alloc (.cells #[.slice none 0 0, .slice none 0 0, .slice none 0 0, .int .i64 0] 26)) #[] 0 (by simp) (Nat.zero_le _) (by simp)
    simpa using this
  have O1 := owns_below o1 hB0
  have O3 := owns_below o3 hB0
  obtain ⟨_, x0, x1, x2, x3⟩ := X0.c4
  go_enter Try.func111, Try.ntmps111
  go_wp2_with (at_builtin; rw [← hW0]; refine append_px rfl _ _ 24 rfl (w.heap.size + 2) 39 j0 Try.underlying24 hj kz0 kzs kzb (.slice (some ⟨w.heap.size + 1 + 1, 0, none⟩) 0 0) 0 [] rfl E0 (by simp) (.slice (some ⟨g3, 0, none⟩) sf.length c3) sf rfl (PZ_of_owns O3) (by omega) (by omega) ?_; intro g5 c5 w1 o5 hg1; refine Stop.go ?_)
  rw [Nat.zero_add, List.nil_append] at o5
  have hC1 := chg_grown hg1
  have z1 := hg1.size
  have Y1 := hC1.box X0 (fun e => by simp only [Value.ownBlock, Option.some.injEq] at e; omega)
  have Z1 := hC1.box Z0 (fun e => by simp only [Value.ownBlock, Option.some.injEq] at e; omega)
  have q5 := owns_lt o5
  have P1 := hC1.owns O1 (fun g hg h => by simp only [Value.ownBlock, Option.some.injEq] at hg h; omega)
  have P3 := hC1.owns O3 (fun g hg h => by simp only [Value.ownBlock, Option.some.injEq] at hg h; omega)
  have hB1 : Below base w w1 := (hB0.mono hbase).trans (hC1.below (by omega) (fun k h => by simp only [Value.ownBlock, Option.some.injEq] at h; omega))
  clear hW0 x0 x1 x2 x3 E0 O1 O3 o1 o2 o3 hC1 X0 Z0
  obtain ⟨_, x0, x1, x2, x3⟩ := Y1.c4
  have f1 := Y1.2.2 1
  have X2 := Y1.set 1 (.slice (some ⟨g5, 0, none⟩) sf.length c5) (by simp)
  have hS : Chg (· = w.heap.size) w1 (w1.setCell ⟨w.heap.size, 1, none⟩ (.slice (some ⟨g5, 0, none⟩) sf.length c5)) := (Chg.refl (· = w.heap.size) w1).setCell (p := ⟨w.heap.size, 1, none⟩) rfl _
  have Z2 := hS.box Z1 (by omega)
  have R1 := hS.owns P1 (fun g hg h => by simp only [Value.ownBlock, Option.some.injEq] at hg; omega)
  have R3 := hS.owns P3 (fun g hg h => by simp only [Value.ownBlock, Option.some.injEq] at hg; omega)
  have R5 := hS.owns o5 (fun g hg h => by simp only [Value.ownBlock, Option.some.injEq] at hg; omega)
  have hB2 := hB1.trans (hS.below (by omega) (fun k h => by omega))
  have hz2 : (w1.setCell ⟨w.heap.size, 1, none⟩ (.slice (some ⟨g5, 0, none⟩) sf.length c5)).heap.size = w1.heap.size := by simp
  unfold Stop
  go_wp2
  clear x0 x1 x2 x3 f1 Y1 Z1 P1 P3 o5 hS hB1
  generalize w1.setCell ⟨w.heap.size, 1, none⟩ (.slice (some ⟨g5, 0, none⟩) sf.length c5) = w2 at *
  have hB := (okBs_iff _).1 hg
  go_loopw [16] (fun i wr => ∃ k : Nat, k ≤ bl.length ∧ i = .int .i64 k ∧ Box wr w.heap.size [.slice (some ⟨g1, 0, none⟩) bl.length c1, .slice (some ⟨g5, 0, none⟩) sf.length c5, .slice (some ⟨g3, 0, none⟩) sf.length c3, .int .i64 r] ∧ Box wr (w.heap.size + 1) [.slice none 0 0, .slice none 0 0, .slice none 0 0, .int .i64 0] ∧
      wr.ownsRow base 43 2 (.slice (some ⟨g1, 0, none⟩) bl.length c1) bl.length (flat (mixL kn bl k)) ∧ wr.ownsRow base 39 2 (.slice (some ⟨g3, 0, none⟩) sf.length c3) sf.length (flat sf) ∧ wr.ownsRow (w.heap.size + 2) 39 2 (.slice (some ⟨g5, 0, none⟩) sf.length c5) sf.length (flat sf) ∧ Below base w wr ∧ w.heap.size + 3 ≤ wr.heap.size) (fun i _ => bl.length - (intOf i).toNat)
  case atStart => exact ⟨0, Nat.zero_le _, rfl, X2, Z2, by rw [mixL_zero]; exact R1, R3, R5, hB2, by omega⟩
  case round =>
    clear X2 Z2 R1 R3 R5 hB2
    obtain ⟨k, hkl, rfl, X, Z, O1, O3, O5, hBk, hzk⟩ := hrel
    by_cases hlt : k < bl.length
    · have hbk := hB bl[k] (List.getElem_mem _)
      obtain ⟨mn, hmn⟩ : ∃ mn : Nat, bl[k].2 = mn := ⟨bl[k].2.toNat, by omega⟩
      obtain ⟨s, hse⟩ : ∃ s, s = bl[k].1 := ⟨_, rfl⟩
      have hml := mixL_length kn bl k hkl
      obtain ⟨k0, k1, j0', j1'⟩ := owns_at O1 k hlt (by omega)
      rw [mixL_at kn bl k hlt] at k0 k1
      rw [hmn] at k1
      rw [← hse] at k0
      have hss : s.size ≤ 4000 := by rw [hse]; exact hbk.1
      have hmm : mn ≤ s.size := by rw [hse]; have := hbk.2.2; omega
      have HS : Hid (crB kn bl[k] = (s.extract 0 (min s.size (mn + kn)), ((min s.size (mn + kn) : Nat) : Int))) := by
        show _ = _
        rw [crash_cut _ mn kn hmn, ← hse]
      have HN : Hid ((mixL kn bl k).set k (crB kn bl[k]) = mixL kn bl (k + 1)) := mixL_set kn bl k hlt
      obtain ⟨_, x0, x1, x2, x3⟩ := X.c4
      have q1' := owns_lt O1
      have ne1 : ¬ (g1 = wr.heap.size) := by omega
      have ne2 : ¬ (wr.heap.size = g1) := by omega
      have hki : (k : Int) < bl.length := by omega
      clear hbk hmn hse
      by_cases hcut : (s.size : Int) ≤ (mn : Int) + kn
      · have hd : decide ((mn : Int) + kn < (s.size : Int)) = false := by simp; omega
        go_wp2_with fail
        go_region
        all_goals
          have hO := owns_set O1 k s (s.size : Nat)
          rw [show (s, ((s.size : Nat) : Int)) = crB kn bl[k] from by rw [HS.out]; rw [Nat.min_eq_left (by omega)]; simp, HN.out] at hO
          have hC : Chg (· = g1) wr ((wr.setCell ⟨g1, k * 2, none⟩ (.string s)).setCell ⟨g1, k * 2 + 1, none⟩ (.int .i64 (s.size : Nat))) := (((Chg.refl (· = g1) wr).setCell (p := ⟨g1, k * 2, none⟩) rfl _).setCell (p := ⟨g1, k * 2 + 1, none⟩) rfl _)
          have hA : Below (((wr.setCell ⟨g1, k * 2, none⟩ (.string s)).setCell ⟨g1, k * 2 + 1, none⟩ (.int .i64 (s.size : Nat)))).heap.size ((wr.setCell ⟨g1, k * 2, none⟩ (.string s)).setCell ⟨g1, k * 2 + 1, none⟩ (.int .i64 (s.size : Nat))) ((((wr.setCell ⟨g1, k * 2, none⟩ (.string s)).setCell ⟨g1, k * 2 + 1, none⟩ (.int .i64 (s.size : Nat))).alloc (.cells #[.string s, .int .i64 mn] 43)).drew) := (below_alloc _ _).drew
          have X' := (hC.box X (by omega)).below hA
          have Z' := (hC.box Z (by omega)).below hA
          have O1' := owns_below hO hA
          have O3' := owns_below (hC.owns O3 (fun g hg h => by subst h; exact d13 g rfl hg)) hA
          have O5' := owns_below (hC.owns O5 (fun g hg h => by have := owns_ge O5 g hg; omega)) hA
          have hB' : Below base w ((((wr.setCell ⟨g1, k * 2, none⟩ (.string s)).setCell ⟨g1, k * 2 + 1, none⟩ (.int .i64 (s.size : Nat))).alloc (.cells #[.string s, .int .i64 mn] 43)).drew) := (hBk.trans (hC.below (by omega) (fun b h => by omega))).trans (hA.mono (by simp; omega))
          have hz' : w.heap.size + 3 ≤ ((((wr.setCell ⟨g1, k * 2, none⟩ (.string s)).setCell ⟨g1, k * 2 + 1, none⟩ (.int .i64 (s.size : Nat))).alloc (.cells #[.string s, .int .i64 mn] 43)).drew).heap.size := by have := hA.size; simp at this ⊢; omega
          clear X Z O1 O3 O5 hO hC hA x0 x1 x2 x3 k0 k1 j0' j1'
          generalize ((((wr.setCell ⟨g1, k * 2, none⟩ (.string s)).setCell ⟨g1, k * 2 + 1, none⟩ (.int .i64 (s.size : Nat))).alloc (.cells #[.string s, .int .i64 mn] 43)).drew) = wn at *
          go_wp2
          go_roundw
          case rel => exact ⟨k + 1, by omega, by go_num, X', Z', O1', O3', O5', hB', hz'⟩
          case measure => simp [intOf]; omega
      · have hd : decide ((mn : Int) + kn < (s.size : Int)) = true := by simp; omega
        go_wp2_with fail
        go_region
        all_goals
          have hO := owns_set O1 k (s.extract 0 (mn + kn)) ((mn : Int) + kn)
          rw [show ((s.extract 0 (mn + kn)), (((mn : Int) + kn) : Int)) = crB kn bl[k] from by rw [HS.out]; rw [Nat.min_eq_right (by omega)]; simp, HN.out] at hO
          have hC : Chg (· = g1) wr ((wr.setCell ⟨g1, k * 2, none⟩ (.string (s.extract 0 (mn + kn)))).setCell ⟨g1, k * 2 + 1, none⟩ (.int .i64 ((mn : Int) + kn))) := (((Chg.refl (· = g1) wr).setCell (p := ⟨g1, k * 2, none⟩) rfl _).setCell (p := ⟨g1, k * 2 + 1, none⟩) rfl _)
          have hA : Below (((wr.setCell ⟨g1, k * 2, none⟩ (.string (s.extract 0 (mn + kn)))).setCell ⟨g1, k * 2 + 1, none⟩ (.int .i64 ((mn : Int) + kn)))).heap.size ((wr.setCell ⟨g1, k * 2, none⟩ (.string (s.extract 0 (mn + kn)))).setCell ⟨g1, k * 2 + 1, none⟩ (.int .i64 ((mn : Int) + kn))) ((((wr.setCell ⟨g1, k * 2, none⟩ (.string (s.extract 0 (mn + kn)))).setCell ⟨g1, k * 2 + 1, none⟩ (.int .i64 ((mn : Int) + kn))).alloc (.cells #[.string s, .int .i64 mn] 43)).drew) := (below_alloc _ _).drew
          have X' := (hC.box X (by omega)).below hA
          have Z' := (hC.box Z (by omega)).below hA
          have O1' := owns_below hO hA
          have O3' := owns_below (hC.owns O3 (fun g hg h => by subst h; exact d13 g rfl hg)) hA
          have O5' := owns_below (hC.owns O5 (fun g hg h => by have := owns_ge O5 g hg; omega)) hA
          have hB' : Below base w ((((wr.setCell ⟨g1, k * 2, none⟩ (.string (s.extract 0 (mn + kn)))).setCell ⟨g1, k * 2 + 1, none⟩ (.int .i64 ((mn : Int) + kn))).alloc (.cells #[.string s, .int .i64 mn] 43)).drew) := (hBk.trans (hC.below (by omega) (fun b h => by omega))).trans (hA.mono (by simp; omega))
          have hz' : w.heap.size + 3 ≤ ((((wr.setCell ⟨g1, k * 2, none⟩ (.string (s.extract 0 (mn + kn)))).setCell ⟨g1, k * 2 + 1, none⟩ (.int .i64 ((mn : Int) + kn))).alloc (.cells #[.string s, .int .i64 mn] 43)).drew).heap.size := by have := hA.size; simp at this ⊢; omega
          clear X Z O1 O3 O5 hO hC hA x0 x1 x2 x3 k0 k1 j0' j1'
          generalize ((((wr.setCell ⟨g1, k * 2, none⟩ (.string (s.extract 0 (mn + kn)))).setCell ⟨g1, k * 2 + 1, none⟩ (.int .i64 ((mn : Int) + kn))).alloc (.cells #[.string s, .int .i64 mn] 43)).drew) = wn at *
          go_wp2
          go_roundw
          case rel => exact ⟨k + 1, by omega, by go_num, X', Z', O1', O3', O5', hB', hz'⟩
          case measure => simp [intOf]; omega
    · have hkk : k = bl.length := by omega
      subst hkk
      rw [mixL_all] at O1
      obtain ⟨_, x0, x1, x2, x3⟩ := X.c4
      obtain ⟨_, y0, y1, y2, y3⟩ := Z.c4
      have e0 := Z.2.2 0
      have e1 := Z.2.2 1
      have e2 := Z.2.2 2
      have e3 := Z.2.2 3
      have hml : (bl.map (crB kn)).length = bl.length := by simp
      have q5' := owns_lt O5
      have hM : MadeS base wr g1 c1 g5 c5 g3 c3 (bl.map (crB kn)) sf sf :=
        ⟨by rw [hml]; exact O1, owns_wk O5 (by omega), O3, fun b h h' => by simp only [Value.ownBlock, Option.some.injEq] at h h'; omega, fun b h h' => by rw [hml] at h; exact d13 b h h', fun b h h' => by simp only [Value.ownBlock, Option.some.injEq] at h h'; omega⟩
      have hE := put4_box Z (.slice (some ⟨g1, 0, none⟩) bl.length c1) (.slice (some ⟨g5, 0, none⟩) sf.length c5) (.slice (some ⟨g3, 0, none⟩) sf.length c3) (.int .i64 r)
      have hC := put4_chg wr (w.heap.size + 1) (.slice (some ⟨g1, 0, none⟩) bl.length c1) (.slice (some ⟨g5, 0, none⟩) sf.length c5) (.slice (some ⟨g3, 0, none⟩) sf.length c3) (.int .i64 r)
      have hM6 : MadeS base (put4 wr (w.heap.size + 1) (.slice (some ⟨g1, 0, none⟩) bl.length c1) (.slice (some ⟨g5, 0, none⟩) sf.length c5) (.slice (some ⟨g3, 0, none⟩) sf.length c3) (.int .i64 r)) g1 c1 g5 c5 g3 c3 (bl.map (crB kn)) sf sf :=
        ⟨hC.owns hM.1 (fun g hg h => by simp only [Value.ownBlock, Option.some.injEq] at hg; omega), hC.owns hM.2.1 (fun g hg h => by simp only [Value.ownBlock, Option.some.injEq] at hg; omega), hC.owns hM.2.2.1 (fun g hg h => by simp only [Value.ownBlock, Option.some.injEq] at hg; omega), hM.2.2.2⟩
      have hB6 := hBk.trans (hC.below (by omega) (fun b h => by omega))
      clear hM hC X Z O1 O3 O5
      go_wp2
      change bodyPost _ _ _ _ _ (put4 wr (w.heap.size + 1) (.slice (some ⟨g1, 0, none⟩) bl.length c1) (.slice (some ⟨g5, 0, none⟩) sf.length c5) (.slice (some ⟨g3, 0, none⟩) sf.length c3) (.int .i64 r))
      generalize put4 wr (w.heap.size + 1) (.slice (some ⟨g1, 0, none⟩) bl.length c1) (.slice (some ⟨g5, 0, none⟩) sf.length c5) (.slice (some ⟨g3, 0, none⟩) sf.length c3) (.int .i64 r) = W at *
      obtain ⟨_, t0, t1, t2, t3⟩ := hE.c4
      exact bodyPost_ret (v := .agg #[.slice (some ⟨g1, 0, none⟩) bl.length c1, .slice (some ⟨g5, 0, none⟩) sf.length c5, .slice (some ⟨g3, 0, none⟩) sf.length c3, .int .i64 r]) (by simp [results, Try.results111, go_sem, t0, t1, t2, t3]) rfl ⟨⟨g5, c5, by rw [hml], hM6⟩, hB6⟩
end Go.Proofs.Ytbgemebpfcbloaa

namespace Go.Proofs.Ytbgemebpfcbloaa
open Go.RowKit Go.Maps
set_option linter.unusedVariables false
set_option maxRecDepth 100000

theorem tot_le (l : List (ByteArray × Int)) (M : Nat) (h : ∀ x ∈ l, x.1.size ≤ M) : tot l ≤ l.length * M := by
  induction l with
  | nil => simp [tot]
  | cons x r ih =>
    have h1 := h x (by simp)
    have h2 := ih fun y hy => h y (List.mem_cons_of_mem _ hy)
    simp only [tot, List.length_cons, Nat.add_mul, Nat.one_mul]; omega

theorem l1At_look (v : Value) (l : List (ByteArray × Int)) (nm : ByteArray) (w : World) (hv : PL w v l) (hn : l.length ≤ 1048576) (hr : Ris l) :
    Calls Try.prog 108 #[v, .string nm] w fun e w' => (∃ k : Nat, k ≤ l.length ∧ (∀ c, lkp nm none l = some c → ∃ hk : k < l.length, l[k].2 = c) ∧ e = .returned (.tuple #[.int .i64 k, .bool (lkp nm none l).isSome])) ∧ Below w.heap.size w w' := by
  refine (l1At_any v l nm w hv hn).mono ?_
  rintro e w' ⟨⟨k, hk, hb, ha, rfl⟩, hB⟩
  refine ⟨⟨k, hk, ?_, ?_⟩, hB⟩
  · intro c hc
    obtain ⟨i, hi, e⟩ := List.getElem_of_mem ((lkp_iff hr nm c).1 hc)
    have hik : i = k := by
      rcases Nat.lt_trichotomy i k with h1 | h1 | h1
      · have := hb i hi h1; rw [e, less_irrefl] at this; cases this
      · exact h1
      · have h2 := List.pairwise_iff_getElem.1 hr k i (by omega) hi h1
        have h3 := ha (by omega)
        rw [e] at h2; rw [h2] at h3; cases h3
    subst hik
    exact ⟨hi, by rw [e]⟩
  · have hb' : (decide (k < l.length) && (l.getD k default).1.toList == nm.toList) = (lkp nm none l).isSome := by
      cases hv : lkp nm none l with
      | some c =>
        obtain ⟨i, hi, e⟩ := List.getElem_of_mem ((lkp_iff hr nm c).1 hv)
        have hik : i = k := by
          rcases Nat.lt_trichotomy i k with h1 | h1 | h1
          · have := hb i hi h1; rw [e, less_irrefl] at this; cases this
          · exact h1
          · have h2 := List.pairwise_iff_getElem.1 hr k i (by omega) hi h1
            have h3 := ha (by omega)
            rw [e] at h2; rw [h2] at h3; cases h3
        subst hik
        rw [decide_eq_true hi, getD_lt _ _ hi, e]; simp
      | none =>
        by_cases hkl : k < l.length
        · have := (lkp_iff_none hr nm).1 hv l[k] (List.getElem_mem _)
          rw [decide_eq_true hkl, getD_lt _ _ hkl, Bool.true_and]
          simp only [Option.isSome_none, beq_eq_false_iff_ne]
          exact fun e => this (toList_inj e)
        · rw [decide_eq_false hkl]; rfl
    rw [hb']

end Go.Proofs.Ytbgemebpfcbloaa
