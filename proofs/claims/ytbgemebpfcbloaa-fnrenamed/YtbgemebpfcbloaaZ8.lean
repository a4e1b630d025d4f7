/-
  spec.l1Do: steps that are not bad (7).
-/
import Derived.Test.YtbgemebpfcbloaaZ6
namespace Go.Proofs.Ytbgemebpfcbloaa
open Go.RowKit Go.Maps
set_option linter.unusedVariables false
set_option maxRecDepth 100000

set_option maxHeartbeats 8000000 in
theorem dg_7 (g1 c1 g2 c2 g3 c3 : Nat) (bl lv sf : List (ByteArray × Int)) (r : Int) (base : Nat) (nm ot da : ByteArray) (kp : Int) (w : World) (hM : MadeS base w g1 c1 g2 c2 g3 c3 bl lv sf) (hbase : base ≤ w.heap.size) (hg : goodD bl lv sf r = true) (hnm : nm.size ≤ 1048576) (hot : ot.size ≤ 1048576) (hda : da.size ≤ 1048576) (hS : goodS 7 nm ot da kp = true) :
    Calls Try.prog 56 #[.agg #[.slice (some ⟨g1, 0, none⟩) bl.length c1, .slice (some ⟨g2, 0, none⟩) lv.length c2, .slice (some ⟨g3, 0, none⟩) sf.length c3, .int .i64 r], .agg #[.int .i64 7, .string nm, .string ot, .string da, .int .i64 kp]] w fun e w' => (∃ a1 n1 d1 a2 n2 d2 a3 n3 d3, e = .returned (.tuple #[.agg #[.slice a1 n1 d1, .slice a2 n2 d2, .slice a3 n3 d3, .int .i64 r], .int .i64 (refuse 7 nm ot da kp bl lv sf r)]) ∧
      (refuse 7 nm ot da kp bl lv sf r = 0 → Made base w' (.slice a1 n1 d1) (.slice a2 n2 d2) (.slice a3 n3 d3) (nB 7 nm da kp bl lv) (nL 7 nm ot bl lv sf) (nS 7 lv sf))) ∧ Chg (fun b => b = g1 ∨ w.heap.size ≤ b) w w' := by
  obtain ⟨W0, hW0⟩ : ∃ W0, W0 = ((w.alloc (.cells #[.slice (some ⟨g1, 0, none⟩) bl.length c1, .slice (some ⟨g2, 0, none⟩) lv.length c2, .slice (some ⟨g3, 0, none⟩) sf.length c3, .int .i64 r] 26)).alloc (.cells #[.int .i64 7, .string nm, .string ot, .string da, .int .i64 kp] 28)).alloc (.cells #[.slice none 0 0, .slice none 0 0, .slice none 0 0, .int .i64 0] 26) := ⟨_, rfl⟩
  have hB0 : Below w.heap.size w W0 := by rw [hW0]; exact below3 _ _ _ _
  have X0 : Box W0 w.heap.size [.slice (some ⟨g1, 0, none⟩) bl.length c1, .slice (some ⟨g2, 0, none⟩) lv.length c2, .slice (some ⟨g3, 0, none⟩) sf.length c3, .int .i64 r] := by rw [hW0]; exact ((Box.new w _ _).alloc _).alloc _
  have Y0 : Box W0 (w.heap.size + 1) [.int .i64 7, .string nm, .string ot, .string da, .int .i64 kp] := by
    rw [hW0]
    have := (Box.new (w.alloc (.cells #[.slice (some ⟨g1, 0, none⟩) bl.length c1, .slice (some ⟨g2, 0, none⟩) lv.length c2, .slice (some ⟨g3, 0, none⟩) sf.length c3, .int .i64 r] 26)) #[.int .i64 7, .string nm, .string ot, .string da, .int .i64 kp] 28).alloc (.cells #[.slice none 0 0, .slice none 0 0, .slice none 0 0, .int .i64 0] 26)
    simpa using this
  have Z0 : Box W0 (w.heap.size + 1 + 1) [.slice none 0 0, .slice none 0 0, .slice none 0 0, .int .i64 0] := by
    rw [hW0]
    have := Box.new ((w.alloc (.cells #[.slice (some ⟨g1, 0, none⟩) bl.length c1, .slice (some ⟨g2, 0, none⟩) lv.length c2, .slice (some ⟨g3, 0, none⟩) sf.length c3, .int .i64 r] 26)).alloc (.cells #[.int .i64 7, .string nm, .string ot, .string da, .int .i64 kp] 28)) #[.slice none 0 0, .slice none 0 0, .slice none 0 0, .int .i64 0] 26
    simpa using this
  have hzW : W0.heap.size = w.heap.size + 3 := by rw [hW0]; simp
  obtain ⟨_, x0, x1, x2, x3⟩ := X0.c4
  obtain ⟨_, y0, y1, y2, y3, y4⟩ := Y0.c5
  obtain ⟨G1, G2, G3, G4, G5, G6⟩ := (goodD_iff _ _ _ _).1 hg
  have hr := ris_of_ok G3
  have hl20 := ((okNs_iff _ _).1 G3).2.2
  have hs20 := ((okNs_iff _ _).1 G4).2.2
  obtain ⟨o1, o2, o3, d12, d13, d23⟩ := hM
  have q1 := owns_lt o1
  have q2 := owns_lt o2
  have q3 := owns_lt o3
  have O1 := owns_below o1 hB0
  have O2 := owns_below o2 hB0
  have O3 := owns_below o3 hB0
  have HG : Hid (goodD bl lv sf r = true) := hg
  have hdS : (da.size : Int) ≤ 4000 := by simp only [goodS, Bool.and_eq_true, decide_eq_true_eq] at hS; exact hS.1
  have hda4 : da.size ≤ 4000 := by omega
  have hd : decide ((4000 : Int) < da.size) = false := by simp; omega
  have hin : (decide ((1 : Int) ≤ 7) && decide ((7 : Int) ≤ 8)) = true := rfl
  have HS : Hid (goodS 7 nm ot da kp = true) := hS
  clear o1 o2 o3 hS G1 G4 hg hdS
  go_enter Try.func56, Try.ntmps56
  go_wp2_with fail
  rw [← hW0]
  clear hW0
  refine (l1In_any _ _ _ _).mono ?_
  rintro e w1 ⟨rfl, hw⟩
  rw [hw]
  clear hw
  rw [hin]
  go_wp2_with fail
  refine (l1At_look _ lv nm W0 (PL_of_owns O2) (by omega) hr).mono ?_
  rintro e w1 ⟨⟨k1, hk1, hv1, rfl⟩, hb1⟩
  have X1 := X0.below hb1
  have Y1 := Y0.below hb1
  have Z1 := Z0.below hb1
  replace O1 := owns_below O1 hb1
  replace O2 := owns_below O2 hb1
  replace O3 := owns_below O3 hb1
  have hB1 := below_then hB0 hb1
  have hz1 := hb1.size
  clear x0 x1 x2 x3 y0 y1 y2 y3 y4 X0 Y0 Z0 hB0 hb1
  obtain ⟨_, x0, x1, x2, x3⟩ := X1.c4
  obtain ⟨_, y0, y1, y2, y3, y4⟩ := Y1.c5
  cases hv : lkp nm none lv with
  | none =>
    go_wp2_with fail
    refine (l1At_look _ lv ot w1 (PL_of_owns O2) (by omega) hr).mono ?_
    rintro e w2 ⟨⟨k2, hk2, hv2, rfl⟩, hb2⟩
    have X2 := X1.below hb2
    have Y2 := Y1.below hb2
    have Z2 := Z1.below hb2
    replace O1 := owns_below O1 hb2
    replace O2 := owns_below O2 hb2
    replace O3 := owns_below O3 hb2
    have hB2 := below_then hB1 hb2
    have hz2 := hb2.size
    clear x0 x1 x2 x3 y0 y1 y2 y3 y4 X1 Y1 Z1 hB1 hb2
    obtain ⟨_, x0, x1, x2, x3⟩ := X2.c4
    obtain ⟨_, y0, y1, y2, y3, y4⟩ := Y2.c5
    obtain ⟨W3, hW3⟩ : ∃ W3, W3 = w2.alloc (.cells #[] 39) := ⟨_, rfl⟩
    have E3 : W3.ownsRow w2.heap.size 39 2 (.slice (some ⟨w2.heap.size, 0, none⟩) 0 0) 0 [] := by rw [hW3]; exact World.ownsRow_made (base := w2.heap.size) (e := 39) (size := 2) w2 #[] 0 (Nat.le_refl _) (Nat.zero_le _) (by simp)
    have bl3 : Below w2.heap.size w2 W3 := by rw [hW3]; exact below_alloc _ _
    have X3' := X2.below bl3
    have Z3' := Z2.below bl3
    have O1' := owns_below O1 bl3
    have O2' := owns_below O2 bl3
    have O3' := owns_below O3 bl3
    have hB3' := below_then hB2 bl3
    have hz3' : W3.heap.size = w2.heap.size + 1 := by rw [hW3]; simp
    have j39 := info_parts Try.info39
    obtain ⟨j0, hj, kz0, kzs, kzb⟩ := j39
    have zX := X2.1
    have zZ := Z2.1
    go_wp2_with (at_builtin; rw [← hW3]; refine append_px rfl _ _ 24 rfl w2.heap.size 39 j0 Try.underlying24 hj kz0 kzs kzb (.slice (some ⟨w2.heap.size, 0, none⟩) 0 0) 0 [] rfl E3 (by simp) (.slice (some ⟨g2, 0, none⟩) lv.length c2) lv rfl (PZ_of_owns O2') (by omega) (by omega) ?_; intro g4 c4 w3 o4 hg3; refine Stop.go ?_)
    rw [Nat.zero_add, List.nil_append] at o4
    have hC3 := chg_grown hg3
    have q4 := owns_lt o4
    have hz3 := hg3.size
    have X3 := hC3.box X3' (fun e => by simp only [Value.ownBlock, Option.some.injEq] at e; omega)
    have Z3 := hC3.box Z3' (fun e => by simp only [Value.ownBlock, Option.some.injEq] at e; omega)
    replace O1 := hC3.owns O1' (fun g hg h => by simp only [Value.ownBlock, Option.some.injEq] at hg h; omega)
    replace O2 := hC3.owns O2' (fun g hg h => by simp only [Value.ownBlock, Option.some.injEq] at hg h; omega)
    have hB3 : Chg (fun b => b = g1 ∨ w.heap.size ≤ b) w w3 := (Chg.of_below hB3').trans (hC3.mono (fun k h => Or.inr (by simp only [Value.ownBlock, Option.some.injEq] at h; have := hB2.size; omega)))
    have f2 := X3.2.2 2
    clear x0 x1 x2 x3 y0 y1 y2 y3 y4 X2 Y2 Z2 X3' Z3' O1' O2' O3' O3 hB3' E3 bl3 hC3 hW3
    obtain ⟨_, x0, x1, x2, x3⟩ := X3.c4
    unfold Stop
    go_wp2_with fail
    have XX := X3.set 2 (.slice (some ⟨g4, 0, none⟩) lv.length c4) (by simp)
    have hSS : Chg (· = w.heap.size) w3 (w3.setCell ⟨w.heap.size, 2, none⟩ (.slice (some ⟨g4, 0, none⟩) lv.length c4)) := (Chg.refl (· = w.heap.size) w3).setCell (p := ⟨w.heap.size, 2, none⟩) rfl _
    have ZZ := hSS.box Z3 (by omega)
    have hzB2 := hB2.size
    have R1 := hSS.owns O1 (fun g hg h => by simp only [Value.ownBlock, Option.some.injEq] at hg; omega)
    have R2 := hSS.owns O2 (fun g hg h => by simp only [Value.ownBlock, Option.some.injEq] at hg; omega)
    have R3 := owns_wk (base' := base) (hSS.owns o4 (fun g hg h => by simp only [Value.ownBlock, Option.some.injEq] at hg; omega)) (by omega)
    have hBB := hB3.trans (hSS.mono (fun k h => Or.inr (by omega)))
    have D23 : ∀ b, (Value.slice (some ⟨g2, 0, none⟩) lv.length c2).ownBlock = some b → (Value.slice (some ⟨g4, 0, none⟩) lv.length c4).ownBlock ≠ some b := fun b h h' => by simp only [Value.ownBlock, Option.some.injEq] at h h'; omega
    have D13 : ∀ b, (Value.slice (some ⟨g1, 0, none⟩) bl.length c1).ownBlock = some b → (Value.slice (some ⟨g4, 0, none⟩) lv.length c4).ownBlock ≠ some b := fun b h h' => by simp only [Value.ownBlock, Option.some.injEq] at h h'; omega
    clear d13 d23
    have d13 := D13
    have D12 := d12
    clear x0 x1 x2 x3 f2 X3 Z3 hSS O1 O2 o4 hB3
    generalize w3.setCell ⟨w.heap.size, 2, none⟩ (.slice (some ⟨g4, 0, none⟩) lv.length c4) = w5 at *
    obtain ⟨_, x0, x1, x2, x3⟩ := XX.c4
    have bB := blobs_small HG.out
    have bL := live_small HG.out
    have bS := live_small HG.out
    have hGD : goodD bl lv lv r = true := good_safe HG.out
    refine (specGood_any _ _ _ bl lv lv r w5 (PL_of_owns R1) (PL_of_owns R2) (PL_of_owns R3) bB.1 bL.1 bS.1 bB.2 bL.2 bS.2).mono ?_
    rintro e w6 ⟨rfl, hb6⟩
    rw [hGD]
    have X6 := XX.below hb6
    have Z6 := ZZ.below hb6
    replace R1 := owns_below R1 hb6
    replace R2 := owns_below R2 hb6
    replace R3 := owns_below R3 hb6
    have hB6 := hBB.trans (Chg.of_below hb6)
    have hz6 := hb6.size
    clear x0 x1 x2 x3 XX ZZ hBB hb6 bB bL bS
    obtain ⟨_, x0, x1, x2, x3⟩ := X6.c4
    have hcode : refuse 7 nm ot da kp bl lv sf r = 0 := by simp [refuse, HS.out, lacks, named, hv, taken, overB]
    have hE := put4_box Z6 (.slice (some ⟨g1, 0, none⟩) bl.length c1) (.slice (some ⟨g2, 0, none⟩) lv.length c2) (.slice (some ⟨g4, 0, none⟩) lv.length c4) (.int .i64 r)
    have hC := put4_chg w6 (w.heap.size + 1 + 1) (.slice (some ⟨g1, 0, none⟩) bl.length c1) (.slice (some ⟨g2, 0, none⟩) lv.length c2) (.slice (some ⟨g4, 0, none⟩) lv.length c4) (.int .i64 r)
    have hB9 : Chg (fun b => b = g1 ∨ w.heap.size ≤ b) w _ := (hB6).trans (hC.mono (fun b h => Or.inr (by omega)))
    obtain ⟨hzZ, z0, z1, z2, z3⟩ := Z6.c4
    have e0 := Z6.2.2 0
    have e1 := Z6.2.2 1
    have e2 := Z6.2.2 2
    have e3 := Z6.2.2 3
    have hMM : refuse 7 nm ot da kp bl lv sf r = 0 → Made base (put4 w6 (w.heap.size + 1 + 1) (.slice (some ⟨g1, 0, none⟩) bl.length c1) (.slice (some ⟨g2, 0, none⟩) lv.length c2) (.slice (some ⟨g4, 0, none⟩) lv.length c4) (.int .i64 r)) (.slice (some ⟨g1, 0, none⟩) bl.length c1) (.slice (some ⟨g2, 0, none⟩) lv.length c2) (.slice (some ⟨g4, 0, none⟩) lv.length c4) (nB 7 nm da kp bl lv) (nL 7 nm ot bl lv sf) (nS 7 lv sf) := by
      intro _
      show Made base _ _ _ _ bl lv lv
      exact ⟨hC.owns R1 (fun g hg h => by simp only [Value.ownBlock, Option.some.injEq] at hg; omega), hC.owns R2 (fun g hg h => by simp only [Value.ownBlock, Option.some.injEq] at hg; omega), hC.owns R3 (fun g hg h => by simp only [Value.ownBlock, Option.some.injEq] at hg; omega), D12, d13, D23⟩
    clear hC
    go_wp2
    change bodyPost _ _ _ _ _ (put4 w6 (w.heap.size + 1 + 1) (.slice (some ⟨g1, 0, none⟩) bl.length c1) (.slice (some ⟨g2, 0, none⟩) lv.length c2) (.slice (some ⟨g4, 0, none⟩) lv.length c4) (.int .i64 r))
    generalize put4 w6 (w.heap.size + 1 + 1) (.slice (some ⟨g1, 0, none⟩) bl.length c1) (.slice (some ⟨g2, 0, none⟩) lv.length c2) (.slice (some ⟨g4, 0, none⟩) lv.length c4) (.int .i64 r) = WW at *
    obtain ⟨_, t0, t1, t2, t3⟩ := hE.c4
    exact bodyPost_ret (v := .tuple #[.agg #[.slice (some ⟨g1, 0, none⟩) bl.length c1, .slice (some ⟨g2, 0, none⟩) lv.length c2, .slice (some ⟨g4, 0, none⟩) lv.length c4, .int .i64 r], .int .i64 0]) (by simp [results, Try.results56, go_sem, t0, t1, t2, t3]) rfl ⟨⟨_, _, _, _, _, _, _, _, _, by rw [hcode], hMM⟩, hB9⟩
  | some cv =>
    obtain ⟨hkl, hkc⟩ := hv1 cv hv
    have kc := (owns_at O2 k1 hkl (Nat.le_refl _)).2.1
    rw [hkc] at kc
    have hki : (k1 : Int) < lv.length := by omega
    go_wp2_with fail
    refine (l1At_look _ lv ot w1 (PL_of_owns O2) (by omega) hr).mono ?_
    rintro e w2 ⟨⟨k2, hk2, hv2, rfl⟩, hb2⟩
    have X2 := X1.below hb2
    have Y2 := Y1.below hb2
    have Z2 := Z1.below hb2
    replace O1 := owns_below O1 hb2
    replace O2 := owns_below O2 hb2
    replace O3 := owns_below O3 hb2
    have hB2 := below_then hB1 hb2
    have hz2 := hb2.size
    clear x0 x1 x2 x3 y0 y1 y2 y3 y4 X1 Y1 Z1 hB1 hb2
    obtain ⟨_, x0, x1, x2, x3⟩ := X2.c4
    obtain ⟨_, y0, y1, y2, y3, y4⟩ := Y2.c5
    have kc := (owns_at O2 k1 hkl (Nat.le_refl _)).2.1
    rw [hkc] at kc
    have hki : (k1 : Int) < lv.length := by omega
    obtain ⟨W3, hW3⟩ : ∃ W3, W3 = w2.alloc (.cells #[] 39) := ⟨_, rfl⟩
    have E3 : W3.ownsRow w2.heap.size 39 2 (.slice (some ⟨w2.heap.size, 0, none⟩) 0 0) 0 [] := by rw [hW3]; exact World.ownsRow_made (base := w2.heap.size) (e := 39) (size := 2) w2 #[] 0 (Nat.le_refl _) (Nat.zero_le _) (by simp)
    have bl3 : Below w2.heap.size w2 W3 := by rw [hW3]; exact below_alloc _ _
    have X3' := X2.below bl3
    have Z3' := Z2.below bl3
    have O1' := owns_below O1 bl3
    have O2' := owns_below O2 bl3
    have O3' := owns_below O3 bl3
    have hB3' := below_then hB2 bl3
    have hz3' : W3.heap.size = w2.heap.size + 1 := by rw [hW3]; simp
    have j39 := info_parts Try.info39
    obtain ⟨j0, hj, kz0, kzs, kzb⟩ := j39
    have zX := X2.1
    have zZ := Z2.1
    go_wp2_with (at_builtin; rw [← hW3]; refine append_px rfl _ _ 24 rfl w2.heap.size 39 j0 Try.underlying24 hj kz0 kzs kzb (.slice (some ⟨w2.heap.size, 0, none⟩) 0 0) 0 [] rfl E3 (by simp) (.slice (some ⟨g2, 0, none⟩) lv.length c2) lv rfl (PZ_of_owns O2') (by omega) (by omega) ?_; intro g4 c4 w3 o4 hg3; refine Stop.go ?_)
    rw [Nat.zero_add, List.nil_append] at o4
    have hC3 := chg_grown hg3
    have q4 := owns_lt o4
    have hz3 := hg3.size
    have X3 := hC3.box X3' (fun e => by simp only [Value.ownBlock, Option.some.injEq] at e; omega)
    have Z3 := hC3.box Z3' (fun e => by simp only [Value.ownBlock, Option.some.injEq] at e; omega)
    replace O1 := hC3.owns O1' (fun g hg h => by simp only [Value.ownBlock, Option.some.injEq] at hg h; omega)
    replace O2 := hC3.owns O2' (fun g hg h => by simp only [Value.ownBlock, Option.some.injEq] at hg h; omega)
    have hB3 : Chg (fun b => b = g1 ∨ w.heap.size ≤ b) w w3 := (Chg.of_below hB3').trans (hC3.mono (fun k h => Or.inr (by simp only [Value.ownBlock, Option.some.injEq] at h; have := hB2.size; omega)))
    have f2 := X3.2.2 2
    clear x0 x1 x2 x3 y0 y1 y2 y3 y4 X2 Y2 Z2 X3' Z3' O1' O2' O3' O3 hB3' E3 bl3 hC3 hW3
    obtain ⟨_, x0, x1, x2, x3⟩ := X3.c4
    unfold Stop
    go_wp2_with fail
    have XX := X3.set 2 (.slice (some ⟨g4, 0, none⟩) lv.length c4) (by simp)
    have hSS : Chg (· = w.heap.size) w3 (w3.setCell ⟨w.heap.size, 2, none⟩ (.slice (some ⟨g4, 0, none⟩) lv.length c4)) := (Chg.refl (· = w.heap.size) w3).setCell (p := ⟨w.heap.size, 2, none⟩) rfl _
    have ZZ := hSS.box Z3 (by omega)
    have hzB2 := hB2.size
    have R1 := hSS.owns O1 (fun g hg h => by simp only [Value.ownBlock, Option.some.injEq] at hg; omega)
    have R2 := hSS.owns O2 (fun g hg h => by simp only [Value.ownBlock, Option.some.injEq] at hg; omega)
    have R3 := owns_wk (base' := base) (hSS.owns o4 (fun g hg h => by simp only [Value.ownBlock, Option.some.injEq] at hg; omega)) (by omega)
    have hBB := hB3.trans (hSS.mono (fun k h => Or.inr (by omega)))
    have D23 : ∀ b, (Value.slice (some ⟨g2, 0, none⟩) lv.length c2).ownBlock = some b → (Value.slice (some ⟨g4, 0, none⟩) lv.length c4).ownBlock ≠ some b := fun b h h' => by simp only [Value.ownBlock, Option.some.injEq] at h h'; omega
    have D13 : ∀ b, (Value.slice (some ⟨g1, 0, none⟩) bl.length c1).ownBlock = some b → (Value.slice (some ⟨g4, 0, none⟩) lv.length c4).ownBlock ≠ some b := fun b h h' => by simp only [Value.ownBlock, Option.some.injEq] at h h'; omega
    clear d13 d23
    have d13 := D13
    have D12 := d12
    clear x0 x1 x2 x3 f2 X3 Z3 hSS O1 O2 o4 hB3
    generalize w3.setCell ⟨w.heap.size, 2, none⟩ (.slice (some ⟨g4, 0, none⟩) lv.length c4) = w5 at *
    obtain ⟨_, x0, x1, x2, x3⟩ := XX.c4
    have bB := blobs_small HG.out
    have bL := live_small HG.out
    have bS := live_small HG.out
    have hGD : goodD bl lv lv r = true := good_safe HG.out
    refine (specGood_any _ _ _ bl lv lv r w5 (PL_of_owns R1) (PL_of_owns R2) (PL_of_owns R3) bB.1 bL.1 bS.1 bB.2 bL.2 bS.2).mono ?_
    rintro e w6 ⟨rfl, hb6⟩
    rw [hGD]
    have X6 := XX.below hb6
    have Z6 := ZZ.below hb6
    replace R1 := owns_below R1 hb6
    replace R2 := owns_below R2 hb6
    replace R3 := owns_below R3 hb6
    have hB6 := hBB.trans (Chg.of_below hb6)
    have hz6 := hb6.size
    clear x0 x1 x2 x3 XX ZZ hBB hb6 bB bL bS
    obtain ⟨_, x0, x1, x2, x3⟩ := X6.c4
    have hcode : refuse 7 nm ot da kp bl lv sf r = 0 := by simp [refuse, HS.out, lacks, named, hv, taken, overB]
    have hE := put4_box Z6 (.slice (some ⟨g1, 0, none⟩) bl.length c1) (.slice (some ⟨g2, 0, none⟩) lv.length c2) (.slice (some ⟨g4, 0, none⟩) lv.length c4) (.int .i64 r)
    have hC := put4_chg w6 (w.heap.size + 1 + 1) (.slice (some ⟨g1, 0, none⟩) bl.length c1) (.slice (some ⟨g2, 0, none⟩) lv.length c2) (.slice (some ⟨g4, 0, none⟩) lv.length c4) (.int .i64 r)
    have hB9 : Chg (fun b => b = g1 ∨ w.heap.size ≤ b) w _ := (hB6).trans (hC.mono (fun b h => Or.inr (by omega)))
    obtain ⟨hzZ, z0, z1, z2, z3⟩ := Z6.c4
    have e0 := Z6.2.2 0
    have e1 := Z6.2.2 1
    have e2 := Z6.2.2 2
    have e3 := Z6.2.2 3
    have hMM : refuse 7 nm ot da kp bl lv sf r = 0 → Made base (put4 w6 (w.heap.size + 1 + 1) (.slice (some ⟨g1, 0, none⟩) bl.length c1) (.slice (some ⟨g2, 0, none⟩) lv.length c2) (.slice (some ⟨g4, 0, none⟩) lv.length c4) (.int .i64 r)) (.slice (some ⟨g1, 0, none⟩) bl.length c1) (.slice (some ⟨g2, 0, none⟩) lv.length c2) (.slice (some ⟨g4, 0, none⟩) lv.length c4) (nB 7 nm da kp bl lv) (nL 7 nm ot bl lv sf) (nS 7 lv sf) := by
      intro _
      show Made base _ _ _ _ bl lv lv
      exact ⟨hC.owns R1 (fun g hg h => by simp only [Value.ownBlock, Option.some.injEq] at hg; omega), hC.owns R2 (fun g hg h => by simp only [Value.ownBlock, Option.some.injEq] at hg; omega), hC.owns R3 (fun g hg h => by simp only [Value.ownBlock, Option.some.injEq] at hg; omega), D12, d13, D23⟩
    clear hC
    go_wp2
    change bodyPost _ _ _ _ _ (put4 w6 (w.heap.size + 1 + 1) (.slice (some ⟨g1, 0, none⟩) bl.length c1) (.slice (some ⟨g2, 0, none⟩) lv.length c2) (.slice (some ⟨g4, 0, none⟩) lv.length c4) (.int .i64 r))
    generalize put4 w6 (w.heap.size + 1 + 1) (.slice (some ⟨g1, 0, none⟩) bl.length c1) (.slice (some ⟨g2, 0, none⟩) lv.length c2) (.slice (some ⟨g4, 0, none⟩) lv.length c4) (.int .i64 r) = WW at *
    obtain ⟨_, t0, t1, t2, t3⟩ := hE.c4
    exact bodyPost_ret (v := .tuple #[.agg #[.slice (some ⟨g1, 0, none⟩) bl.length c1, .slice (some ⟨g2, 0, none⟩) lv.length c2, .slice (some ⟨g4, 0, none⟩) lv.length c4, .int .i64 r], .int .i64 0]) (by simp [results, Try.results56, go_sem, t0, t1, t2, t3]) rfl ⟨⟨_, _, _, _, _, _, _, _, _, by rw [hcode], hMM⟩, hB9⟩
end Go.Proofs.Ytbgemebpfcbloaa
