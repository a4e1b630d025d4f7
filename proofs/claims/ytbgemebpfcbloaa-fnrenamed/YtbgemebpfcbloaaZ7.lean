/-
  spec.l1Do: steps that are not bad (5).
-/
import Derived.Test.YtbgemebpfcbloaaZ6
namespace Go.Proofs.Ytbgemebpfcbloaa
open Go.RowKit Go.Maps
set_option linter.unusedVariables false
set_option maxRecDepth 100000


theorem put_small {bl lv sf : List (ByteArray × Int)} {r : Int} (h : goodD bl lv sf r = true) (nm : ByteArray) (hn : okN nm = true) (m : Int) : tot (putL lv nm m) + (putL lv nm m).length ≤ 1048576 ∧ ∀ i (hi : i < (putL lv nm m).length), (putL lv nm m)[i].1.size ≤ 1048576 := by
  obtain ⟨_, _, g3, _⟩ := (goodD_iff _ _ _ _).1 h
  have k3 := (okNs_iff _ _).1 g3
  refine bounds_of _ 21 12 ?_ (fun x hx => ?_) (by decide) (by decide)
  · rw [put_length]; have := wout_length_le _ k3.1 nm; have := k3.2.2; omega
  · rcases mem_put.1 hx with e | ⟨e, _⟩
    · subst e; simp only [okN, Bool.and_eq_true, decide_eq_true_eq] at hn; simp only; omega
    · exact names_12 g3 x e

set_option maxHeartbeats 8000000 in
theorem dg_5 (g1 c1 g2 c2 g3 c3 : Nat) (bl lv sf : List (ByteArray × Int)) (r : Int) (base : Nat) (nm ot da : ByteArray) (kp : Int) (w : World) (hM : MadeS base w g1 c1 g2 c2 g3 c3 bl lv sf) (hbase : base ≤ w.heap.size) (hg : goodD bl lv sf r = true) (hnm : nm.size ≤ 1048576) (hot : ot.size ≤ 1048576) (hda : da.size ≤ 1048576) (hS : goodS 5 nm ot da kp = true) :
    Calls Try.prog 56 #[.agg #[.slice (some ⟨g1, 0, none⟩) bl.length c1, .slice (some ⟨g2, 0, none⟩) lv.length c2, .slice (some ⟨g3, 0, none⟩) sf.length c3, .int .i64 r], .agg #[.int .i64 5, .string nm, .string ot, .string da, .int .i64 kp]] w fun e w' => (∃ a1 n1 d1 a2 n2 d2 a3 n3 d3, e = .returned (.tuple #[.agg #[.slice a1 n1 d1, .slice a2 n2 d2, .slice a3 n3 d3, .int .i64 r], .int .i64 (refuse 5 nm ot da kp bl lv sf r)]) ∧
      (refuse 5 nm ot da kp bl lv sf r = 0 → Made base w' (.slice a1 n1 d1) (.slice a2 n2 d2) (.slice a3 n3 d3) (nB 5 nm da kp bl lv) (nL 5 nm ot bl lv sf) (nS 5 lv sf))) ∧ Chg (fun b => b = g1 ∨ w.heap.size ≤ b) w w' := by
  obtain ⟨W0, hW0⟩ : ∃ W0, W0 = ((w.alloc (.cells #[.slice (some ⟨g1, 0, none⟩) bl.length c1, .slice (some ⟨g2, 0, none⟩) lv.length c2, .slice (some ⟨g3, 0, none⟩) sf.length c3, .int .i64 r] 26)).alloc (.cells #[.int .i64 5, .string nm, .string ot, .string da, .int .i64 kp] 28)).alloc (.cells #[.slice none 0 0, .slice none 0 0, .slice none 0 0, .int .i64 0] 26) := ⟨_, rfl⟩
  have hB0 : Below w.heap.size w W0 := by rw [hW0]; exact below3 _ _ _ _
  have X0 : Box W0 w.heap.size [.slice (some ⟨g1, 0, none⟩) bl.length c1, .slice (some ⟨g2, 0, none⟩) lv.length c2, .slice (some ⟨g3, 0, none⟩) sf.length c3, .int .i64 r] := by rw [hW0]; exact ((Box.new w _ _).alloc _).alloc _
  have Y0 : Box W0 (w.heap.size + 1) [.int .i64 5, .string nm, .string ot, .string da, .int .i64 kp] := by
    rw [hW0]
    have := (Box.new (w.alloc (.cells #[.slice (some ⟨g1, 0, none⟩) bl.length c1, .slice (some ⟨g2, 0, none⟩) lv.length c2, .slice (some ⟨g3, 0, none⟩) sf.length c3, .int .i64 r] 26)) #[.int .i64 5, .string nm, .string ot, .string da, .int .i64 kp] 28).alloc (.cells #[.slice none 0 0, .slice none 0 0, .slice none 0 0, .int .i64 0] 26)
    simpa using this
  have Z0 : Box W0 (w.heap.size + 1 + 1) [.slice none 0 0, .slice none 0 0, .slice none 0 0, .int .i64 0] := by
    rw [hW0]
    have := Box.new ((w.alloc (.cells #[.slice (some ⟨g1, 0, none⟩) bl.length c1, .slice (some ⟨g2, 0, none⟩) lv.length c2, .slice (some ⟨g3, 0, none⟩) sf.length c3, .int .i64 r] 26)).alloc (.cells #[.int .i64 5, .string nm, .string ot, .string da, .int .i64 kp] 28)) #[.slice none 0 0, .slice none 0 0, .slice none 0 0, .int .i64 0] 26
    simpa using this
  have hzW : W0.heap.size = w.heap.size + 3 := by rw [hW0]; simp
  obtain ⟨_, x0, x1, x2, x3⟩ := X0.c4
  obtain ⟨_, y0, y1, y2, y3, y4⟩ := Y0.c5
  obtain ⟨G1, G2, G3, G4, G5, G6⟩ := (goodD_iff _ _ _ _).1 hg
  have hr := ris_of_ok G3
  have hl20 := ((okNs_iff _ _).1 G3).2.2
  have hs20 := ((okNs_iff _ _).1 G4).2.2
  obtain ⟨o1, o2, o3, d12, d13, d23⟩ := hM
  have q1 := owns_lt o1
  have q2 := owns_lt o2
  have q3 := owns_lt o3
  have O1 := owns_below o1 hB0
  have O2 := owns_below o2 hB0
  have O3 := owns_below o3 hB0
  have HG : Hid (goodD bl lv sf r = true) := hg
  have hdS : (da.size : Int) ≤ 4000 := by simp only [goodS, Bool.and_eq_true, decide_eq_true_eq] at hS; exact hS.1
  have hda4 : da.size ≤ 4000 := by omega
  have hd : decide ((4000 : Int) < da.size) = false := by simp; omega
  have hin : (decide ((1 : Int) ≤ 5) && decide ((5 : Int) ≤ 8)) = true := rfl
  have hN : okN nm = true := by simp only [goodS, kindOk, Bool.and_eq_true] at hS; have := hS.2; simp at this; exact this.1
  have hO : okN ot = true := by simp only [goodS, kindOk, Bool.and_eq_true] at hS; have := hS.2; simp at this; exact this.2
  have HS : Hid (goodS 5 nm ot da kp = true) := hS
  clear o1 o2 o3 hS G1 G4 hg hdS
  go_enter Try.func56, Try.ntmps56
  go_wp2_with fail
  rw [← hW0]
  clear hW0
  refine (l1In_any _ _ _ _).mono ?_
  rintro e w1 ⟨rfl, hw⟩
  rw [hw]
  clear hw
  rw [hin]
  go_wp2_with fail
  refine (l1Name_any nm _ hnm).mono ?_
  rintro e w1 ⟨rfl, hw⟩
  rw [hw]
  clear hw
  rw [hN]
  go_wp2_with fail
  refine (l1Name_any ot _ hot).mono ?_
  rintro e w1 ⟨rfl, hw⟩
  rw [hw]
  clear hw
  rw [hO]
  go_wp2_with fail
  refine (l1At_look _ lv nm W0 (PL_of_owns O2) (by omega) hr).mono ?_
  rintro e w1 ⟨⟨k1, hk1, hv1, rfl⟩, hb1⟩
  have X1 := X0.below hb1
  have Y1 := Y0.below hb1
  have Z1 := Z0.below hb1
  replace O1 := owns_below O1 hb1
  replace O2 := owns_below O2 hb1
  replace O3 := owns_below O3 hb1
  have hB1 := below_then hB0 hb1
  have hz1 := hb1.size
  clear x0 x1 x2 x3 y0 y1 y2 y3 y4 X0 Y0 Z0 hB0 hb1
  obtain ⟨_, x0, x1, x2, x3⟩ := X1.c4
  obtain ⟨_, y0, y1, y2, y3, y4⟩ := Y1.c5
  cases hv : lkp nm none lv with
  | none =>
    rw [hv] at hv1
    have hcode : refuse 5 nm ot da kp bl lv sf r = 2 := by simp [refuse, HS.out, lacks, named, hv]
    have hE := put4_box Z1 (.slice (some ⟨g1, 0, none⟩) bl.length c1) (.slice (some ⟨g2, 0, none⟩) lv.length c2) (.slice (some ⟨g3, 0, none⟩) sf.length c3) (.int .i64 r)
    have hC := put4_chg w1 (w.heap.size + 1 + 1) (.slice (some ⟨g1, 0, none⟩) bl.length c1) (.slice (some ⟨g2, 0, none⟩) lv.length c2) (.slice (some ⟨g3, 0, none⟩) sf.length c3) (.int .i64 r)
    have hB9 : Chg (fun b => b = g1 ∨ w.heap.size ≤ b) w _ := (Chg.of_below hB1).trans (hC.mono (fun b h => Or.inr (by omega)))
    obtain ⟨hzZ, z0, z1, z2, z3⟩ := Z1.c4
    have e0 := Z1.2.2 0
    have e1 := Z1.2.2 1
    have e2 := Z1.2.2 2
    have e3 := Z1.2.2 3
    have hMM : refuse 5 nm ot da kp bl lv sf r = 0 → Made base (put4 w1 (w.heap.size + 1 + 1) (.slice (some ⟨g1, 0, none⟩) bl.length c1) (.slice (some ⟨g2, 0, none⟩) lv.length c2) (.slice (some ⟨g3, 0, none⟩) sf.length c3) (.int .i64 r)) (.slice (some ⟨g1, 0, none⟩) bl.length c1) (.slice (some ⟨g2, 0, none⟩) lv.length c2) (.slice (some ⟨g3, 0, none⟩) sf.length c3) (nB 5 nm da kp bl lv) (nL 5 nm ot bl lv sf) (nS 5 lv sf) := by
      intro h; rw [hcode] at h; cases h
    clear hC
    go_wp2
    change bodyPost _ _ _ _ _ (put4 w1 (w.heap.size + 1 + 1) (.slice (some ⟨g1, 0, none⟩) bl.length c1) (.slice (some ⟨g2, 0, none⟩) lv.length c2) (.slice (some ⟨g3, 0, none⟩) sf.length c3) (.int .i64 r))
    generalize put4 w1 (w.heap.size + 1 + 1) (.slice (some ⟨g1, 0, none⟩) bl.length c1) (.slice (some ⟨g2, 0, none⟩) lv.length c2) (.slice (some ⟨g3, 0, none⟩) sf.length c3) (.int .i64 r) = WW at *
    obtain ⟨_, t0, t1, t2, t3⟩ := hE.c4
    exact bodyPost_ret (v := .tuple #[.agg #[.slice (some ⟨g1, 0, none⟩) bl.length c1, .slice (some ⟨g2, 0, none⟩) lv.length c2, .slice (some ⟨g3, 0, none⟩) sf.length c3, .int .i64 r], .int .i64 2]) (by simp [results, Try.results56, go_sem, t0, t1, t2, t3]) rfl ⟨⟨_, _, _, _, _, _, _, _, _, by rw [hcode], hMM⟩, hB9⟩
  | some cv =>
    obtain ⟨hkl, hkc⟩ := hv1 cv hv
    have hcv : cv = (cbOf nm lv : Int) := by
      have := (named_blob (k := 5) (nm := nm) HG.out rfl (by simp [lacks, named, hv])).1
      rw [hv] at this; injection this
    subst hcv
    go_wp2_with fail
    refine (l1At_look _ lv ot w1 (PL_of_owns O2) (by omega) hr).mono ?_
    rintro e w2 ⟨⟨k2, hk2, hv2, rfl⟩, hb2⟩
    have X2 := X1.below hb2
    have Y2 := Y1.below hb2
    have Z2 := Z1.below hb2
    replace O1 := owns_below O1 hb2
    replace O2 := owns_below O2 hb2
    replace O3 := owns_below O3 hb2
    have hB2 := below_then hB1 hb2
    have hz2 := hb2.size
    clear x0 x1 x2 x3 y0 y1 y2 y3 y4 X1 Y1 Z1 hB1 hb2
    obtain ⟨_, x0, x1, x2, x3⟩ := X2.c4
    obtain ⟨_, y0, y1, y2, y3, y4⟩ := Y2.c5
    have kc := (owns_at O2 k1 hkl (Nat.le_refl _)).2.1
    rw [hkc] at kc
    have hki : (k1 : Int) < lv.length := by omega
    cases hvo : lkp ot none lv with
    | some co =>
      have hcode : refuse 5 nm ot da kp bl lv sf r = 3 := by simp [refuse, HS.out, lacks, named, hv, taken, hvo]
      have hE := put4_box Z2 (.slice (some ⟨g1, 0, none⟩) bl.length c1) (.slice (some ⟨g2, 0, none⟩) lv.length c2) (.slice (some ⟨g3, 0, none⟩) sf.length c3) (.int .i64 r)
      have hC := put4_chg w2 (w.heap.size + 1 + 1) (.slice (some ⟨g1, 0, none⟩) bl.length c1) (.slice (some ⟨g2, 0, none⟩) lv.length c2) (.slice (some ⟨g3, 0, none⟩) sf.length c3) (.int .i64 r)
      have hB9 : Chg (fun b => b = g1 ∨ w.heap.size ≤ b) w _ := (Chg.of_below hB2).trans (hC.mono (fun b h => Or.inr (by omega)))
      obtain ⟨hzZ, z0, z1, z2, z3⟩ := Z2.c4
      have e0 := Z2.2.2 0
      have e1 := Z2.2.2 1
      have e2 := Z2.2.2 2
      have e3 := Z2.2.2 3
      have hMM : refuse 5 nm ot da kp bl lv sf r = 0 → Made base (put4 w2 (w.heap.size + 1 + 1) (.slice (some ⟨g1, 0, none⟩) bl.length c1) (.slice (some ⟨g2, 0, none⟩) lv.length c2) (.slice (some ⟨g3, 0, none⟩) sf.length c3) (.int .i64 r)) (.slice (some ⟨g1, 0, none⟩) bl.length c1) (.slice (some ⟨g2, 0, none⟩) lv.length c2) (.slice (some ⟨g3, 0, none⟩) sf.length c3) (nB 5 nm da kp bl lv) (nL 5 nm ot bl lv sf) (nS 5 lv sf) := by
        intro h; rw [hcode] at h; cases h
      clear hC
      go_wp2
      change bodyPost _ _ _ _ _ (put4 w2 (w.heap.size + 1 + 1) (.slice (some ⟨g1, 0, none⟩) bl.length c1) (.slice (some ⟨g2, 0, none⟩) lv.length c2) (.slice (some ⟨g3, 0, none⟩) sf.length c3) (.int .i64 r))
      generalize put4 w2 (w.heap.size + 1 + 1) (.slice (some ⟨g1, 0, none⟩) bl.length c1) (.slice (some ⟨g2, 0, none⟩) lv.length c2) (.slice (some ⟨g3, 0, none⟩) sf.length c3) (.int .i64 r) = WW at *
      obtain ⟨_, t0, t1, t2, t3⟩ := hE.c4
      exact bodyPost_ret (v := .tuple #[.agg #[.slice (some ⟨g1, 0, none⟩) bl.length c1, .slice (some ⟨g2, 0, none⟩) lv.length c2, .slice (some ⟨g3, 0, none⟩) sf.length c3, .int .i64 r], .int .i64 3]) (by simp [results, Try.results56, go_sem, t0, t1, t2, t3]) rfl ⟨⟨_, _, _, _, _, _, _, _, _, by rw [hcode], hMM⟩, hB9⟩
    | none =>
      go_wp2_with fail
      refine (l1Put_any g2 c2 base lv ot (cbOf nm lv) w2 O2 hr (by omega)).mono ?_
      rintro e w3 ⟨⟨g4, c4, rfl, o4⟩, hb3⟩
      have X3 := X2.below hb3
      have Z3 := Z2.below hb3
      replace O1 := owns_below O1 hb3
      replace O3 := owns_below O3 hb3
      have hB3 := below_then hB2 hb3
      have hz3 := hb3.size
      clear x0 x1 x2 x3 y0 y1 y2 y3 y4 X2 Y2 Z2 hB2 hb3 kc O2
      obtain ⟨_, x0, x1, x2, x3⟩ := X3.c4
      have f1 := X3.2.2 1
      have q4 := owns_lt o4
      have zw := Z3.1
      go_wp2_with fail
      have XX := X3.set 1 (.slice (some ⟨g4, 0, none⟩) (putL lv ot (cbOf nm lv)).length c4) (by simp)
      have hSS : Chg (· = w.heap.size) w3 (w3.setCell ⟨w.heap.size, 1, none⟩ (.slice (some ⟨g4, 0, none⟩) (putL lv ot (cbOf nm lv)).length c4)) := (Chg.refl (· = w.heap.size) w3).setCell (p := ⟨w.heap.size, 1, none⟩) rfl _
      have ZZ := hSS.box Z3 (by omega)
      have R1 := hSS.owns O1 (fun g hg h => by simp only [Value.ownBlock, Option.some.injEq] at hg; omega)
      have R2 := owns_wk (base' := base) (hSS.owns o4 (fun g hg h => by simp only [Value.ownBlock, Option.some.injEq] at hg; omega)) (by omega)
      have R3 := hSS.owns O3 (fun g hg h => by simp only [Value.ownBlock, Option.some.injEq] at hg; omega)
      have hBB : Chg (fun b => b = g1 ∨ w.heap.size ≤ b) w _ := (Chg.of_below hB3).trans (hSS.mono (fun k h => Or.inr (by omega)))
      have D12 : ∀ b, (Value.slice (some ⟨g1, 0, none⟩) bl.length c1).ownBlock = some b → (Value.slice (some ⟨g4, 0, none⟩) (putL lv ot (cbOf nm lv)).length c4).ownBlock ≠ some b := fun b h h' => by simp only [Value.ownBlock, Option.some.injEq] at h h'; omega
      have D23 : ∀ b, (Value.slice (some ⟨g4, 0, none⟩) (putL lv ot (cbOf nm lv)).length c4).ownBlock = some b → (Value.slice (some ⟨g3, 0, none⟩) sf.length c3).ownBlock ≠ some b := fun b h h' => by simp only [Value.ownBlock, Option.some.injEq] at h h'; omega
      clear x0 x1 x2 x3 f1 X3 Z3 hSS O1 O3 o4 hB3
      generalize w3.setCell ⟨w.heap.size, 1, none⟩ (.slice (some ⟨g4, 0, none⟩) (putL lv ot (cbOf nm lv)).length c4) = w5 at *
      obtain ⟨_, x0, x1, x2, x3⟩ := XX.c4
      have bB := blobs_small HG.out
      have bL := put_small HG.out ot hO (cbOf nm lv)
      have bS := safe_small HG.out
      have hGE := good_link HG.out hO hv hvo
      refine (specGood_any _ _ _ bl (putL lv ot (cbOf nm lv)) sf r w5 (PL_of_owns R1) (PL_of_owns R2) (PL_of_owns R3) bB.1 bL.1 bS.1 bB.2 bL.2 bS.2).mono ?_
      rintro e w6 ⟨rfl, hb6⟩
      have X6 := XX.below hb6
      have Z6 := ZZ.below hb6
      replace R1 := owns_below R1 hb6
      replace R2 := owns_below R2 hb6
      replace R3 := owns_below R3 hb6
      have hB6 := hBB.trans (Chg.of_below hb6)
      have hz6 := hb6.size
      clear x0 x1 x2 x3 XX ZZ hBB hb6 bB bL bS
      obtain ⟨_, x0, x1, x2, x3⟩ := X6.c4
      cases hGD : goodD bl (putL lv ot (cbOf nm lv)) sf r with
      | true =>
        rw [hGD] at hGE
        have hcode : refuse 5 nm ot da kp bl lv sf r = 0 := by
          have hlt : lv.length < 20 := of_decide_eq_true hGE.symm; simp [refuse, HS.out, lacks, named, hv, taken, hvo, overB]; omega
        clear hGE hGD
        have hE := put4_box Z6 (.slice (some ⟨g1, 0, none⟩) bl.length c1) (.slice (some ⟨g4, 0, none⟩) (putL lv ot (cbOf nm lv)).length c4) (.slice (some ⟨g3, 0, none⟩) sf.length c3) (.int .i64 r)
        have hC := put4_chg w6 (w.heap.size + 1 + 1) (.slice (some ⟨g1, 0, none⟩) bl.length c1) (.slice (some ⟨g4, 0, none⟩) (putL lv ot (cbOf nm lv)).length c4) (.slice (some ⟨g3, 0, none⟩) sf.length c3) (.int .i64 r)
        have hB9 : Chg (fun b => b = g1 ∨ w.heap.size ≤ b) w _ := (hB6).trans (hC.mono (fun b h => Or.inr (by omega)))
        obtain ⟨hzZ, z0, z1, z2, z3⟩ := Z6.c4
        have e0 := Z6.2.2 0
        have e1 := Z6.2.2 1
        have e2 := Z6.2.2 2
        have e3 := Z6.2.2 3
        have hMM : refuse 5 nm ot da kp bl lv sf r = 0 → Made base (put4 w6 (w.heap.size + 1 + 1) (.slice (some ⟨g1, 0, none⟩) bl.length c1) (.slice (some ⟨g4, 0, none⟩) (putL lv ot (cbOf nm lv)).length c4) (.slice (some ⟨g3, 0, none⟩) sf.length c3) (.int .i64 r)) (.slice (some ⟨g1, 0, none⟩) bl.length c1) (.slice (some ⟨g4, 0, none⟩) (putL lv ot (cbOf nm lv)).length c4) (.slice (some ⟨g3, 0, none⟩) sf.length c3) (nB 5 nm da kp bl lv) (nL 5 nm ot bl lv sf) (nS 5 lv sf) := by
          intro _
          show Made base _ _ _ _ bl (putL lv ot (cbOf nm lv)) sf
          exact ⟨hC.owns R1 (fun g hg h => by simp only [Value.ownBlock, Option.some.injEq] at hg; omega), hC.owns R2 (fun g hg h => by simp only [Value.ownBlock, Option.some.injEq] at hg; omega), hC.owns R3 (fun g hg h => by simp only [Value.ownBlock, Option.some.injEq] at hg; omega), D12, d13, D23⟩
        clear hC
        go_wp2
        change bodyPost _ _ _ _ _ (put4 w6 (w.heap.size + 1 + 1) (.slice (some ⟨g1, 0, none⟩) bl.length c1) (.slice (some ⟨g4, 0, none⟩) (putL lv ot (cbOf nm lv)).length c4) (.slice (some ⟨g3, 0, none⟩) sf.length c3) (.int .i64 r))
        generalize put4 w6 (w.heap.size + 1 + 1) (.slice (some ⟨g1, 0, none⟩) bl.length c1) (.slice (some ⟨g4, 0, none⟩) (putL lv ot (cbOf nm lv)).length c4) (.slice (some ⟨g3, 0, none⟩) sf.length c3) (.int .i64 r) = WW at *
        obtain ⟨_, t0, t1, t2, t3⟩ := hE.c4
        exact bodyPost_ret (v := .tuple #[.agg #[.slice (some ⟨g1, 0, none⟩) bl.length c1, .slice (some ⟨g4, 0, none⟩) (putL lv ot (cbOf nm lv)).length c4, .slice (some ⟨g3, 0, none⟩) sf.length c3, .int .i64 r], .int .i64 0]) (by simp [results, Try.results56, go_sem, t0, t1, t2, t3]) rfl ⟨⟨_, _, _, _, _, _, _, _, _, by rw [hcode], hMM⟩, hB9⟩
      | false =>
        rw [hGD] at hGE
        have hcode : refuse 5 nm ot da kp bl lv sf r = 4 := by
          have hlt : ¬ lv.length < 20 := of_decide_eq_false hGE.symm; simp [refuse, HS.out, lacks, named, hv, taken, hvo, overB]; omega
        clear hGE hGD
        have hE := put4_box Z6 (.slice (some ⟨g1, 0, none⟩) bl.length c1) (.slice (some ⟨g4, 0, none⟩) (putL lv ot (cbOf nm lv)).length c4) (.slice (some ⟨g3, 0, none⟩) sf.length c3) (.int .i64 r)
        have hC := put4_chg w6 (w.heap.size + 1 + 1) (.slice (some ⟨g1, 0, none⟩) bl.length c1) (.slice (some ⟨g4, 0, none⟩) (putL lv ot (cbOf nm lv)).length c4) (.slice (some ⟨g3, 0, none⟩) sf.length c3) (.int .i64 r)
        have hB9 : Chg (fun b => b = g1 ∨ w.heap.size ≤ b) w _ := (hB6).trans (hC.mono (fun b h => Or.inr (by omega)))
        obtain ⟨hzZ, z0, z1, z2, z3⟩ := Z6.c4
        have e0 := Z6.2.2 0
        have e1 := Z6.2.2 1
        have e2 := Z6.2.2 2
        have e3 := Z6.2.2 3
        have hMM : refuse 5 nm ot da kp bl lv sf r = 0 → Made base (put4 w6 (w.heap.size + 1 + 1) (.slice (some ⟨g1, 0, none⟩) bl.length c1) (.slice (some ⟨g4, 0, none⟩) (putL lv ot (cbOf nm lv)).length c4) (.slice (some ⟨g3, 0, none⟩) sf.length c3) (.int .i64 r)) (.slice (some ⟨g1, 0, none⟩) bl.length c1) (.slice (some ⟨g4, 0, none⟩) (putL lv ot (cbOf nm lv)).length c4) (.slice (some ⟨g3, 0, none⟩) sf.length c3) (nB 5 nm da kp bl lv) (nL 5 nm ot bl lv sf) (nS 5 lv sf) := by
          intro h; rw [hcode] at h; cases h
        clear hC
        go_wp2
        change bodyPost _ _ _ _ _ (put4 w6 (w.heap.size + 1 + 1) (.slice (some ⟨g1, 0, none⟩) bl.length c1) (.slice (some ⟨g4, 0, none⟩) (putL lv ot (cbOf nm lv)).length c4) (.slice (some ⟨g3, 0, none⟩) sf.length c3) (.int .i64 r))
        generalize put4 w6 (w.heap.size + 1 + 1) (.slice (some ⟨g1, 0, none⟩) bl.length c1) (.slice (some ⟨g4, 0, none⟩) (putL lv ot (cbOf nm lv)).length c4) (.slice (some ⟨g3, 0, none⟩) sf.length c3) (.int .i64 r) = WW at *
        obtain ⟨_, t0, t1, t2, t3⟩ := hE.c4
        exact bodyPost_ret (v := .tuple #[.agg #[.slice (some ⟨g1, 0, none⟩) bl.length c1, .slice (some ⟨g4, 0, none⟩) (putL lv ot (cbOf nm lv)).length c4, .slice (some ⟨g3, 0, none⟩) sf.length c3, .int .i64 r], .int .i64 4]) (by simp [results, Try.results56, go_sem, t0, t1, t2, t3]) rfl ⟨⟨_, _, _, _, _, _, _, _, _, by rw [hcode], hMM⟩, hB9⟩
end Go.Proofs.Ytbgemebpfcbloaa
