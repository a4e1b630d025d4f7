/-
  spec.l1Do: steps that are not bad (3).
-/
import Derived.Test.YtbgemebpfcbloaaZ6
namespace Go.Proofs.Ytbgemebpfcbloaa
open Go.RowKit Go.Maps
set_option linter.unusedVariables false
set_option maxRecDepth 100000

set_option maxHeartbeats 8000000 in
theorem dg_3 (g1 c1 g2 c2 g3 c3 : Nat) (bl lv sf : List (ByteArray × Int)) (r : Int) (base : Nat) (nm ot da : ByteArray) (kp : Int) (w : World) (hM : MadeS base w g1 c1 g2 c2 g3 c3 bl lv sf) (hbase : base ≤ w.heap.size) (hg : goodD bl lv sf r = true) (hnm : nm.size ≤ 1048576) (hot : ot.size ≤ 1048576) (hda : da.size ≤ 1048576) (hS : goodS 3 nm ot da kp = true) :
    Calls Try.prog 56 #[.agg #[.slice (some ⟨g1, 0, none⟩) bl.length c1, .slice (some ⟨g2, 0, none⟩) lv.length c2, .slice (some ⟨g3, 0, none⟩) sf.length c3, .int .i64 r], .agg #[.int .i64 3, .string nm, .string ot, .string da, .int .i64 kp]] w fun e w' => (∃ a1 n1 d1 a2 n2 d2 a3 n3 d3, e = .returned (.tuple #[.agg #[.slice a1 n1 d1, .slice a2 n2 d2, .slice a3 n3 d3, .int .i64 r], .int .i64 (refuse 3 nm ot da kp bl lv sf r)]) ∧
      (refuse 3 nm ot da kp bl lv sf r = 0 → Made base w' (.slice a1 n1 d1) (.slice a2 n2 d2) (.slice a3 n3 d3) (nB 3 nm da kp bl lv) (nL 3 nm ot bl lv sf) (nS 3 lv sf))) ∧ Chg (fun b => b = g1 ∨ w.heap.size ≤ b) w w' := by
  obtain ⟨W0, hW0⟩ : ∃ W0, W0 = ((w.alloc (.cells #[.slice (some ⟨g1, 0, none⟩) bl.length c1, .slice (some ⟨g2, 0, none⟩) lv.length c2, .slice (some ⟨g3, 0, none⟩) sf.length c3, .int .i64 r] 26)).alloc (.cells #[.int .i64 3, .string nm, .string ot, .string da, .int .i64 kp] 28)).alloc (.cells #[.slice none 0 0, .slice none 0 0, .slice none 0 0, .int .i64 0] 26) := ⟨_, rfl⟩
  have hB0 : Below w.heap.size w W0 := by rw [hW0]; exact below3 _ _ _ _
  have X0 : Box W0 w.heap.size [.slice (some ⟨g1, 0, none⟩) bl.length c1, .slice (some ⟨g2, 0, none⟩) lv.length c2, .slice (some ⟨g3, 0, none⟩) sf.length c3, .int .i64 r] := by rw [hW0]; exact ((Box.new w _ _).alloc _).alloc _
  have Y0 : Box W0 (w.heap.size + 1) [.int .i64 3, .string nm, .string ot, .string da, .int .i64 kp] := by
    rw [hW0]
    have := (Box.new (w.alloc (.cells #[.slice (some ⟨g1, 0, none⟩) bl.length c1, .slice (some ⟨g2, 0, none⟩) lv.length c2, .slice (some ⟨g3, 0, none⟩) sf.length c3, .int .i64 r] 26)) #[.int .i64 3, .string nm, .string ot, .string da, .int .i64 kp] 28).alloc (.cells #[.slice none 0 0, .slice none 0 0, .slice none 0 0, .int .i64 0] 26)
    simpa using this
  have Z0 : Box W0 (w.heap.size + 1 + 1) [.slice none 0 0, .slice none 0 0, .slice none 0 0, .int .i64 0] := by
    rw [hW0]
    have := Box.new ((w.alloc (.cells #[.slice (some ⟨g1, 0, none⟩) bl.length c1, .slice (some ⟨g2, 0, none⟩) lv.length c2, .slice (some ⟨g3, 0, none⟩) sf.length c3, .int .i64 r] 26)).alloc (.cells #[.int .i64 3, .string nm, .string ot, .string da, .int .i64 kp] 28)) #[.slice none 0 0, .slice none 0 0, .slice none 0 0, .int .i64 0] 26
    simpa using this
  have hzW : W0.heap.size = w.heap.size + 3 := by rw [hW0]; simp
  obtain ⟨_, x0, x1, x2, x3⟩ := X0.c4
  obtain ⟨_, y0, y1, y2, y3, y4⟩ := Y0.c5
  obtain ⟨G1, G2, G3, G4, G5, G6⟩ := (goodD_iff _ _ _ _).1 hg
  have hr := ris_of_ok G3
  have hl20 := ((okNs_iff _ _).1 G3).2.2
  have hs20 := ((okNs_iff _ _).1 G4).2.2
  obtain ⟨o1, o2, o3, d12, d13, d23⟩ := hM
  have q1 := owns_lt o1
  have q2 := owns_lt o2
  have q3 := owns_lt o3
  have O1 := owns_below o1 hB0
  have O2 := owns_below o2 hB0
  have O3 := owns_below o3 hB0
  have HG : Hid (goodD bl lv sf r = true) := hg
  have hdS : (da.size : Int) ≤ 4000 := by simp only [goodS, Bool.and_eq_true, decide_eq_true_eq] at hS; exact hS.1
  have hda4 : da.size ≤ 4000 := by omega
  have hd : decide ((4000 : Int) < da.size) = false := by simp; omega
  have hin : (decide ((1 : Int) ≤ 3) && decide ((3 : Int) ≤ 8)) = true := rfl
  have hN : okN nm = true := by simp only [goodS, kindOk, Bool.and_eq_true] at hS; have := hS.2; simpa using this
  have HS : Hid (goodS 3 nm ot da kp = true) := hS
  clear o1 o2 o3 hS G1 G4 hg hdS
  go_enter Try.func56, Try.ntmps56
  go_wp2_with fail
  rw [← hW0]
  clear hW0
  refine (l1In_any _ _ _ _).mono ?_
  rintro e w1 ⟨rfl, hw⟩
  rw [hw]
  clear hw
  rw [hin]
  go_wp2_with fail
  refine (l1Name_any nm _ hnm).mono ?_
  rintro e w1 ⟨rfl, hw⟩
  rw [hw]
  clear hw
  rw [hN]
  go_wp2_with fail
  refine (l1At_look _ lv nm W0 (PL_of_owns O2) (by omega) hr).mono ?_
  rintro e w1 ⟨⟨k1, hk1, hv1, rfl⟩, hb1⟩
  have X1 := X0.below hb1
  have Y1 := Y0.below hb1
  have Z1 := Z0.below hb1
  replace O1 := owns_below O1 hb1
  replace O2 := owns_below O2 hb1
  replace O3 := owns_below O3 hb1
  have hB1 := below_then hB0 hb1
  have hz1 := hb1.size
  clear x0 x1 x2 x3 y0 y1 y2 y3 y4 X0 Y0 Z0 hB0 hb1
  obtain ⟨_, x0, x1, x2, x3⟩ := X1.c4
  obtain ⟨_, y0, y1, y2, y3, y4⟩ := Y1.c5
  cases hv : lkp nm none lv with
  | none =>
    rw [hv] at hv1
    have hcode : refuse 3 nm ot da kp bl lv sf r = 2 := by simp [refuse, HS.out, lacks, named, hv]
    have hE := put4_box Z1 (.slice (some ⟨g1, 0, none⟩) bl.length c1) (.slice (some ⟨g2, 0, none⟩) lv.length c2) (.slice (some ⟨g3, 0, none⟩) sf.length c3) (.int .i64 r)
    have hC := put4_chg w1 (w.heap.size + 1 + 1) (.slice (some ⟨g1, 0, none⟩) bl.length c1) (.slice (some ⟨g2, 0, none⟩) lv.length c2) (.slice (some ⟨g3, 0, none⟩) sf.length c3) (.int .i64 r)
    have hB9 : Chg (fun b => b = g1 ∨ w.heap.size ≤ b) w _ := (Chg.of_below hB1).trans (hC.mono (fun b h => Or.inr (by omega)))
    obtain ⟨hzZ, z0, z1, z2, z3⟩ := Z1.c4
    have e0 := Z1.2.2 0
    have e1 := Z1.2.2 1
    have e2 := Z1.2.2 2
    have e3 := Z1.2.2 3
    have hMM : refuse 3 nm ot da kp bl lv sf r = 0 → Made base (put4 w1 (w.heap.size + 1 + 1) (.slice (some ⟨g1, 0, none⟩) bl.length c1) (.slice (some ⟨g2, 0, none⟩) lv.length c2) (.slice (some ⟨g3, 0, none⟩) sf.length c3) (.int .i64 r)) (.slice (some ⟨g1, 0, none⟩) bl.length c1) (.slice (some ⟨g2, 0, none⟩) lv.length c2) (.slice (some ⟨g3, 0, none⟩) sf.length c3) (nB 3 nm da kp bl lv) (nL 3 nm ot bl lv sf) (nS 3 lv sf) := by
      intro h; rw [hcode] at h; cases h
    clear hC
    go_wp2
    change bodyPost _ _ _ _ _ (put4 w1 (w.heap.size + 1 + 1) (.slice (some ⟨g1, 0, none⟩) bl.length c1) (.slice (some ⟨g2, 0, none⟩) lv.length c2) (.slice (some ⟨g3, 0, none⟩) sf.length c3) (.int .i64 r))
    generalize put4 w1 (w.heap.size + 1 + 1) (.slice (some ⟨g1, 0, none⟩) bl.length c1) (.slice (some ⟨g2, 0, none⟩) lv.length c2) (.slice (some ⟨g3, 0, none⟩) sf.length c3) (.int .i64 r) = WW at *
    obtain ⟨_, t0, t1, t2, t3⟩ := hE.c4
    exact bodyPost_ret (v := .tuple #[.agg #[.slice (some ⟨g1, 0, none⟩) bl.length c1, .slice (some ⟨g2, 0, none⟩) lv.length c2, .slice (some ⟨g3, 0, none⟩) sf.length c3, .int .i64 r], .int .i64 2]) (by simp [results, Try.results56, go_sem, t0, t1, t2, t3]) rfl ⟨⟨_, _, _, _, _, _, _, _, _, by rw [hcode], hMM⟩, hB9⟩
  | some cv =>
    obtain ⟨hkl, hkc⟩ := hv1 cv hv
    have hcv : cv = (cbOf nm lv : Int) := by
      have := (named_blob (k := 3) (nm := nm) HG.out rfl (by simp [lacks, named, hv])).1
      rw [hv] at this; injection this
    subst hcv
    obtain ⟨hvc, hcb, hany⟩ := named_blob (k := 3) (nm := nm) HG.out rfl (by simp [lacks, named, hv])
    go_wp2_with fail
    refine (l1At_look _ lv ot w1 (PL_of_owns O2) (by omega) hr).mono ?_
    rintro e w2 ⟨⟨k2, hk2, hv2, rfl⟩, hb2⟩
    have X2 := X1.below hb2
    have Y2 := Y1.below hb2
    have Z2 := Z1.below hb2
    replace O1 := owns_below O1 hb2
    replace O2 := owns_below O2 hb2
    replace O3 := owns_below O3 hb2
    have hB2 := below_then hB1 hb2
    have hz2 := hb2.size
    clear x0 x1 x2 x3 y0 y1 y2 y3 y4 X1 Y1 Z1 hB1 hb2
    obtain ⟨_, x0, x1, x2, x3⟩ := X2.c4
    obtain ⟨_, y0, y1, y2, y3, y4⟩ := Y2.c5
    have kc := (owns_at O2 k1 hkl (Nat.le_refl _)).2.1
    rw [hkc] at kc
    have hki : (k1 : Int) < lv.length := by omega
    obtain ⟨s, hse⟩ : ∃ s, s = (bl.getD (cbOf nm lv) default).1 := ⟨_, rfl⟩
    have hgd := getD_lt bl (cbOf nm lv) hcb
    obtain ⟨u0, u1, v0, v1⟩ := owns_at O1 (cbOf nm lv) hcb (Nat.le_refl _)
    rw [← hgd, ← hse] at u0
    have hBk := (okBs_iff _).1 ((goodD_iff _ _ _ _).1 HG.out).1 bl[cbOf nm lv] (List.getElem_mem _)
    rw [← hgd, ← hse] at hBk
    have hss : s.size ≤ 4000 := hBk.1
    have hcbi : ((cbOf nm lv : Nat) : Int) < bl.length := by omega
    have HSE : Hid (s = (bl.getD (cbOf nm lv) default).1) := hse
    have HGD : Hid ((bl.getD (cbOf nm lv) default) = bl[cbOf nm lv]) := hgd
    clear hse hgd hBk
    go_wp2_with fail
    go_region
    all_goals
      have hO := (O1.stored ((cbOf nm lv) * 2 + 1) (.int .i64 (s.size : Nat))).1
      rw [flat_set1 bl (cbOf nm lv) hcb] at hO
      have hC1 : Chg (· = g1) w2 ((w2.setCell ⟨g1, (cbOf nm lv) * 2 + 1, none⟩ (.int .i64 (s.size : Nat))).drew) := ((Chg.refl (· = g1) w2).setCell (p := ⟨g1, (cbOf nm lv) * 2 + 1, none⟩) rfl _).trans (Chg.of_below (Below.refl _ _).drew)
      have XX := hC1.box X2 (by omega)
      have ZZ := hC1.box Z2 (by omega)
      have R1' := owns_below hO (Below.refl _ _).drew
      have R2 := hC1.owns O2 (fun k hk h => by simp only [Value.ownBlock, Option.some.injEq] at hk; have := d12 g1 rfl; simp only [Value.ownBlock, ne_eq, Option.some.injEq] at this; omega)
      have R3 := hC1.owns O3 (fun k hk h => by simp only [Value.ownBlock, Option.some.injEq] at hk; have := d13 g1 rfl; simp only [Value.ownBlock, ne_eq, Option.some.injEq] at this; omega)
      have hBB : Chg (fun b => b = g1 ∨ w.heap.size ≤ b) w ((w2.setCell ⟨g1, (cbOf nm lv) * 2 + 1, none⟩ (.int .i64 (s.size : Nat))).drew) := (Chg.of_below hB2).trans (hC1.mono (fun k h => Or.inl h))
      have R1 : ((w2.setCell ⟨g1, (cbOf nm lv) * 2 + 1, none⟩ (.int .i64 (s.size : Nat))).drew).ownsRow base 43 2 (.slice (some ⟨g1, 0, none⟩) bl.length c1) (bl.set (cbOf nm lv) ((bl.getD (cbOf nm lv) default).1, (bl.getD (cbOf nm lv) default).1.size)).length (flat (bl.set (cbOf nm lv) ((bl.getD (cbOf nm lv) default).1, (bl.getD (cbOf nm lv) default).1.size))) := by
        rw [List.length_set, HGD.out]
        rw [HSE.out, HGD.out] at R1'
        rw [HSE.out, HGD.out]
        exact R1'
      have D12 := d12
      have D23 := d23
      clear x0 x1 x2 x3 y0 y1 y2 y3 y4 X2 Y2 Z2 O1 O2 O3 hB2 hO hC1 R1' kc u0 u1 v0 v1
      generalize ((w2.setCell ⟨g1, (cbOf nm lv) * 2 + 1, none⟩ (.int .i64 (s.size : Nat))).drew) = w5 at *
      have hGE0 := good_sync HG.out (cbOf nm lv) hcb hany
      rw [← HGD.out] at hGE0
      obtain ⟨_, x0, x1, x2, x3⟩ := XX.c4
      go_wp2_with fail
      obtain ⟨_, x0, x1, x2, x3⟩ := XX.c4
      have bB := bounds_of (bl.set (cbOf nm lv) ((bl.getD (cbOf nm lv) default).1, (bl.getD (cbOf nm lv) default).1.size)) 60 8000 (by rw [List.length_set]; exact G2) (fun x hx => by
        rcases List.mem_or_eq_of_mem_set hx with e | e
        · have := ((okBs_iff _).1 ((goodD_iff _ _ _ _).1 HG.out).1 x e).1; omega
        · rw [e]; simp only; rw [← HSE.out]; omega) (by decide) (by decide)
      have bL := live_small HG.out
      have bS := safe_small HG.out
      have hGD : goodD (bl.set (cbOf nm lv) ((bl.getD (cbOf nm lv) default).1, (bl.getD (cbOf nm lv) default).1.size)) lv sf r = true := hGE0
      refine (specGood_any _ _ _ (bl.set (cbOf nm lv) ((bl.getD (cbOf nm lv) default).1, (bl.getD (cbOf nm lv) default).1.size)) lv sf r w5 (PL_of_owns R1) (PL_of_owns R2) (PL_of_owns R3) bB.1 bL.1 bS.1 bB.2 bL.2 bS.2).mono ?_
      rintro e w6 ⟨rfl, hb6⟩
      rw [hGD]
      have X6 := XX.below hb6
      have Z6 := ZZ.below hb6
      replace R1 := owns_below R1 hb6
      replace R2 := owns_below R2 hb6
      replace R3 := owns_below R3 hb6
      have hB6 := hBB.trans (Chg.of_below hb6)
      have hz6 := hb6.size
      clear x0 x1 x2 x3 XX ZZ hBB hb6 bB bL bS
      obtain ⟨_, x0, x1, x2, x3⟩ := X6.c4
      have hcode : refuse 3 nm ot da kp bl lv sf r = 0 := by simp [refuse, HS.out, lacks, named, hv, taken, overB]
      have hE := put4_box Z6 (.slice (some ⟨g1, 0, none⟩) bl.length c1) (.slice (some ⟨g2, 0, none⟩) lv.length c2) (.slice (some ⟨g3, 0, none⟩) sf.length c3) (.int .i64 r)
      have hC := put4_chg w6 (w.heap.size + 1 + 1) (.slice (some ⟨g1, 0, none⟩) bl.length c1) (.slice (some ⟨g2, 0, none⟩) lv.length c2) (.slice (some ⟨g3, 0, none⟩) sf.length c3) (.int .i64 r)
      have hB9 : Chg (fun b => b = g1 ∨ w.heap.size ≤ b) w _ := (hB6).trans (hC.mono (fun b h => Or.inr (by omega)))
      obtain ⟨hzZ, z0, z1, z2, z3⟩ := Z6.c4
      have e0 := Z6.2.2 0
      have e1 := Z6.2.2 1
      have e2 := Z6.2.2 2
      have e3 := Z6.2.2 3
      have hMM : refuse 3 nm ot da kp bl lv sf r = 0 → Made base (put4 w6 (w.heap.size + 1 + 1) (.slice (some ⟨g1, 0, none⟩) bl.length c1) (.slice (some ⟨g2, 0, none⟩) lv.length c2) (.slice (some ⟨g3, 0, none⟩) sf.length c3) (.int .i64 r)) (.slice (some ⟨g1, 0, none⟩) bl.length c1) (.slice (some ⟨g2, 0, none⟩) lv.length c2) (.slice (some ⟨g3, 0, none⟩) sf.length c3) (nB 3 nm da kp bl lv) (nL 3 nm ot bl lv sf) (nS 3 lv sf) := by
        intro _
        show Made base _ _ _ _ (bl.set (cbOf nm lv) ((bl.getD (cbOf nm lv) default).1, (bl.getD (cbOf nm lv) default).1.size)) lv sf
        exact ⟨hC.owns R1 (fun g hg h => by simp only [Value.ownBlock, Option.some.injEq] at hg; omega), hC.owns R2 (fun g hg h => by simp only [Value.ownBlock, Option.some.injEq] at hg; omega), hC.owns R3 (fun g hg h => by simp only [Value.ownBlock, Option.some.injEq] at hg; omega), D12, d13, D23⟩
      clear hC
      go_wp2
      change bodyPost _ _ _ _ _ (put4 w6 (w.heap.size + 1 + 1) (.slice (some ⟨g1, 0, none⟩) bl.length c1) (.slice (some ⟨g2, 0, none⟩) lv.length c2) (.slice (some ⟨g3, 0, none⟩) sf.length c3) (.int .i64 r))
      generalize put4 w6 (w.heap.size + 1 + 1) (.slice (some ⟨g1, 0, none⟩) bl.length c1) (.slice (some ⟨g2, 0, none⟩) lv.length c2) (.slice (some ⟨g3, 0, none⟩) sf.length c3) (.int .i64 r) = WW at *
      obtain ⟨_, t0, t1, t2, t3⟩ := hE.c4
      exact bodyPost_ret (v := .tuple #[.agg #[.slice (some ⟨g1, 0, none⟩) bl.length c1, .slice (some ⟨g2, 0, none⟩) lv.length c2, .slice (some ⟨g3, 0, none⟩) sf.length c3, .int .i64 r], .int .i64 0]) (by simp [results, Try.results56, go_sem, t0, t1, t2, t3]) rfl ⟨⟨_, _, _, _, _, _, _, _, _, by rw [hcode], hMM⟩, hB9⟩
end Go.Proofs.Ytbgemebpfcbloaa
