/-
  spec.DoDisk.
-/
import Derived.Test.YtbgemebpfcbloaaZ14ToZ15
import Derived.Deep.RegionHeld3
import Derived.MapKept
namespace Go.Proofs.Ytbgemebpfcbloaa
open Go.RowKit Go.Maps
set_option linter.unusedVariables false
set_option maxRecDepth 100000

set_option maxHeartbeats 2000000 in
theorem specDo_any (v1 v2 v3 : Value) (bl lv sf : List (ByteArray × Int)) (r : Int) (k : Int) (nm ot da : ByteArray) (kp : Int) (w : World) (h1 : PZ w v1 bl) (h2 : PZ w v2 lv) (h3 : PZ w v3 sf)
    (hn1 : tot bl + bl.length ≤ 1048576) (hn2 : tot lv + lv.length ≤ 1048576) (hn3 : tot sf + sf.length ≤ 1048576) (hs1 : ∀ i (h : i < bl.length), bl[i].1.size ≤ 1048576) (hs2 : ∀ i (h : i < lv.length), lv[i].1.size ≤ 1048576) (hs3 : ∀ i (h : i < sf.length), sf[i].1.size ≤ 1048576)
    (hnm : nm.size ≤ 1048576) (hot : ot.size ≤ 1048576) (hda : da.size ≤ 1048576) :
    Calls Try.prog 12 #[.agg #[v1, v2, v3, .int .i64 r], .agg #[.int .i64 k, .string nm, .string ot, .string da, .int .i64 kp]] w fun e w' => (∃ x1 x2 x3, e = .returned (.tuple #[.agg #[x1, x2, x3, .int .i64 (doR bl lv sf r)], .int .i64 (doC k nm ot da kp bl lv sf r)]) ∧
      Made w.heap.size w' x1 x2 x3 (doB k nm ot da kp bl lv sf r) (doL k nm ot da kp bl lv sf r) (doS k nm ot da kp bl lv sf r)) ∧ Below w.heap.size w w' := by
  obtain ⟨a1, c1, rfl⟩ := h1.shape
  obtain ⟨a2, c2, rfl⟩ := h2.shape
  obtain ⟨a3, c3, rfl⟩ := h3.shape
  obtain ⟨W0, hW0⟩ : ∃ W0, W0 = ((w.alloc (.cells #[.slice a1 bl.length c1, .slice a2 lv.length c2, .slice a3 sf.length c3, .int .i64 r] 26)).alloc (.cells #[.int .i64 k, .string nm, .string ot, .string da, .int .i64 kp] 28)).alloc (.cells #[.slice none 0 0, .slice none 0 0, .slice none 0 0, .int .i64 0] 26) := ⟨_, rfl⟩
  have hB0 : Below w.heap.size w W0 := by rw [hW0]; exact below3 _ _ _ _
  have X0 : Box W0 w.heap.size [.slice a1 bl.length c1, .slice a2 lv.length c2, .slice a3 sf.length c3, .int .i64 r] := by rw [hW0]; exact ((Box.new w _ _).alloc _).alloc _
  have Y0 : Box W0 (w.heap.size + 1) [.int .i64 k, .string nm, .string ot, .string da, .int .i64 kp] := by
    rw [hW0]
    have := (Box.new (w.alloc (.cells #[.slice a1 bl.length c1, .slice a2 lv.length c2, .slice a3 sf.length c3, .int .i64 r] 26)) #[.int .i64 k, .string nm, .string ot, .string da, .int .i64 kp] 28).alloc (.cells #[.slice none 0 0, .slice none 0 0, .slice none 0 0, .int .i64 0] 26)
    simpa using this
  have Z0 : Box W0 (w.heap.size + 1 + 1) [.slice none 0 0, .slice none 0 0, .slice none 0 0, .int .i64 0] := by
    rw [hW0]
    have := Box.new ((w.alloc (.cells #[.slice a1 bl.length c1, .slice a2 lv.length c2, .slice a3 sf.length c3, .int .i64 r] 26)).alloc (.cells #[.int .i64 k, .string nm, .string ot, .string da, .int .i64 kp] 28)) #[.slice none 0 0, .slice none 0 0, .slice none 0 0, .int .i64 0] 26
    simpa using this
  have hzW : w.heap.size + 2 < W0.heap.size := by rw [hW0]; simp
  have KG := specGood_any _ _ _ bl lv sf r W0 (h1.1.below hB0) (h2.1.below hB0) (h3.1.below hB0) hn1 hn2 hn3 hs1 hs2 hs3
  obtain ⟨_, x0, x1, x2, x3⟩ := X0.c4
  cases hg : goodD bl lv sf r with
  | false =>
    rw [hg] at KG
    rw [show doR bl lv sf r = 0 from by simp [doR, hg], show doC k nm ot da kp bl lv sf r = 1 from by simp [doC, hg], show doB k nm ot da kp bl lv sf r = [] from by simp [doB, hg], show doL k nm ot da kp bl lv sf r = [] from by simp [doL, hg], show doS k nm ot da kp bl lv sf r = [] from by simp [doS, hg]]
    clear h1 h2 h3
    go_enter Try.func12, Try.ntmps12
    go_wp2_with fail
    rw [← hW0]
    clear hW0
    refine KG.mono ?_
    rintro e w1 ⟨rfl, hb1⟩
    have Z1 := Z0.below hb1
    have hB1 := below_then hB0 hb1
    obtain ⟨_, z0, z1, z2, z3⟩ := Z1.c4
    have e0 := Z1.2.2 0
    have e1 := Z1.2.2 1
    have e2 := Z1.2.2 2
    have e3 := Z1.2.2 3
    have hE := put4_box Z1 (.slice none 0 0) (.slice none 0 0) (.slice none 0 0) (.int .i64 0)
    have hC := put4_chg w1 (w.heap.size + 1 + 1) (.slice none 0 0) (.slice none 0 0) (.slice none 0 0) (.int .i64 0)
    have hz1 := hB1.size
    have hB2 := hB1.trans (hC.below hz1 (fun b h => by omega))
    clear hb1 X0 Y0 Z0 x0 x1 x2 x3
    go_wp2
    change bodyPost _ _ _ _ _ (put4 w1 (w.heap.size + 1 + 1) (.slice none 0 0) (.slice none 0 0) (.slice none 0 0) (.int .i64 0))
    generalize put4 w1 (w.heap.size + 1 + 1) (.slice none 0 0) (.slice none 0 0) (.slice none 0 0) (.int .i64 0) = W at *
    obtain ⟨_, t0, t1, t2, t3⟩ := hE.c4
    exact bodyPost_ret (v := .tuple #[.agg #[.slice none 0 0, .slice none 0 0, .slice none 0 0, .int .i64 0], .int .i64 1]) (by simp [results, Try.results12, go_sem, t0, t1, t2, t3]) rfl ⟨⟨_, _, _, rfl, made_nil _ _⟩, hB2⟩
  | true =>
    rw [hg] at KG
    rw [show doR bl lv sf r = r from by simp [doR, hg], show doC k nm ot da kp bl lv sf r = refuse k nm ot da kp bl lv sf r from by simp [doC, hg]]
    have hcode : (∃ c, c = refuse k nm ot da kp bl lv sf r) := ⟨_, rfl⟩
    obtain ⟨cd, hcd⟩ := hcode
    have KD := fun g1 d1 g2 d2 g3 d3 base w hM hbase => l1Do_k g1 d1 g2 d2 g3 d3 bl lv sf r k base nm ot da kp w hM hbase hg hnm hot hda
    have KB := fun g1 d1 g2 d2 g3 d3 base w hM hbase => l1Do_al g1 d1 g2 d2 g3 d3 bl lv sf r k base nm ot da kp w hM hbase hg hnm hot hda
    rw [← hcd] at KD KB
    have HC : Hid (cd = refuse k nm ot da kp bl lv sf r) := hcd
    have HG : Hid (goodD bl lv sf r = true) := hg
    rw [← hcd]
    clear hcd hg
    go_enter Try.func12, Try.ntmps12
    go_wp2_with fail
    rw [← hW0]
    clear hW0
    refine KG.mono ?_
    rintro e w1 ⟨rfl, hb1⟩
    have X1 := X0.below hb1
    have Y1 := Y0.below hb1
    have Z1 := Z0.below hb1
    have hB1 := below_then hB0 hb1
    have zz1 := hb1.size
    clear hb1 KG X0 Y0 Z0 x0 x1 x2 x3 hB0
    obtain ⟨_, x0, x1, x2, x3⟩ := X1.c4
    obtain ⟨_, y0, y1, y2, y3, y4⟩ := Y1.c5
    have ne1 : ¬ (w.heap.size + 1 + 1 = w.heap.size) := by omega
    have ne2 : ¬ (w.heap.size = w.heap.size + 1 + 1) := by omega
    go_wp2_with fail
    go_region_held3 (fun w' => (w'.cell? ⟨w.heap.size, 0, none⟩ = some (.slice a1 bl.length c1) ∧ w'.cell? ⟨w.heap.size, 1, none⟩ = some (.slice a2 lv.length c2) ∧ w'.cell? ⟨w.heap.size, 2, none⟩ = some (.slice a3 sf.length c3) ∧ w'.cell? ⟨w.heap.size, 3, none⟩ = some (.int .i64 r)) ∧ w'.cell? ⟨w.heap.size + 1, 0, none⟩ = some (.int .i64 k) ∧ w'.cell? ⟨w.heap.size + 1, 1, none⟩ = some (.string nm) ∧ w'.cell? ⟨w.heap.size + 1, 2, none⟩ = some (.string ot) ∧ w'.cell? ⟨w.heap.size + 1, 3, none⟩ = some (.string da) ∧ w'.cell? ⟨w.heap.size + 1, 4, none⟩ = some (.int .i64 kp)) (go_keep)
        (first
          | (go_at_call 57; refine (l1Own_any _ _ _ bl lv sf r w1.drew (h1.below hB1.drew) (h2.below hB1.drew) (h3.below hB1.drew) (by omega) (by omega) (by omega)).mono ?_; rintro e w4 ⟨⟨g1, d1, g2, d2, g3, d3, rfl, hM4'⟩, hb4'⟩; have hb4 : Below w1.heap.size w1 w4 := below_undrew hb4'; have hM4 : MadeS w1.heap.size w4 g1 d1 g2 d2 g3 d3 bl lv sf := hM4'; have zz4 := hb4.size; have hgg := (owns_lt hM4.1).1; obtain ⟨_, x0, x1, x2, x3⟩ := (X1.below hb4).c4; obtain ⟨_, y0, y1, y2, y3, y4⟩ := (Y1.below hb4).c5)
          | (go_at_call 57; refine (l1Own_al _ _ _ bl lv sf r w1.drew (h1.below hB1.drew) (h2.below hB1.drew) (h3.below hB1.drew) (by omega) (by omega) (by omega)).mono ?_; rintro e w4 ⟨⟨g1, d1, g2, d2, g3, d3, rfl, hM4', hg1'⟩, E4', T4', hb4'⟩; have hb4 : Below w1.heap.size w1 w4 := below_undrew hb4'; have hM4 : MadeS w1.heap.size w4 g1 d1 g2 d2 g3 d3 bl lv sf := hM4'; have E4 : Box w4 w1.heap.size [.slice none 0 0, .slice none 0 0, .slice none 0 0, .int .i64 0] := E4'; have T4 : w4.heap[w1.heap.size]? = some (.cells #[.slice none 0 0, .slice none 0 0, .slice none 0 0, .int .i64 0] 26 (0, 0)) := T4'; have hg1 : g1 ≠ w1.heap.size := hg1'; have zz4 := hb4.size; have hgg := (owns_lt hM4.1).1; obtain ⟨_, x0, x1, x2, x3⟩ := (X1.below hb4).c4; obtain ⟨_, y0, y1, y2, y3, y4⟩ := (Y1.below hb4).c5)
          | (go_at_call 56; refine (KB g1 d1 g2 d2 g3 d3 w1.heap.size w4 hM4 zz4).mono ?_; rintro e w5 ⟨⟨b4, n4, e4, b5, n5, e5, b6, n6, e6, rfl, hM5⟩, hK5, E5, T5, hb5⟩; obtain ⟨_, u0, u1, u2, u3⟩ := E5.c4; have p0 := E5.2.2 0; have p1 := E5.2.2 1; have p2 := E5.2.2 2; have p3 := E5.2.2 3; have m1 : ¬ (w4.heap.size = w.heap.size) := (by omega); have m2 : ¬ (w4.heap.size = w.heap.size + 1) := (by omega); have m3 : ¬ (w.heap.size = w4.heap.size) := (by omega); have m4 : ¬ (w.heap.size + 1 = w4.heap.size) := (by omega); have X5 := hK5.box _ _ (by omega) (by omega) (X1.below hb4); have Y5 := hK5.box _ _ (by omega) (by omega) (Y1.below hb4); have Z5 := hK5.box _ _ (by omega) (by omega) (Z1.below hb4); obtain ⟨_, x0, x1, x2, x3⟩ := X5.c4; obtain ⟨_, y0, y1, y2, y3, y4⟩ := Y5.c5)
          | (go_at_call 56; have E5 := E4; refine (KD g1 d1 g2 d2 g3 d3 w1.heap.size w4 hM4 zz4).mono ?_; rintro e w5 ⟨⟨b4, n4, e4, b5, n5, e5, b6, n6, e6, rfl, hM5⟩, hK5, hb5⟩; have hz14 := E4.1; have E5 := hK5.box _ _ hz14 (Ne.symm hg1) E4; have T5 := (hK5.block _ hz14 (Ne.symm hg1)).trans T4; obtain ⟨_, u0, u1, u2, u3⟩ := E5.c4; have p0 := E5.2.2 0; have p1 := E5.2.2 1; have p2 := E5.2.2 2; have p3 := E5.2.2 3; have m1 : ¬ (w1.heap.size = w.heap.size) := (by omega); have m2 : ¬ (w1.heap.size = w.heap.size + 1) := (by omega); have m3 : ¬ (w.heap.size = w1.heap.size) := (by omega); have m4 : ¬ (w.heap.size + 1 = w1.heap.size) := (by omega); have X5 := hK5.box _ _ (by omega) (by omega) (X1.below hb4); have Y5 := hK5.box _ _ (by omega) (by omega) (Y1.below hb4); have Z5 := hK5.box _ _ (by omega) (by omega) (Z1.below hb4); obtain ⟨_, x0, x1, x2, x3⟩ := X5.c4; obtain ⟨_, y0, y1, y2, y3, y4⟩ := Y5.c5)
          | (go_at_call 56; refine (KD g1 d1 g2 d2 g3 d3 w1.heap.size w4 hM4 zz4).mono ?_; rintro e w5 ⟨⟨b4, n4, e4, b5, n5, e5, b6, n6, e6, rfl, hM5⟩, hK5, hb5⟩; have X5 := hK5.box _ _ (by omega) (by omega) (X1.below hb4); have Y5 := hK5.box _ _ (by omega) (by omega) (Y1.below hb4); have Z5 := hK5.box _ _ (by omega) (by omega) (Z1.below hb4); obtain ⟨_, x0, x1, x2, x3⟩ := X5.c4; obtain ⟨_, y0, y1, y2, y3, y4⟩ := Y5.c5))
    · have XX := X5.alloc (.cells #[.slice b4 n4 e4, .slice b5 n5 e5, .slice b6 n6 e6, .int .i64 r] 26)
      have ZZ := Z5.alloc (.cells #[.slice b4 n4 e4, .slice b5 n5 e5, .slice b6 n6 e6, .int .i64 r] 26)
      have EE := Box.new w5 #[.slice b4 n4 e4, .slice b5 n5 e5, .slice b6 n6 e6, .int .i64 r] 26
      have MM : cd = 0 → Made w1.heap.size (w5.alloc (.cells #[.slice b4 n4 e4, .slice b5 n5 e5, .slice b6 n6 e6, .int .i64 r] 26)) (.slice b4 n4 e4) (.slice b5 n5 e5) (.slice b6 n6 e6) (nB k nm da kp bl lv) (nL k nm ot bl lv sf) (nS k lv sf) := fun h => (hM5 h).below (below_alloc _ _)
      have zzB := hB1.size
      have zz5 := hK5.size
      have BB := ((below_then hB1 hb4).trans (hb5.mono (by omega))).alloc (by omega) (.cells #[.slice b4 n4 e4, .slice b5 n5 e5, .slice b6 n6 e6, .int .i64 r] 26)
      have nb : w.heap.size + 2 < w5.heap.size := by omega
      clear x0 x1 x2 x3 y0 y1 y2 y3 y4 hM4' hM4 hM5 hK5 X1 Y1 Z1 X5 Y5 Z5 hb4' hb4 hb5 hB1 KD KB
      generalize w5.alloc (.cells #[.slice b4 n4 e4, .slice b5 n5 e5, .slice b6 n6 e6, .int .i64 r] 26) = W6 at *
      obtain ⟨_, x0, x1, x2, x3⟩ := XX.c4
      obtain ⟨hE1, u0, u1, u2, u3⟩ := EE.c4
      obtain ⟨hZ1, z0, z1, z2, z3⟩ := ZZ.c4
      have q0 := ZZ.2.2 0
      have q1 := ZZ.2.2 1
      have q2 := ZZ.2.2 2
      have q3 := ZZ.2.2 3
      by_cases h0 : cd = 0
      · have H0 : Hid (refuse k nm ot da kp bl lv sf r = 0) := by have := HC.out; rw [h0] at this; exact this.symm
        have HB : Hid (doB k nm ot da kp bl lv sf r = nB k nm da kp bl lv ∧ doL k nm ot da kp bl lv sf r = nL k nm ot bl lv sf ∧ doS k nm ot da kp bl lv sf r = nS k lv sf) := ⟨by simp [doB, HG.out, H0.out], by simp [doL, HG.out, H0.out], by simp [doS, HG.out, H0.out]⟩
        have M6 := MM h0
        have hE := put4_box ZZ (.slice b4 n4 e4) (.slice b5 n5 e5) (.slice b6 n6 e6) (.int .i64 r)
        have hC := put4_chg W6 (w.heap.size + 1 + 1) (.slice b4 n4 e4) (.slice b5 n5 e5) (.slice b6 n6 e6) (.int .i64 r)
        have hB6 := BB.trans (hC.below (by omega) (fun b h => by omega))
        have hM6 := M6.chg hC (fun g h1 h2 => by omega)
        clear MM M6 hC HC
        subst h0
        go_wp2
        change bodyPost _ _ _ _ _ (put4 W6 (w.heap.size + 1 + 1) (.slice b4 n4 e4) (.slice b5 n5 e5) (.slice b6 n6 e6) (.int .i64 r))
        generalize put4 W6 (w.heap.size + 1 + 1) (.slice b4 n4 e4) (.slice b5 n5 e5) (.slice b6 n6 e6) (.int .i64 r) = W at *
        obtain ⟨_, t0, t1, t2, t3⟩ := hE.c4
        exact bodyPost_ret (v := .tuple #[.agg #[.slice b4 n4 e4, .slice b5 n5 e5, .slice b6 n6 e6, .int .i64 r], .int .i64 0]) (by simp [results, Try.results12, go_sem, t0, t1, t2, t3]) rfl ⟨⟨_, _, _, rfl, by rw [HB.out.1, HB.out.2.1, HB.out.2.2]; exact hM6.wk (by omega)⟩, hB6⟩
      · have H0 : Hid (¬ refuse k nm ot da kp bl lv sf r = 0) := by have := HC.out; rw [← this]; exact h0
        have HB : Hid (doB k nm ot da kp bl lv sf r = bl ∧ doL k nm ot da kp bl lv sf r = lv ∧ doS k nm ot da kp bl lv sf r = sf) := ⟨by simp [doB, HG.out, H0.out], by simp [doL, HG.out, H0.out], by simp [doS, HG.out, H0.out]⟩
        have hne : (cd == 0) = false := by simp [h0]
        clear MM HC
        go_wp2_with fail
        refine (l1Own_any _ _ _ bl lv sf r _ (h1.below BB) (h2.below BB) (h3.below BB) (by omega) (by omega) (by omega)).mono ?_
        rintro e w7 ⟨⟨f1, f2, f3, f4, f5, f6, rfl, hM7⟩, hb7⟩
        have Z7 := ZZ.below hb7
        clear z0 z1 z2 z3 q0 q1 q2 q3 x0 x1 x2 x3 u0 u1 u2 u3
        obtain ⟨hZ7, z0, z1, z2, z3⟩ := Z7.c4
        have q0 := Z7.2.2 0
        have q1 := Z7.2.2 1
        have q2 := Z7.2.2 2
        have q3 := Z7.2.2 3
        have hE := put4_box Z7 (.slice (some ⟨f1, 0, none⟩) bl.length f2) (.slice (some ⟨f3, 0, none⟩) lv.length f4) (.slice (some ⟨f5, 0, none⟩) sf.length f6) (.int .i64 r)
        have hC := put4_chg w7 (w.heap.size + 1 + 1) (.slice (some ⟨f1, 0, none⟩) bl.length f2) (.slice (some ⟨f3, 0, none⟩) lv.length f4) (.slice (some ⟨f5, 0, none⟩) sf.length f6) (.int .i64 r)
        have hB7 := below_then BB hb7
        have hB8 := hB7.trans (hC.below (by omega) (fun b h => by omega))
        have hM8 := Made.chg hM7 hC (fun g h1 h2 => by omega)
        clear hC hM7 h1 h2 h3
        go_wp2
        change bodyPost _ _ _ _ _ (put4 w7 (w.heap.size + 1 + 1) (.slice (some ⟨f1, 0, none⟩) bl.length f2) (.slice (some ⟨f3, 0, none⟩) lv.length f4) (.slice (some ⟨f5, 0, none⟩) sf.length f6) (.int .i64 r))
        generalize put4 w7 (w.heap.size + 1 + 1) (.slice (some ⟨f1, 0, none⟩) bl.length f2) (.slice (some ⟨f3, 0, none⟩) lv.length f4) (.slice (some ⟨f5, 0, none⟩) sf.length f6) (.int .i64 r) = W at *
        obtain ⟨_, t0, t1, t2, t3⟩ := hE.c4
        exact bodyPost_ret (v := .tuple #[.agg #[.slice (some ⟨f1, 0, none⟩) bl.length f2, .slice (some ⟨f3, 0, none⟩) lv.length f4, .slice (some ⟨f5, 0, none⟩) sf.length f6, .int .i64 r], .int .i64 cd]) (by simp [results, Try.results12, go_sem, t0, t1, t2, t3]) rfl ⟨⟨_, _, _, rfl, by rw [HB.out.1, HB.out.2.1, HB.out.2.2]; exact hM8.wk (by omega)⟩, hB8⟩
    · have hC := put4_chg w5 w4.heap.size (.slice b4 n4 e4) (.slice b5 n5 e5) (.slice b6 n6 e6) (.int .i64 r)
      have XX := hC.box X5 m3
      have ZZ := hC.box Z5 (by omega)
      have EE := put4_box E5 (.slice b4 n4 e4) (.slice b5 n5 e5) (.slice b6 n6 e6) (.int .i64 r)
      have MM : cd = 0 → Made w1.heap.size (put4 w5 w4.heap.size (.slice b4 n4 e4) (.slice b5 n5 e5) (.slice b6 n6 e6) (.int .i64 r)) (.slice b4 n4 e4) (.slice b5 n5 e5) (.slice b6 n6 e6) (nB k nm da kp bl lv) (nL k nm ot bl lv sf) (nS k lv sf) := fun h => made_put (hM5 h) T5 _ _ _ _
      have zzB := hB1.size
      have zz5 := hK5.size
      have BB := ((below_then hB1 hb4).trans (hb5.mono (by omega))).trans (hC.below (B := w.heap.size) (by omega) (fun b h => by omega))
      have nb : w.heap.size + 2 < w4.heap.size := by omega
      clear x0 x1 x2 x3 y0 y1 y2 y3 y4 hM4' hM4 hM5 hK5 X1 Y1 Z1 X5 Y5 Z5 hb4' hb4 hb5 hB1 KD KB hC E5 T5 u0 u1 u2 u3 p0 p1 p2 p3 m1 m2 m3 m4
      change Exit.then _ _ _ _ (put4 w5 w4.heap.size (.slice b4 n4 e4) (.slice b5 n5 e5) (.slice b6 n6 e6) (.int .i64 r))
      generalize put4 w5 w4.heap.size (.slice b4 n4 e4) (.slice b5 n5 e5) (.slice b6 n6 e6) (.int .i64 r) = W6 at *
      obtain ⟨_, x0, x1, x2, x3⟩ := XX.c4
      obtain ⟨hE1, u0, u1, u2, u3⟩ := EE.c4
      obtain ⟨hZ1, z0, z1, z2, z3⟩ := ZZ.c4
      have q0 := ZZ.2.2 0
      have q1 := ZZ.2.2 1
      have q2 := ZZ.2.2 2
      have q3 := ZZ.2.2 3
      by_cases h0 : cd = 0
      · have H0 : Hid (refuse k nm ot da kp bl lv sf r = 0) := by have := HC.out; rw [h0] at this; exact this.symm
        have HB : Hid (doB k nm ot da kp bl lv sf r = nB k nm da kp bl lv ∧ doL k nm ot da kp bl lv sf r = nL k nm ot bl lv sf ∧ doS k nm ot da kp bl lv sf r = nS k lv sf) := ⟨by simp [doB, HG.out, H0.out], by simp [doL, HG.out, H0.out], by simp [doS, HG.out, H0.out]⟩
        have M6 := MM h0
        have hE := put4_box ZZ (.slice b4 n4 e4) (.slice b5 n5 e5) (.slice b6 n6 e6) (.int .i64 r)
        have hC := put4_chg W6 (w.heap.size + 1 + 1) (.slice b4 n4 e4) (.slice b5 n5 e5) (.slice b6 n6 e6) (.int .i64 r)
        have hB6 := BB.trans (hC.below (by omega) (fun b h => by omega))
        have hM6 := M6.chg hC (fun g h1 h2 => by omega)
        clear MM M6 hC HC
        subst h0
        go_wp2
        change bodyPost _ _ _ _ _ (put4 W6 (w.heap.size + 1 + 1) (.slice b4 n4 e4) (.slice b5 n5 e5) (.slice b6 n6 e6) (.int .i64 r))
        generalize put4 W6 (w.heap.size + 1 + 1) (.slice b4 n4 e4) (.slice b5 n5 e5) (.slice b6 n6 e6) (.int .i64 r) = W at *
        obtain ⟨_, t0, t1, t2, t3⟩ := hE.c4
        exact bodyPost_ret (v := .tuple #[.agg #[.slice b4 n4 e4, .slice b5 n5 e5, .slice b6 n6 e6, .int .i64 r], .int .i64 0]) (by simp [results, Try.results12, go_sem, t0, t1, t2, t3]) rfl ⟨⟨_, _, _, rfl, by rw [HB.out.1, HB.out.2.1, HB.out.2.2]; exact hM6.wk (by omega)⟩, hB6⟩
      · have H0 : Hid (¬ refuse k nm ot da kp bl lv sf r = 0) := by have := HC.out; rw [← this]; exact h0
        have HB : Hid (doB k nm ot da kp bl lv sf r = bl ∧ doL k nm ot da kp bl lv sf r = lv ∧ doS k nm ot da kp bl lv sf r = sf) := ⟨by simp [doB, HG.out, H0.out], by simp [doL, HG.out, H0.out], by simp [doS, HG.out, H0.out]⟩
        have hne : (cd == 0) = false := by simp [h0]
        clear MM HC
        go_wp2_with fail
        refine (l1Own_any _ _ _ bl lv sf r _ (h1.below BB) (h2.below BB) (h3.below BB) (by omega) (by omega) (by omega)).mono ?_
        rintro e w7 ⟨⟨f1, f2, f3, f4, f5, f6, rfl, hM7⟩, hb7⟩
        have Z7 := ZZ.below hb7
        clear z0 z1 z2 z3 q0 q1 q2 q3 x0 x1 x2 x3 u0 u1 u2 u3
        obtain ⟨hZ7, z0, z1, z2, z3⟩ := Z7.c4
        have q0 := Z7.2.2 0
        have q1 := Z7.2.2 1
        have q2 := Z7.2.2 2
        have q3 := Z7.2.2 3
        have hE := put4_box Z7 (.slice (some ⟨f1, 0, none⟩) bl.length f2) (.slice (some ⟨f3, 0, none⟩) lv.length f4) (.slice (some ⟨f5, 0, none⟩) sf.length f6) (.int .i64 r)
        have hC := put4_chg w7 (w.heap.size + 1 + 1) (.slice (some ⟨f1, 0, none⟩) bl.length f2) (.slice (some ⟨f3, 0, none⟩) lv.length f4) (.slice (some ⟨f5, 0, none⟩) sf.length f6) (.int .i64 r)
        have hB7 := below_then BB hb7
        have hB8 := hB7.trans (hC.below (by omega) (fun b h => by omega))
        have hM8 := Made.chg hM7 hC (fun g h1 h2 => by omega)
        clear hC hM7 h1 h2 h3
        go_wp2
        change bodyPost _ _ _ _ _ (put4 w7 (w.heap.size + 1 + 1) (.slice (some ⟨f1, 0, none⟩) bl.length f2) (.slice (some ⟨f3, 0, none⟩) lv.length f4) (.slice (some ⟨f5, 0, none⟩) sf.length f6) (.int .i64 r))
        generalize put4 w7 (w.heap.size + 1 + 1) (.slice (some ⟨f1, 0, none⟩) bl.length f2) (.slice (some ⟨f3, 0, none⟩) lv.length f4) (.slice (some ⟨f5, 0, none⟩) sf.length f6) (.int .i64 r) = W at *
        obtain ⟨_, t0, t1, t2, t3⟩ := hE.c4
        exact bodyPost_ret (v := .tuple #[.agg #[.slice (some ⟨f1, 0, none⟩) bl.length f2, .slice (some ⟨f3, 0, none⟩) lv.length f4, .slice (some ⟨f5, 0, none⟩) sf.length f6, .int .i64 r], .int .i64 cd]) (by simp [results, Try.results12, go_sem, t0, t1, t2, t3]) rfl ⟨⟨_, _, _, rfl, by rw [HB.out.1, HB.out.2.1, HB.out.2.2]; exact hM8.wk (by omega)⟩, hB8⟩
    · have hC := put4_chg w5 w1.heap.size (.slice b4 n4 e4) (.slice b5 n5 e5) (.slice b6 n6 e6) (.int .i64 r)
      have XX := hC.box X5 m3
      have ZZ := hC.box Z5 (by omega)
      have EE := put4_box E5 (.slice b4 n4 e4) (.slice b5 n5 e5) (.slice b6 n6 e6) (.int .i64 r)
      have MM : cd = 0 → Made w1.heap.size (put4 w5 w1.heap.size (.slice b4 n4 e4) (.slice b5 n5 e5) (.slice b6 n6 e6) (.int .i64 r)) (.slice b4 n4 e4) (.slice b5 n5 e5) (.slice b6 n6 e6) (nB k nm da kp bl lv) (nL k nm ot bl lv sf) (nS k lv sf) := fun h => made_put (hM5 h) T5 _ _ _ _
      have zzB := hB1.size
      have zz5 := hK5.size
      have BB := ((below_then hB1 hb4).trans (hb5.mono (by omega))).trans (hC.below (B := w.heap.size) (by omega) (fun b h => by omega))
      have nb : w.heap.size + 2 < w1.heap.size := by omega
      clear x0 x1 x2 x3 y0 y1 y2 y3 y4 hM4' hM4 hM5 hK5 X1 Y1 Z1 X5 Y5 Z5 hb4' hb4 hb5 hB1 KD KB hC E5 T5 u0 u1 u2 u3 p0 p1 p2 p3 m1 m2 m3 m4 E4 T4 E4' T4'
      change Exit.then _ _ _ _ (put4 w5 w1.heap.size (.slice b4 n4 e4) (.slice b5 n5 e5) (.slice b6 n6 e6) (.int .i64 r))
      generalize put4 w5 w1.heap.size (.slice b4 n4 e4) (.slice b5 n5 e5) (.slice b6 n6 e6) (.int .i64 r) = W6 at *
      obtain ⟨_, x0, x1, x2, x3⟩ := XX.c4
      obtain ⟨hE1, u0, u1, u2, u3⟩ := EE.c4
      obtain ⟨hZ1, z0, z1, z2, z3⟩ := ZZ.c4
      have q0 := ZZ.2.2 0
      have q1 := ZZ.2.2 1
      have q2 := ZZ.2.2 2
      have q3 := ZZ.2.2 3
      by_cases h0 : cd = 0
      · have H0 : Hid (refuse k nm ot da kp bl lv sf r = 0) := by have := HC.out; rw [h0] at this; exact this.symm
        have HB : Hid (doB k nm ot da kp bl lv sf r = nB k nm da kp bl lv ∧ doL k nm ot da kp bl lv sf r = nL k nm ot bl lv sf ∧ doS k nm ot da kp bl lv sf r = nS k lv sf) := ⟨by simp [doB, HG.out, H0.out], by simp [doL, HG.out, H0.out], by simp [doS, HG.out, H0.out]⟩
        have M6 := MM h0
        have hE := put4_box ZZ (.slice b4 n4 e4) (.slice b5 n5 e5) (.slice b6 n6 e6) (.int .i64 r)
        have hC := put4_chg W6 (w.heap.size + 1 + 1) (.slice b4 n4 e4) (.slice b5 n5 e5) (.slice b6 n6 e6) (.int .i64 r)
        have hB6 := BB.trans (hC.below (by omega) (fun b h => by omega))
        have hM6 := M6.chg hC (fun g h1 h2 => by omega)
        clear MM M6 hC HC
        subst h0
        go_wp2
        change bodyPost _ _ _ _ _ (put4 W6 (w.heap.size + 1 + 1) (.slice b4 n4 e4) (.slice b5 n5 e5) (.slice b6 n6 e6) (.int .i64 r))
        generalize put4 W6 (w.heap.size + 1 + 1) (.slice b4 n4 e4) (.slice b5 n5 e5) (.slice b6 n6 e6) (.int .i64 r) = W at *
        obtain ⟨_, t0, t1, t2, t3⟩ := hE.c4
        exact bodyPost_ret (v := .tuple #[.agg #[.slice b4 n4 e4, .slice b5 n5 e5, .slice b6 n6 e6, .int .i64 r], .int .i64 0]) (by simp [results, Try.results12, go_sem, t0, t1, t2, t3]) rfl ⟨⟨_, _, _, rfl, by rw [HB.out.1, HB.out.2.1, HB.out.2.2]; exact hM6.wk (by omega)⟩, hB6⟩
      · have H0 : Hid (¬ refuse k nm ot da kp bl lv sf r = 0) := by have := HC.out; rw [← this]; exact h0
        have HB : Hid (doB k nm ot da kp bl lv sf r = bl ∧ doL k nm ot da kp bl lv sf r = lv ∧ doS k nm ot da kp bl lv sf r = sf) := ⟨by simp [doB, HG.out, H0.out], by simp [doL, HG.out, H0.out], by simp [doS, HG.out, H0.out]⟩
        have hne : (cd == 0) = false := by simp [h0]
        clear MM HC
        go_wp2_with fail
        refine (l1Own_any _ _ _ bl lv sf r _ (h1.below BB) (h2.below BB) (h3.below BB) (by omega) (by omega) (by omega)).mono ?_
        rintro e w7 ⟨⟨f1, f2, f3, f4, f5, f6, rfl, hM7⟩, hb7⟩
        have Z7 := ZZ.below hb7
        clear z0 z1 z2 z3 q0 q1 q2 q3 x0 x1 x2 x3 u0 u1 u2 u3
        obtain ⟨hZ7, z0, z1, z2, z3⟩ := Z7.c4
        have q0 := Z7.2.2 0
        have q1 := Z7.2.2 1
        have q2 := Z7.2.2 2
        have q3 := Z7.2.2 3
        have hE := put4_box Z7 (.slice (some ⟨f1, 0, none⟩) bl.length f2) (.slice (some ⟨f3, 0, none⟩) lv.length f4) (.slice (some ⟨f5, 0, none⟩) sf.length f6) (.int .i64 r)
        have hC := put4_chg w7 (w.heap.size + 1 + 1) (.slice (some ⟨f1, 0, none⟩) bl.length f2) (.slice (some ⟨f3, 0, none⟩) lv.length f4) (.slice (some ⟨f5, 0, none⟩) sf.length f6) (.int .i64 r)
        have hB7 := below_then BB hb7
        have hB8 := hB7.trans (hC.below (by omega) (fun b h => by omega))
        have hM8 := Made.chg hM7 hC (fun g h1 h2 => by omega)
        clear hC hM7 h1 h2 h3
        go_wp2
        change bodyPost _ _ _ _ _ (put4 w7 (w.heap.size + 1 + 1) (.slice (some ⟨f1, 0, none⟩) bl.length f2) (.slice (some ⟨f3, 0, none⟩) lv.length f4) (.slice (some ⟨f5, 0, none⟩) sf.length f6) (.int .i64 r))
        generalize put4 w7 (w.heap.size + 1 + 1) (.slice (some ⟨f1, 0, none⟩) bl.length f2) (.slice (some ⟨f3, 0, none⟩) lv.length f4) (.slice (some ⟨f5, 0, none⟩) sf.length f6) (.int .i64 r) = W at *
        obtain ⟨_, t0, t1, t2, t3⟩ := hE.c4
        exact bodyPost_ret (v := .tuple #[.agg #[.slice (some ⟨f1, 0, none⟩) bl.length f2, .slice (some ⟨f3, 0, none⟩) lv.length f4, .slice (some ⟨f5, 0, none⟩) sf.length f6, .int .i64 r], .int .i64 cd]) (by simp [results, Try.results12, go_sem, t0, t1, t2, t3]) rfl ⟨⟨_, _, _, rfl, by rw [HB.out.1, HB.out.2.1, HB.out.2.2]; exact hM8.wk (by omega)⟩, hB8⟩
end Go.Proofs.Ytbgemebpfcbloaa
