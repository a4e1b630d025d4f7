/-
  spec.SafeFile, impl.SafeFile.
-/
import Derived.Test.YtoiajjlbajdknaaR6
namespace Go.Proofs.Ytoiajjlbajdknaa
open Go.RowKit Go.Maps
set_option linter.unusedVariables false

/-- What SafeFile answers. -/
def safeT (bl sf : List (ByteArray × Int)) (nm : ByteArray) (g : Bool) : ByteArray := match g, lkp nm none sf with | true, some c => (bl.getD c.toNat default).1.extract 0 (bl.getD c.toNat default).2.toNat | _, _ => ⟨#[]⟩
theorem okBs_sync {bl : List (ByteArray × Int)} (h : okBs bl = true) (i : Nat) (hi : i < bl.length) : ∃ mn : Nat, bl[i].2 = (mn : Int) ∧ mn ≤ bl[i].1.size := by
  unfold okBs at h
  rw [List.all_eq_true] at h
  have h1 := h bl[i] (List.getElem_mem _)
  simp only [okB, Bool.and_eq_true, decide_eq_true_eq] at h1
  exact ⟨bl[i].2.toNat, by omega, by omega⟩

set_option maxRecDepth 100000 in
set_option maxHeartbeats 2000000 in
theorem implSafe_any (v1 v2 v3 : Value) (bl lv sf : List (ByteArray × Int)) (r : Int) (nm : ByteArray) (w : World) (h1 : PL w v1 bl) (h2 : PL w v2 lv) (h3 : PL w v3 sf)
    (hn1 : tot bl + bl.length ≤ 1048576) (hn2 : tot lv + lv.length ≤ 1048576) (hn3 : tot sf + sf.length ≤ 1048576) (hs1 : ∀ i (h : i < bl.length), bl[i].1.size ≤ 1048576) (hs2 : ∀ i (h : i < lv.length), lv[i].1.size ≤ 1048576) (hs3 : ∀ i (h : i < sf.length), sf[i].1.size ≤ 1048576) (hnm : nm.size ≤ 1048576) :
    Calls Try.prog 36 #[.agg #[v1, v2, v3, .int .i64 r], .string nm] w fun e w' => e = .returned (.tuple #[.string (safeT bl sf nm (goodD bl lv sf r)), .bool (readB sf nm (goodD bl lv sf r))]) ∧ Below w.heap.size w w' := by
  go_enter Try.func36, Try.ntmps36
  go_wp2_with fail
  refine (implGood_any _ _ _ bl lv sf _ _ (h1.alloc _) (h2.alloc _) (h3.alloc _) hn1 hn2 hn3 hs1 hs2 hs3).mono ?_
  rintro e w1 ⟨rfl, hb1⟩
  have hB1 := below_then (below_alloc _ _) hb1
  have X1 := (Box.new w #[v1, v2, v3, .int .i64 r] 25).below hb1
  obtain ⟨hz1, p0, p1, p2, p3⟩ := X1.c4
  clear hb1
  obtain ⟨g, hg⟩ : ∃ g, g = goodD bl lv sf r := ⟨_, rfl⟩
  rw [← hg]
  have HG : Hid (g = goodD bl lv sf r) := hg
  clear hg
  cases g with
  | false =>
    go_wp2
    go_ret2
    exact ⟨by rw [← HG.out]; rfl, hB1⟩
  | true =>
    obtain ⟨g1, g2, g3⟩ := good_parts HG.out
    have G2 : Hid (okNs sf bl.length = true) := g3
    have G1 : Hid (okBs bl = true) := g1
    clear g1 g2 g3
    cases hlk : lkp nm none sf with
    | none =>
      have HE : Hid (safeT bl sf nm true = ⟨#[]⟩ ∧ readB sf nm true = false) := ⟨by simp [safeT, hlk], by simp [readB, hlk]⟩
      have HLK : Hid (lkp nm none sf = none) := hlk
      clear hlk
      go_wp2_with fail
      go_region_held3 (fun w' => w'.cell? ⟨w.heap.size, 0, none⟩ = some v1 ∧ w'.cell? ⟨w.heap.size, 1, none⟩ = some v2 ∧ w'.cell? ⟨w.heap.size, 2, none⟩ = some v3 ∧ w'.cell? ⟨w.heap.size, 3, none⟩ = some (.int .i64 r)) (go_keep) (first | (go_at_call 71; refine (crashedFiles_any _ bl _ _ (h1.below hB1.drew) (by omega)).mono ?_; rintro e w2 ⟨u, rfl, ou, hb2'⟩; have hb2 := below_undrew hb2'; obtain ⟨_, p0, p1, p2, p3⟩ := (X1.below hb2).c4) | (go_at_call 69; refine (readNamed_no _ _ bl.length sf _ _ (h3.below (below_then hB1 hb2)) (by omega) (by omega) hs3 (okNs_range G2.out) hnm HLK.out).mono ?_; rintro e w3 ⟨rfl, hb3⟩; obtain ⟨_, p0, p1, p2, p3⟩ := ((X1.below hb2).below hb3).c4))
      go_wp2
      go_ret2
      exact ⟨by rw [← HG.out, HE.out.1, HE.out.2]; rfl, below_then (below_then hB1 hb2) hb3⟩
    | some c =>
      obtain ⟨cn, rfl, hcn⟩ := lkp_range G2.out hlk
      obtain ⟨mn, hmn, hms⟩ := okBs_sync G1.out cn hcn
      have HE : Hid (safeT bl sf nm true = bl[cn].1.extract 0 mn ∧ readB sf nm true = true) := ⟨by
        simp [safeT, hlk, hcn, hmn], by simp [readB, hlk]⟩
      have hs1c := hs1 cn hcn
      have HLK : Hid (lkp nm none sf = some (cn : Int)) := hlk
      clear hlk
      go_wp2_with fail
      go_region_held3 (fun w' => w'.cell? ⟨w.heap.size, 0, none⟩ = some v1 ∧ w'.cell? ⟨w.heap.size, 1, none⟩ = some v2 ∧ w'.cell? ⟨w.heap.size, 2, none⟩ = some v3 ∧ w'.cell? ⟨w.heap.size, 3, none⟩ = some (.int .i64 r)) (go_keep) (first | (go_at_call 71; refine (crashedFiles_any _ bl _ _ (h1.below hB1.drew) (by omega)).mono ?_; rintro e w2 ⟨u, rfl, ou, hb2'⟩; have hb2 := below_undrew hb2'; obtain ⟨_, p0, p1, p2, p3⟩ := (X1.below hb2).c4) | (go_at_call 69; refine (readCrash_yes _ _ bl sf _ _ cn mn 0 _ ou (h3.below (below_then hB1 hb2)) (by omega) (by omega) hs3 (okNs_range G2.out) hnm HLK.out hcn hmn (by omega) (by omega) hs1c).mono ?_; rintro e w3 ⟨rfl, hb3⟩; obtain ⟨_, p0, p1, p2, p3⟩ := ((X1.below hb2).below hb3).c4))
      go_wp2
      go_ret2
      exact ⟨by rw [← HG.out, HE.out.1, HE.out.2]; rfl, below_then (below_then hB1 hb2) hb3⟩
set_option maxRecDepth 100000 in
set_option maxHeartbeats 2000000 in
theorem specSafe_any (v1 v2 v3 : Value) (bl lv sf : List (ByteArray × Int)) (r : Int) (nm : ByteArray) (w : World) (h1 : PL w v1 bl) (h2 : PL w v2 lv) (h3 : PL w v3 sf)
    (hn1 : tot bl + bl.length ≤ 1048576) (hn2 : tot lv + lv.length ≤ 1048576) (hn3 : tot sf + sf.length ≤ 1048576) (hs1 : ∀ i (h : i < bl.length), bl[i].1.size ≤ 1048576) (hs2 : ∀ i (h : i < lv.length), lv[i].1.size ≤ 1048576) (hs3 : ∀ i (h : i < sf.length), sf[i].1.size ≤ 1048576) (hnm : nm.size ≤ 1048576) :
    Calls Try.prog 35 #[.agg #[v1, v2, v3, .int .i64 r], .string nm] w fun e w' => e = .returned (.tuple #[.string (safeT bl sf nm (goodD bl lv sf r)), .bool (readB sf nm (goodD bl lv sf r))]) ∧ Below w.heap.size w w' := by
  go_enter Try.func35, Try.ntmps35
  go_wp2_with fail
  refine (l1At_any _ sf _ _ (h3.alloc _) (by omega)).mono ?_
  rintro e w1 ⟨⟨k, hk, hbef, haft, rfl⟩, hb1⟩
  have HBA : Hid ((∀ j (hj : j < sf.length), j < k → less sf[j].1 nm = true) ∧ (∀ hk : k < sf.length, less sf[k].1 nm = false)) := ⟨hbef, haft⟩
  clear hbef haft
  have hB1 := below_then (below_alloc _ _) hb1
  have X1 := (Box.new w #[v1, v2, v3, .int .i64 r] 25).below hb1
  obtain ⟨hz1, p0, p1, p2, p3⟩ := X1.c4
  clear hb1
  obtain ⟨hs', hh⟩ : ∃ b : Bool, b = (decide (k < sf.length) && (sf.getD k default).1.toList == nm.toList) := ⟨_, rfl⟩
  rw [← hh]
  have HH : Hid (hs' = (decide (k < sf.length) && (sf.getD k default).1.toList == nm.toList)) := hh
  clear hh
  go_wp2_with fail
  refine (specGood_any _ _ _ bl lv sf _ _ (h1.below hB1) (h2.below hB1) (h3.below hB1) hn1 hn2 hn3 hs1 hs2 hs3).mono ?_
  rintro e w2 ⟨rfl, hb2⟩
  have hB2 := below_then hB1 hb2
  have X2 := X1.below hb2
  clear p0 p1 p2 p3 X1 hz1 hb2
  obtain ⟨hz1, p0, p1, p2, p3⟩ := X2.c4
  have hz2 := hB2.size
  obtain ⟨g, hg⟩ : ∃ g, g = goodD bl lv sf r := ⟨_, rfl⟩
  rw [← hg]
  have HG : Hid (g = goodD bl lv sf r) := hg
  clear hg
  cases g with
  | false =>
    go_wp2
    go_ret2
    exact ⟨by rw [← HG.out]; rfl, hB2⟩
  | true =>
    obtain ⟨g1, g2, g3⟩ := good_parts HG.out
    have G2 : Hid (okNs sf bl.length = true) := g3
    have G1 : Hid (okBs bl = true) := g1
    clear g1 g2 g3
    cases hs' with
    | false =>
      have hlk : lkp nm none sf = none := at_no G2.out nm k HBA.out.1 fun hk' => ⟨HBA.out.2 hk', fun he => by
        have := HH.out
        simp only [hk', decide_true, Bool.true_and, List.getD_eq_getElem?_getD, List.getElem?_eq_getElem hk', Option.getD_some, he, beq_self_eq_true] at this
        cases this⟩
      have HE : Hid (safeT bl sf nm true = ⟨#[]⟩ ∧ readB sf nm true = false) := ⟨by simp [safeT, hlk], by simp [readB, hlk]⟩
      clear hlk
      go_wp2
      go_ret2
      exact ⟨by rw [← HG.out, HE.out.1, HE.out.2]; rfl, hB2⟩
    | true =>
      have hkl : k < sf.length := by have h := HH.out.symm; rw [Bool.and_eq_true] at h; simpa using h.1
      have hke : sf[k].1 = nm := by
        have h := HH.out.symm; rw [Bool.and_eq_true] at h
        have h2 := h.2
        simp only [List.getD_eq_getElem?_getD, List.getElem?_eq_getElem hkl, Option.getD_some] at h2
        exact toList_inj (by simpa using h2)
      have hlk := at_yes G2.out nm k hkl hke
      obtain ⟨cn, hc, hcn⟩ := lkp_range G2.out hlk
      have hkb := (h3.below hB2)
      have hbb := (h1.below hB2)
      obtain ⟨a2, c2, rfl, hc2⟩ := hkb
      obtain ⟨a1, c1, rfl, hc1⟩ := hbb
      obtain ⟨b2, off2, rfl, hbl2, hcell2⟩ := hc2 (by intro e; simp [e] at hkl)
      obtain ⟨b1, off1, rfl, hbl1, hcell1⟩ := hc1 (by intro e; simp [e] at hcn)
      obtain ⟨s, hse⟩ : ∃ s, s = bl[cn].1 := ⟨_, rfl⟩
      obtain ⟨ts, hts⟩ : ∃ ts, ts = sf[k].1 := ⟨_, rfl⟩
      have hss : s.size ≤ 1048576 := by rw [hse]; exact hs1 cn hcn
      obtain ⟨mn, hmn, hms⟩ := okBs_sync G1.out cn hcn
      have e0 : w2.cell? ⟨b1, off1 + cn * 2, none⟩ = some (.string s) := by rw [hse]; exact (hcell1 cn hcn).1
      have e1 : w2.cell? ⟨b1, off1 + cn * 2 + 1, none⟩ = some (.int .i64 (mn : Int)) := by rw [← hmn]; exact (hcell1 cn hcn).2
      have f1 : w2.cell? ⟨b2, off2 + k * 2 + 1, none⟩ = some (.int .i64 (cn : Int)) := by rw [(hcell2 k hkl).2, hc]
      have HE : Hid (safeT bl sf nm true = s.extract 0 mn ∧ readB sf nm true = true) := ⟨by simp [safeT, hlk, hc, hcn, hse, hmn], by simp [readB, hlk]⟩
      have hms' : (mn : Int) ≤ (s.size : Int) := by rw [hse]; omega
      have i0 : (0 : Int) ≤ (k : Int) := by omega
      have i1 : (k : Int) < (sf.length : Int) := by omega
      have i2 : (0 : Int) ≤ (cn : Int) := by omega
      have i3 : (cn : Int) < (bl.length : Int) := by omega
      have hbl1' : b1 < w2.heap.size := hbl1
      clear hcell1 hcell2 hc1 hc2 hlk hc hke hse hts hs1 hs2 hs3 h1 h2 h3 hmn hms
      go_wp2_with fail
      go_region
      all_goals
        go_wp2
        go_ret2
        exact ⟨by rw [← HG.out, HE.out.1, HE.out.2]; rfl, (hB2.alloc hz2 _).drew⟩

set_option maxHeartbeats 2000000 in
theorem lawSafe_any (v1 v2 v3 : Value) (bl lv sf : List (ByteArray × Int)) (r : Int) (nm : ByteArray) (w : World) (h1 : PL w v1 bl) (h2 : PL w v2 lv) (h3 : PL w v3 sf)
    (hn1 : bl.length ≤ maxLen) (hn2 : lv.length ≤ maxLen) (hn3 : sf.length ≤ maxLen) (hs1 : ∀ i (h : i < bl.length), bl[i].1.size ≤ maxLen) (hs2 : ∀ i (h : i < lv.length), lv[i].1.size ≤ maxLen) (hs3 : ∀ i (h : i < sf.length), sf[i].1.size ≤ maxLen) (hnm : nm.size ≤ 1048576) :
    Calls Try.prog 8 #[.agg #[v1, v2, v3, .int .i64 r], .string nm] w fun e w' => e = .returned (.bool true) ∧ Below w.heap.size w w' := by
  go_enter Try.func8, Try.ntmps8
  go_wp2_with fail
  refine (szDisk_any _ _ _ bl lv sf _ _ _ (h1.alloc _) (h2.alloc _) (h3.alloc _) (by omega) (by omega) hn1 hn2 hn3 hs1 hs2 hs3).mono ?_
  rintro e w1 ⟨⟨q, rfl, hq⟩, hb1⟩
  have hB1 := below_then (below_alloc _ _) hb1
  have X1 := (Box.new w #[v1, v2, v3, .int .i64 r] 34).below hb1
  obtain ⟨hz1, p0, p1, p2, p3⟩ := X1.c4
  clear hb1
  rcases hq with rfl | ⟨hq0, hqe⟩
  · go_wp2
    go_ret
    exact ⟨rfl, hB1⟩
  · have m1 : tot bl + bl.length ≤ 1048576 := by omega
    have m2 : tot lv + lv.length ≤ 1048576 := by omega
    have m3 : tot sf + sf.length ≤ 1048576 := by omega
    have s1 := size_of_tot bl (by omega)
    have s2 := size_of_tot lv (by omega)
    have s3 := size_of_tot sf (by omega)
    clear hqe hs1 hs2 hs3
    go_wp2_with fail
    refine (toDisk_any _ _ _ bl lv sf _ _ (h1.below hB1) (h2.below hB1) (h3.below hB1) (by omega) (by omega) (by omega)).mono ?_
    rintro e w2 ⟨⟨g1, g2, g3, _, _, _, rfl, o1, o2, o3⟩, hb2⟩
    have hB2 := below_then hB1 hb2
    have X2 := X1.below hb2
    clear p0 p1 p2 p3 X1 hz1 hb2
    go_wp2_with fail
    refine (specSafe_any _ _ _ bl lv sf _ _ _ (PL_of_owns o1) (PL_of_owns o2) (PL_of_owns o3) m1 m2 m3 s1 s2 s3 hnm).mono ?_
    rintro e w3 ⟨rfl, hb3⟩
    have hB3 := below_then hB2 hb3
    have X3 := X2.below hb3
    clear X2 hb3 o1 o2 o3
    obtain ⟨hz1, p0, p1, p2, p3⟩ := X3.c4
    go_wp2_with fail
    refine (toDisk_any _ _ _ bl lv sf _ _ (h1.below hB3) (h2.below hB3) (h3.below hB3) (by omega) (by omega) (by omega)).mono ?_
    rintro e w4 ⟨⟨g1', g2', g3', _, _, _, rfl, o1, o2, o3⟩, hb4⟩
    have hB4 := below_then hB3 hb4
    have X4 := X3.below hb4
    clear p0 p1 p2 p3 X3 hz1 hb4
    go_wp2_with fail
    have BX : Below w4.heap.size w4 (w4.alloc (.cells #[(.slice (some ⟨g1', 0, none⟩) bl.length bl.length), (.slice (some ⟨g2', 0, none⟩) lv.length lv.length), (.slice (some ⟨g3', 0, none⟩) sf.length sf.length), .int .i64 r] 25)) := below_alloc _ _
    refine (implSafe_any _ _ _ bl lv sf _ _ _ (PL_of_owns (owns_below o1 BX)) (PL_of_owns (owns_below o2 BX)) (PL_of_owns (owns_below o3 BX)) m1 m2 m3 s1 s2 s3 hnm).mono ?_
    rintro e w5 ⟨rfl, hb5⟩
    have hB5' := below_then BX hb5
    have hB5 := below_then hB4 hB5'
    have X5 := X4.below hB5'
    have Y5 := (Box.new w4 #[(.slice (some ⟨g1', 0, none⟩) bl.length bl.length), (.slice (some ⟨g2', 0, none⟩) lv.length lv.length), (.slice (some ⟨g3', 0, none⟩) sf.length sf.length), .int .i64 r] 25).below hb5
    have l1 := owns_below o1 hB5'
    have l2 := owns_below o2 hB5'
    have l3 := owns_below o3 hB5'
    clear X4 hb5 o1 o2 o3
    obtain ⟨hz1, p0, p1, p2, p3⟩ := X5.c4
    obtain ⟨hz2, q0, q1, q2, q3⟩ := Y5.c4
    go_wp2_with fail
    go_region_held3 (fun w' => w'.cell? ⟨w.heap.size, 0, none⟩ = some v1 ∧ w'.cell? ⟨w.heap.size, 1, none⟩ = some v2 ∧ w'.cell? ⟨w.heap.size, 2, none⟩ = some v3 ∧ w'.cell? ⟨w.heap.size, 3, none⟩ = some (.int .i64 r) ∧ w'.cell? ⟨w4.heap.size, 0, none⟩ = some (.slice (some ⟨g1', 0, none⟩) bl.length bl.length) ∧ w'.cell? ⟨w4.heap.size, 1, none⟩ = some (.slice (some ⟨g2', 0, none⟩) lv.length lv.length) ∧ w'.cell? ⟨w4.heap.size, 2, none⟩ = some (.slice (some ⟨g3', 0, none⟩) sf.length sf.length) ∧ w'.cell? ⟨w4.heap.size, 3, none⟩ = some (.int .i64 r)) (go_keep) (first | (go_at_call 18; refine (toDisk_any _ _ _ bl lv sf _ _ (h1.below hB5.drew) (h2.below hB5.drew) (h3.below hB5.drew) (by omega) (by omega) (by omega)).mono ?_; rintro e w6 ⟨⟨f1, f2, f3, _, _, _, rfl, o1, o2, o3⟩, hb6'⟩; have hb6 := below_undrew hb6'; obtain ⟨_, p0, p1, p2, p3⟩ := (X5.below hb6).c4; obtain ⟨_, q0, q1, q2, q3⟩ := (Y5.below hb6).c4) | (go_at_call 13; refine (eqDisk_same _ _ _ _ _ _ bl lv sf _ _ (PL_of_owns (owns_below l1 hb6)) (PL_of_owns o1) (PL_of_owns (owns_below l2 hb6)) (PL_of_owns o2) (PL_of_owns (owns_below l3 hb6)) (PL_of_owns o3) (by omega) (by omega) (by omega)).mono ?_; rintro e w7 ⟨rfl, hb7⟩; obtain ⟨_, p0, p1, p2, p3⟩ := ((X5.below hb6).below hb7).c4; obtain ⟨_, q0, q1, q2, q3⟩ := ((Y5.below hb6).below hb7).c4))
    all_goals
      go_wp2
      go_ret
      exact ⟨rfl, below_then (below_then hB5 hb6) hb7⟩
theorem lawSafe_long (v : Value) (v1 v2 v3 : Value) (r : Int) (nm : ByteArray) (w : World) (hm : nm.size ≤ maxLen) (hnm : 1048576 < nm.size) :
    Calls Try.prog 8 #[.agg #[v1, v2, v3, .int .i64 r], .string nm] w fun e w' => e = .returned (.bool true) ∧ Below w.heap.size w w' := by
  unfold maxLen at hm
  go_enter Try.func8, Try.ntmps8
  go_wp2
  go_ret
  exact ⟨rfl, below_alloc _ _⟩
end Go.Proofs.Ytoiajjlbajdknaa
