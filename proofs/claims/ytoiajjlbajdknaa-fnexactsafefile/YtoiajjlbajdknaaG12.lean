/-
  szDisk, and the walk of the law laws.FnExactGoodDisk.
-/
import Derived.Test.YtoiajjlbajdknaaG11
import Derived.Deep.RegionWith
import Derived.Deep.RegionHeld3
import Derived.Deep.DrawnRows
namespace Go.Proofs.Ytoiajjlbajdknaa
open Go.RowKit
set_option linter.unusedVariables false

set_option maxHeartbeats 1000000 in
theorem szDisk_any (v1 v2 v3 : Value) (bl lv sf : List (ByteArray × Int)) (r left : Int) (w : World) (h1 : PL w v1 bl) (h2 : PL w v2 lv) (h3 : PL w v3 sf) (hl0 : 0 ≤ left) (hl1 : left ≤ 1048576)
    (hn1 : bl.length ≤ maxLen) (hn2 : lv.length ≤ maxLen) (hn3 : sf.length ≤ maxLen) (hs1 : ∀ i (h : i < bl.length), bl[i].1.size ≤ maxLen) (hs2 : ∀ i (h : i < lv.length), lv[i].1.size ≤ maxLen) (hs3 : ∀ i (h : i < sf.length), sf[i].1.size ≤ maxLen) :
    Calls Try.prog 16 #[.agg #[v1, v2, v3, .int .i64 r], .int .i64 left] w fun e w' => (∃ q : Int, e = .returned (.int .i64 q) ∧ (q = -1 ∨ (0 ≤ q ∧ (tot bl : Int) + bl.length + tot lv + lv.length + tot sf + sf.length + q = left))) ∧ Below w.heap.size w w' := by
  go_enter Try.func16, Try.ntmps16
  go_wp2_with fail
  refine (szBlobS_any _ bl _ _ (h1.alloc _) hl0 hl1 hn1 hs1).mono ?_
  rintro e w1 ⟨⟨q1, rfl, hq1⟩, hb1⟩
  have hB1 := below_then (below_alloc _ _) hb1
  have X1 := (Box.new w #[v1, v2, v3, .int .i64 r] 34).below hb1
  obtain ⟨hz1, p0, p1, p2, p3⟩ := X1.c4
  clear hb1
  rcases hq1 with rfl | ⟨hq0, hqe⟩
  · go_wp2
    go_ret
    exact ⟨⟨-1, rfl, .inl rfl⟩, hB1⟩
  · have HQ1 : Hid ((tot bl : Int) + bl.length + q1 = left) := hqe
    have hq2 : q1 ≤ 1048576 := by omega
    clear hqe
    go_wp2_with fail
    refine (szNameS_any _ lv _ _ (h2.below hB1) hq0 hq2 hn2 hs2).mono ?_
    rintro e w2 ⟨⟨q2, rfl, hq⟩, hb2⟩
    have hB2 := below_then hB1 hb2
    have X2 := X1.below hb2
    clear p0 p1 p2 p3 X1 hz1
    obtain ⟨hz1, p0, p1, p2, p3⟩ := X2.c4
    clear hb2
    rcases hq with rfl | ⟨hq0', hqe⟩
    · go_wp2
      go_ret
      exact ⟨⟨-1, rfl, .inl rfl⟩, hB2⟩
    · have HQ2 : Hid ((tot lv : Int) + lv.length + q2 = q1) := hqe
      have hq2' : q2 ≤ 1048576 := by omega
      clear hqe
      go_wp2_with fail
      refine (szNameS_any _ sf _ _ (h3.below hB2) hq0' hq2' hn3 hs3).mono ?_
      rintro e w3 ⟨⟨q3, rfl, hq⟩, hb3⟩
      have hB3 := below_then hB2 hb3
      clear hb3
      rcases hq with rfl | ⟨hq0'', hqe⟩
      · go_wp2
        go_ret
        exact ⟨⟨-1, rfl, .inl rfl⟩, hB3⟩
      · have HQ3 : Hid ((tot sf : Int) + sf.length + q3 = q2) := hqe
        clear hqe
        go_wp2
        go_ret
        exact ⟨⟨q3, rfl, .inr ⟨hq0'', by have := HQ1.out; have := HQ2.out; have := HQ3.out; omega⟩⟩, hB3⟩

theorem below_undrew {w w' : World} (h : Below w.drew.heap.size w.drew w') : Below w.heap.size w w' := (Below.refl _ _).drew.trans h

theorem size_of_tot (l : List (ByteArray × Int)) (h : tot l ≤ 1048576) (i : Nat) (hi : i < l.length) : l[i].1.size ≤ 1048576 := by
  have h1 := tot_take_succ l i hi
  have h2 := tot_take_le l (i + 1)
  omega

set_option maxHeartbeats 2000000 in
theorem lawGood_any (v1 v2 v3 : Value) (bl lv sf : List (ByteArray × Int)) (r : Int) (w : World) (h1 : PL w v1 bl) (h2 : PL w v2 lv) (h3 : PL w v3 sf)
    (hn1 : bl.length ≤ maxLen) (hn2 : lv.length ≤ maxLen) (hn3 : sf.length ≤ maxLen) (hs1 : ∀ i (h : i < bl.length), bl[i].1.size ≤ maxLen) (hs2 : ∀ i (h : i < lv.length), lv[i].1.size ≤ maxLen) (hs3 : ∀ i (h : i < sf.length), sf[i].1.size ≤ maxLen) :
    Calls Try.prog 4 #[.agg #[v1, v2, v3, .int .i64 r]] w fun e w' => e = .returned (.bool true) ∧ Below w.heap.size w w' := by
  go_enter Try.func4, Try.ntmps4
  go_wp2_with fail
  refine (szDisk_any _ _ _ bl lv sf _ _ _ (h1.alloc _) (h2.alloc _) (h3.alloc _) (by omega) (by omega) hn1 hn2 hn3 hs1 hs2 hs3).mono ?_
  rintro e w1 ⟨⟨q, rfl, hq⟩, hb1⟩
  have hB1 := below_then (below_alloc _ _) hb1
  have X1 := (Box.new w #[v1, v2, v3, .int .i64 r] 34).below hb1
  obtain ⟨hz1, p0, p1, p2, p3⟩ := X1.c4
  clear hb1
  rcases hq with rfl | ⟨hq0, hqe⟩
  · go_wp2
    go_ret
    exact ⟨rfl, hB1⟩
  · have m1 : tot bl + bl.length ≤ 1048576 := by omega
    have m2 : tot lv + lv.length ≤ 1048576 := by omega
    have m3 : tot sf + sf.length ≤ 1048576 := by omega
    have s1 := size_of_tot bl (by omega)
    have s2 := size_of_tot lv (by omega)
    have s3 := size_of_tot sf (by omega)
    clear hqe hs1 hs2 hs3
    go_wp2_with fail
    refine (toDisk_any _ _ _ bl lv sf _ _ (h1.below hB1) (h2.below hB1) (h3.below hB1) (by omega) (by omega) (by omega)).mono ?_
    rintro e w2 ⟨⟨g1, g2, g3, _, _, _, rfl, o1, o2, o3⟩, hb2⟩
    have hB2 := below_then hB1 hb2
    have X2 := X1.below hb2
    clear p0 p1 p2 p3 X1 hz1 hb2
    go_wp2_with fail
    refine (specGood_any _ _ _ bl lv sf _ _ (PL_of_owns o1) (PL_of_owns o2) (PL_of_owns o3) m1 m2 m3 s1 s2 s3).mono ?_
    rintro e w3 ⟨rfl, hb3⟩
    have hB3 := below_then hB2 hb3
    have X3 := X2.below hb3
    clear X2 hb3 o1 o2 o3
    obtain ⟨hz1, p0, p1, p2, p3⟩ := X3.c4
    go_wp2_with fail
    refine (toDisk_any _ _ _ bl lv sf _ _ (h1.below hB3) (h2.below hB3) (h3.below hB3) (by omega) (by omega) (by omega)).mono ?_
    rintro e w4 ⟨⟨g1', g2', g3', _, _, _, rfl, o1, o2, o3⟩, hb4⟩
    have hB4 := below_then hB3 hb4
    have X4 := X3.below hb4
    clear p0 p1 p2 p3 X3 hz1 hb4
    go_wp2_with fail
    have BX : Below w4.heap.size w4 (w4.alloc (.cells #[(.slice (some ⟨g1', 0, none⟩) bl.length bl.length), (.slice (some ⟨g2', 0, none⟩) lv.length lv.length), (.slice (some ⟨g3', 0, none⟩) sf.length sf.length), .int .i64 r] 25)) := below_alloc _ _
    refine (implGood_any _ _ _ bl lv sf _ _ (PL_of_owns (owns_below o1 BX)) (PL_of_owns (owns_below o2 BX)) (PL_of_owns (owns_below o3 BX)) m1 m2 m3 s1 s2 s3).mono ?_
    rintro e w5 ⟨rfl, hb5⟩
    have hB5' := below_then BX hb5
    have hB5 := below_then hB4 hB5'
    have X5 := X4.below hB5'
    have Y5 := (Box.new w4 #[(.slice (some ⟨g1', 0, none⟩) bl.length bl.length), (.slice (some ⟨g2', 0, none⟩) lv.length lv.length), (.slice (some ⟨g3', 0, none⟩) sf.length sf.length), .int .i64 r] 25).below hb5
    have l1 := owns_below o1 hB5'
    have l2 := owns_below o2 hB5'
    have l3 := owns_below o3 hB5'
    clear X4 hb5 o1 o2 o3
    obtain ⟨hz1, p0, p1, p2, p3⟩ := X5.c4
    obtain ⟨hz2, q0, q1, q2, q3⟩ := Y5.c4
    go_wp2_with fail
    go_region_held3 (fun w' => w'.cell? ⟨w.heap.size, 0, none⟩ = some v1 ∧ w'.cell? ⟨w.heap.size, 1, none⟩ = some v2 ∧ w'.cell? ⟨w.heap.size, 2, none⟩ = some v3 ∧ w'.cell? ⟨w.heap.size, 3, none⟩ = some (.int .i64 r) ∧ w'.cell? ⟨w4.heap.size, 0, none⟩ = some (.slice (some ⟨g1', 0, none⟩) bl.length bl.length) ∧ w'.cell? ⟨w4.heap.size, 1, none⟩ = some (.slice (some ⟨g2', 0, none⟩) lv.length lv.length) ∧ w'.cell? ⟨w4.heap.size, 2, none⟩ = some (.slice (some ⟨g3', 0, none⟩) sf.length sf.length) ∧ w'.cell? ⟨w4.heap.size, 3, none⟩ = some (.int .i64 r)) (go_keep) (first | (go_at_call 18; refine (toDisk_any _ _ _ bl lv sf _ _ (h1.below hB5.drew) (h2.below hB5.drew) (h3.below hB5.drew) (by omega) (by omega) (by omega)).mono ?_; rintro e w6 ⟨⟨f1, f2, f3, _, _, _, rfl, o1, o2, o3⟩, hb6'⟩; have hb6 := below_undrew hb6'; obtain ⟨_, p0, p1, p2, p3⟩ := (X5.below hb6).c4; obtain ⟨_, q0, q1, q2, q3⟩ := (Y5.below hb6).c4) | (go_at_call 13; refine (eqDisk_same _ _ _ _ _ _ bl lv sf _ _ (PL_of_owns (owns_below l1 hb6)) (PL_of_owns o1) (PL_of_owns (owns_below l2 hb6)) (PL_of_owns o2) (PL_of_owns (owns_below l3 hb6)) (PL_of_owns o3) (by omega) (by omega) (by omega)).mono ?_; rintro e w7 ⟨rfl, hb7⟩; obtain ⟨_, p0, p1, p2, p3⟩ := ((X5.below hb6).below hb7).c4; obtain ⟨_, q0, q1, q2, q3⟩ := ((Y5.below hb6).below hb7).c4))
    all_goals
      go_wp2
      go_ret
      exact ⟨rfl, below_then (below_then hB5 hb6) hb7⟩
end Go.Proofs.Ytoiajjlbajdknaa
