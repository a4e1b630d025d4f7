/-
  The walk of the law laws.FnExactNamesOf.
-/
import Derived.Test.YtoiajjlbajdknaaN1
namespace Go.Proofs.Ytoiajjlbajdknaa
open Go.RowKit
set_option linter.unusedVariables false

set_option maxRecDepth 100000 in
set_option maxHeartbeats 4000000 in
theorem lawNamesOf_any (v1 v2 v3 : Value) (bl lv sf : List (ByteArray × Int)) (r : Int) (w : World) (h1 : PL w v1 bl) (h2 : PL w v2 lv) (h3 : PL w v3 sf)
    (hn1 : bl.length ≤ maxLen) (hn2 : lv.length ≤ maxLen) (hn3 : sf.length ≤ maxLen) (hs1 : ∀ i (h : i < bl.length), bl[i].1.size ≤ maxLen) (hs2 : ∀ i (h : i < lv.length), lv[i].1.size ≤ maxLen) (hs3 : ∀ i (h : i < sf.length), sf[i].1.size ≤ maxLen) :
    Calls Try.prog 9 #[.agg #[v1, v2, v3, .int .i64 r]] w fun e w' => e = .returned (.bool true) ∧ Below w.heap.size w w' := by
  go_enter Try.func9, Try.ntmps9
  go_wp2_with fail
  refine (szDisk_any _ _ _ bl lv sf _ _ _ (h1.alloc _) (h2.alloc _) (h3.alloc _) (by omega) (by omega) hn1 hn2 hn3 hs1 hs2 hs3).mono ?_
  rintro e w1 ⟨⟨q, rfl, hq⟩, hb1⟩
  have hB1 := below_then (below_alloc _ _) hb1
  have X1 := (Box.new w #[v1, v2, v3, .int .i64 r] 34).below hb1
  obtain ⟨hz1, p0, p1, p2, p3⟩ := X1.c4
  clear hb1
  rcases hq with rfl | ⟨hq0, hqe⟩
  · go_wp2
    go_ret
    exact ⟨rfl, hB1⟩
  · have m1 : tot bl + bl.length ≤ 1048576 := by omega
    have m2 : tot lv + lv.length ≤ 1048576 := by omega
    have m3 : tot sf + sf.length ≤ 1048576 := by omega
    have s1 := size_of_tot bl (by omega)
    have s2 := size_of_tot lv (by omega)
    have s3 := size_of_tot sf (by omega)
    have hL := namesOr_len bl lv sf r
    clear hqe hs1 hs2 hs3
    go_wp2_with fail
    refine (toDisk_any _ _ _ bl lv sf _ _ (h1.below hB1) (h2.below hB1) (h3.below hB1) (by omega) (by omega) (by omega)).mono ?_
    rintro e w2 ⟨⟨g1, g2, g3, _, _, _, rfl, o1, o2, o3⟩, hb2⟩
    have hB2 := below_then hB1 hb2
    have X2 := X1.below hb2
    clear p0 p1 p2 p3 X1 hz1 hb2
    go_wp2_with fail
    refine (specNamesOf_any _ _ _ bl lv sf _ _ (PL_of_owns o1) (PL_of_owns o2) (PL_of_owns o3) m1 m2 m3 s1 s2 s3).mono ?_
    rintro e w3 ⟨vw, rfl, ow3, hb3⟩
    have hB3 := below_then hB2 hb3
    have X3 := X2.below hb3
    clear X2 hb3 o1 o2 o3
    have blw := owns_blk ow3
    obtain ⟨hz1, p0, p1, p2, p3⟩ := X3.c4
    go_wp2_with fail
    refine (toDisk_any _ _ _ bl lv sf _ _ (h1.below hB3) (h2.below hB3) (h3.below hB3) (by omega) (by omega) (by omega)).mono ?_
    rintro e w4 ⟨⟨g1', g2', g3', hg12, hg23, hg1, rfl, o1, o2, o3⟩, hb4⟩
    have hB4 := below_then hB3 hb4
    have X4 := X3.below hb4
    have ow4 := owns_below ow3 hb4
    have hz4 := hb4.size
    have hg3 := (owns_lt o3).2
    clear p0 p1 p2 p3 X3 hz1 hb4 ow3
    go_wp2_with fail
    have BX : Below w4.heap.size w4 (w4.alloc (.cells #[(.slice (some ⟨g1', 0, none⟩) bl.length bl.length), (.slice (some ⟨g2', 0, none⟩) lv.length lv.length), (.slice (some ⟨g3', 0, none⟩) sf.length sf.length), .int .i64 r] 25)) := below_alloc _ _
    refine (implNamesOf_any _ _ _ bl lv sf _ _ (PL_of_owns (owns_below o1 BX)) (PL_of_owns (owns_below o2 BX)) (PL_of_owns (owns_below o3 BX)) m1 m2 m3 s1 s2 s3).mono ?_
    rintro e w5 ⟨vg, rfl, og, hb5⟩
    have hB5' := below_then BX hb5
    have hB5 := below_then hB4 hB5'
    have X5 := X4.below hB5'
    have Y5 := (Box.new w4 #[(.slice (some ⟨g1', 0, none⟩) bl.length bl.length), (.slice (some ⟨g2', 0, none⟩) lv.length lv.length), (.slice (some ⟨g3', 0, none⟩) sf.length sf.length), .int .i64 r] 25).below hb5
    have l1 := owns_below o1 hB5'
    have l2 := owns_below o2 hB5'
    have l3 := owns_below o3 hB5'
    have ow5 := owns_below ow4 hB5'
    have geg := owns_ge og
    have hz5 := hB5'.size
    simp only [World.size_alloc] at geg
    clear X4 hb5 o1 o2 o3 ow4
    go_wp2_with fail
    refine (eqStringS_same _ _ (namesOr bl lv sf r) _ (SL_of_owns og) (SL_of_owns ow5) (by omega)).mono ?_
    rintro e w6 ⟨rfl, hb6⟩
    have hB6 := below_then hB5 hb6
    have X6 := X5.below hb6
    have Y6 := Y5.below hb6
    have ll1 := owns_below l1 hb6
    have ll2 := owns_below l2 hb6
    have ll3 := owns_below l3 hb6
    have ow6 := owns_below ow5 hb6
    have og6 := owns_below og hb6
    clear hb6 X5 Y5 l1 l2 l3 ow5 og
    obtain ⟨hz1, p0, p1, p2, p3⟩ := X6.c4
    obtain ⟨hz2, q0, q1, q2, q3⟩ := Y6.c4
    go_wp2_with fail
    go_region_held3 (fun w' => w'.cell? ⟨w.heap.size, 0, none⟩ = some v1 ∧ w'.cell? ⟨w.heap.size, 1, none⟩ = some v2 ∧ w'.cell? ⟨w.heap.size, 2, none⟩ = some v3 ∧ w'.cell? ⟨w.heap.size, 3, none⟩ = some (.int .i64 r) ∧ w'.cell? ⟨w4.heap.size, 0, none⟩ = some (.slice (some ⟨g1', 0, none⟩) bl.length bl.length) ∧ w'.cell? ⟨w4.heap.size, 1, none⟩ = some (.slice (some ⟨g2', 0, none⟩) lv.length lv.length) ∧ w'.cell? ⟨w4.heap.size, 2, none⟩ = some (.slice (some ⟨g3', 0, none⟩) sf.length sf.length) ∧ w'.cell? ⟨w4.heap.size, 3, none⟩ = some (.int .i64 r)) (go_keep) (first | (go_at_call 18; refine (toDisk_any _ _ _ bl lv sf _ _ (h1.below hB6.drew) (h2.below hB6.drew) (h3.below hB6.drew) (by omega) (by omega) (by omega)).mono ?_; rintro e w7 ⟨⟨f1, f2, f3, _, _, _, rfl, t1, t2, t3⟩, hb7'⟩; have hb7 := below_undrew hb7'; obtain ⟨_, p0, p1, p2, p3⟩ := (X6.below hb7).c4; obtain ⟨_, q0, q1, q2, q3⟩ := (Y6.below hb7).c4) | (go_at_call 13; refine (eqDisk_same _ _ _ _ _ _ bl lv sf _ _ (PL_of_owns (owns_below ll1 hb7)) (PL_of_owns t1) (PL_of_owns (owns_below ll2 hb7)) (PL_of_owns t2) (PL_of_owns (owns_below ll3 hb7)) (PL_of_owns t3) (by omega) (by omega) (by omega)).mono ?_; rintro e w8 ⟨rfl, hb8⟩; obtain ⟨_, p0, p1, p2, p3⟩ := ((X6.below hb7).below hb8).c4; obtain ⟨_, q0, q1, q2, q3⟩ := ((Y6.below hb7).below hb8).c4))
    have hb68 := below_then hb7 hb8
    have hB8 := below_then hB6 hb68
    have X8 := X6.below hb68
    have ow8 := owns_below ow6 hb68
    have og8 := owns_below og6 hb68
    have l81 := owns_below ll1 hb68
    have l82 := owns_below ll2 hb68
    have l83 := owns_below ll3 hb68
    have hz8 := hb68.size
    clear X6 Y6 ll1 ll2 ll3 ow6 og6 t1 t2 t3 hb7 hb8 hb7' hb68 p0 p1 p2 p3 q0 q1 q2 q3 hz1 hz2
    have n12 : ∀ b, Value.ownBlock (.slice (some ⟨g1', 0, none⟩) bl.length bl.length) = some b → Value.ownBlock (.slice (some ⟨g2', 0, none⟩) lv.length lv.length) ≠ some b := by intro b h h'; simp only [Value.ownBlock, Option.some.injEq] at h h'; omega
    have n13 : ∀ b, Value.ownBlock (.slice (some ⟨g1', 0, none⟩) bl.length bl.length) = some b → Value.ownBlock (.slice (some ⟨g3', 0, none⟩) sf.length sf.length) ≠ some b := by intro b h h'; simp only [Value.ownBlock, Option.some.injEq] at h h'; omega
    have n23 : ∀ b, Value.ownBlock (.slice (some ⟨g2', 0, none⟩) lv.length lv.length) = some b → Value.ownBlock (.slice (some ⟨g3', 0, none⟩) sf.length sf.length) ≠ some b := by intro b h h'; simp only [Value.ownBlock, Option.some.injEq] at h h'; omega
    go_wp2_with fail
    refine (markDisk_own _ _ _ g1' g2' g3' bl lv sf _ _ _ l81 l82 l83 n12 n13 n23 (by omega) (by omega) (by omega) (by omega) (by omega)).mono ?_
    rintro e w9 ⟨rfl, _, _, _, hc9⟩
    have SX : ∀ b, (Value.ownBlock (.slice (some ⟨g1', 0, none⟩) bl.length bl.length) = some b ∨ Value.ownBlock (.slice (some ⟨g2', 0, none⟩) lv.length lv.length) = some b ∨ Value.ownBlock (.slice (some ⟨g3', 0, none⟩) sf.length sf.length) = some b) → w3.heap.size < b ∧ b < w4.heap.size := by
      intro b h; simp only [Value.ownBlock, Option.some.injEq] at h; omega
    have hzB3 := hB3.size
    have hB9 : Below w.heap.size w w9 := hB8.trans (hc9.below (by omega) (fun b h => by have := SX b h; omega))
    have X9 := hc9.box X8 (fun h => by have := SX _ h; omega)
    have ow9 := hc9.owns ow8 (fun g hg h => by have := SX _ h; have := blw g hg; omega)
    have og9 := hc9.owns og8 (fun g hg h => by have := SX _ h; have := geg g hg; omega)
    have hz9 := hc9.size
    clear hc9 X8 ow8 og8 l81 l82 l83 n12 n13 n23 SX
    go_wp2_with fail
    refine (eqStringS_same _ _ (namesOr bl lv sf r) _ (SL_of_owns og9) (SL_of_owns ow9) (by omega)).mono ?_
    rintro e w10 ⟨rfl, hb10⟩
    have hB10 := below_then hB9 hb10
    have X10 := X9.below hb10
    have ow10 := owns_below ow9 hb10
    have og10 := owns_below og9 hb10
    have hz10 := hb10.size
    clear hb10 X9 ow9 og9
    go_wp2_with fail
    refine (markStringS_own _ _ (namesOr bl lv sf r) _ _ og10 (by omega) (by omega) (by omega)).mono ?_
    rintro e w11 ⟨rfl, og11, hc11⟩
    have hB11 : Below w.heap.size w w11 := hB10.trans (hc11.below (by omega) (fun b h => by have := geg b h; omega))
    have X11 := hc11.box X10 (fun h => by have := geg _ h; omega)
    have ow11 := hc11.owns ow10 (fun g hg h => by have := geg g h; have := blw g hg; omega)
    clear hc11 X10 ow10 og10
    generalize hNM : namesOr bl lv sf r = L at *
    have HNM : Hid (namesOr bl lv sf r = L) := hNM
    clear hNM
    have hlenA : (mkAllS 1 L.length).length = L.length := mkAllS_length _ _
    have og11' : w11.ownsRow (w4.alloc (.cells #[.slice (some ⟨g1', 0, none⟩) bl.length bl.length, .slice (some ⟨g2', 0, none⟩) lv.length lv.length, .slice (some ⟨g3', 0, none⟩) sf.length sf.length, .int .i64 r] 25)).heap.size 9 1 vg (mkAllS 1 L.length).length ((mkAllS 1 L.length).map Value.string) := by rw [hlenA]; exact og11
    clear hlenA og11
    go_wp2_with fail
    refine (heldStringS_any _ L.length _ _ (SL_of_owns og11') (by omega) (by omega) (by omega)).mono ?_
    rintro e w12 ⟨rfl, hb12⟩
    have hB12 := below_then hB11 hb12
    have X12 := X11.below hb12
    have ow12 := owns_below ow11 hb12
    have og12 := owns_below og11' hb12
    clear hb12 X11 ow11 og11'
    obtain ⟨hz1, p0, p1, p2, p3⟩ := X12.c4
    go_wp2_with fail
    refine (toDisk_any _ _ _ bl lv sf _ _ (h1.below hB12) (h2.below hB12) (h3.below hB12) (by omega) (by omega) (by omega)).mono ?_
    rintro e w13 ⟨⟨k1, k2, k3, _, _, _, rfl, o1, o2, o3⟩, hb13⟩
    have hB13 := below_then hB12 hb13
    have ow13 := owns_below ow12 hb13
    have og13 := owns_below og12 hb13
    clear p0 p1 p2 p3 X12 hz1 hb13 ow12 og12
    go_wp2_with fail
    refine (implNamesOf_any _ _ _ bl lv sf _ _ (PL_of_owns o1) (PL_of_owns o2) (PL_of_owns o3) m1 m2 m3 s1 s2 s3).mono ?_
    rintro e w14 ⟨vh, rfl, oh, hb14⟩
    have hB14 := below_then hB13 hb14
    have ow14 := owns_below ow13 hb14
    have og14 := owns_below og13 hb14
    rw [HNM.out] at oh
    clear o1 o2 o3 hb14 ow13 og13
    go_wp2_with fail
    refine (eqStringS_same _ _ L _ (SL_of_owns oh) (SL_of_owns ow14) (by omega)).mono ?_
    rintro e w15 ⟨rfl, hb15⟩
    have hB15 := below_then hB14 hb15
    have og15 := owns_below og14 hb15
    clear hb15 og14 ow14 oh
    go_wp2_with fail
    refine (heldStringS_any _ L.length _ _ (SL_of_owns og15) (by omega) (by omega) (by omega)).mono ?_
    rintro e w16 ⟨rfl, hb16⟩
    go_wp2
    go_ret
    exact ⟨rfl, below_then hB15 hb16⟩
end Go.Proofs.Ytoiajjlbajdknaa
