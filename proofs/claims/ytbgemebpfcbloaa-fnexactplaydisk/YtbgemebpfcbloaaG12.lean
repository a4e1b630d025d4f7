/-
  szDisk, and the walk of the law laws.FnExactGoodDisk.
-/
import Derived.Test.YtbgemebpfcbloaaG11
import Derived.Deep.RegionWith
import Derived.Deep.RegionHeld3
import Derived.Deep.DrawnRows
namespace Go.Proofs.Ytbgemebpfcbloaa
open Go.RowKit
set_option maxRecDepth 100000
set_option linter.unusedVariables false

set_option maxHeartbeats 1000000 in
theorem szDisk_any (v1 v2 v3 : Value) (bl lv sf : List (ByteArray × Int)) (r left : Int) (w : World) (h1 : PL w v1 bl) (h2 : PL w v2 lv) (h3 : PL w v3 sf) (hl0 : 0 ≤ left) (hl1 : left ≤ 1048576)
    (hn1 : bl.length ≤ maxLen) (hn2 : lv.length ≤ maxLen) (hn3 : sf.length ≤ maxLen) (hs1 : ∀ i (h : i < bl.length), bl[i].1.size ≤ maxLen) (hs2 : ∀ i (h : i < lv.length), lv[i].1.size ≤ maxLen) (hs3 : ∀ i (h : i < sf.length), sf[i].1.size ≤ maxLen) :
    Calls Try.prog 27 #[.agg #[v1, v2, v3, .int .i64 r], .int .i64 left] w fun e w' => (∃ q : Int, e = .returned (.int .i64 q) ∧ (q = -1 ∨ (0 ≤ q ∧ (tot bl : Int) + bl.length + tot lv + lv.length + tot sf + sf.length + q = left))) ∧ Below w.heap.size w w' := by
  go_enter Try.func27, Try.ntmps27
  go_wp2_with fail
  refine (szBlobS_any _ bl _ _ (h1.alloc _) hl0 hl1 hn1 hs1).mono ?_
  rintro e w1 ⟨⟨q1, rfl, hq1⟩, hb1⟩
  have hB1 := below_then (below_alloc _ _) hb1
  have X1 := (Box.new w #[v1, v2, v3, .int .i64 r] 55).below hb1
  obtain ⟨hz1, p0, p1, p2, p3⟩ := X1.c4
  clear hb1
  rcases hq1 with rfl | ⟨hq0, hqe⟩
  · go_wp2
    go_ret
    exact ⟨⟨-1, rfl, .inl rfl⟩, hB1⟩
  · have HQ1 : Hid ((tot bl : Int) + bl.length + q1 = left) := hqe
    have hq2 : q1 ≤ 1048576 := by omega
    clear hqe
    go_wp2_with fail
    refine (szNameS_any _ lv _ _ (h2.below hB1) hq0 hq2 hn2 hs2).mono ?_
    rintro e w2 ⟨⟨q2, rfl, hq⟩, hb2⟩
    have hB2 := below_then hB1 hb2
    have X2 := X1.below hb2
    clear p0 p1 p2 p3 X1 hz1
    obtain ⟨hz1, p0, p1, p2, p3⟩ := X2.c4
    clear hb2
    rcases hq with rfl | ⟨hq0', hqe⟩
    · go_wp2
      go_ret
      exact ⟨⟨-1, rfl, .inl rfl⟩, hB2⟩
    · have HQ2 : Hid ((tot lv : Int) + lv.length + q2 = q1) := hqe
      have hq2' : q2 ≤ 1048576 := by omega
      clear hqe
      go_wp2_with fail
      refine (szNameS_any _ sf _ _ (h3.below hB2) hq0' hq2' hn3 hs3).mono ?_
      rintro e w3 ⟨⟨q3, rfl, hq⟩, hb3⟩
      have hB3 := below_then hB2 hb3
      clear hb3
      rcases hq with rfl | ⟨hq0'', hqe⟩
      · go_wp2
        go_ret
        exact ⟨⟨-1, rfl, .inl rfl⟩, hB3⟩
      · have HQ3 : Hid ((tot sf : Int) + sf.length + q3 = q2) := hqe
        clear hqe
        go_wp2
        go_ret
        exact ⟨⟨q3, rfl, .inr ⟨hq0'', by have := HQ1.out; have := HQ2.out; have := HQ3.out; omega⟩⟩, hB3⟩

theorem below_undrew {w w' : World} (h : Below w.drew.heap.size w.drew w') : Below w.heap.size w w' := (Below.refl _ _).drew.trans h

theorem size_of_tot (l : List (ByteArray × Int)) (h : tot l ≤ 1048576) (i : Nat) (hi : i < l.length) : l[i].1.size ≤ 1048576 := by
  have h1 := tot_take_succ l i hi
  have h2 := tot_take_le l (i + 1)
  omega

end Go.Proofs.Ytbgemebpfcbloaa
