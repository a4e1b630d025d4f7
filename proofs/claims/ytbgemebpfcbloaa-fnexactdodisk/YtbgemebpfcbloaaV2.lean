/-
  The walk of the law laws.FnExactDoDisk.
-/
import Derived.Test.YtbgemebpfcbloaaV1
import Derived.Deep.RegionHeld3
import Derived.Deep.Cut
namespace Go.Proofs.Ytbgemebpfcbloaa
open Go.RowKit Go.Maps
set_option linter.unusedVariables false
set_option maxRecDepth 100000

set_option maxHeartbeats 8000000 in
theorem lawDo_any (v1 v2 v3 : Value) (bl lv sf : List (ByteArray × Int)) (r k kp : Int) (nm ot da : ByteArray) (w : World) (h1 : PL w v1 bl) (h2 : PL w v2 lv) (h3 : PL w v3 sf)
    (hn1 : bl.length ≤ maxLen) (hn2 : lv.length ≤ maxLen) (hn3 : sf.length ≤ maxLen) (hs1 : ∀ i (h : i < bl.length), bl[i].1.size ≤ maxLen) (hs2 : ∀ i (h : i < lv.length), lv[i].1.size ≤ maxLen) (hs3 : ∀ i (h : i < sf.length), sf[i].1.size ≤ maxLen) (hx1 : nm.size ≤ maxLen) (hx2 : ot.size ≤ maxLen) (hx3 : da.size ≤ maxLen) :
    Calls Try.prog 6 #[.agg #[v1, v2, v3, .int .i64 r], .agg #[.int .i64 k, .string nm, .string ot, .string da, .int .i64 kp]] w fun e w' => e = .returned (.bool true) ∧ Below w.heap.size w w' := by
  have A1 := below2 w (.cells #[v1, v2, v3, .int .i64 r] 55) (.cells #[.int .i64 k, .string nm, .string ot, .string da, .int .i64 kp] 56)
  have Y0 : Box ((w.alloc (.cells #[v1, v2, v3, .int .i64 r] 55)).alloc (.cells #[.int .i64 k, .string nm, .string ot, .string da, .int .i64 kp] 56)) (w.heap.size + 1) [.int .i64 k, .string nm, .string ot, .string da, .int .i64 kp] := by
    have := Box.new (w.alloc (.cells #[v1, v2, v3, .int .i64 r] 55)) #[.int .i64 k, .string nm, .string ot, .string da, .int .i64 kp] 56
    simpa using this
  go_enter Try.func6, Try.ntmps6
  go_wp2_with fail
  refine (szDisk_any _ _ _ bl lv sf _ _ _ (h1.below A1) (h2.below A1) (h3.below A1) (by omega) (by omega) hn1 hn2 hn3 hs1 hs2 hs3).mono ?_
  rintro e w1 ⟨⟨q, rfl, hq⟩, hb1⟩
  have hB1 := below_then A1 hb1
  have X1 := ((Box.new w #[v1, v2, v3, .int .i64 r] 55).alloc (.cells #[.int .i64 k, .string nm, .string ot, .string da, .int .i64 kp] 56)).below hb1
  have Y1 := Y0.below hb1
  clear hb1 Y0 A1
  obtain ⟨_, p0, p1, p2, p3⟩ := X1.c4
  obtain ⟨_, o0, o1, o2, o3, o4⟩ := Y1.c5
  rcases hq with rfl | ⟨hq0, hqe⟩
  · go_wp2
    go_ret
    exact ⟨rfl, hB1⟩
  have m1 : tot bl + bl.length ≤ 1048576 := by omega
  have m2 : tot lv + lv.length ≤ 1048576 := by omega
  have m3 : tot sf + sf.length ≤ 1048576 := by omega
  have hq1 : q ≤ 1048576 := by omega
  have s1 := size_of_tot bl (by omega)
  have s2 := size_of_tot lv (by omega)
  have s3 := size_of_tot sf (by omega)
  clear hqe hs1 hs2 hs3 hn1 hn2 hn3
  have SZ := fun w => szDiskStep_any k kp nm ot da q w hq0 hq1 hx1 hx2 hx3
  by_cases hs : (nm.size : Int) + ot.size + da.size ≤ q
  case neg =>
    rw [if_neg hs] at SZ
    go_wp2_with fail
    refine (SZ _).mono ?_
    rintro e w2 ⟨rfl, hb2⟩
    go_wp2
    go_ret
    exact ⟨rfl, below_then hB1 hb2⟩
  rw [if_pos hs] at SZ
  have hl : (0 : Int) ≤ q - nm.size - ot.size - da.size := by omega
  generalize q - (nm.size : Int) - ot.size - da.size = left at *
  have z1 : nm.size ≤ 1048576 := by omega
  have z2 : ot.size ≤ 1048576 := by omega
  have z3 : da.size ≤ 1048576 := by omega
  clear hs hx1 hx2 hx3
  go_wp2_with fail
  refine (SZ _).mono ?_
  rintro e w2 ⟨rfl, hb2⟩
  have hB2 := below_then hB1 hb2
  have X2 := X1.below hb2
  have Y2 := Y1.below hb2
  clear p0 p1 p2 p3 o0 o1 o2 o3 o4 X1 Y1 hb2 hB1 SZ
  obtain ⟨hw0, p0, p1, p2, p3⟩ := X2.c4
  obtain ⟨hw1, o0, o1, o2, o3, o4⟩ := Y2.c5
  go_wp2_with fail
  go_cut [6, 7] from 16 (fun s6 s7 wc => ∃ (b : Nat) (y1 : Option Addr) (n1 c1 : Nat) (y2 : Option Addr) (n2 c2 : Nat) (y3 : Option Addr) (n3 c3 : Nat), s6 = .pointer (some ⟨b, 0, none⟩) ∧ s7 = .int .i64 (doC k nm ot da kp bl lv sf r) ∧ Got w2.heap.size wc b (.slice y1 n1 c1) (.slice y2 n2 c2) (.slice y3 n3 c3) (doR bl lv sf r) (doB k nm ot da kp bl lv sf r) (doL k nm ot da kp bl lv sf r) (doS k nm ot da kp bl lv sf r) ∧ Below w2.heap.size w2 wc)
  case first =>
    go_region_held3 (fun w' => (w'.cell? ⟨w.heap.size, 0, none⟩ = some (v1) ∧ w'.cell? ⟨w.heap.size, 1, none⟩ = some (v2) ∧ w'.cell? ⟨w.heap.size, 2, none⟩ = some (v3) ∧ w'.cell? ⟨w.heap.size, 3, none⟩ = some (.int .i64 r)) ∧ w'.cell? ⟨w.heap.size + 1, 0, none⟩ = some (.int .i64 k) ∧ w'.cell? ⟨w.heap.size + 1, 1, none⟩ = some (.string nm) ∧ w'.cell? ⟨w.heap.size + 1, 2, none⟩ = some (.string ot) ∧ w'.cell? ⟨w.heap.size + 1, 3, none⟩ = some (.string da) ∧ w'.cell? ⟨w.heap.size + 1, 4, none⟩ = some (.int .i64 kp)) (go_keep)
        (first
          | (go_at_call 29; refine (toDisk_any _ _ _ bl lv sf _ _ (h1.below (by first | exact hB2.drew | exact (below_then hB2 ((Below.refl w2.heap.size w2).drew.alloc (by simp) (.cells #[.slice none 0 0, .slice none 0 0, .slice none 0 0, .int .i64 0] 26))))) (h2.below (by first | exact hB2.drew | exact (below_then hB2 ((Below.refl w2.heap.size w2).drew.alloc (by simp) (.cells #[.slice none 0 0, .slice none 0 0, .slice none 0 0, .int .i64 0] 26))))) (h3.below (by first | exact hB2.drew | exact (below_then hB2 ((Below.refl w2.heap.size w2).drew.alloc (by simp) (.cells #[.slice none 0 0, .slice none 0 0, .slice none 0 0, .int .i64 0] 26))))) (by omega) (by omega) (by omega)).mono ?_; rintro e w7 ⟨⟨f1, f2, f3, _, _, _, rfl, t1, t2, t3⟩, hx7⟩; have T7 : Below w2.heap.size w2 w7 := (by first | exact below_undrew hx7 | exact (((Below.refl w2.heap.size w2).drew.alloc (by simp) (.cells #[.slice none 0 0, .slice none 0 0, .slice none 0 0, .int .i64 0] 26)).trans (hx7.mono (by simp)))); (try have E7 : Box w7 w2.heap.size [.slice none 0 0, .slice none 0 0, .slice none 0 0, .int .i64 0] := (Box.new w2.drew #[.slice none 0 0, .slice none 0 0, .slice none 0 0, .int .i64 0] 26).below hx7); obtain ⟨_, p0, p1, p2, p3⟩ := Box.c4 (Box.below X2 T7); obtain ⟨_, o0, o1, o2, o3, o4⟩ := Box.c5 (Box.below Y2 T7))
          | (go_at_call 30; refine (toDiskStep_any k kp nm ot da _).mono ?_; rintro e w8 ⟨rfl, hx8⟩; have hb8 : Below w7.heap.size w7 w8 := (by first | exact hx8 | exact below_then (below_alloc _ (.cells #[.slice none 0 0, .slice none 0 0, .slice none 0 0, .int .i64 0] 26)) hx8); have T8 := below_then T7 hb8; (try have E8 := Box.below E7 hb8); (try have E8 : Box w8 w7.heap.size [.slice none 0 0, .slice none 0 0, .slice none 0 0, .int .i64 0] := (Box.new w7 #[.slice none 0 0, .slice none 0 0, .slice none 0 0, .int .i64 0] 26).below hx8); replace t1 := owns_below t1 hb8; replace t2 := owns_below t2 hb8; replace t3 := owns_below t3 hb8; obtain ⟨_, p0, p1, p2, p3⟩ := Box.c4 (Box.below X2 T8); obtain ⟨_, o0, o1, o2, o3, o4⟩ := Box.c5 (Box.below Y2 T8))
          | (go_at_call 12; refine (specDo_any _ _ _ bl lv sf r k nm ot da kp _ (by first | exact PZ_of_owns (t1) | exact (PZ_of_owns (t1)).below (below_alloc _ (.cells #[.slice none 0 0, .slice none 0 0, .slice none 0 0, .int .i64 0] 26))) (by first | exact PZ_of_owns (t2) | exact (PZ_of_owns (t2)).below (below_alloc _ (.cells #[.slice none 0 0, .slice none 0 0, .slice none 0 0, .int .i64 0] 26))) (by first | exact PZ_of_owns (t3) | exact (PZ_of_owns (t3)).below (below_alloc _ (.cells #[.slice none 0 0, .slice none 0 0, .slice none 0 0, .int .i64 0] 26))) m1 m2 m3 s1 s2 s3 z1 z2 z3).mono ?_; rintro e w9 ⟨⟨x1, x2, x3, rfl, hM9⟩, hx9⟩; have hb9 : Below w8.heap.size w8 w9 := (by first | exact hx9 | exact below_then (below_alloc _ (.cells #[.slice none 0 0, .slice none 0 0, .slice none 0 0, .int .i64 0] 26)) hx9); have T9 := below_then T8 hb9; have hz9 := hx9.size; obtain ⟨y1, c1, y2, c2, y3, c3, rfl, rfl, rfl⟩ := hM9.shape; (try have E9 := Box.below E8 hb9); (try have E9 : Box w9 w8.heap.size [.slice none 0 0, .slice none 0 0, .slice none 0 0, .int .i64 0] := (Box.new w8 #[.slice none 0 0, .slice none 0 0, .slice none 0 0, .int .i64 0] 26).below hx9); obtain ⟨_, p0, p1, p2, p3⟩ := Box.c4 (Box.below X2 T9); obtain ⟨_, o0, o1, o2, o3, o4⟩ := Box.c5 (Box.below Y2 T9); (try have u0 := E9.c4.2.1); (try have u1 := E9.c4.2.2.1); (try have u2 := E9.c4.2.2.2.1); (try have u3 := E9.c4.2.2.2.2); (try have j0 := E9.2.2 0); (try have j1 := E9.2.2 1); (try have j2 := E9.2.2 2); (try have j3 := E9.2.2 3); have na0 : ¬ (w8.heap.size = w.heap.size) := (by have := T8.size; omega); have nb0 : ¬ (w.heap.size = w8.heap.size) := (by have := T8.size; omega); have na1 : ¬ (w8.heap.size = w.heap.size + 1) := (by have := T8.size; omega); have nb1 : ¬ (w.heap.size + 1 = w8.heap.size) := (by have := T8.size; omega); have na2 : ¬ (w7.heap.size = w.heap.size) := (by have := T7.size; omega); have nb2 : ¬ (w.heap.size = w7.heap.size) := (by have := T7.size; omega); have na3 : ¬ (w7.heap.size = w.heap.size + 1) := (by have := T7.size; omega); have nb3 : ¬ (w.heap.size + 1 = w7.heap.size) := (by have := T7.size; omega); have na4 : ¬ (w2.heap.size = w.heap.size) := (by omega); have nb4 : ¬ (w.heap.size = w2.heap.size) := (by omega); have na5 : ¬ (w2.heap.size = w.heap.size + 1) := (by omega); have nb5 : ¬ (w.heap.size + 1 = w2.heap.size) := (by omega); have nx := World.new_ne w9 ⟨w.heap.size, 0, none⟩ p0; have ny := World.new_ne w9 ⟨w.heap.size + 1, 0, none⟩ o0))
    · have G := got_new (B := w2.heap.size) (r := doR bl lv sf r) hM9 (by have := T8.size; simp; omega) hz9
      have Bw := T9.alloc T9.size (.cells #[.slice y1 (doB k nm ot da kp bl lv sf r).length c1, .slice y2 (doL k nm ot da kp bl lv sf r).length c2, .slice y3 (doS k nm ot da kp bl lv sf r).length c3, .int .i64 (doR bl lv sf r)] 26)
      go_wp2_with fail
      go_meet
      case rel => exact ⟨_, _, _, _, _, _, _, _, _, _, rfl, rfl, G, Bw⟩
    · have q8 := T8.size
      have q9 := T9.size
      have G := got_put (B := w2.heap.size) (b := w8.heap.size) (r := doR bl lv sf r) hM9 E9 (by omega) (by simp)
      have Bw := T9.trans ((put4_chg w9 w8.heap.size (.slice y1 (doB k nm ot da kp bl lv sf r).length c1) (.slice y2 (doL k nm ot da kp bl lv sf r).length c2) (.slice y3 (doS k nm ot da kp bl lv sf r).length c3) (.int .i64 (doR bl lv sf r))).below (B := w2.heap.size) q9 (fun b h => by omega))
      go_wp2_with fail
      go_meet
      case rel => exact ⟨_, _, _, _, _, _, _, _, _, _, rfl, rfl, G, Bw⟩
    · have q8 := T8.size
      have q9 := T9.size
      have G := got_put (B := w2.heap.size) (b := w7.heap.size) (r := doR bl lv sf r) hM9 E9 (by have := T7.size; omega) E8.1
      have Bw := T9.trans ((put4_chg w9 w7.heap.size (.slice y1 (doB k nm ot da kp bl lv sf r).length c1) (.slice y2 (doL k nm ot da kp bl lv sf r).length c2) (.slice y3 (doS k nm ot da kp bl lv sf r).length c3) (.int .i64 (doR bl lv sf r))).below (B := w2.heap.size) q9 (fun b h => by have := T7.size; omega))
      go_wp2_with fail
      go_meet
      case rel => exact ⟨_, _, _, _, _, _, _, _, _, _, rfl, rfl, G, Bw⟩
    · have q8 := T8.size
      have q9 := T9.size
      have G := got_put (B := w2.heap.size) (b := w2.heap.size) (r := doR bl lv sf r) hM9 E9 (by omega) E8.1
      have Bw := T9.trans ((put4_chg w9 w2.heap.size (.slice y1 (doB k nm ot da kp bl lv sf r).length c1) (.slice y2 (doL k nm ot da kp bl lv sf r).length c2) (.slice y3 (doS k nm ot da kp bl lv sf r).length c3) (.int .i64 (doR bl lv sf r))).below (B := w2.heap.size) q9 (fun b h => by omega))
      go_wp2_with fail
      go_meet
      case rel => exact ⟨_, _, _, _, _, _, _, _, _, _, rfl, rfl, G, Bw⟩
  case rest =>
    clear p0 p1 p2 p3 o0 o1 o2 o3 o4
    obtain ⟨w3, hw3⟩ : ∃ x, x = wc := ⟨_, rfl⟩
    subst hw3
    obtain ⟨b, a1, n1, c1, a2, n2, c2, a3, n3, c3, rfl, rfl, G3, T3⟩ := hcut
    have KI := fun v1 v2 v3 w h1 h2 h3 => implDo_any v1 v2 v3 bl lv sf r k nm ot da kp w h1 h2 h3 m1 m2 m3 s1 s2 s3 z1 z2 z3
    obtain ⟨LB, LLl, LS⟩ := do_len k nm ot da kp bl lv sf r
    generalize doB k nm ot da kp bl lv sf r = BB at *
    generalize doL k nm ot da kp bl lv sf r = LL at *
    generalize doS k nm ot da kp bl lv sf r = SS at *
    generalize doR bl lv sf r = rr at *
    generalize doC k nm ot da kp bl lv sf r = cc at *
    have hB3 := below_then hB2 T3
    have X3 := X2.below T3
    have Y3 := Y2.below T3
    have hz3 := T3.size
    have GH : ∀ g, (Value.slice a1 n1 c1).ownBlock = some g ∨ (Value.slice a2 n2 c2).ownBlock = some g ∨ (Value.slice a3 n3 c3).ownBlock = some g ∨ g = b → g < w3.heap.size := by
      intro g h
      rcases h with h | h | h | h
      · exact owns_hi G3.made.1 g h
      · exact owns_hi G3.made.2.1 g h
      · exact owns_hi G3.made.2.2.1 g h
      · rw [h]; exact G3.box.1
    obtain ⟨_, p0, p1, p2, p3⟩ := X3.c4
    go_wp2_with fail
    refine (toDisk_any _ _ _ bl lv sf _ _ (h1.below hB3) (h2.below hB3) (h3.below hB3) (by omega) (by omega) (by omega)).mono ?_
    rintro e w4 ⟨⟨g1, g2, g3, l12, l23, l01, rfl, o1, o2, o3⟩, hb4⟩
    have A4 := below_alloc w4 (.cells #[.slice (some ⟨g1, 0, none⟩) bl.length bl.length, .slice (some ⟨g2, 0, none⟩) lv.length lv.length, .slice (some ⟨g3, 0, none⟩) sf.length sf.length, .int .i64 r] 26)
    have hb4' := below_then hb4 A4
    have hB4 := below_then hB3 hb4'
    have X4 := X3.below hb4'
    have Y4 := Y3.below hb4'
    have G4 := G3.below hb4'
    have V4 := Box.new w4 #[.slice (some ⟨g1, 0, none⟩) bl.length bl.length, .slice (some ⟨g2, 0, none⟩) lv.length lv.length, .slice (some ⟨g3, 0, none⟩) sf.length sf.length, .int .i64 r] 26
    have l1 := owns_below o1 A4
    have l2 := owns_below o2 A4
    have l3 := owns_below o3 A4
    have hz4 := hb4.size
    have hg3 := (owns_lt o3).2
    clear p0 p1 p2 p3 X3 Y3 G3 hb4 hb4' A4 o1 o2 o3 X2 Y2 hB2 T3 hB3
    go_wp2_with fail
    generalize w4.alloc (.cells #[.slice (some ⟨g1, 0, none⟩) bl.length bl.length, .slice (some ⟨g2, 0, none⟩) lv.length lv.length, .slice (some ⟨g3, 0, none⟩) sf.length sf.length, .int .i64 r] 26) = W4 at *
    obtain ⟨_, p0, p1, p2, p3⟩ := V4.c4
    obtain ⟨_, o0, o1, o2, o3, o4⟩ := Y4.c5
    go_cut [9, 10] from 16 (fun sp sc wc => ∃ (b : Nat) (y1 : Option Addr) (n1 c1 : Nat) (y2 : Option Addr) (n2 c2 : Nat) (y3 : Option Addr) (n3 c3 : Nat), sp = .pointer (some ⟨b, 0, none⟩) ∧ sc = .int .i64 cc ∧ Got W4.heap.size wc b (.slice y1 n1 c1) (.slice y2 n2 c2) (.slice y3 n3 c3) rr BB LL SS ∧ Below W4.heap.size W4 wc)
    case first =>
      go_region_held3 (fun w' => (w'.cell? ⟨w4.heap.size, 0, none⟩ = some (.slice (some ⟨g1, 0, none⟩) bl.length bl.length) ∧ w'.cell? ⟨w4.heap.size, 1, none⟩ = some (.slice (some ⟨g2, 0, none⟩) lv.length lv.length) ∧ w'.cell? ⟨w4.heap.size, 2, none⟩ = some (.slice (some ⟨g3, 0, none⟩) sf.length sf.length) ∧ w'.cell? ⟨w4.heap.size, 3, none⟩ = some (.int .i64 r)) ∧ w'.cell? ⟨w.heap.size + 1, 0, none⟩ = some (.int .i64 k) ∧ w'.cell? ⟨w.heap.size + 1, 1, none⟩ = some (.string nm) ∧ w'.cell? ⟨w.heap.size + 1, 2, none⟩ = some (.string ot) ∧ w'.cell? ⟨w.heap.size + 1, 3, none⟩ = some (.string da) ∧ w'.cell? ⟨w.heap.size + 1, 4, none⟩ = some (.int .i64 kp)) (go_keep)
        (first
          | (go_at_call 30; refine (toDiskStep_any k kp nm ot da _).mono ?_; rintro e w8 ⟨rfl, hx8⟩; have T8 : Below W4.heap.size W4 w8 := (by first | exact below_undrew hx8 | exact (((Below.refl W4.heap.size W4).drew.alloc (by simp) (.cells #[.slice none 0 0, .slice none 0 0, .slice none 0 0, .int .i64 0] 26)).trans (hx8.mono (by simp)))); (try have E8 : Box w8 W4.heap.size [.slice none 0 0, .slice none 0 0, .slice none 0 0, .int .i64 0] := (Box.new W4.drew #[.slice none 0 0, .slice none 0 0, .slice none 0 0, .int .i64 0] 26).below hx8); obtain ⟨_, p0, p1, p2, p3⟩ := Box.c4 (Box.below V4 T8); obtain ⟨_, o0, o1, o2, o3, o4⟩ := Box.c5 (Box.below Y4 T8))
          | (go_at_call 11; refine (KI _ _ _ _ (by first | exact PX_of_owns (owns_below l1 T8) | exact (PX_of_owns (owns_below l1 T8)).below (below_alloc _ (.cells #[.slice none 0 0, .slice none 0 0, .slice none 0 0, .int .i64 0] 26))) (by first | exact PX_of_owns (owns_below l2 T8) | exact (PX_of_owns (owns_below l2 T8)).below (below_alloc _ (.cells #[.slice none 0 0, .slice none 0 0, .slice none 0 0, .int .i64 0] 26))) (by first | exact PX_of_owns (owns_below l3 T8) | exact (PX_of_owns (owns_below l3 T8)).below (below_alloc _ (.cells #[.slice none 0 0, .slice none 0 0, .slice none 0 0, .int .i64 0] 26)))).mono ?_; rintro e w9 ⟨⟨x1, x2, x3, rfl, hM9⟩, hx9⟩; have hb9 : Below w8.heap.size w8 w9 := (by first | exact hx9 | exact below_then (below_alloc _ (.cells #[.slice none 0 0, .slice none 0 0, .slice none 0 0, .int .i64 0] 26)) hx9); have T9 := below_then T8 hb9; have hz9 := hx9.size; obtain ⟨y1, c1, y2, c2, y3, c3, rfl, rfl, rfl⟩ := hM9.shape; (try have E9 := Box.below E8 hb9); (try have E9 : Box w9 w8.heap.size [.slice none 0 0, .slice none 0 0, .slice none 0 0, .int .i64 0] := (Box.new w8 #[.slice none 0 0, .slice none 0 0, .slice none 0 0, .int .i64 0] 26).below hx9); obtain ⟨_, p0, p1, p2, p3⟩ := Box.c4 (Box.below V4 T9); obtain ⟨_, o0, o1, o2, o3, o4⟩ := Box.c5 (Box.below Y4 T9); (try have u0 := E9.c4.2.1); (try have u1 := E9.c4.2.2.1); (try have u2 := E9.c4.2.2.2.1); (try have u3 := E9.c4.2.2.2.2); (try have j0 := E9.2.2 0); (try have j1 := E9.2.2 1); (try have j2 := E9.2.2 2); (try have j3 := E9.2.2 3); have na0 : ¬ (w8.heap.size = w4.heap.size) := (by have := T8.size; omega); have nb0 : ¬ (w4.heap.size = w8.heap.size) := (by have := T8.size; omega); have na1 : ¬ (w8.heap.size = w.heap.size + 1) := (by have := T8.size; omega); have nb1 : ¬ (w.heap.size + 1 = w8.heap.size) := (by have := T8.size; omega); have na2 : ¬ (W4.heap.size = w4.heap.size) := (by omega); have nb2 : ¬ (w4.heap.size = W4.heap.size) := (by omega); have na3 : ¬ (W4.heap.size = w.heap.size + 1) := (by omega); have nb3 : ¬ (w.heap.size + 1 = W4.heap.size) := (by omega); have nx := World.new_ne w9 ⟨w4.heap.size, 0, none⟩ p0; have ny := World.new_ne w9 ⟨w.heap.size + 1, 0, none⟩ o0))
      · have G := got_new (B := W4.heap.size) (r := rr) hM9 (by have := T8.size; simp; omega) hz9
        have Bw := T9.alloc T9.size (.cells #[.slice y1 BB.length c1, .slice y2 LL.length c2, .slice y3 SS.length c3, .int .i64 rr] 26)
        go_wp2_with fail
        go_meet
        case rel => exact ⟨_, _, _, _, _, _, _, _, _, _, rfl, rfl, G, Bw⟩
      · have q8 := T8.size
        have q9 := T9.size
        have G := got_put (B := W4.heap.size) (b := w8.heap.size) (r := rr) hM9 E9 (by omega) (by simp)
        have Bw := T9.trans ((put4_chg w9 w8.heap.size (.slice y1 BB.length c1) (.slice y2 LL.length c2) (.slice y3 SS.length c3) (.int .i64 rr)).below (B := W4.heap.size) q9 (fun b h => by omega))
        go_wp2_with fail
        go_meet
        case rel => exact ⟨_, _, _, _, _, _, _, _, _, _, rfl, rfl, G, Bw⟩
      · have q8 := T8.size
        have q9 := T9.size
        have G := got_put (B := W4.heap.size) (b := W4.heap.size) (r := rr) hM9 E9 (by omega) E8.1
        have Bw := T9.trans ((put4_chg w9 W4.heap.size (.slice y1 BB.length c1) (.slice y2 LL.length c2) (.slice y3 SS.length c3) (.int .i64 rr)).below (B := W4.heap.size) q9 (fun b h => by omega))
        go_wp2_with fail
        go_meet
        case rel => exact ⟨_, _, _, _, _, _, _, _, _, _, rfl, rfl, G, Bw⟩
    case rest =>
      clear p0 p1 p2 p3 o0 o1 o2 o3 o4
      obtain ⟨w5, hw5⟩ : ∃ x, x = wc := ⟨_, rfl⟩
      subst hw5
      obtain ⟨b', a1', n1', c1', a2', n2', c2', a3', n3', c3', rfl, rfl, H5, T5⟩ := hcut
      have hB5 := below_then hB4 T5
      have X5 := X4.below T5
      have Y5 := Y4.below T5
      have V5 := V4.below T5
      have G5 := G4.below T5
      replace l1 := owns_below l1 T5
      replace l2 := owns_below l2 T5
      replace l3 := owns_below l3 T5
      have hz5 := T5.size
      have hv4 := V4.1
      have HH : ∀ g, (Value.slice a1' n1' c1').ownBlock = some g ∨ (Value.slice a2' n2' c2').ownBlock = some g ∨ (Value.slice a3' n3' c3').ownBlock = some g → W4.heap.size ≤ g ∧ g ≠ b' := by
        intro g h
        refine ⟨?_, H5.apart g h⟩
        rcases h with h | h | h
        · exact owns_ge H5.made.1 g h
        · exact owns_ge H5.made.2.1 g h
        · exact owns_ge H5.made.2.2.1 g h
      have hb' := H5.low
      clear X4 Y4 V4 G4 T5 hB4
      obtain ⟨_, d0, d1, d2, d3⟩ := G5.box.c4
      obtain ⟨_, i0, i1, i2, i3⟩ := H5.box.c4
      go_wp2_with fail
      refine (eqDisk_same _ _ _ _ _ _ BB LL SS rr _ (PL_of_owns H5.made.1) (PL_of_owns G5.made.1) (PL_of_owns H5.made.2.1) (PL_of_owns G5.made.2.1) (PL_of_owns H5.made.2.2.1) (PL_of_owns G5.made.2.2.1) (by omega) (by omega) (by omega)).mono ?_
      rintro e w6 ⟨rfl, hb6⟩
      have hB6 := below_then hB5 hb6
      have X6 := X5.below hb6
      have Y6 := Y5.below hb6
      have V6 := V5.below hb6
      have G6 := G5.below hb6
      have H6 := H5.below hb6
      replace l1 := owns_below l1 hb6
      replace l2 := owns_below l2 hb6
      replace l3 := owns_below l3 hb6
      have hz6 := hb6.size
      clear d0 d1 d2 d3 i0 i1 i2 i3 X5 Y5 V5 G5 H5 hb6 hB5
      obtain ⟨_, p0, p1, p2, p3⟩ := X6.c4
      obtain ⟨_, q0, q1, q2, q3⟩ := V6.c4
      go_wp2_with fail
      go_region_held3 (fun w' => (w'.cell? ⟨w.heap.size, 0, none⟩ = some (v1) ∧ w'.cell? ⟨w.heap.size, 1, none⟩ = some (v2) ∧ w'.cell? ⟨w.heap.size, 2, none⟩ = some (v3) ∧ w'.cell? ⟨w.heap.size, 3, none⟩ = some (.int .i64 r)) ∧ w'.cell? ⟨w4.heap.size, 0, none⟩ = some (.slice (some ⟨g1, 0, none⟩) bl.length bl.length) ∧ w'.cell? ⟨w4.heap.size, 1, none⟩ = some (.slice (some ⟨g2, 0, none⟩) lv.length lv.length) ∧ w'.cell? ⟨w4.heap.size, 2, none⟩ = some (.slice (some ⟨g3, 0, none⟩) sf.length sf.length) ∧ w'.cell? ⟨w4.heap.size, 3, none⟩ = some (.int .i64 r)) (go_keep) (first | (go_at_call 29; refine (toDisk_any _ _ _ bl lv sf _ _ (h1.below hB6.drew) (h2.below hB6.drew) (h3.below hB6.drew) (by omega) (by omega) (by omega)).mono ?_; rintro e w7 ⟨⟨f1, f2, f3, _, _, _, rfl, t1, t2, t3⟩, hb7'⟩; have hb7 := below_undrew hb7'; obtain ⟨_, p0, p1, p2, p3⟩ := (X6.below hb7).c4; obtain ⟨_, q0, q1, q2, q3⟩ := (V6.below hb7).c4) | (go_at_call 31; refine (eqDisk_same _ _ _ _ _ _ bl lv sf _ _ (PL_of_owns (owns_below l1 hb7)) (PL_of_owns t1) (PL_of_owns (owns_below l2 hb7)) (PL_of_owns t2) (PL_of_owns (owns_below l3 hb7)) (PL_of_owns t3) (by omega) (by omega) (by omega)).mono ?_; rintro e w8 ⟨rfl, hb8⟩; obtain ⟨_, p0, p1, p2, p3⟩ := ((X6.below hb7).below hb8).c4; obtain ⟨_, q0, q1, q2, q3⟩ := ((V6.below hb7).below hb8).c4))
      have hb68 := below_then hb7 hb8
      have hB8 := below_then hB6 hb68
      have X8 := X6.below hb68
      have Y8 := Y6.below hb68
      have V8 := V6.below hb68
      have G8 := G6.below hb68
      have H8 := H6.below hb68
      replace l1 := owns_below l1 hb68
      replace l2 := owns_below l2 hb68
      replace l3 := owns_below l3 hb68
      have hz8 := hb68.size
      clear X6 Y6 V6 G6 H6 t1 t2 t3 hb7 hb8 hb7' hb68 p0 p1 p2 p3 q0 q1 q2 q3 hB6
      obtain ⟨_, q0, q1, q2, q3⟩ := V8.c4
      have n12 : ∀ b, Value.ownBlock (.slice (some ⟨g1, 0, none⟩) bl.length bl.length) = some b → Value.ownBlock (.slice (some ⟨g2, 0, none⟩) lv.length lv.length) ≠ some b := by intro b h h'; simp only [Value.ownBlock, Option.some.injEq] at h h'; omega
      have n13 : ∀ b, Value.ownBlock (.slice (some ⟨g1, 0, none⟩) bl.length bl.length) = some b → Value.ownBlock (.slice (some ⟨g3, 0, none⟩) sf.length sf.length) ≠ some b := by intro b h h'; simp only [Value.ownBlock, Option.some.injEq] at h h'; omega
      have n23 : ∀ b, Value.ownBlock (.slice (some ⟨g2, 0, none⟩) lv.length lv.length) = some b → Value.ownBlock (.slice (some ⟨g3, 0, none⟩) sf.length sf.length) ≠ some b := by intro b h h'; simp only [Value.ownBlock, Option.some.injEq] at h h'; omega
      go_wp2_with fail
      refine (markDisk_own _ _ _ g1 g2 g3 bl lv sf _ _ _ l1 l2 l3 n12 n13 n23 (by omega) (by omega) (by omega) (by omega) (by omega)).mono ?_
      rintro e w9 ⟨rfl, _, _, _, hc9⟩
      have SX : ∀ b, (Value.ownBlock (.slice (some ⟨g1, 0, none⟩) bl.length bl.length) = some b ∨ Value.ownBlock (.slice (some ⟨g2, 0, none⟩) lv.length lv.length) = some b ∨ Value.ownBlock (.slice (some ⟨g3, 0, none⟩) sf.length sf.length) = some b) → w3.heap.size < b ∧ b < w4.heap.size := by
        intro b h; simp only [Value.ownBlock, Option.some.injEq] at h; omega
      have hzB := hB8.size
      have hB9 : Below w.heap.size w w9 := hB8.trans (hc9.below (by omega) (fun b h => by have := SX b h; omega))
      have X9 := hc9.box X8 (fun h => by have := SX _ h; omega)
      have Y9 := hc9.box Y8 (fun h => by have := SX _ h; omega)
      have G9 := G8.chgAt hc9 (fun g hg h => by have := SX _ h; have := GH g hg; omega)
      have H9 := H8.chg hc9 (fun g hg h => by have := SX _ h; omega)
      have hz9 := hc9.size
      clear hc9 X8 Y8 V8 G8 H8 l1 l2 l3 n12 n13 n23 SX q0 q1 q2 q3 hB8
      obtain ⟨_, d0, d1, d2, d3⟩ := G9.box.c4
      obtain ⟨_, i0, i1, i2, i3⟩ := H9.box.c4
      have e9 : ¬ (1 + 2 * (bl.length : Int) + 2 * lv.length + 2 * sf.length < 0) := by omega
      have e9' : decide (1 + 2 * (bl.length : Int) + 2 * lv.length + 2 * sf.length < 0) = false := by simp; omega
      generalize (1 + 2 * (bl.length : Int) + 2 * lv.length + 2 * sf.length) = kk at *
      go_wp2_with fail
      refine (eqDisk_same _ _ _ _ _ _ BB LL SS rr _ (PL_of_owns H9.made.1) (PL_of_owns G9.made.1) (PL_of_owns H9.made.2.1) (PL_of_owns G9.made.2.1) (PL_of_owns H9.made.2.2.1) (PL_of_owns G9.made.2.2.1) (by omega) (by omega) (by omega)).mono ?_
      rintro e w10 ⟨rfl, hb10⟩
      have hB10 := below_then hB9 hb10
      have X10 := X9.below hb10
      have Y10 := Y9.below hb10
      have G10 := G9.below hb10
      have H10 := H9.below hb10
      have hz10 := hb10.size
      clear d0 d1 d2 d3 i0 i1 i2 i3 X9 Y9 G9 H9 hb10 hB9
      obtain ⟨_, i0, i1, i2, i3⟩ := H10.box.c4
      go_wp2_with fail
      refine (markDisk_own _ _ _ W4.heap.size W4.heap.size W4.heap.size BB LL SS _ _ _ H10.made.1 H10.made.2.1 H10.made.2.2.1 H10.made.2.2.2.1 H10.made.2.2.2.2.1 H10.made.2.2.2.2.2 (by omega) (by omega) (by omega) (by omega) (by omega)).mono ?_
      rintro e w11 ⟨rfl, k1, k2, k3, hc11⟩
      have hzB := hB10.size
      have hB11 : Below w.heap.size w w11 := hB10.trans (hc11.below (by omega) (fun b h => by have := (HH b h).1; omega))
      have X11 := hc11.box X10 (fun h => by have := (HH _ h).1; omega)
      have Y11 := hc11.box Y10 (fun h => by have := (HH _ h).1; omega)
      have G11 := G10.chgAt hc11 (fun g hg h => by have := (HH g h).1; have := GH g hg; omega)
      have I11 := hc11.box H10.box (fun h => (HH _ h).2 rfl)
      have P1 : PL w11 (.slice a1' n1' c1') (mkAll 1 BB.length) := PL_of_owns (l := mkAll 1 BB.length) (by rw [mkAll_length]; exact k1)
      have P2 : PL w11 (.slice a2' n2' c2') (mkAll (1 + 2 * BB.length) LL.length) := PL_of_owns (l := mkAll (1 + 2 * BB.length) LL.length) (by rw [mkAll_length]; exact k2)
      have P3 : PL w11 (.slice a3' n3' c3') (mkAll (1 + 2 * BB.length + 2 * LL.length) SS.length) := PL_of_owns (l := mkAll (1 + 2 * BB.length + 2 * LL.length) SS.length) (by rw [mkAll_length]; exact k3)
      clear hc11 X10 Y10 G10 H10 k1 k2 k3 hB10 i0 i1 i2 i3
      obtain ⟨_, i0, i1, i2, i3⟩ := I11.c4
      have e11 : ¬ (1 + 2 * (BB.length : Int) + 2 * LL.length + 2 * SS.length < 0) := by omega
      have e11' : decide (1 + 2 * (BB.length : Int) + 2 * LL.length + 2 * SS.length < 0) = false := by simp; omega
      go_wp2_with fail
      refine (heldDisk_any _ _ _ BB.length LL.length SS.length _ 1 _ P1 P2 P3 LB LLl LS (by omega) (by omega)).mono ?_
      rintro e w12 ⟨rfl, hb12⟩
      have hB12 := below_then hB11 hb12
      have X12 := X11.below hb12
      have Y12 := Y11.below hb12
      have G12 := G11.below hb12
      have I12 := I11.below hb12
      replace P1 := P1.below hb12
      replace P2 := P2.below hb12
      replace P3 := P3.below hb12
      have hz12 : w.heap.size + 1 < w12.heap.size := Y12.1
      clear i0 i1 i2 i3 X11 Y11 G11 I11 hb12 hB11
      obtain ⟨_, p0, p1, p2, p3⟩ := X12.c4
      obtain ⟨_, o0, o1, o2, o3, o4⟩ := Y12.c5
      go_wp2_with fail
      go_cut [14, 15] from 16 (fun sp sc wc => ∃ (b : Nat) (y1 : Option Addr) (n1 c1 : Nat) (y2 : Option Addr) (n2 c2 : Nat) (y3 : Option Addr) (n3 c3 : Nat), sp = .pointer (some ⟨b, 0, none⟩) ∧ sc = .int .i64 cc ∧ Got w12.heap.size wc b (.slice y1 n1 c1) (.slice y2 n2 c2) (.slice y3 n3 c3) rr BB LL SS ∧ Below w12.heap.size w12 wc)
      case first =>
        clear HH GH hb' e9 e9' e11 e11' G12 I12 P1 P2 P3
        go_region_held3 (fun w' => (w'.cell? ⟨w.heap.size, 0, none⟩ = some (v1) ∧ w'.cell? ⟨w.heap.size, 1, none⟩ = some (v2) ∧ w'.cell? ⟨w.heap.size, 2, none⟩ = some (v3) ∧ w'.cell? ⟨w.heap.size, 3, none⟩ = some (.int .i64 r)) ∧ w'.cell? ⟨w.heap.size + 1, 0, none⟩ = some (.int .i64 k) ∧ w'.cell? ⟨w.heap.size + 1, 1, none⟩ = some (.string nm) ∧ w'.cell? ⟨w.heap.size + 1, 2, none⟩ = some (.string ot) ∧ w'.cell? ⟨w.heap.size + 1, 3, none⟩ = some (.string da) ∧ w'.cell? ⟨w.heap.size + 1, 4, none⟩ = some (.int .i64 kp)) (go_keep)
          (first
          | (go_at_call 29; refine (toDisk_any _ _ _ bl lv sf _ _ (h1.below (by first | exact hB12.drew | exact (below_then hB12 ((Below.refl w12.heap.size w12).drew.alloc (by simp) (.cells #[.slice none 0 0, .slice none 0 0, .slice none 0 0, .int .i64 0] 26))))) (h2.below (by first | exact hB12.drew | exact (below_then hB12 ((Below.refl w12.heap.size w12).drew.alloc (by simp) (.cells #[.slice none 0 0, .slice none 0 0, .slice none 0 0, .int .i64 0] 26))))) (h3.below (by first | exact hB12.drew | exact (below_then hB12 ((Below.refl w12.heap.size w12).drew.alloc (by simp) (.cells #[.slice none 0 0, .slice none 0 0, .slice none 0 0, .int .i64 0] 26))))) (by omega) (by omega) (by omega)).mono ?_; rintro e w7 ⟨⟨f1, f2, f3, _, _, _, rfl, t1, t2, t3⟩, hx7⟩; have T7 : Below w12.heap.size w12 w7 := (by first | exact below_undrew hx7 | exact (((Below.refl w12.heap.size w12).drew.alloc (by simp) (.cells #[.slice none 0 0, .slice none 0 0, .slice none 0 0, .int .i64 0] 26)).trans (hx7.mono (by simp)))); (try have E7 : Box w7 w12.heap.size [.slice none 0 0, .slice none 0 0, .slice none 0 0, .int .i64 0] := (Box.new w12.drew #[.slice none 0 0, .slice none 0 0, .slice none 0 0, .int .i64 0] 26).below hx7); obtain ⟨_, p0, p1, p2, p3⟩ := Box.c4 (Box.below X12 T7); obtain ⟨_, o0, o1, o2, o3, o4⟩ := Box.c5 (Box.below Y12 T7))
          | (go_at_call 30; refine (toDiskStep_any k kp nm ot da _).mono ?_; rintro e w8 ⟨rfl, hx8⟩; have hb8 : Below w7.heap.size w7 w8 := (by first | exact hx8 | exact below_then (below_alloc _ (.cells #[.slice none 0 0, .slice none 0 0, .slice none 0 0, .int .i64 0] 26)) hx8); have T8 := below_then T7 hb8; (try have E8 := Box.below E7 hb8); (try have E8 : Box w8 w7.heap.size [.slice none 0 0, .slice none 0 0, .slice none 0 0, .int .i64 0] := (Box.new w7 #[.slice none 0 0, .slice none 0 0, .slice none 0 0, .int .i64 0] 26).below hx8); replace t1 := owns_below t1 hb8; replace t2 := owns_below t2 hb8; replace t3 := owns_below t3 hb8; obtain ⟨_, p0, p1, p2, p3⟩ := Box.c4 (Box.below X12 T8); obtain ⟨_, o0, o1, o2, o3, o4⟩ := Box.c5 (Box.below Y12 T8))
          | (go_at_call 11; refine (KI _ _ _ _ (by first | exact PX_of_owns (t1) | exact (PX_of_owns (t1)).below (below_alloc _ (.cells #[.slice none 0 0, .slice none 0 0, .slice none 0 0, .int .i64 0] 26))) (by first | exact PX_of_owns (t2) | exact (PX_of_owns (t2)).below (below_alloc _ (.cells #[.slice none 0 0, .slice none 0 0, .slice none 0 0, .int .i64 0] 26))) (by first | exact PX_of_owns (t3) | exact (PX_of_owns (t3)).below (below_alloc _ (.cells #[.slice none 0 0, .slice none 0 0, .slice none 0 0, .int .i64 0] 26)))).mono ?_; rintro e w9 ⟨⟨x1, x2, x3, rfl, hM9⟩, hx9⟩; have hb9 : Below w8.heap.size w8 w9 := (by first | exact hx9 | exact below_then (below_alloc _ (.cells #[.slice none 0 0, .slice none 0 0, .slice none 0 0, .int .i64 0] 26)) hx9); have T9 := below_then T8 hb9; have hz9 := hx9.size; obtain ⟨y1, c1, y2, c2, y3, c3, rfl, rfl, rfl⟩ := hM9.shape; (try have E9 := Box.below E8 hb9); (try have E9 : Box w9 w8.heap.size [.slice none 0 0, .slice none 0 0, .slice none 0 0, .int .i64 0] := (Box.new w8 #[.slice none 0 0, .slice none 0 0, .slice none 0 0, .int .i64 0] 26).below hx9); obtain ⟨_, p0, p1, p2, p3⟩ := Box.c4 (Box.below X12 T9); obtain ⟨_, o0, o1, o2, o3, o4⟩ := Box.c5 (Box.below Y12 T9); (try have u0 := E9.c4.2.1); (try have u1 := E9.c4.2.2.1); (try have u2 := E9.c4.2.2.2.1); (try have u3 := E9.c4.2.2.2.2); (try have j0 := E9.2.2 0); (try have j1 := E9.2.2 1); (try have j2 := E9.2.2 2); (try have j3 := E9.2.2 3); have na0 : ¬ (w8.heap.size = w.heap.size) := (by have := T8.size; omega); have nb0 : ¬ (w.heap.size = w8.heap.size) := (by have := T8.size; omega); have na1 : ¬ (w8.heap.size = w.heap.size + 1) := (by have := T8.size; omega); have nb1 : ¬ (w.heap.size + 1 = w8.heap.size) := (by have := T8.size; omega); have na2 : ¬ (w7.heap.size = w.heap.size) := (by have := T7.size; omega); have nb2 : ¬ (w.heap.size = w7.heap.size) := (by have := T7.size; omega); have na3 : ¬ (w7.heap.size = w.heap.size + 1) := (by have := T7.size; omega); have nb3 : ¬ (w.heap.size + 1 = w7.heap.size) := (by have := T7.size; omega); have na4 : ¬ (w12.heap.size = w.heap.size) := (by omega); have nb4 : ¬ (w.heap.size = w12.heap.size) := (by omega); have na5 : ¬ (w12.heap.size = w.heap.size + 1) := (by omega); have nb5 : ¬ (w.heap.size + 1 = w12.heap.size) := (by omega); have nx := World.new_ne w9 ⟨w.heap.size, 0, none⟩ p0; have ny := World.new_ne w9 ⟨w.heap.size + 1, 0, none⟩ o0))
        · have G := got_new (B := w12.heap.size) (r := rr) hM9 (by have := T8.size; simp; omega) hz9
          have Bw := T9.alloc T9.size (.cells #[.slice y1 BB.length c1, .slice y2 LL.length c2, .slice y3 SS.length c3, .int .i64 rr] 26)
          go_wp2_with fail
          go_meet
          case rel => exact ⟨_, _, _, _, _, _, _, _, _, _, rfl, rfl, G, Bw⟩
        · have q8 := T8.size
          have q9 := T9.size
          have G := got_put (B := w12.heap.size) (b := w8.heap.size) (r := rr) hM9 E9 (by omega) (by simp)
          have Bw := T9.trans ((put4_chg w9 w8.heap.size (.slice y1 BB.length c1) (.slice y2 LL.length c2) (.slice y3 SS.length c3) (.int .i64 rr)).below (B := w12.heap.size) q9 (fun b h => by omega))
          go_wp2_with fail
          go_meet
          case rel => exact ⟨_, _, _, _, _, _, _, _, _, _, rfl, rfl, G, Bw⟩
        · have q8 := T8.size
          have q9 := T9.size
          have G := got_put (B := w12.heap.size) (b := w7.heap.size) (r := rr) hM9 E9 (by have := T7.size; omega) E8.1
          have Bw := T9.trans ((put4_chg w9 w7.heap.size (.slice y1 BB.length c1) (.slice y2 LL.length c2) (.slice y3 SS.length c3) (.int .i64 rr)).below (B := w12.heap.size) q9 (fun b h => by have := T7.size; omega))
          go_wp2_with fail
          go_meet
          case rel => exact ⟨_, _, _, _, _, _, _, _, _, _, rfl, rfl, G, Bw⟩
        · have q8 := T8.size
          have q9 := T9.size
          have G := got_put (B := w12.heap.size) (b := w12.heap.size) (r := rr) hM9 E9 (by omega) E8.1
          have Bw := T9.trans ((put4_chg w9 w12.heap.size (.slice y1 BB.length c1) (.slice y2 LL.length c2) (.slice y3 SS.length c3) (.int .i64 rr)).below (B := w12.heap.size) q9 (fun b h => by omega))
          go_wp2_with fail
          go_meet
          case rel => exact ⟨_, _, _, _, _, _, _, _, _, _, rfl, rfl, G, Bw⟩
      case rest =>
        clear p0 p1 p2 p3 o0 o1 o2 o3 o4
        obtain ⟨w13, hw13⟩ : ∃ x, x = wc := ⟨_, rfl⟩
        subst hw13
        obtain ⟨b3, a1x, n1x, c1x, a2x, n2x, c2x, a3x, n3x, c3x, rfl, rfl, H13, T13⟩ := hcut
        have hB13 := below_then hB12 T13
        have G13 := G12.below T13
        have I13 := I12.below T13
        replace P1 := P1.below T13
        replace P2 := P2.below T13
        replace P3 := P3.below T13
        clear T13 X12 Y12 G12 I12 hB12
        obtain ⟨_, d0, d1, d2, d3⟩ := G13.box.c4
        obtain ⟨_, j0, j1, j2, j3⟩ := H13.box.c4
        go_wp2_with fail
        refine (eqDisk_same _ _ _ _ _ _ BB LL SS rr _ (PL_of_owns H13.made.1) (PL_of_owns G13.made.1) (PL_of_owns H13.made.2.1) (PL_of_owns G13.made.2.1) (PL_of_owns H13.made.2.2.1) (PL_of_owns G13.made.2.2.1) (by omega) (by omega) (by omega)).mono ?_
        rintro e w14 ⟨rfl, hb14⟩
        have hB14 := below_then hB13 hb14
        have I14 := I13.below hb14
        replace P1 := P1.below hb14
        replace P2 := P2.below hb14
        replace P3 := P3.below hb14
        clear d0 d1 d2 d3 j0 j1 j2 j3 G13 H13 I13 hb14 hB13
        obtain ⟨_, i0, i1, i2, i3⟩ := I14.c4
        go_wp2_with fail
        refine (heldDisk_any _ _ _ BB.length LL.length SS.length _ 1 _ P1 P2 P3 LB LLl LS (by omega) (by omega)).mono ?_
        rintro e w15 ⟨rfl, hb15⟩
        have hB15 := below_then hB14 hb15
        go_wp2
        go_ret
        exact ⟨rfl, hB15⟩
end Go.Proofs.Ytbgemebpfcbloaa
