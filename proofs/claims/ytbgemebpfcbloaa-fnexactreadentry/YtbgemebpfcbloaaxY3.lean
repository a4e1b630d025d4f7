/-
  impl.ReadEntry, laws.eqEntry, and the walk of the law laws.FnExactReadEntry.
-/
import Derived.Test.YtbgemebpfcbloaaxY2
namespace Go.Proofs.Ytbgemebpfcbloaa
open Go.RowKit
set_option linter.unusedVariables false
set_option maxRecDepth 100000

set_option maxHeartbeats 2000000 in
theorem implReadEntry_any (s : ByteArray) (w : World) (hs : s.size ≤ 1048576) :
    Calls Try.prog 48 #[.string s] w fun e w' => e = .returned (reR s) ∧ Below w.heap.size w w' := by
  have K := fun w => takeTwo_any s w hs
  have hS := reS_size s
  have HT : Hid (reT s = if reTwo s then .tuple #[.int .i64 (reA s).1, .int .i64 (reB s).1, .string (reS s), .bool true] else .tuple #[.int .i64 0, .int .i64 0, .string ⟨#[]⟩, .bool false]) := rfl
  have HR : Hid (reR s = if reTwo s && ((decide ((1 : Int) ≤ (reA s).1) && decide (((reA s).1 : Int) ≤ 2000000)) && okEn (reB s).1 (reS s)) then .tuple #[.int .i64 (reA s).1, .agg #[.int .i64 (reB s).1, .string (reS s)], .bool true] else .tuple #[.int .i64 0, .agg #[.int .i64 0, .string ⟨#[]⟩], .bool false]) := rfl
  obtain ⟨a1, a2, a3⟩ := reA_le s
  obtain ⟨b1, b2, b3⟩ := reB_le s
  generalize reS s = R at *
  generalize hRR : reR s = RR at *
  clear hRR
  generalize (reA s).1 = i at *
  generalize (reB s).1 = t at *
  cases h2 : reTwo s with
  | false =>
    have ht : reT s = .tuple #[.int .i64 0, .int .i64 0, .string ⟨#[]⟩, .bool false] := by rw [HT.out, h2]; rfl
    have hr : RR = .tuple #[.int .i64 0, .agg #[.int .i64 0, .string ⟨#[]⟩], .bool false] := by rw [HR.out, h2]; rfl
    rw [ht] at K
    clear HT HR ht h2
    go_enter Try.func48, Try.ntmps48
    go_wp2_with fail
    refine (K _).mono ?_
    rintro e w1 ⟨rfl, hb1⟩
    have X1 := (Box.new w #[.int .i64 0, .string ⟨#[]⟩] 80).below hb1
    have hB1 := below_then (below_alloc _ _) hb1
    clear hb1 K
    obtain ⟨_, x0, x1⟩ := X1.c2
    have f0 := X1.2.2 0
    have f1 := X1.2.2 1
    have hz1 := X1.1
    go_wp2
    have Z := ((X1.set 0 (.int .i64 0) (by simp)).set 1 (.string ⟨#[]⟩) (by simp)).alloc (.cells #[.int .i64 0, .string ⟨#[]⟩] 80)
    have hB3 := ((hB1.setCell (p := ⟨w.heap.size, 0, none⟩) (Nat.le_refl _) (.int .i64 0)).setCell (p := ⟨w.heap.size, 1, none⟩) (Nat.le_refl _) (.string ⟨#[]⟩)).alloc (by simp; omega) (.cells #[.int .i64 0, .string ⟨#[]⟩] 80)
    generalize ((w1.setCell ⟨w.heap.size, 0, none⟩ (.int .i64 0)).setCell ⟨w.heap.size, 1, none⟩ (.string ⟨#[]⟩)).alloc (.cells #[.int .i64 0, .string ⟨#[]⟩] 80) = w3 at *
    obtain ⟨_, z0, z1⟩ := Z.c2
    refine bodyPost_ret (v := RR) ?_ rfl ⟨rfl, hB3⟩
    rw [hr]; simp [results, Try.results48, go_sem, z0, z1]
  | true =>
    have ht : reT s = .tuple #[.int .i64 i, .int .i64 t, .string R, .bool true] := by rw [HT.out, h2]; rfl
    rw [ht] at K
    rw [h2, Bool.true_and] at HR
    clear HT ht h2
    go_enter Try.func48, Try.ntmps48
    go_wp2_with fail
    refine (K _).mono ?_
    rintro e w1 ⟨rfl, hb1⟩
    have X0 := (Box.new w #[.int .i64 0, .string ⟨#[]⟩] 80).below hb1
    have hB0 := below_then (below_alloc _ _) hb1
    have X1 := X0.alloc (.cells #[.int .i64 t, .string R] 80)
    have hB1 := (below_then (below_alloc _ _) hb1).alloc (Nat.le_trans (by simp) hb1.size) (.cells #[.int .i64 t, .string R] 80)
    have Y1 := Box.new w1 #[.int .i64 t, .string R] 80
    have hz : w.heap.size < w1.heap.size := by have := hb1.size; simp at this; omega
    clear hb1 K
    by_cases h1 : (i : Int) < 1
    · have hr : RR = .tuple #[.int .i64 0, .agg #[.int .i64 0, .string ⟨#[]⟩], .bool false] := by rw [HR.out, decide_eq_false (p := (1 : Int) ≤ i) (by omega)]; rfl
      clear HR
      obtain ⟨_, x0, x1⟩ := X0.c2
      have f0 := X0.2.2 0
      have f1 := X0.2.2 1
      clear X1 hB1 Y1
      go_wp2
      have Z := ((X0.set 0 (.int .i64 0) (by simp)).set 1 (.string ⟨#[]⟩) (by simp)).alloc (.cells #[.int .i64 t, .string R] 80)
      have hB3 := ((hB0.setCell (p := ⟨w.heap.size, 0, none⟩) (Nat.le_refl _) (.int .i64 0)).setCell (p := ⟨w.heap.size, 1, none⟩) (Nat.le_refl _) (.string ⟨#[]⟩)).alloc (by simp; omega) (.cells #[.int .i64 t, .string R] 80)
      generalize ((w1.setCell ⟨w.heap.size, 0, none⟩ (.int .i64 0)).setCell ⟨w.heap.size, 1, none⟩ (.string ⟨#[]⟩)).alloc (.cells #[.int .i64 t, .string R] 80) = w3 at *
      obtain ⟨_, z0, z1⟩ := Z.c2
      refine bodyPost_ret (v := RR) ?_ rfl ⟨rfl, hB3⟩
      rw [hr]; simp [results, Try.results48, go_sem, z0, z1]
    · by_cases h2 : (2000000 : Int) < i
      · have hr : RR = .tuple #[.int .i64 0, .agg #[.int .i64 0, .string ⟨#[]⟩], .bool false] := by rw [HR.out, decide_eq_false (p := (i : Int) ≤ 2000000) (by omega), Bool.and_false]; rfl
        clear HR
        obtain ⟨_, x0, x1⟩ := X0.c2
        have f0 := X0.2.2 0
        have f1 := X0.2.2 1
        clear X1 hB1 Y1
        go_wp2
        have Z := ((X0.set 0 (.int .i64 0) (by simp)).set 1 (.string ⟨#[]⟩) (by simp)).alloc (.cells #[.int .i64 t, .string R] 80)
        have hB3 := ((hB0.setCell (p := ⟨w.heap.size, 0, none⟩) (Nat.le_refl _) (.int .i64 0)).setCell (p := ⟨w.heap.size, 1, none⟩) (Nat.le_refl _) (.string ⟨#[]⟩)).alloc (by simp; omega) (.cells #[.int .i64 t, .string R] 80)
        generalize ((w1.setCell ⟨w.heap.size, 0, none⟩ (.int .i64 0)).setCell ⟨w.heap.size, 1, none⟩ (.string ⟨#[]⟩)).alloc (.cells #[.int .i64 t, .string R] 80) = w3 at *
        obtain ⟨_, z0, z1⟩ := Z.c2
        refine bodyPost_ret (v := RR) ?_ rfl ⟨rfl, hB3⟩
        rw [hr]; simp [results, Try.results48, go_sem, z0, z1]
      · rw [decide_eq_true (p := (1 : Int) ≤ i) (by omega), decide_eq_true (p := (i : Int) ≤ 2000000) (by omega), Bool.true_and, Bool.true_and] at HR
        obtain ⟨_, y0, y1⟩ := Y1.c2
        clear X0 hB0
        go_wp2_with fail
        refine (goodEntry_any t R _ (by omega)).mono ?_
        rintro e w2 ⟨rfl, hb2⟩
        have hB2 := below_then hB1 hb2
        have X2 := X1.below hb2
        have Y2 := Y1.below hb2
        clear X1 Y1 hB1 hb2 y0 y1
        obtain ⟨_, x0, x1⟩ := X2.c2
        obtain ⟨_, y0, y1⟩ := Y2.c2
        have f0 := X2.2.2 0
        have f1 := X2.2.2 1
        cases he : okEn t R with
        | false =>
          have hr : RR = .tuple #[.int .i64 0, .agg #[.int .i64 0, .string ⟨#[]⟩], .bool false] := by rw [HR.out, he]; rfl
          clear HR
          go_wp2
          have Z := (X2.set 0 (.int .i64 0) (by simp)).set 1 (.string ⟨#[]⟩) (by simp)
          have hB3 := (hB2.setCell (p := ⟨w.heap.size, 0, none⟩) (Nat.le_refl _) (.int .i64 0)).setCell (p := ⟨w.heap.size, 1, none⟩) (Nat.le_refl _) (.string ⟨#[]⟩)
          generalize (w2.setCell ⟨w.heap.size, 0, none⟩ (.int .i64 0)).setCell ⟨w.heap.size, 1, none⟩ (.string ⟨#[]⟩) = w3 at *
          obtain ⟨_, z0, z1⟩ := Z.c2
          refine bodyPost_ret (v := RR) ?_ rfl ⟨rfl, hB3⟩
          rw [hr]; simp [results, Try.results48, go_sem, z0, z1]
        | true =>
          have hr : RR = .tuple #[.int .i64 i, .agg #[.int .i64 t, .string R], .bool true] := by rw [HR.out, he]; rfl
          clear HR
          go_wp2_with fail
          go_region
          all_goals
            go_wp2
            have Z : Box ((w2.setCell ⟨w.heap.size, 0, none⟩ (.int .i64 t)).setCell ⟨w.heap.size, 1, none⟩ (.string R)).drew w.heap.size [.int .i64 t, .string R] := ((X2.set 0 _ (by simp)).set 1 _ (by simp)).below (Below.refl _ _).drew
            have hB3 := ((hB2.setCell (p := ⟨w.heap.size, 0, none⟩) (Nat.le_refl _) (.int .i64 t)).setCell (p := ⟨w.heap.size, 1, none⟩) (Nat.le_refl _) (.string R)).drew
            generalize ((w2.setCell ⟨w.heap.size, 0, none⟩ (.int .i64 t)).setCell ⟨w.heap.size, 1, none⟩ (.string R)).drew = w3 at *
            obtain ⟨_, z0, z1⟩ := Z.c2
            refine bodyPost_ret (v := RR) ?_ rfl ⟨rfl, hB3⟩
            rw [hr]; simp [results, Try.results48, go_sem, z0, z1]

theorem eqEntry_same (t : Int) (R : ByteArray) (w : World) : Calls Try.prog 49 #[.agg #[.int .i64 t, .string R], .agg #[.int .i64 t, .string R]] w fun e w' => e = .returned (.bool true) ∧ Below w.heap.size w w' := by
  go_enter Try.func49, Try.ntmps49
  go_wp2
  go_ret
  exact ⟨rfl, below2 _ _ _⟩

theorem lawReadEntry_long (s : ByteArray) (w : World) (h : ¬ s.size ≤ 1048576) (hs : s.size ≤ maxLen) : Calls Try.prog 9 #[.string s] w fun e w' => e = .returned (.bool true) ∧ Below w.heap.size w w' := by
  unfold maxLen at hs
  have h' : (1048576 : Int) < s.size := by omega
  go_enter Try.func9, Try.ntmps9
  go_wp2
  go_ret
  exact ⟨rfl, Below.refl _ _⟩

set_option maxHeartbeats 1000000 in
theorem lawReadEntry (s : ByteArray) (w : World) (hs : s.size ≤ maxLen) : Calls Try.prog 9 #[.string s] w fun e w' => e = .returned (.bool true) ∧ Below w.heap.size w w' := by
  by_cases h : s.size ≤ 1048576
  · obtain ⟨i, t, R, ok, hr⟩ := reR_shape s
    have KS := fun w => specReadEntry_any s w h
    have KI := fun w => implReadEntry_any s w h
    rw [hr] at KS KI
    clear hr
    go_enter Try.func9, Try.ntmps9
    go_wp2_with fail
    refine (KS _).mono ?_
    rintro e w1 ⟨rfl, hb1⟩
    have Y1 := Box.new w1 #[.int .i64 t, .string R] 80
    have hB1 := hb1.alloc hb1.size (.cells #[.int .i64 t, .string R] 80)
    clear KS hb1
    go_wp2_with fail
    refine (KI _).mono ?_
    rintro e w2 ⟨rfl, hb2⟩
    have hB2 := (below_then hB1 hb2).alloc (below_then hB1 hb2).size (.cells #[.int .i64 t, .string R] 80)
    have Y2 := (Y1.below hb2).alloc (.cells #[.int .i64 t, .string R] 80)
    have Z2 := Box.new w2 #[.int .i64 t, .string R] 80
    have hz := hb2.size
    clear KI hb2 Y1 hB1
    obtain ⟨_, y0, y1⟩ := Y2.c2
    obtain ⟨_, z0, z1⟩ := Z2.c2
    go_wp2_with fail
    refine (eqEntry_same t R _).mono ?_
    rintro e w3 ⟨rfl, hb3⟩
    go_wp2
    go_ret
    exact ⟨rfl, below_then hB2 hb3⟩
  · exact lawReadEntry_long s w h hs
end Go.Proofs.Ytbgemebpfcbloaa
