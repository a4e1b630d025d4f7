/-
  spec.l1Do: steps that are bad (Z5a).
-/
import Derived.Test.YtbgemebpfcbloaaZ3ToZ4
namespace Go.Proofs.Ytbgemebpfcbloaa
open Go.RowKit Go.Maps
set_option linter.unusedVariables false
set_option maxRecDepth 100000

set_option maxHeartbeats 4000000 in
theorem bad_1 (g1 c1 g2 c2 g3 c3 : Nat) (bl lv sf : List (ByteArray × Int)) (r : Int) (nm ot da : ByteArray) (kp : Int) (w : World) (hnm : nm.size ≤ 1048576) (hot : ot.size ≤ 1048576) (hda : da.size ≤ 1048576) (hbad : goodS 1 nm ot da kp = false) :
    Calls Try.prog 56 #[.agg #[.slice (some ⟨g1, 0, none⟩) bl.length c1, .slice (some ⟨g2, 0, none⟩) lv.length c2, .slice (some ⟨g3, 0, none⟩) sf.length c3, .int .i64 r], .agg #[.int .i64 1, .string nm, .string ot, .string da, .int .i64 kp]] w fun e w' => e = .returned (.tuple #[.agg #[.slice (some ⟨g1, 0, none⟩) bl.length c1, .slice (some ⟨g2, 0, none⟩) lv.length c2, .slice (some ⟨g3, 0, none⟩) sf.length c3, .int .i64 r], .int .i64 1]) ∧ Below w.heap.size w w' := by
  obtain ⟨W0, hW0⟩ : ∃ W0, W0 = ((w.alloc (.cells #[.slice (some ⟨g1, 0, none⟩) bl.length c1, .slice (some ⟨g2, 0, none⟩) lv.length c2, .slice (some ⟨g3, 0, none⟩) sf.length c3, .int .i64 r] 26)).alloc (.cells #[.int .i64 1, .string nm, .string ot, .string da, .int .i64 kp] 28)).alloc (.cells #[.slice none 0 0, .slice none 0 0, .slice none 0 0, .int .i64 0] 26) := ⟨_, rfl⟩
  have hB0 : Below w.heap.size w W0 := by rw [hW0]; exact below3 _ _ _ _
  have X0 : Box W0 w.heap.size [.slice (some ⟨g1, 0, none⟩) bl.length c1, .slice (some ⟨g2, 0, none⟩) lv.length c2, .slice (some ⟨g3, 0, none⟩) sf.length c3, .int .i64 r] := by rw [hW0]; exact ((Box.new w _ _).alloc _).alloc _
  have Y0 : Box W0 (w.heap.size + 1) [.int .i64 1, .string nm, .string ot, .string da, .int .i64 kp] := by
    rw [hW0]
    have := (Box.new (w.alloc (.cells #[.slice (some ⟨g1, 0, none⟩) bl.length c1, .slice (some ⟨g2, 0, none⟩) lv.length c2, .slice (some ⟨g3, 0, none⟩) sf.length c3, .int .i64 r] 26)) #[.int .i64 1, .string nm, .string ot, .string da, .int .i64 kp] 28).alloc (.cells #[.slice none 0 0, .slice none 0 0, .slice none 0 0, .int .i64 0] 26)
    simpa using this
  have Z0 : Box W0 (w.heap.size + 1 + 1) [.slice none 0 0, .slice none 0 0, .slice none 0 0, .int .i64 0] := by
    rw [hW0]
    have := Box.new ((w.alloc (.cells #[.slice (some ⟨g1, 0, none⟩) bl.length c1, .slice (some ⟨g2, 0, none⟩) lv.length c2, .slice (some ⟨g3, 0, none⟩) sf.length c3, .int .i64 r] 26)).alloc (.cells #[.int .i64 1, .string nm, .string ot, .string da, .int .i64 kp] 28)) #[.slice none 0 0, .slice none 0 0, .slice none 0 0, .int .i64 0] 26
    simpa using this
  have hzW : W0.heap.size = w.heap.size + 3 := by rw [hW0]; simp
  obtain ⟨_, x0, x1, x2, x3⟩ := X0.c4
  obtain ⟨_, y0, y1, y2, y3, y4⟩ := Y0.c5
  have hE := put4_box Z0 (.slice (some ⟨g1, 0, none⟩) bl.length c1) (.slice (some ⟨g2, 0, none⟩) lv.length c2) (.slice (some ⟨g3, 0, none⟩) sf.length c3) (.int .i64 r)
  have hC := put4_chg W0 (w.heap.size + 1 + 1) (.slice (some ⟨g1, 0, none⟩) bl.length c1) (.slice (some ⟨g2, 0, none⟩) lv.length c2) (.slice (some ⟨g3, 0, none⟩) sf.length c3) (.int .i64 r)
  have hB6 := hB0.trans (hC.below (by omega) (fun b h => by omega))
  obtain ⟨_, z0, z1, z2, z3⟩ := Z0.c4
  have e0 := Z0.2.2 0
  have e1 := Z0.2.2 1
  have e2 := Z0.2.2 2
  have e3 := Z0.2.2 3
  clear hC X0 Y0 Z0
  have hin : (decide ((1 : Int) ≤ 1) && decide ((1 : Int) ≤ 8)) = true := rfl
  have hbad' : (decide ((da.size : Int) ≤ 4000) && okN nm) = false := hbad
  clear hbad
  cases hN : okN nm with
  | false =>
    go_enter Try.func56, Try.ntmps56
    go_wp2_with fail
    rw [← hW0]
    clear hW0
    refine (l1In_any _ _ _ _).mono ?_
    rintro e w1 ⟨rfl, hw⟩
    rw [hw]
    clear hw
    rw [hin]
    go_wp2_with fail
    refine (l1Name_any nm _ hnm).mono ?_
    rintro e w1 ⟨rfl, hw⟩
    rw [hw]
    clear hw
    rw [hN]
    go_wp2
    change bodyPost _ _ _ _ _ (put4 W0 (w.heap.size + 1 + 1) (.slice (some ⟨g1, 0, none⟩) bl.length c1) (.slice (some ⟨g2, 0, none⟩) lv.length c2) (.slice (some ⟨g3, 0, none⟩) sf.length c3) (.int .i64 r))
    generalize put4 W0 (w.heap.size + 1 + 1) (.slice (some ⟨g1, 0, none⟩) bl.length c1) (.slice (some ⟨g2, 0, none⟩) lv.length c2) (.slice (some ⟨g3, 0, none⟩) sf.length c3) (.int .i64 r) = W at *
    obtain ⟨_, t0, t1, t2, t3⟩ := hE.c4
    exact bodyPost_ret (v := .tuple #[.agg #[.slice (some ⟨g1, 0, none⟩) bl.length c1, .slice (some ⟨g2, 0, none⟩) lv.length c2, .slice (some ⟨g3, 0, none⟩) sf.length c3, .int .i64 r], .int .i64 1]) (by simp [results, Try.results56, go_sem, t0, t1, t2, t3]) rfl ⟨rfl, hB6⟩
  | true =>
    have hd : decide ((4000 : Int) < da.size) = true := by rw [hN, Bool.and_true] at hbad'; simp at hbad' ⊢; omega
    clear hbad'
    go_enter Try.func56, Try.ntmps56
    go_wp2_with fail
    rw [← hW0]
    clear hW0
    refine (l1In_any _ _ _ _).mono ?_
    rintro e w1 ⟨rfl, hw⟩
    rw [hw]
    clear hw
    rw [hin]
    go_wp2_with fail
    refine (l1Name_any nm _ hnm).mono ?_
    rintro e w1 ⟨rfl, hw⟩
    rw [hw]
    clear hw
    rw [hN]
    go_wp2
    change bodyPost _ _ _ _ _ (put4 W0 (w.heap.size + 1 + 1) (.slice (some ⟨g1, 0, none⟩) bl.length c1) (.slice (some ⟨g2, 0, none⟩) lv.length c2) (.slice (some ⟨g3, 0, none⟩) sf.length c3) (.int .i64 r))
    generalize put4 W0 (w.heap.size + 1 + 1) (.slice (some ⟨g1, 0, none⟩) bl.length c1) (.slice (some ⟨g2, 0, none⟩) lv.length c2) (.slice (some ⟨g3, 0, none⟩) sf.length c3) (.int .i64 r) = W at *
    obtain ⟨_, t0, t1, t2, t3⟩ := hE.c4
    exact bodyPost_ret (v := .tuple #[.agg #[.slice (some ⟨g1, 0, none⟩) bl.length c1, .slice (some ⟨g2, 0, none⟩) lv.length c2, .slice (some ⟨g3, 0, none⟩) sf.length c3, .int .i64 r], .int .i64 1]) (by simp [results, Try.results56, go_sem, t0, t1, t2, t3]) rfl ⟨rfl, hB6⟩

set_option maxHeartbeats 4000000 in
theorem bad_2 (g1 c1 g2 c2 g3 c3 : Nat) (bl lv sf : List (ByteArray × Int)) (r : Int) (nm ot da : ByteArray) (kp : Int) (w : World) (hnm : nm.size ≤ 1048576) (hot : ot.size ≤ 1048576) (hda : da.size ≤ 1048576) (hbad : goodS 2 nm ot da kp = false) :
    Calls Try.prog 56 #[.agg #[.slice (some ⟨g1, 0, none⟩) bl.length c1, .slice (some ⟨g2, 0, none⟩) lv.length c2, .slice (some ⟨g3, 0, none⟩) sf.length c3, .int .i64 r], .agg #[.int .i64 2, .string nm, .string ot, .string da, .int .i64 kp]] w fun e w' => e = .returned (.tuple #[.agg #[.slice (some ⟨g1, 0, none⟩) bl.length c1, .slice (some ⟨g2, 0, none⟩) lv.length c2, .slice (some ⟨g3, 0, none⟩) sf.length c3, .int .i64 r], .int .i64 1]) ∧ Below w.heap.size w w' := by
  obtain ⟨W0, hW0⟩ : ∃ W0, W0 = ((w.alloc (.cells #[.slice (some ⟨g1, 0, none⟩) bl.length c1, .slice (some ⟨g2, 0, none⟩) lv.length c2, .slice (some ⟨g3, 0, none⟩) sf.length c3, .int .i64 r] 26)).alloc (.cells #[.int .i64 2, .string nm, .string ot, .string da, .int .i64 kp] 28)).alloc (.cells #[.slice none 0 0, .slice none 0 0, .slice none 0 0, .int .i64 0] 26) := ⟨_, rfl⟩
  have hB0 : Below w.heap.size w W0 := by rw [hW0]; exact below3 _ _ _ _
  have X0 : Box W0 w.heap.size [.slice (some ⟨g1, 0, none⟩) bl.length c1, .slice (some ⟨g2, 0, none⟩) lv.length c2, .slice (some ⟨g3, 0, none⟩) sf.length c3, .int .i64 r] := by rw [hW0]; exact ((Box.new w _ _).alloc _).alloc _
  have Y0 : Box W0 (w.heap.size + 1) [.int .i64 2, .string nm, .string ot, .string da, .int .i64 kp] := by
    rw [hW0]
    have := (Box.new (w.alloc (.cells #[.slice (some ⟨g1, 0, none⟩) bl.length c1, .slice (some ⟨g2, 0, none⟩) lv.length c2, .slice (some ⟨g3, 0, none⟩) sf.length c3, .int .i64 r] 26)) #[.int .i64 2, .string nm, .string ot, .string da, .int .i64 kp] 28).alloc (.cells #[.slice none 0 0, .slice none 0 0, .slice none 0 0, .int .i64 0] 26)
    simpa using this
  have Z0 : Box W0 (w.heap.size + 1 + 1) [.slice none 0 0, .slice none 0 0, .slice none 0 0, .int .i64 0] := by
    rw [hW0]
    have := Box.new ((w.alloc (.cells #[.slice (some ⟨g1, 0, none⟩) bl.length c1, .slice (some ⟨g2, 0, none⟩) lv.length c2, .slice (some ⟨g3, 0, none⟩) sf.length c3, .int .i64 r] 26)).alloc (.cells #[.int .i64 2, .string nm, .string ot, .string da, .int .i64 kp] 28)) #[.slice none 0 0, .slice none 0 0, .slice none 0 0, .int .i64 0] 26
    simpa using this
  have hzW : W0.heap.size = w.heap.size + 3 := by rw [hW0]; simp
  obtain ⟨_, x0, x1, x2, x3⟩ := X0.c4
  obtain ⟨_, y0, y1, y2, y3, y4⟩ := Y0.c5
  have hE := put4_box Z0 (.slice (some ⟨g1, 0, none⟩) bl.length c1) (.slice (some ⟨g2, 0, none⟩) lv.length c2) (.slice (some ⟨g3, 0, none⟩) sf.length c3) (.int .i64 r)
  have hC := put4_chg W0 (w.heap.size + 1 + 1) (.slice (some ⟨g1, 0, none⟩) bl.length c1) (.slice (some ⟨g2, 0, none⟩) lv.length c2) (.slice (some ⟨g3, 0, none⟩) sf.length c3) (.int .i64 r)
  have hB6 := hB0.trans (hC.below (by omega) (fun b h => by omega))
  obtain ⟨_, z0, z1, z2, z3⟩ := Z0.c4
  have e0 := Z0.2.2 0
  have e1 := Z0.2.2 1
  have e2 := Z0.2.2 2
  have e3 := Z0.2.2 3
  clear hC X0 Y0 Z0
  have hin : (decide ((1 : Int) ≤ 2) && decide ((2 : Int) ≤ 8)) = true := rfl
  have hbad' : (decide ((da.size : Int) ≤ 4000) && okN nm) = false := hbad
  clear hbad
  cases hN : okN nm with
  | false =>
    go_enter Try.func56, Try.ntmps56
    go_wp2_with fail
    rw [← hW0]
    clear hW0
    refine (l1In_any _ _ _ _).mono ?_
    rintro e w1 ⟨rfl, hw⟩
    rw [hw]
    clear hw
    rw [hin]
    go_wp2_with fail
    refine (l1Name_any nm _ hnm).mono ?_
    rintro e w1 ⟨rfl, hw⟩
    rw [hw]
    clear hw
    rw [hN]
    go_wp2
    change bodyPost _ _ _ _ _ (put4 W0 (w.heap.size + 1 + 1) (.slice (some ⟨g1, 0, none⟩) bl.length c1) (.slice (some ⟨g2, 0, none⟩) lv.length c2) (.slice (some ⟨g3, 0, none⟩) sf.length c3) (.int .i64 r))
    generalize put4 W0 (w.heap.size + 1 + 1) (.slice (some ⟨g1, 0, none⟩) bl.length c1) (.slice (some ⟨g2, 0, none⟩) lv.length c2) (.slice (some ⟨g3, 0, none⟩) sf.length c3) (.int .i64 r) = W at *
    obtain ⟨_, t0, t1, t2, t3⟩ := hE.c4
    exact bodyPost_ret (v := .tuple #[.agg #[.slice (some ⟨g1, 0, none⟩) bl.length c1, .slice (some ⟨g2, 0, none⟩) lv.length c2, .slice (some ⟨g3, 0, none⟩) sf.length c3, .int .i64 r], .int .i64 1]) (by simp [results, Try.results56, go_sem, t0, t1, t2, t3]) rfl ⟨rfl, hB6⟩
  | true =>
    have hd : decide ((4000 : Int) < da.size) = true := by rw [hN, Bool.and_true] at hbad'; simp at hbad' ⊢; omega
    clear hbad'
    go_enter Try.func56, Try.ntmps56
    go_wp2_with fail
    rw [← hW0]
    clear hW0
    refine (l1In_any _ _ _ _).mono ?_
    rintro e w1 ⟨rfl, hw⟩
    rw [hw]
    clear hw
    rw [hin]
    go_wp2_with fail
    refine (l1Name_any nm _ hnm).mono ?_
    rintro e w1 ⟨rfl, hw⟩
    rw [hw]
    clear hw
    rw [hN]
    go_wp2
    change bodyPost _ _ _ _ _ (put4 W0 (w.heap.size + 1 + 1) (.slice (some ⟨g1, 0, none⟩) bl.length c1) (.slice (some ⟨g2, 0, none⟩) lv.length c2) (.slice (some ⟨g3, 0, none⟩) sf.length c3) (.int .i64 r))
    generalize put4 W0 (w.heap.size + 1 + 1) (.slice (some ⟨g1, 0, none⟩) bl.length c1) (.slice (some ⟨g2, 0, none⟩) lv.length c2) (.slice (some ⟨g3, 0, none⟩) sf.length c3) (.int .i64 r) = W at *
    obtain ⟨_, t0, t1, t2, t3⟩ := hE.c4
    exact bodyPost_ret (v := .tuple #[.agg #[.slice (some ⟨g1, 0, none⟩) bl.length c1, .slice (some ⟨g2, 0, none⟩) lv.length c2, .slice (some ⟨g3, 0, none⟩) sf.length c3, .int .i64 r], .int .i64 1]) (by simp [results, Try.results56, go_sem, t0, t1, t2, t3]) rfl ⟨rfl, hB6⟩

set_option maxHeartbeats 4000000 in
theorem bad_3 (g1 c1 g2 c2 g3 c3 : Nat) (bl lv sf : List (ByteArray × Int)) (r : Int) (nm ot da : ByteArray) (kp : Int) (w : World) (hnm : nm.size ≤ 1048576) (hot : ot.size ≤ 1048576) (hda : da.size ≤ 1048576) (hbad : goodS 3 nm ot da kp = false) :
    Calls Try.prog 56 #[.agg #[.slice (some ⟨g1, 0, none⟩) bl.length c1, .slice (some ⟨g2, 0, none⟩) lv.length c2, .slice (some ⟨g3, 0, none⟩) sf.length c3, .int .i64 r], .agg #[.int .i64 3, .string nm, .string ot, .string da, .int .i64 kp]] w fun e w' => e = .returned (.tuple #[.agg #[.slice (some ⟨g1, 0, none⟩) bl.length c1, .slice (some ⟨g2, 0, none⟩) lv.length c2, .slice (some ⟨g3, 0, none⟩) sf.length c3, .int .i64 r], .int .i64 1]) ∧ Below w.heap.size w w' := by
  obtain ⟨W0, hW0⟩ : ∃ W0, W0 = ((w.alloc (.cells #[.slice (some ⟨g1, 0, none⟩) bl.length c1, .slice (some ⟨g2, 0, none⟩) lv.length c2, .slice (some ⟨g3, 0, none⟩) sf.length c3, .int .i64 r] 26)).alloc (.cells #[.int .i64 3, .string nm, .string ot, .string da, .int .i64 kp] 28)).alloc (.cells #[.slice none 0 0, .slice none 0 0, .slice none 0 0, .int .i64 0] 26) := ⟨_, rfl⟩
  have hB0 : Below w.heap.size w W0 := by rw [hW0]; exact below3 _ _ _ _
  have X0 : Box W0 w.heap.size [.slice (some ⟨g1, 0, none⟩) bl.length c1, .slice (some ⟨g2, 0, none⟩) lv.length c2, .slice (some ⟨g3, 0, none⟩) sf.length c3, .int .i64 r] := by rw [hW0]; exact ((Box.new w _ _).alloc _).alloc _
  have Y0 : Box W0 (w.heap.size + 1) [.int .i64 3, .string nm, .string ot, .string da, .int .i64 kp] := by
    rw [hW0]
    have := (Box.new (w.alloc (.cells #[.slice (some ⟨g1, 0, none⟩) bl.length c1, .slice (some ⟨g2, 0, none⟩) lv.length c2, .slice (some ⟨g3, 0, none⟩) sf.length c3, .int .i64 r] 26)) #[.int .i64 3, .string nm, .string ot, .string da, .int .i64 kp] 28).alloc (.cells #[.slice none 0 0, .slice none 0 0, .slice none 0 0, .int .i64 0] 26)
    simpa using this
  have Z0 : Box W0 (w.heap.size + 1 + 1) [.slice none 0 0, .slice none 0 0, .slice none 0 0, .int .i64 0] := by
    rw [hW0]
    have := Box.new ((w.alloc (.cells #[.slice (some ⟨g1, 0, none⟩) bl.length c1, .slice (some ⟨g2, 0, none⟩) lv.length c2, .slice (some ⟨g3, 0, none⟩) sf.length c3, .int .i64 r] 26)).alloc (.cells #[.int .i64 3, .string nm, .string ot, .string da, .int .i64 kp] 28)) #[.slice none 0 0, .slice none 0 0, .slice none 0 0, .int .i64 0] 26
    simpa using this
  have hzW : W0.heap.size = w.heap.size + 3 := by rw [hW0]; simp
  obtain ⟨_, x0, x1, x2, x3⟩ := X0.c4
  obtain ⟨_, y0, y1, y2, y3, y4⟩ := Y0.c5
  have hE := put4_box Z0 (.slice (some ⟨g1, 0, none⟩) bl.length c1) (.slice (some ⟨g2, 0, none⟩) lv.length c2) (.slice (some ⟨g3, 0, none⟩) sf.length c3) (.int .i64 r)
  have hC := put4_chg W0 (w.heap.size + 1 + 1) (.slice (some ⟨g1, 0, none⟩) bl.length c1) (.slice (some ⟨g2, 0, none⟩) lv.length c2) (.slice (some ⟨g3, 0, none⟩) sf.length c3) (.int .i64 r)
  have hB6 := hB0.trans (hC.below (by omega) (fun b h => by omega))
  obtain ⟨_, z0, z1, z2, z3⟩ := Z0.c4
  have e0 := Z0.2.2 0
  have e1 := Z0.2.2 1
  have e2 := Z0.2.2 2
  have e3 := Z0.2.2 3
  clear hC X0 Y0 Z0
  have hin : (decide ((1 : Int) ≤ 3) && decide ((3 : Int) ≤ 8)) = true := rfl
  have hbad' : (decide ((da.size : Int) ≤ 4000) && okN nm) = false := hbad
  clear hbad
  cases hN : okN nm with
  | false =>
    go_enter Try.func56, Try.ntmps56
    go_wp2_with fail
    rw [← hW0]
    clear hW0
    refine (l1In_any _ _ _ _).mono ?_
    rintro e w1 ⟨rfl, hw⟩
    rw [hw]
    clear hw
    rw [hin]
    go_wp2_with fail
    refine (l1Name_any nm _ hnm).mono ?_
    rintro e w1 ⟨rfl, hw⟩
    rw [hw]
    clear hw
    rw [hN]
    go_wp2
    change bodyPost _ _ _ _ _ (put4 W0 (w.heap.size + 1 + 1) (.slice (some ⟨g1, 0, none⟩) bl.length c1) (.slice (some ⟨g2, 0, none⟩) lv.length c2) (.slice (some ⟨g3, 0, none⟩) sf.length c3) (.int .i64 r))
    generalize put4 W0 (w.heap.size + 1 + 1) (.slice (some ⟨g1, 0, none⟩) bl.length c1) (.slice (some ⟨g2, 0, none⟩) lv.length c2) (.slice (some ⟨g3, 0, none⟩) sf.length c3) (.int .i64 r) = W at *
    obtain ⟨_, t0, t1, t2, t3⟩ := hE.c4
    exact bodyPost_ret (v := .tuple #[.agg #[.slice (some ⟨g1, 0, none⟩) bl.length c1, .slice (some ⟨g2, 0, none⟩) lv.length c2, .slice (some ⟨g3, 0, none⟩) sf.length c3, .int .i64 r], .int .i64 1]) (by simp [results, Try.results56, go_sem, t0, t1, t2, t3]) rfl ⟨rfl, hB6⟩
  | true =>
    have hd : decide ((4000 : Int) < da.size) = true := by rw [hN, Bool.and_true] at hbad'; simp at hbad' ⊢; omega
    clear hbad'
    go_enter Try.func56, Try.ntmps56
    go_wp2_with fail
    rw [← hW0]
    clear hW0
    refine (l1In_any _ _ _ _).mono ?_
    rintro e w1 ⟨rfl, hw⟩
    rw [hw]
    clear hw
    rw [hin]
    go_wp2_with fail
    refine (l1Name_any nm _ hnm).mono ?_
    rintro e w1 ⟨rfl, hw⟩
    rw [hw]
    clear hw
    rw [hN]
    go_wp2
    change bodyPost _ _ _ _ _ (put4 W0 (w.heap.size + 1 + 1) (.slice (some ⟨g1, 0, none⟩) bl.length c1) (.slice (some ⟨g2, 0, none⟩) lv.length c2) (.slice (some ⟨g3, 0, none⟩) sf.length c3) (.int .i64 r))
    generalize put4 W0 (w.heap.size + 1 + 1) (.slice (some ⟨g1, 0, none⟩) bl.length c1) (.slice (some ⟨g2, 0, none⟩) lv.length c2) (.slice (some ⟨g3, 0, none⟩) sf.length c3) (.int .i64 r) = W at *
    obtain ⟨_, t0, t1, t2, t3⟩ := hE.c4
    exact bodyPost_ret (v := .tuple #[.agg #[.slice (some ⟨g1, 0, none⟩) bl.length c1, .slice (some ⟨g2, 0, none⟩) lv.length c2, .slice (some ⟨g3, 0, none⟩) sf.length c3, .int .i64 r], .int .i64 1]) (by simp [results, Try.results56, go_sem, t0, t1, t2, t3]) rfl ⟨rfl, hB6⟩
end Go.Proofs.Ytbgemebpfcbloaa
