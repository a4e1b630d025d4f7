/-
  An entry that is read: spec.l3Read, spec.ReadEntry, impl.takeTwoNumbers, impl.ReadEntry; laws.eqEntry.
-/
import Derived.Test.YtbgemebpfcbloaaxY1
import Derived.Test.YtbgemebpfcbloaaxV2
import Derived.Deep.RegionWith
import Derived.Deep.RegionHeld3
import Derived.Deep.DrawnRows
namespace Go.Proofs.Ytbgemebpfcbloaa
open Go.RowKit
set_option linter.unusedVariables false
set_option maxRecDepth 100000

/-- The two numbers at the front, and what is behind them. -/
def reA (s : ByteArray) : Nat × Nat := take s.data.toList
def reB (s : ByteArray) : Nat × Nat := take (s.extract (reA s).2 s.size).data.toList
def reS (s : ByteArray) : ByteArray := s.extract ((reA s).2 + (reB s).2) s.size
def reTwo (s : ByteArray) : Bool := decide ((reA s).2 ≠ 0) && decide ((reB s).2 ≠ 0)
def reOk (s : ByteArray) : Bool := reTwo s && ((decide ((1 : Int) ≤ (reA s).1) && decide (((reA s).1 : Int) ≤ 2000000)) && okEn (reB s).1 (reS s))
def reR (s : ByteArray) : Value := if reOk s then .tuple #[.int .i64 (reA s).1, .agg #[.int .i64 (reB s).1, .string (reS s)], .bool true] else .tuple #[.int .i64 0, .agg #[.int .i64 0, .string ⟨#[]⟩], .bool false]
def reT (s : ByteArray) : Value := if reTwo s then .tuple #[.int .i64 (reA s).1, .int .i64 (reB s).1, .string (reS s), .bool true] else .tuple #[.int .i64 0, .int .i64 0, .string ⟨#[]⟩, .bool false]
theorem reA_le (s : ByteArray) : (reA s).2 ≤ s.size ∧ (reA s).2 ≤ 9 ∧ (reA s).1 < 9223372036854775808 := by
  have := take_bound s.data.toList
  have e : s.data.toList.length = s.size := by rw [Array.length_toList]; rfl
  unfold reA; omega
theorem reB_le (s : ByteArray) : (reA s).2 + (reB s).2 ≤ s.size ∧ (reB s).2 ≤ 9 ∧ (reB s).1 < 9223372036854775808 := by
  have h := take_bound (s.extract (reA s).2 s.size).data.toList
  have h1 := reA_le s
  have e : (s.extract (reA s).2 s.size).data.toList.length = s.size - (reA s).2 := by
    have : (s.extract (reA s).2 s.size).data.toList.length = (s.extract (reA s).2 s.size).size := by rw [Array.length_toList]; rfl
    rw [this, ByteArray.size_extract]; omega
  unfold reB; omega
theorem reS_size (s : ByteArray) : (reS s).size ≤ s.size := by unfold reS; rw [ByteArray.size_extract]; omega

set_option maxHeartbeats 400000 in
theorem l3Read_any (s : ByteArray) (w : World) (hs : s.size ≤ 1048576) :
    Calls Try.prog 91 #[.string s] w fun e w' => e = .returned (reR s) ∧ Below w.heap.size w w' := by
  obtain ⟨a1, a2, a3⟩ := reA_le s
  obtain ⟨b1, b2, b3⟩ := reB_le s
  have hS := reS_size s
  have KA := fun w => l2Take_any s w hs
  have KB := fun w => l2Take_any (s.extract (reA s).2 s.size) w (by rw [ByteArray.size_extract]; omega)
  rw [show take s.data.toList = reA s from rfl] at KA
  rw [show take (s.extract (reA s).2 s.size).data.toList = reB s from rfl] at KB
  have HS : Hid (reS s = s.extract ((reA s).2 + (reB s).2) s.size) := rfl
  have HR : Hid (reR s = if reTwo s && ((decide ((1 : Int) ≤ (reA s).1) && decide (((reA s).1 : Int) ≤ 2000000)) && okEn (reB s).1 (reS s)) then .tuple #[.int .i64 (reA s).1, .agg #[.int .i64 (reB s).1, .string (reS s)], .bool true] else .tuple #[.int .i64 0, .agg #[.int .i64 0, .string ⟨#[]⟩], .bool false]) := rfl
  have HT : Hid (reTwo s = (decide ((reA s).2 ≠ 0) && decide ((reB s).2 ≠ 0))) := rfl
  generalize reS s = R at *
  generalize reTwo s = T2 at *
  generalize hRR : reR s = RR at *
  clear hRR
  rcases hA : reA s with ⟨i, a⟩
  rcases hB : reB s with ⟨t, b⟩
  rw [hA] at KA KB HS HR HT a1 a2 a3 b1
  rw [hB] at KB HS HR HT b1 b2 b3
  clear hA hB
  simp only at KA KB HS HR HT a1 a2 a3 b1 b2 b3
  by_cases ha : a = 0
  · have hr : RR = .tuple #[.int .i64 0, .agg #[.int .i64 0, .string ⟨#[]⟩], .bool false] := by
      rw [HR.out, HT.out, decide_eq_false (by simpa using ha)]; rfl
    subst ha
    clear HR HT HS KB b1
    go_enter Try.func91, Try.ntmps91
    go_wp2_with fail
    refine (KA _).mono ?_
    rintro e w1 ⟨rfl, rfl⟩
    go_wp2_with fail
    refine (KA _).mono ?_
    rintro e w1 ⟨rfl, rfl⟩
    go_wp2
    refine bodyPost_ret (v := RR) ?_ rfl ⟨rfl, by repeat (first | exact Below.refl _ _ | refine Below.alloc ?_ (by simp; try omega) _)⟩
    rw [hr]; simp [results, Try.results91, go_sem]
  · by_cases hb : b = 0
    · have hr : RR = .tuple #[.int .i64 0, .agg #[.int .i64 0, .string ⟨#[]⟩], .bool false] := by
        rw [HR.out, HT.out, decide_eq_false (p := b ≠ 0) (by simpa using hb), Bool.and_false]; rfl
      have g1 : ((a : Int) == 0) = false := by simp; omega
      subst hb
      clear HR HT HS
      go_enter Try.func91, Try.ntmps91
      go_wp2_with fail
      refine (KA _).mono ?_
      rintro e w1 ⟨rfl, rfl⟩
      go_wp2_with fail
      refine (KB _).mono ?_
      rintro e w1 ⟨rfl, rfl⟩
      go_wp2
      refine bodyPost_ret (v := RR) ?_ rfl ⟨rfl, by repeat (first | exact Below.refl _ _ | refine Below.alloc ?_ (by simp; try omega) _)⟩
      rw [hr]; simp [results, Try.results91, go_sem]
    · have g1 : ((a : Int) == 0) = false := by simp; omega
      have g2 : ((b : Int) == 0) = false := by simp; omega
      have HR2 : Hid (RR = if ((decide ((1 : Int) ≤ i) && decide ((i : Int) ≤ 2000000)) && okEn t R) then .tuple #[.int .i64 i, .agg #[.int .i64 t, .string R], .bool true] else .tuple #[.int .i64 0, .agg #[.int .i64 0, .string ⟨#[]⟩], .bool false]) := by
        show _ = _
        rw [HR.out, HT.out, decide_eq_true (p := a ≠ 0) ha, decide_eq_true (p := b ≠ 0) hb, Bool.true_and, Bool.true_and]
      clear HR HT
      have hsl : s.extract (a + b) s.size = R := HS.out.symm
      clear HS
      go_enter Try.func91, Try.ntmps91
      go_wp2_with fail
      refine (KA _).mono ?_
      rintro e w1 ⟨rfl, rfl⟩
      go_wp2_with fail
      refine (KB _).mono ?_
      rintro e w1 ⟨rfl, rfl⟩
      go_wp2_with fail
      refine (l1In_any _ _ _ _).mono ?_
      rintro e w1 ⟨rfl, rfl⟩
      have X1 : Box ((w.alloc (.cells #[.int .i64 0, .string ⟨#[]⟩] 80)).alloc (.cells #[.int .i64 t, .string R] 80)) w.heap.size [.int .i64 0, .string ⟨#[]⟩] := (Box.new w _ _).alloc _
      have Y1 : Box ((w.alloc (.cells #[.int .i64 0, .string ⟨#[]⟩] 80)).alloc (.cells #[.int .i64 t, .string R] 80)) (w.heap.size + 1) [.int .i64 t, .string R] := by
        have := Box.new (w.alloc (.cells #[.int .i64 0, .string ⟨#[]⟩] 80)) #[.int .i64 t, .string R] 80
        simpa using this
      have hB1 : Below w.heap.size w ((w.alloc (.cells #[.int .i64 0, .string ⟨#[]⟩] 80)).alloc (.cells #[.int .i64 t, .string R] 80)) := below2 _ _ _
      generalize ((w.alloc (.cells #[.int .i64 0, .string ⟨#[]⟩] 80)).alloc (.cells #[.int .i64 t, .string R] 80)) = w1 at *
      obtain ⟨hz, y0, y1⟩ := Y1.c2
      cases hin : (decide ((1 : Int) ≤ i) && decide ((i : Int) ≤ 2000000)) with
      | false =>
        have hr : RR = .tuple #[.int .i64 0, .agg #[.int .i64 0, .string ⟨#[]⟩], .bool false] := by rw [HR2.out, hin]; rfl
        obtain ⟨_, x0, x1⟩ := X1.c2
        have f0 := X1.2.2 0
        have f1 := X1.2.2 1
        clear HR2
        go_wp2
        have Z : Box ((w1.setCell ⟨w.heap.size, 0, none⟩ (.int .i64 0)).setCell ⟨w.heap.size, 1, none⟩ (.string ⟨#[]⟩)) w.heap.size [.int .i64 0, .string ⟨#[]⟩] := (X1.set 0 _ (by simp)).set 1 _ (by simp)
        have hB2 := (hB1.setCell (p := ⟨w.heap.size, 0, none⟩) (Nat.le_refl _) (.int .i64 0)).setCell (p := ⟨w.heap.size, 1, none⟩) (Nat.le_refl _) (.string ⟨#[]⟩)
        generalize (w1.setCell ⟨w.heap.size, 0, none⟩ (.int .i64 0)).setCell ⟨w.heap.size, 1, none⟩ (.string ⟨#[]⟩) = w2 at *
        obtain ⟨_, z0, z1⟩ := Z.c2
        refine bodyPost_ret (v := RR) ?_ rfl ⟨rfl, hB2⟩
        rw [hr]; simp [results, Try.results91, go_sem, z0, z1]
      | true =>
        go_wp2_with fail
        refine (l3Entry_any t R _ (by omega)).mono ?_
        rintro e w2 ⟨rfl, hb2⟩
        have hB2 := below_then hB1 hb2
        have X2 := X1.below hb2
        have Y2 := Y1.below hb2
        clear X1 Y1 hB1 hb2 hz y0 y1
        obtain ⟨_, x0, x1⟩ := X2.c2
        obtain ⟨_, y0, y1⟩ := Y2.c2
        have f0 := X2.2.2 0
        have f1 := X2.2.2 1
        cases he : okEn t R with
        | false =>
          have hr : RR = .tuple #[.int .i64 0, .agg #[.int .i64 0, .string ⟨#[]⟩], .bool false] := by rw [HR2.out, hin, he]; rfl
          clear HR2
          go_wp2
          have Z : Box ((w2.setCell ⟨w.heap.size, 0, none⟩ (.int .i64 0)).setCell ⟨w.heap.size, 1, none⟩ (.string ⟨#[]⟩)) w.heap.size [.int .i64 0, .string ⟨#[]⟩] := (X2.set 0 _ (by simp)).set 1 _ (by simp)
          have hB3 := (hB2.setCell (p := ⟨w.heap.size, 0, none⟩) (Nat.le_refl _) (.int .i64 0)).setCell (p := ⟨w.heap.size, 1, none⟩) (Nat.le_refl _) (.string ⟨#[]⟩)
          generalize (w2.setCell ⟨w.heap.size, 0, none⟩ (.int .i64 0)).setCell ⟨w.heap.size, 1, none⟩ (.string ⟨#[]⟩) = w3 at *
          obtain ⟨_, z0, z1⟩ := Z.c2
          refine bodyPost_ret (v := RR) ?_ rfl ⟨rfl, hB3⟩
          rw [hr]; simp [results, Try.results91, go_sem, z0, z1]
        | true =>
          have hr : RR = .tuple #[.int .i64 i, .agg #[.int .i64 t, .string R], .bool true] := by rw [HR2.out, hin, he]; rfl
          clear HR2
          go_wp2_with fail
          go_region
          all_goals
            go_wp2
            have Z : Box ((w2.setCell ⟨w.heap.size, 0, none⟩ (.int .i64 t)).setCell ⟨w.heap.size, 1, none⟩ (.string R)).drew w.heap.size [.int .i64 t, .string R] := ((X2.set 0 _ (by simp)).set 1 _ (by simp)).below (Below.refl _ _).drew
            have hB3 := ((hB2.setCell (p := ⟨w.heap.size, 0, none⟩) (Nat.le_refl _) (.int .i64 t)).setCell (p := ⟨w.heap.size, 1, none⟩) (Nat.le_refl _) (.string R)).drew
            generalize ((w2.setCell ⟨w.heap.size, 0, none⟩ (.int .i64 t)).setCell ⟨w.heap.size, 1, none⟩ (.string R)).drew = w3 at *
            obtain ⟨_, z0, z1⟩ := Z.c2
            refine bodyPost_ret (v := RR) ?_ rfl ⟨rfl, hB3⟩
            rw [hr]; simp [results, Try.results91, go_sem, z0, z1]

theorem reR_shape (s : ByteArray) : ∃ (i t : Int) (R : ByteArray) (ok : Bool), reR s = .tuple #[.int .i64 i, .agg #[.int .i64 t, .string R], .bool ok] := by
  unfold reR; split
  · exact ⟨_, _, _, _, rfl⟩
  · exact ⟨_, _, _, _, rfl⟩

set_option maxHeartbeats 1000000 in
theorem specReadEntry_any (s : ByteArray) (w : World) (hs : s.size ≤ 1048576) :
    Calls Try.prog 47 #[.string s] w fun e w' => e = .returned (reR s) ∧ Below w.heap.size w w' := by
  obtain ⟨i, t, R, ok, hr⟩ := reR_shape s
  have K := fun w => l3Read_any s w hs
  rw [hr] at K ⊢
  clear hr
  go_enter Try.func47, Try.ntmps47
  go_wp2_with fail
  refine (K _).mono ?_
  rintro e w1 ⟨rfl, hb1⟩
  have X1 := (Box.new w #[.int .i64 0, .string ⟨#[]⟩] 80).below hb1
  have hB1 := below_then (below_alloc _ _) hb1
  clear hb1 K
  obtain ⟨_, x0, x1⟩ := X1.c2
  have f0 := X1.2.2 0
  have f1 := X1.2.2 1
  go_wp2
  have Z : Box ((w1.setCell ⟨w.heap.size, 0, none⟩ (.int .i64 t)).setCell ⟨w.heap.size, 1, none⟩ (.string R)) w.heap.size [.int .i64 t, .string R] := (X1.set 0 _ (by simp)).set 1 _ (by simp)
  have hB3 := (hB1.setCell (p := ⟨w.heap.size, 0, none⟩) (Nat.le_refl _) (.int .i64 t)).setCell (p := ⟨w.heap.size, 1, none⟩) (Nat.le_refl _) (.string R)
  generalize (w1.setCell ⟨w.heap.size, 0, none⟩ (.int .i64 t)).setCell ⟨w.heap.size, 1, none⟩ (.string R) = w3 at *
  obtain ⟨_, z0, z1⟩ := Z.c2
  refine bodyPost_ret (v := .tuple #[.int .i64 i, .agg #[.int .i64 t, .string R], .bool ok]) ?_ rfl ⟨rfl, hB3⟩
  simp [results, Try.results47, go_sem, z0, z1]

set_option maxHeartbeats 1000000 in
theorem takeTwo_any (s : ByteArray) (w : World) (hs : s.size ≤ 1048576) :
    Calls Try.prog 92 #[.string s] w fun e w' => e = .returned (reT s) ∧ Below w.heap.size w w' := by
  obtain ⟨a1, a2, a3⟩ := reA_le s
  obtain ⟨b1, b2, b3⟩ := reB_le s
  have KA := fun w => implTake_any s w hs
  have KB := fun w => implTake_any (s.extract (reA s).2 s.size) w (by rw [ByteArray.size_extract]; omega)
  rw [show take s.data.toList = reA s from rfl] at KA
  rw [show take (s.extract (reA s).2 s.size).data.toList = reB s from rfl] at KB
  have HS : Hid (reS s = s.extract ((reA s).2 + (reB s).2) s.size) := rfl
  have HR : Hid (reT s = if decide ((reA s).2 ≠ 0) && decide ((reB s).2 ≠ 0) then .tuple #[.int .i64 (reA s).1, .int .i64 (reB s).1, .string (reS s), .bool true] else .tuple #[.int .i64 0, .int .i64 0, .string ⟨#[]⟩, .bool false]) := rfl
  generalize reS s = R at *
  generalize hRR : reT s = RR at *
  clear hRR
  rcases hA : reA s with ⟨i, a⟩
  rcases hB : reB s with ⟨t, b⟩
  rw [hA] at KA KB HS HR a1 a2 a3 b1
  rw [hB] at KB HS HR b1 b2 b3
  clear hA hB
  simp only at KA KB HS HR a1 a2 a3 b1 b2 b3
  by_cases ha : a = 0
  · have hr : RR = .tuple #[.int .i64 0, .int .i64 0, .string ⟨#[]⟩, .bool false] := by
      rw [HR.out, decide_eq_false (p := a ≠ 0) (by simpa using ha)]; rfl
    subst ha
    clear HR HS KB b1
    go_enter Try.func92, Try.ntmps92
    go_wp2_with fail
    refine (KA _).mono ?_
    rintro e w1 ⟨rfl, rfl⟩
    go_wp2_with fail
    refine (KA _).mono ?_
    rintro e w1 ⟨rfl, rfl⟩
    go_wp2
    refine bodyPost_ret (v := RR) ?_ rfl ⟨rfl, Below.refl _ _⟩
    rw [hr]; simp [results, Try.results92, go_sem]
  · by_cases hb : b = 0
    · have hr : RR = .tuple #[.int .i64 0, .int .i64 0, .string ⟨#[]⟩, .bool false] := by
        rw [HR.out, decide_eq_false (p := b ≠ 0) (by simpa using hb), Bool.and_false]; rfl
      have g1 : ((a : Int) == 0) = false := by simp; omega
      subst hb
      clear HR HS
      go_enter Try.func92, Try.ntmps92
      go_wp2_with fail
      refine (KA _).mono ?_
      rintro e w1 ⟨rfl, rfl⟩
      go_wp2_with fail
      refine (KB _).mono ?_
      rintro e w1 ⟨rfl, rfl⟩
      go_wp2
      refine bodyPost_ret (v := RR) ?_ rfl ⟨rfl, Below.refl _ _⟩
      rw [hr]; simp [results, Try.results92, go_sem]
    · have g1 : ((a : Int) == 0) = false := by simp; omega
      have g2 : ((b : Int) == 0) = false := by simp; omega
      have hr : RR = .tuple #[.int .i64 i, .int .i64 t, .string R, .bool true] := by
        rw [HR.out, decide_eq_true (p := a ≠ 0) ha, decide_eq_true (p := b ≠ 0) hb]; rfl
      have hsl : s.extract (a + b) s.size = R := HS.out.symm
      clear HS HR
      go_enter Try.func92, Try.ntmps92
      go_wp2_with fail
      refine (KA _).mono ?_
      rintro e w1 ⟨rfl, rfl⟩
      go_wp2_with fail
      refine (KB _).mono ?_
      rintro e w1 ⟨rfl, rfl⟩
      go_wp2_with fail
      go_quiet (fail)
      go_wp2
      refine bodyPost_ret (v := RR) ?_ rfl ⟨rfl, by repeat (first | exact Below.refl _ _ | refine Below.drew ?_ | exact below_drewN (Below.refl _ _) _)⟩
      rw [hr]; simp [results, Try.results92, go_sem, hsl]
end Go.Proofs.Ytbgemebpfcbloaa
