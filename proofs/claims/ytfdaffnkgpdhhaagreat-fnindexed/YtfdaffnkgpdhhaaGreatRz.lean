/-
  Two numbers at the front: impl.takeTwoNumbers; a place: impl.placeFrom; the parts of a block: impl.blockParts.
  The parts of a block: impl.blockParts.
-/
import Derived.Test.YtfdaffnkgpdhhaaGreatBx
import Derived.Deep.RegionHeld3
namespace Go.Proofs.YtfdaffnkgpdhhaaGreat
open Go.RowKit
set_option linter.unusedVariables false
set_option maxRecDepth 100000

/-- The two numbers at the front, and what is behind them. -/
def reA (s : ByteArray) : Nat × Nat := take s.data.toList
def reB (s : ByteArray) : Nat × Nat := take (s.extract (reA s).2 s.size).data.toList
def reS (s : ByteArray) : ByteArray := s.extract ((reA s).2 + (reB s).2) s.size
def reTwo (s : ByteArray) : Bool := decide ((reA s).2 ≠ 0) && decide ((reB s).2 ≠ 0)
def reT (s : ByteArray) : Value := if reTwo s then .tuple #[.int .i64 (reA s).1, .int .i64 (reB s).1, .string (reS s), .bool true] else .tuple #[.int .i64 0, .int .i64 0, .string ⟨#[]⟩, .bool false]
theorem reA_le (s : ByteArray) : (reA s).2 ≤ s.size ∧ (reA s).2 ≤ 9 ∧ (reA s).1 < 9223372036854775808 := by
  have := take_bound s.data.toList
  have e : s.data.toList.length = s.size := by rw [Array.length_toList]; rfl
  unfold reA; omega
theorem reB_le (s : ByteArray) : (reA s).2 + (reB s).2 ≤ s.size ∧ (reB s).2 ≤ 9 ∧ (reB s).1 < 9223372036854775808 := by
  have h := take_bound (s.extract (reA s).2 s.size).data.toList
  have h1 := reA_le s
  have e : (s.extract (reA s).2 s.size).data.toList.length = s.size - (reA s).2 := by
    have : (s.extract (reA s).2 s.size).data.toList.length = (s.extract (reA s).2 s.size).size := by rw [Array.length_toList]; rfl
    rw [this, ByteArray.size_extract]; omega
  unfold reB; omega
theorem reS_size (s : ByteArray) : (reS s).size ≤ s.size := by unfold reS; rw [ByteArray.size_extract]; omega

set_option maxHeartbeats 1000000 in
theorem takeTwo_any (s : ByteArray) (w : World) (hs : s.size ≤ 1048576) :
    Calls Tryz.prog 135 #[.string s] w fun e w' => e = .returned (reT s) ∧ Below w.heap.size w w' := by
  obtain ⟨a1, a2, a3⟩ := reA_le s
  obtain ⟨b1, b2, b3⟩ := reB_le s
  have KA := fun w => implTake_any s w hs
  have KB := fun w => implTake_any (s.extract (reA s).2 s.size) w (by rw [ByteArray.size_extract]; omega)
  rw [show take s.data.toList = reA s from rfl] at KA
  rw [show take (s.extract (reA s).2 s.size).data.toList = reB s from rfl] at KB
  have HS : Hid (reS s = s.extract ((reA s).2 + (reB s).2) s.size) := rfl
  have HR : Hid (reT s = if decide ((reA s).2 ≠ 0) && decide ((reB s).2 ≠ 0) then .tuple #[.int .i64 (reA s).1, .int .i64 (reB s).1, .string (reS s), .bool true] else .tuple #[.int .i64 0, .int .i64 0, .string ⟨#[]⟩, .bool false]) := rfl
  generalize reS s = R at *
  generalize hRR : reT s = RR at *
  clear hRR
  rcases hA : reA s with ⟨i, a⟩
  rcases hB : reB s with ⟨t, b⟩
  rw [hA] at KA KB HS HR a1 a2 a3 b1
  rw [hB] at KB HS HR b1 b2 b3
  clear hA hB
  simp only at KA KB HS HR a1 a2 a3 b1 b2 b3
  by_cases ha : a = 0
  · have hr : RR = .tuple #[.int .i64 0, .int .i64 0, .string ⟨#[]⟩, .bool false] := by
      rw [HR.out, decide_eq_false (p := a ≠ 0) (by simpa using ha)]; rfl
    subst ha
    clear HR HS KB b1
    go_enter Tryz.func135, Tryz.ntmps135
    go_wp2_with fail
    refine (KA _).mono ?_
    rintro e w1 ⟨rfl, rfl⟩
    go_wp2_with fail
    refine (KA _).mono ?_
    rintro e w1 ⟨rfl, rfl⟩
    go_wp2
    refine bodyPost_ret (v := RR) ?_ rfl ⟨rfl, Below.refl _ _⟩
    rw [hr]; simp [results, Tryz.results135, go_sem]
  · by_cases hb : b = 0
    · have hr : RR = .tuple #[.int .i64 0, .int .i64 0, .string ⟨#[]⟩, .bool false] := by
        rw [HR.out, decide_eq_false (p := b ≠ 0) (by simpa using hb), Bool.and_false]; rfl
      have g1 : ((a : Int) == 0) = false := by simp; omega
      subst hb
      clear HR HS
      go_enter Tryz.func135, Tryz.ntmps135
      go_wp2_with fail
      refine (KA _).mono ?_
      rintro e w1 ⟨rfl, rfl⟩
      go_wp2_with fail
      refine (KB _).mono ?_
      rintro e w1 ⟨rfl, rfl⟩
      go_wp2
      refine bodyPost_ret (v := RR) ?_ rfl ⟨rfl, Below.refl _ _⟩
      rw [hr]; simp [results, Tryz.results135, go_sem]
    · have g1 : ((a : Int) == 0) = false := by simp; omega
      have g2 : ((b : Int) == 0) = false := by simp; omega
      have hr : RR = .tuple #[.int .i64 i, .int .i64 t, .string R, .bool true] := by
        rw [HR.out, decide_eq_true (p := a ≠ 0) ha, decide_eq_true (p := b ≠ 0) hb]; rfl
      have hsl : s.extract (a + b) s.size = R := HS.out.symm
      clear HS HR
      go_enter Tryz.func135, Tryz.ntmps135
      go_wp2_with fail
      refine (KA _).mono ?_
      rintro e w1 ⟨rfl, rfl⟩
      go_wp2_with fail
      refine (KB _).mono ?_
      rintro e w1 ⟨rfl, rfl⟩
      go_wp2_with fail
      go_quiet (fail)
      go_wp2
      refine bodyPost_ret (v := RR) ?_ rfl ⟨rfl, by repeat (first | exact Below.refl _ _ | refine Below.drew ?_ | exact below_drewN (Below.refl _ _) _)⟩
      rw [hr]; simp [results, Tryz.results135, go_sem, hsl]

theorem lo2_at (s : ByteArray) (i : Nat) (h : i + 1 < s.size) : (lo2 (bl s) i : Int) = (s[i].toNat : Int) + 256 * (s[i + 1].toNat : Int) := by
  unfold lo2
  rw [List.getD_eq_getElem?_getD, List.getD_eq_getElem?_getD, bl_at s i (by omega), bl_at s (i + 1) h]
  simp
set_option maxHeartbeats 1000000 in
theorem placeFrom_any (s : ByteArray) (w : World) (h : 2 ≤ s.size) (hs : s.size ≤ 1048576) :
    Calls Tryz.prog 116 #[.string s] w fun e w' => e = .returned (.int .i64 (lo2 (bl s) 0 : Nat)) ∧ Below w.heap.size w w' := by
  have HL : Hid ((lo2 (bl s) 0 : Int) = (s[0].toNat : Int) + 256 * (s[1].toNat : Int)) := lo2_at s 0 (by omega)
  generalize lo2 (bl s) 0 = R at *
  have i0 : 0 < s.size := by omega
  have i1 : 1 < s.size := by omega
  have i2 : (1 : Int) < (s.size : Int) := by omega
  have i3 : (0 : Int) < (s.size : Int) := by omega
  have c0 := s[0].toNat_lt
  have c1 := s[1].toNat_lt
  go_enter Tryz.func116, Tryz.ntmps116
  go_wp2_with fail
  go_quiet (fail)
  go_wp2
  go_ret
  exact ⟨by rw [HL.out]; go_num, below_drewN (Below.refl _ _) _⟩
end Go.Proofs.YtfdaffnkgpdhhaaGreat

namespace Go.Proofs.YtfdaffnkgpdhhaaGreat
open Go.RowKit
set_option linter.unusedVariables false
set_option maxRecDepth 100000

/-- What blockParts answers. -/
def paA (s : ByteArray) : ByteArray := if parts (bl s) then s.extract 0 (fromN (bl s)) else ⟨#[]⟩
def paB (s : ByteArray) : ByteArray := if parts (bl s) then s.extract (fromN (bl s)) (s.size - 6) else ⟨#[]⟩
theorem lo2_ext (s : ByteArray) (e : Nat) : lo2 (bl (s.extract e s.size)) 0 = lo2 (bl s) e := by
  rw [bl_from]
  unfold lo2
  simp [List.getD_eq_getElem?_getD, List.getElem?_drop]

set_option maxHeartbeats 1000000 in
theorem blockParts_any (s : ByteArray) (w : World) (hs : s.size ≤ 1048576) :
    Calls Tryz.prog 86 #[.string s] w fun e w' => e = .returned (.tuple #[.string (paA s), .string (paB s), .bool (parts (bl s))]) ∧ Below w.heap.size w w' := by
  by_cases h6 : 6 ≤ s.size
  · obtain ⟨e, he⟩ : ∃ e, s.size = e + 6 := ⟨s.size - 6, by omega⟩
    have KP := fun w => placeFrom_any (s.extract e s.size) w (by rw [ByteArray.size_extract]; omega) (by rw [ByteArray.size_extract]; omega)
    rw [lo2_ext] at KP
    have hm : many (bl s) = lo2 (bl s) e := by unfold many; rw [bl_len, he, Nat.add_sub_cancel]
    have hml := lo2_lt (bl s) e
    have E1 : (s.size : Int) - 2 - 4 = (e : Int) := by omega
    have E2 : (s.size : Int) - 6 = (e : Int) := by omega
    have hp : parts (bl s) = decide (2 * lo2 (bl s) e ≤ e) := by
      unfold parts; rw [hm, bl_len, he, Nat.add_sub_cancel, decide_eq_true (by omega), Bool.true_and]
    have hf : fromN (bl s) = e - 2 * lo2 (bl s) e := by unfold fromN; rw [hm, bl_len, he, Nat.add_sub_cancel]
    have HA : Hid (paA s = if decide (2 * lo2 (bl s) e ≤ e) then s.extract 0 (e - 2 * lo2 (bl s) e) else ⟨#[]⟩) := by show _ = _; unfold paA; rw [hp, hf]
    have HB : Hid (paB s = if decide (2 * lo2 (bl s) e ≤ e) then s.extract (e - 2 * lo2 (bl s) e) e else ⟨#[]⟩) := by show _ = _; unfold paB; rw [hp, hf, he, Nat.add_sub_cancel]
    rw [hp]
    have heA : e + 6 ≤ s.size := by omega
    have heB : s.size ≤ e + 6 := by omega
    clear hp hf hm he
    generalize lo2 (bl s) e = m at *
    generalize paA s = PA at *
    generalize paB s = PB at *
    by_cases hle : 2 * m ≤ e
    · rw [decide_eq_true hle] at HA HB ⊢
      rw [if_pos rfl] at HA HB
      obtain ⟨f, hf⟩ : ∃ f, f = e - 2 * m := ⟨_, rfl⟩
      rw [← hf] at HA HB
      have F1 : (e : Int) - 2 * (m : Int) = (f : Int) := by omega
      have hfe : f ≤ e := by omega
      have hfs : f ≤ s.size := by omega
      have hes : e ≤ s.size := by omega
      clear hf
      go_enter Tryz.func86, Tryz.ntmps86
      go_wp2_with fail
      refine (KP _).mono ?_
      rintro e w1 ⟨rfl, hb1⟩
      clear KP
      go_wp2_with fail
      go_quiet (fail)
      go_wp2
      refine bodyPost_ret (v := .tuple #[.string PA, .string PB, .bool true]) ?_ rfl ⟨rfl, below_drewN hb1 _⟩
      rw [HA.out, HB.out]
      simp [results, Tryz.results86, go_sem]
    · rw [decide_eq_false hle] at HA HB ⊢
      rw [if_neg (by simp)] at HA HB
      have F1 : (e : Int) - 2 * (m : Int) < 0 := by omega
      go_enter Tryz.func86, Tryz.ntmps86
      go_wp2_with fail
      refine (KP _).mono ?_
      rintro e w1 ⟨rfl, hb1⟩
      clear KP
      go_wp2
      refine bodyPost_ret (v := .tuple #[.string PA, .string PB, .bool false]) ?_ rfl ⟨rfl, hb1⟩
      rw [HA.out, HB.out]
      simp [results, Tryz.results86, go_sem]
  · have hp : parts (bl s) = false := by unfold parts; rw [bl_len, decide_eq_false h6, Bool.false_and]
    have HA : Hid (paA s = ⟨#[]⟩) := by show _ = _; unfold paA; rw [if_neg (by rw [hp]; simp)]
    have HB : Hid (paB s = ⟨#[]⟩) := by show _ = _; unfold paB; rw [if_neg (by rw [hp]; simp)]
    rw [hp]
    clear hp
    generalize paA s = PA at *
    generalize paB s = PB at *
    have E1 : (s.size : Int) - 2 - 4 < 0 := by omega
    have E2 : (s.size : Int) - 6 < 0 := by omega
    go_enter Tryz.func86, Tryz.ntmps86
    go_wp2
    refine bodyPost_ret (v := .tuple #[.string PA, .string PB, .bool false]) ?_ rfl ⟨rfl, Below.refl _ _⟩
    rw [HA.out, HB.out]
    simp [results, Tryz.results86, go_sem]
end Go.Proofs.YtfdaffnkgpdhhaaGreat

