/-
  The parts of a block: impl.blockParts.
-/
import Derived.Test.YtniepppbbkoanaaR1
namespace Go.Proofs.Ytniepppbbkoanaa
open Go.RowKit
set_option linter.unusedVariables false
set_option maxRecDepth 100000

/-- What blockParts answers. -/
def paA (s : ByteArray) : ByteArray := if parts (bl s) then s.extract 0 (fromN (bl s)) else ⟨#[]⟩
def paB (s : ByteArray) : ByteArray := if parts (bl s) then s.extract (fromN (bl s)) (s.size - 6) else ⟨#[]⟩
theorem lo2_ext (s : ByteArray) (e : Nat) : lo2 (bl (s.extract e s.size)) 0 = lo2 (bl s) e := by
  rw [bl_from]
  unfold lo2
  simp [List.getD_eq_getElem?_getD, List.getElem?_drop]

set_option maxHeartbeats 1000000 in
theorem blockParts_any (s : ByteArray) (w : World) (hs : s.size ≤ 1048576) :
    Calls Try.prog 45 #[.string s] w fun e w' => e = .returned (.tuple #[.string (paA s), .string (paB s), .bool (parts (bl s))]) ∧ Below w.heap.size w w' := by
  by_cases h6 : 6 ≤ s.size
  · obtain ⟨e, he⟩ : ∃ e, s.size = e + 6 := ⟨s.size - 6, by omega⟩
    have KP := fun w => placeFrom_any (s.extract e s.size) w (by rw [ByteArray.size_extract]; omega) (by rw [ByteArray.size_extract]; omega)
    rw [lo2_ext] at KP
    have hm : many (bl s) = lo2 (bl s) e := by unfold many; rw [bl_len, he, Nat.add_sub_cancel]
    have hml := lo2_lt (bl s) e
    have E1 : (s.size : Int) - 2 - 4 = (e : Int) := by omega
    have E2 : (s.size : Int) - 6 = (e : Int) := by omega
    have hp : parts (bl s) = decide (2 * lo2 (bl s) e ≤ e) := by
      unfold parts; rw [hm, bl_len, he, Nat.add_sub_cancel, decide_eq_true (by omega), Bool.true_and]
    have hf : fromN (bl s) = e - 2 * lo2 (bl s) e := by unfold fromN; rw [hm, bl_len, he, Nat.add_sub_cancel]
    have HA : Hid (paA s = if decide (2 * lo2 (bl s) e ≤ e) then s.extract 0 (e - 2 * lo2 (bl s) e) else ⟨#[]⟩) := by show _ = _; unfold paA; rw [hp, hf]
    have HB : Hid (paB s = if decide (2 * lo2 (bl s) e ≤ e) then s.extract (e - 2 * lo2 (bl s) e) e else ⟨#[]⟩) := by show _ = _; unfold paB; rw [hp, hf, he, Nat.add_sub_cancel]
    rw [hp]
    have heA : e + 6 ≤ s.size := by omega
    have heB : s.size ≤ e + 6 := by omega
    clear hp hf hm he
    generalize lo2 (bl s) e = m at *
    generalize paA s = PA at *
    generalize paB s = PB at *
    by_cases hle : 2 * m ≤ e
    · rw [decide_eq_true hle] at HA HB ⊢
      rw [if_pos rfl] at HA HB
      obtain ⟨f, hf⟩ : ∃ f, f = e - 2 * m := ⟨_, rfl⟩
      rw [← hf] at HA HB
      have F1 : (e : Int) - 2 * (m : Int) = (f : Int) := by omega
      have hfe : f ≤ e := by omega
      have hfs : f ≤ s.size := by omega
      have hes : e ≤ s.size := by omega
      clear hf
      go_enter Try.func45, Try.ntmps45
      go_wp2_with fail
      refine (KP _).mono ?_
      rintro e w1 ⟨rfl, hb1⟩
      clear KP
      go_wp2_with fail
      go_quiet (fail)
      go_wp2
      refine bodyPost_ret (v := .tuple #[.string PA, .string PB, .bool true]) ?_ rfl ⟨rfl, below_drewN hb1 _⟩
      rw [HA.out, HB.out]
      simp [results, Try.results45, go_sem]
    · rw [decide_eq_false hle] at HA HB ⊢
      rw [if_neg (by simp)] at HA HB
      have F1 : (e : Int) - 2 * (m : Int) < 0 := by omega
      go_enter Try.func45, Try.ntmps45
      go_wp2_with fail
      refine (KP _).mono ?_
      rintro e w1 ⟨rfl, hb1⟩
      clear KP
      go_wp2
      refine bodyPost_ret (v := .tuple #[.string PA, .string PB, .bool false]) ?_ rfl ⟨rfl, hb1⟩
      rw [HA.out, HB.out]
      simp [results, Try.results45, go_sem]
  · have hp : parts (bl s) = false := by unfold parts; rw [bl_len, decide_eq_false h6, Bool.false_and]
    have HA : Hid (paA s = ⟨#[]⟩) := by show _ = _; unfold paA; rw [if_neg (by rw [hp]; simp)]
    have HB : Hid (paB s = ⟨#[]⟩) := by show _ = _; unfold paB; rw [if_neg (by rw [hp]; simp)]
    rw [hp]
    clear hp
    generalize paA s = PA at *
    generalize paB s = PB at *
    have E1 : (s.size : Int) - 2 - 4 < 0 := by omega
    have E2 : (s.size : Int) - 6 < 0 := by omega
    go_enter Try.func45, Try.ntmps45
    go_wp2
    refine bodyPost_ret (v := .tuple #[.string PA, .string PB, .bool false]) ?_ rfl ⟨rfl, Below.refl _ _⟩
    rw [HA.out, HB.out]
    simp [results, Try.results45, go_sem]
end Go.Proofs.Ytniepppbbkoanaa
