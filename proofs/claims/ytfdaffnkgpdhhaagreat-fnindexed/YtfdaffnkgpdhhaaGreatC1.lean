/-
  CommonOf, both.
-/
import Derived.Test.YtfdaffnkgpdhhaaGreatPz
import Derived.Test.YtfdaffnkgpdhhaaGreatC
import Derived.BigQuiet
namespace Go.Proofs.YtfdaffnkgpdhhaaGreat
open Go.RowKit
set_option linter.unusedVariables false
set_option maxRecDepth 100000

theorem bl_at (a : ByteArray) (k : Nat) (h : k < a.size) : (bl a)[k]? = some a[k] := by
  rw [List.getElem?_eq_getElem (by rw [bl_len]; exact h)]
  simp [bl]; rfl
theorem bl_getElem (a : ByteArray) (k : Nat) (h : k < a.size) (h' : k < (bl a).length) : (bl a)[k] = a[k] := by
  simp [bl]; rfl
theorem com_of (a b : ByteArray) (k : Nat) (ha : k ≤ a.size) (hb : k ≤ b.size) (h1 : ∀ j, j < k → (bl a)[j]? = (bl b)[j]?) (h2 : ∀ (x : k < a.size) (y : k < b.size), a[k].toNat ≠ b[k].toNat) : com (bl a) (bl b) = k := by
  refine com_eq _ _ k (by rw [bl_len]; exact ha) (by rw [bl_len]; exact hb) h1 ?_
  intro x y e
  rw [bl_len] at x y
  rw [bl_getElem a k x, bl_getElem b k y] at e
  exact h2 x y (congrArg UInt8.toNat e)
theorem com_next (a b : ByteArray) (k : Nat) (x : k < a.size) (y : k < b.size) (h1 : ∀ j, j < k → (bl a)[j]? = (bl b)[j]?) (h2 : a[k].toNat = b[k].toNat) : ∀ j, j < k + 1 → (bl a)[j]? = (bl b)[j]? := by
  intro j hj
  by_cases h : j < k
  · exact h1 j h
  · obtain rfl : j = k := by omega
    rw [bl_at a j x, bl_at b j y, UInt8.toNat_inj.1 h2]

set_option maxHeartbeats 1000000 in
theorem specCommon_any (a b : ByteArray) (w : World) (ha : a.size ≤ 1048576) (hb : b.size ≤ 1048576) :
    Calls Tryz.prog 113 #[.string a, .string b] w fun e w' => e = .returned (.int .i64 (com (bl a) (bl b) : Nat)) ∧ Below w.heap.size w w' := by
  go_enter Tryz.func113, Tryz.ntmps113
  go_wp2
  go_loopw [5] (fun n wr => ∃ k : Nat, k ≤ a.size ∧ k ≤ b.size ∧ n = .int .i64 k ∧ (∀ j, j < k → (bl a)[j]? = (bl b)[j]?) ∧ Below w.heap.size w wr) (fun n _ => a.size - (intOf n).toNat)
  case atStart => exact ⟨0, by omega, by omega, rfl, by intro j hj; omega, Below.refl _ _⟩
  case round =>
    obtain ⟨k, hka, hkb, rfl, hs, hbw⟩ := hrel
    have HS : Hid (∀ j, j < k → (bl a)[j]? = (bl b)[j]?) := hs
    clear hs
    by_cases h1 : k < a.size
    · by_cases h2 : k < b.size
      · have c1 := a[k].toNat_lt
        have c2 := b[k].toNat_lt
        by_cases h3 : a[k].toNat = b[k].toNat
        · have HN := com_next a b k h1 h2 HS.out h3
          have HN' : Hid (∀ j, j < k + 1 → (bl a)[j]? = (bl b)[j]?) := HN
          clear HN HS
          go_wp2_with fail
          go_quiet (fail)
          go_wp2
          go_roundw
          case rel => exact ⟨k + 1, by omega, by omega, by go_num, HN'.out, below_drewN hbw _⟩
          case measure => simp [intOf]; omega
        · have HC : Hid (com (bl a) (bl b) = k) := com_of a b k hka hkb HS.out (fun _ _ => h3)
          clear HS
          go_wp2_with fail
          go_quiet (fail)
          go_wp2
          go_ret
          exact ⟨by rw [HC.out]; rfl, below_drewN hbw _⟩
      · have HC : Hid (com (bl a) (bl b) = k) := com_of a b k hka hkb HS.out (fun _ y => absurd y h2)
        clear HS
        go_wp2_with fail
        go_quiet (fail)
        go_wp2
        go_ret
        exact ⟨by rw [HC.out]; rfl, below_drewN hbw _⟩
    · have HC : Hid (com (bl a) (bl b) = k) := com_of a b k hka hkb HS.out (fun x _ => absurd x h1)
      clear HS
      go_wp2_with fail
      go_quiet (fail)
      go_wp2
      go_ret
      exact ⟨by rw [HC.out]; rfl, below_drewN hbw _⟩

set_option maxHeartbeats 1000000 in
theorem implCommon_any (a b : ByteArray) (w : World) (ha : a.size ≤ 1048576) (hb : b.size ≤ 1048576) :
    Calls Tryz.prog 104 #[.string a, .string b] w fun e w' => e = .returned (.int .i64 (com (bl a) (bl b) : Nat)) ∧ Below w.heap.size w w' := by
  go_enter Tryz.func104, Tryz.ntmps104
  go_wp2
  go_loopw [5] (fun n wr => ∃ k : Nat, k ≤ a.size ∧ k ≤ b.size ∧ n = .int .i64 k ∧ (∀ j, j < k → (bl a)[j]? = (bl b)[j]?) ∧ Below w.heap.size w wr) (fun n _ => a.size - (intOf n).toNat)
  case atStart => exact ⟨0, by omega, by omega, rfl, by intro j hj; omega, Below.refl _ _⟩
  case round =>
    obtain ⟨k, hka, hkb, rfl, hs, hbw⟩ := hrel
    have HS : Hid (∀ j, j < k → (bl a)[j]? = (bl b)[j]?) := hs
    clear hs
    by_cases h1 : k < a.size
    · by_cases h2 : k < b.size
      · have c1 := a[k].toNat_lt
        have c2 := b[k].toNat_lt
        by_cases h3 : a[k].toNat = b[k].toNat
        · by_cases hm : (b.size : Int) < (a.size : Int)
          all_goals
           have HN := com_next a b k h1 h2 HS.out h3
           have HN' : Hid (∀ j, j < k + 1 → (bl a)[j]? = (bl b)[j]?) := HN
           clear HN HS
           go_wp2_with fail
           go_region
           go_wp2
           go_roundw
           case rel => exact ⟨k + 1, by omega, by omega, by go_num, HN'.out, below_drewN hbw _⟩
           case measure => simp [intOf]; omega
        · by_cases hm : (b.size : Int) < (a.size : Int)
          all_goals
           have HC : Hid (com (bl a) (bl b) = k) := com_of a b k hka hkb HS.out (fun _ _ => h3)
           clear HS
           go_wp2_with fail
           go_region
           go_wp2
           go_ret
           exact ⟨by rw [HC.out]; rfl, below_drewN hbw _⟩
      · have hm : (b.size : Int) < (a.size : Int) := by omega
        have HC : Hid (com (bl a) (bl b) = k) := com_of a b k hka hkb HS.out (fun _ y => absurd y h2)
        clear HS
        go_wp2_with fail
        go_region
        go_wp2
        go_ret
        exact ⟨by rw [HC.out]; rfl, below_drewN hbw _⟩
    · have hm : ¬ (b.size : Int) < (a.size : Int) := by omega
      have HC : Hid (com (bl a) (bl b) = k) := com_of a b k hka hkb HS.out (fun x _ => absurd x h1)
      clear HS
      go_wp2_with fail
      go_region
      go_wp2
      go_ret
      exact ⟨by rw [HC.out]; rfl, below_drewN hbw _⟩
end Go.Proofs.YtfdaffnkgpdhhaaGreat
