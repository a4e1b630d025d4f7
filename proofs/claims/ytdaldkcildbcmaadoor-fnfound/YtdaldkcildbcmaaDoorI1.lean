/-
  Items: laws.szItem, laws.toItem, spec.GoodItem, impl.GoodItem and what these call.
-/
import Derived.Test.YtdaldkcildbcmaaDoorProg
import Derived.Test.YtdaldkcildbcmaaDoorB
import Derived.WalkLawsBesides
namespace Go.Proofs.YtdaldkcildbcmaaDoor
open Go.RowKit
set_option linter.unusedVariables false
set_option maxRecDepth 100000

/-- A key, a number, a kind and a value that make a good item. -/
def okKey (k : ByteArray) : Bool := decide ((1 : Int) ≤ k.size) && decide ((k.size : Int) ≤ 16)
def okSeq (n : Int) : Bool := decide (0 ≤ n) && decide (n ≤ 1000000000)
def okItem (k : ByteArray) (n d : Int) (v : ByteArray) : Bool := okKey k && okSeq n && (d == 0 && v.size == 0 || d == 1 && decide ((v.size : Int) ≤ 40))


theorem l1In_any (n lo hi : Int) (w : World) :
    Calls Tryd.prog 63 #[.int .i64 n, .int .i64 lo, .int .i64 hi] w fun e w' => e = .returned (.bool (decide (lo ≤ n) && decide (n ≤ hi))) ∧ w' = w := by
  by_cases h1 : lo ≤ n <;> by_cases h2 : n ≤ hi
  all_goals
    go_enter Tryd.func63, Tryd.ntmps63
    go_wp2
    go_ret
    simp [h1, h2]

theorem l4Key_any (k : ByteArray) (w : World) (hk : k.size ≤ 1048576) :
    Calls Tryd.prog 50 #[.string k] w fun e w' => e = .returned (.bool (okKey k)) ∧ w' = w := by
  go_enter Tryd.func50, Tryd.ntmps50
  go_wp2_with fail
  refine (l1In_any _ _ _ _).mono ?_
  rintro e w1 ⟨rfl, rfl⟩
  go_wp2
  go_ret
  exact ⟨rfl, rfl⟩

theorem l4Seq_any (n : Int) (w : World) :
    Calls Tryd.prog 51 #[.int .i64 n] w fun e w' => e = .returned (.bool (okSeq n)) ∧ w' = w := by
  go_enter Tryd.func51, Tryd.ntmps51
  go_wp2_with fail
  refine (l1In_any _ _ _ _).mono ?_
  rintro e w1 ⟨rfl, rfl⟩
  go_wp2
  go_ret
  exact ⟨rfl, rfl⟩

theorem goodKey_any (k : ByteArray) (w : World) (hk : k.size ≤ 1048576) :
    Calls Tryd.prog 55 #[.string k] w fun e w' => e = .returned (.bool (okKey k)) ∧ w' = w := by
  by_cases h1 : (1 : Int) ≤ k.size <;> by_cases h2 : (k.size : Int) ≤ 16
  all_goals
    go_enter Tryd.func55, Tryd.ntmps55
    go_wp2
    go_ret
    simp [okKey, h1, h2]

theorem goodSeq_any (n : Int) (w : World) :
    Calls Tryd.prog 56 #[.int .i64 n] w fun e w' => e = .returned (.bool (okSeq n)) ∧ w' = w := by
  by_cases h1 : 0 ≤ n <;> by_cases h2 : n ≤ 1000000000
  all_goals
    go_enter Tryd.func56, Tryd.ntmps56
    go_wp2
    go_ret
    simp [okSeq, h1, h2]

theorem goodValue_any (v : ByteArray) (w : World) (hv : v.size ≤ 1048576) :
    Calls Tryd.prog 81 #[.string v] w fun e w' => e = .returned (.bool (decide ((v.size : Int) ≤ 40))) ∧ w' = w := by
  by_cases h2 : (v.size : Int) ≤ 40
  all_goals
    go_enter Tryd.func81, Tryd.ntmps81
    go_wp2
    go_ret
    simp [h2]

theorem empty_of_size {v : ByteArray} (h : v.size = 0) : v = ⟨#[]⟩ := by
  obtain ⟨a⟩ := v
  have : a.size = 0 := h
  rw [Array.eq_empty_of_size_eq_zero this]
theorem isEmpty_eq (v : ByteArray) : v.toList.isEmpty = (v.size == 0) := by
  rw [ByteArray.toList_eq]
  have : v.size = v.data.toList.length := Array.length_toList.symm
  rw [this]
  cases v.data.toList <;> rfl

set_option maxHeartbeats 1000000 in
theorem implGood_any (k v : ByteArray) (n d : Int) (w : World) (hk : k.size ≤ 1048576) (hv : v.size ≤ 1048576) :
    Calls Tryd.prog 39 #[.agg #[.string k, .int .i64 n, .int .i64 d, .string v]] w fun e w' => e = .returned (.bool (okItem k n d v)) ∧ Below w.heap.size w w' := by
  have HO : Hid (okItem k n d v = (okKey k && okSeq n && (d == 0 && v.size == 0 || d == 1 && decide ((v.size : Int) ≤ 40)))) := rfl
  generalize okItem k n d v = R at *
  have A := fun w => goodKey_any k w hk
  have S := fun w => goodSeq_any n w
  have V := fun w => goodValue_any v w hv
  cases hK : okKey k with
  | false =>
    rw [hK] at A HO
    obtain rfl : R = false := HO.out
    clear HO
    go_enter Tryd.func39, Tryd.ntmps39
    go_wp2_with fail
    refine (A _).mono ?_
    rintro e w1 ⟨rfl, hw⟩
    rw [hw]; clear hw
    go_wp2
    go_ret
    exact ⟨rfl, below_alloc _ _⟩
  | true =>
    cases hS : okSeq n with
    | false =>
      rw [hK, hS] at HO
      rw [hK] at A
      rw [hS] at S
      obtain rfl : R = false := HO.out
      clear HO
      go_enter Tryd.func39, Tryd.ntmps39
      go_wp2_with fail
      refine (A _).mono ?_
      rintro e w1 ⟨rfl, hw⟩
      rw [hw]; clear hw
      go_wp2_with fail
      refine (S _).mono ?_
      rintro e w1 ⟨rfl, hw⟩
      rw [hw]; clear hw
      go_wp2
      go_ret
      exact ⟨rfl, below_alloc _ _⟩
    | true =>
      rw [hK, hS] at HO
      rw [hK] at A
      rw [hS] at S
      simp only [Bool.true_and] at HO
      by_cases h0 : d = 0
      · subst h0
        by_cases hz : v.size = 0
        · obtain rfl : R = true := by rw [HO.out, hz]; rfl
          obtain rfl := empty_of_size hz
          clear HO
          go_enter Tryd.func39, Tryd.ntmps39
          go_wp2_with fail
          refine (A _).mono ?_
          rintro e w1 ⟨rfl, hw⟩
          rw [hw]; clear hw
          go_wp2_with fail
          refine (S _).mono ?_
          rintro e w1 ⟨rfl, hw⟩
          rw [hw]; clear hw
          go_wp2
          go_ret
          exact ⟨rfl, below_alloc _ _⟩
        · have hz' : v.toList.isEmpty = false := by rw [isEmpty_eq]; simp [hz]
          obtain rfl : R = false := by
            have : (v.size == 0) = false := by simp [hz]
            rw [HO.out, this]; rfl
          clear HO
          go_enter Tryd.func39, Tryd.ntmps39
          go_wp2_with fail
          refine (A _).mono ?_
          rintro e w1 ⟨rfl, hw⟩
          rw [hw]; clear hw
          go_wp2_with fail
          refine (S _).mono ?_
          rintro e w1 ⟨rfl, hw⟩
          rw [hw]; clear hw
          go_wp2
          go_ret
          exact ⟨rfl, below_alloc _ _⟩
      · have e0 : (d == 0) = false := by simp [h0]
        by_cases h1 : d = 1
        · subst h1
          obtain rfl : R = decide ((v.size : Int) ≤ 40) := by rw [HO.out]; rfl
          clear HO
          go_enter Tryd.func39, Tryd.ntmps39
          go_wp2_with fail
          refine (A _).mono ?_
          rintro e w1 ⟨rfl, hw⟩
          rw [hw]; clear hw
          go_wp2_with fail
          refine (S _).mono ?_
          rintro e w1 ⟨rfl, hw⟩
          rw [hw]; clear hw
          go_wp2_with fail
          refine (V _).mono ?_
          rintro e w1 ⟨rfl, hw⟩
          rw [hw]; clear hw
          go_wp2
          go_ret
          exact ⟨rfl, below_alloc _ _⟩
        · have e1 : (d == 1) = false := by simp [h1]
          obtain rfl : R = false := by rw [HO.out, e0, e1]; rfl
          clear HO
          go_enter Tryd.func39, Tryd.ntmps39
          go_wp2_with fail
          refine (A _).mono ?_
          rintro e w1 ⟨rfl, hw⟩
          rw [hw]; clear hw
          go_wp2_with fail
          refine (S _).mono ?_
          rintro e w1 ⟨rfl, hw⟩
          rw [hw]; clear hw
          go_wp2
          go_ret
          exact ⟨rfl, below_alloc _ _⟩

set_option maxHeartbeats 1000000 in
theorem specGood_any (k v : ByteArray) (n d : Int) (w : World) (hk : k.size ≤ 1048576) (hv : v.size ≤ 1048576) :
    Calls Tryd.prog 43 #[.agg #[.string k, .int .i64 n, .int .i64 d, .string v]] w fun e w' => e = .returned (.bool (okItem k n d v)) ∧ Below w.heap.size w w' := by
  have HO : Hid (okItem k n d v = (okKey k && okSeq n && (d == 0 && v.size == 0 || d == 1 && decide ((v.size : Int) ≤ 40)))) := rfl
  generalize okItem k n d v = R at *
  have A := fun w => l4Key_any k w hk
  have S := fun w => l4Seq_any n w
  have I := fun w => l1In_any d 0 1 w
  cases hK : okKey k with
  | false =>
    rw [hK] at A HO
    obtain rfl : R = false := HO.out
    clear HO
    go_enter Tryd.func43, Tryd.ntmps43
    go_wp2_with fail
    refine (A _).mono ?_
    rintro e w1 ⟨rfl, hw⟩
    rw [hw]; clear hw
    go_wp2
    go_ret
    exact ⟨rfl, below_alloc _ _⟩
  | true =>
    cases hS : okSeq n with
    | false =>
      rw [hK, hS] at HO
      rw [hK] at A
      rw [hS] at S
      obtain rfl : R = false := HO.out
      clear HO
      go_enter Tryd.func43, Tryd.ntmps43
      go_wp2_with fail
      refine (A _).mono ?_
      rintro e w1 ⟨rfl, hw⟩
      rw [hw]; clear hw
      go_wp2_with fail
      refine (S _).mono ?_
      rintro e w1 ⟨rfl, hw⟩
      rw [hw]; clear hw
      go_wp2
      go_ret
      exact ⟨rfl, below_alloc _ _⟩
    | true =>
      rw [hK, hS] at HO
      rw [hK] at A
      rw [hS] at S
      simp only [Bool.true_and] at HO
      by_cases h0 : d = 0
      · subst h0
        have hin : (decide ((0 : Int) ≤ 0) && decide ((0 : Int) ≤ 1)) = true := rfl
        rw [hin] at I
        by_cases hz : v.size = 0
        · obtain rfl : R = true := by rw [HO.out, hz]; rfl
          obtain rfl := empty_of_size hz
          clear HO
          go_enter Tryd.func43, Tryd.ntmps43
          go_wp2_with fail
          refine (A _).mono ?_
          rintro e w1 ⟨rfl, hw⟩
          rw [hw]; clear hw
          go_wp2_with fail
          refine (S _).mono ?_
          rintro e w1 ⟨rfl, hw⟩
          rw [hw]; clear hw
          go_wp2_with fail
          refine (I _).mono ?_
          rintro e w1 ⟨rfl, hw⟩
          rw [hw]; clear hw
          go_wp2
          go_ret
          exact ⟨rfl, below_alloc _ _⟩
        · have hz' : v.toList.isEmpty = false := by rw [isEmpty_eq]; simp [hz]
          obtain rfl : R = false := by
            have : (v.size == 0) = false := by simp [hz]
            rw [HO.out, this]; rfl
          clear HO
          by_cases h40 : (v.size : Int) ≤ 40
          · skip
            go_enter Tryd.func43, Tryd.ntmps43
            go_wp2_with fail
            refine (A _).mono ?_
            rintro e w1 ⟨rfl, hw⟩
            rw [hw]; clear hw
            go_wp2_with fail
            refine (S _).mono ?_
            rintro e w1 ⟨rfl, hw⟩
            rw [hw]; clear hw
            go_wp2_with fail
            refine (I _).mono ?_
            rintro e w1 ⟨rfl, hw⟩
            rw [hw]; clear hw
            go_wp2
            go_ret
            exact ⟨rfl, below_alloc _ _⟩
          · skip
            go_enter Tryd.func43, Tryd.ntmps43
            go_wp2_with fail
            refine (A _).mono ?_
            rintro e w1 ⟨rfl, hw⟩
            rw [hw]; clear hw
            go_wp2_with fail
            refine (S _).mono ?_
            rintro e w1 ⟨rfl, hw⟩
            rw [hw]; clear hw
            go_wp2_with fail
            refine (I _).mono ?_
            rintro e w1 ⟨rfl, hw⟩
            rw [hw]; clear hw
            go_wp2
            go_ret
            exact ⟨rfl, below_alloc _ _⟩
      · have e0 : (d == 0) = false := by simp [h0]
        by_cases h1 : d = 1
        · subst h1
          have hin : (decide ((0 : Int) ≤ 1) && decide ((1 : Int) ≤ 1)) = true := rfl
          rw [hin] at I
          obtain rfl : R = decide ((v.size : Int) ≤ 40) := by rw [HO.out]; rfl
          clear HO
          by_cases h40 : (v.size : Int) ≤ 40
          · rw [decide_eq_true h40]
            go_enter Tryd.func43, Tryd.ntmps43
            go_wp2_with fail
            refine (A _).mono ?_
            rintro e w1 ⟨rfl, hw⟩
            rw [hw]; clear hw
            go_wp2_with fail
            refine (S _).mono ?_
            rintro e w1 ⟨rfl, hw⟩
            rw [hw]; clear hw
            go_wp2_with fail
            refine (I _).mono ?_
            rintro e w1 ⟨rfl, hw⟩
            rw [hw]; clear hw
            go_wp2
            go_ret
            exact ⟨rfl, below_alloc _ _⟩
          · rw [decide_eq_false h40]
            go_enter Tryd.func43, Tryd.ntmps43
            go_wp2_with fail
            refine (A _).mono ?_
            rintro e w1 ⟨rfl, hw⟩
            rw [hw]; clear hw
            go_wp2_with fail
            refine (S _).mono ?_
            rintro e w1 ⟨rfl, hw⟩
            rw [hw]; clear hw
            go_wp2_with fail
            refine (I _).mono ?_
            rintro e w1 ⟨rfl, hw⟩
            rw [hw]; clear hw
            go_wp2
            go_ret
            exact ⟨rfl, below_alloc _ _⟩
        · have e1 : (d == 1) = false := by simp [h1]
          have hin : (decide ((0 : Int) ≤ d) && decide (d ≤ 1)) = false := by
            by_cases h : 0 ≤ d
            · rw [decide_eq_false (p := d ≤ 1) (by omega), Bool.and_false]
            · rw [decide_eq_false h, Bool.false_and]
          rw [hin] at I
          obtain rfl : R = false := by rw [HO.out, e0, e1]; rfl
          clear HO
          go_enter Tryd.func43, Tryd.ntmps43
          go_wp2_with fail
          refine (A _).mono ?_
          rintro e w1 ⟨rfl, hw⟩
          rw [hw]; clear hw
          go_wp2_with fail
          refine (S _).mono ?_
          rintro e w1 ⟨rfl, hw⟩
          rw [hw]; clear hw
          go_wp2_with fail
          refine (I _).mono ?_
          rintro e w1 ⟨rfl, hw⟩
          rw [hw]; clear hw
          go_wp2
          go_ret
          exact ⟨rfl, below_alloc _ _⟩

end Go.Proofs.YtdaldkcildbcmaaDoor
