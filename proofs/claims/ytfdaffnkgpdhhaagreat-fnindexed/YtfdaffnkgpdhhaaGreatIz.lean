/-
  Items: laws.szItem, laws.toItem, spec.GoodItem, impl.GoodItem and what these call.
  CompareItem: spec.l4Compare, impl.orderOf and what it calls; both CompareItems; the law.
-/
import Derived.Test.YtfdaffnkgpdhhaaGreatProg
import Derived.Test.YtfdaffnkgpdhhaaGreatB
import Derived.WalkLawsBesides
namespace Go.Proofs.YtfdaffnkgpdhhaaGreat
open Go.RowKit
set_option linter.unusedVariables false
set_option maxRecDepth 100000

/-- A key, a number, a kind and a value that make a good item. -/
def okKey (k : ByteArray) : Bool := decide ((1 : Int) ≤ k.size) && decide ((k.size : Int) ≤ 16)
def okSeq (n : Int) : Bool := decide (0 ≤ n) && decide (n ≤ 1000000000)
def okItem (k : ByteArray) (n d : Int) (v : ByteArray) : Bool := okKey k && okSeq n && (d == 0 && v.size == 0 || d == 1 && decide ((v.size : Int) ≤ 40))


theorem l1In_any (n lo hi : Int) (w : World) :
    Calls Tryz.prog 72 #[.int .i64 n, .int .i64 lo, .int .i64 hi] w fun e w' => e = .returned (.bool (decide (lo ≤ n) && decide (n ≤ hi))) ∧ w' = w := by
  by_cases h1 : lo ≤ n <;> by_cases h2 : n ≤ hi
  all_goals
    go_enter Tryz.func72, Tryz.ntmps72
    go_wp2
    go_ret
    simp [h1, h2]

theorem l4Key_any (k : ByteArray) (w : World) (hk : k.size ≤ 1048576) :
    Calls Tryz.prog 46 #[.string k] w fun e w' => e = .returned (.bool (okKey k)) ∧ w' = w := by
  go_enter Tryz.func46, Tryz.ntmps46
  go_wp2_with fail
  refine (l1In_any _ _ _ _).mono ?_
  rintro e w1 ⟨rfl, rfl⟩
  go_wp2
  go_ret
  exact ⟨rfl, rfl⟩

theorem l4Seq_any (n : Int) (w : World) :
    Calls Tryz.prog 47 #[.int .i64 n] w fun e w' => e = .returned (.bool (okSeq n)) ∧ w' = w := by
  go_enter Tryz.func47, Tryz.ntmps47
  go_wp2_with fail
  refine (l1In_any _ _ _ _).mono ?_
  rintro e w1 ⟨rfl, rfl⟩
  go_wp2
  go_ret
  exact ⟨rfl, rfl⟩

theorem goodKey_any (k : ByteArray) (w : World) (hk : k.size ≤ 1048576) :
    Calls Tryz.prog 40 #[.string k] w fun e w' => e = .returned (.bool (okKey k)) ∧ w' = w := by
  by_cases h1 : (1 : Int) ≤ k.size <;> by_cases h2 : (k.size : Int) ≤ 16
  all_goals
    go_enter Tryz.func40, Tryz.ntmps40
    go_wp2
    go_ret
    simp [okKey, h1, h2]

theorem goodSeq_any (n : Int) (w : World) :
    Calls Tryz.prog 41 #[.int .i64 n] w fun e w' => e = .returned (.bool (okSeq n)) ∧ w' = w := by
  by_cases h1 : 0 ≤ n <;> by_cases h2 : n ≤ 1000000000
  all_goals
    go_enter Tryz.func41, Tryz.ntmps41
    go_wp2
    go_ret
    simp [okSeq, h1, h2]

theorem goodValue_any (v : ByteArray) (w : World) (hv : v.size ≤ 1048576) :
    Calls Tryz.prog 129 #[.string v] w fun e w' => e = .returned (.bool (decide ((v.size : Int) ≤ 40))) ∧ w' = w := by
  by_cases h2 : (v.size : Int) ≤ 40
  all_goals
    go_enter Tryz.func129, Tryz.ntmps129
    go_wp2
    go_ret
    simp [h2]

theorem empty_of_size {v : ByteArray} (h : v.size = 0) : v = ⟨#[]⟩ := by
  obtain ⟨a⟩ := v
  have : a.size = 0 := h
  rw [Array.eq_empty_of_size_eq_zero this]
theorem isEmpty_eq (v : ByteArray) : v.toList.isEmpty = (v.size == 0) := by
  rw [ByteArray.toList_eq]
  have : v.size = v.data.toList.length := Array.length_toList.symm
  rw [this]
  cases v.data.toList <;> rfl

set_option maxHeartbeats 1000000 in
theorem implGood_any (k v : ByteArray) (n d : Int) (w : World) (hk : k.size ≤ 1048576) (hv : v.size ≤ 1048576) :
    Calls Tryz.prog 101 #[.agg #[.string k, .int .i64 n, .int .i64 d, .string v]] w fun e w' => e = .returned (.bool (okItem k n d v)) ∧ Below w.heap.size w w' := by
  have HO : Hid (okItem k n d v = (okKey k && okSeq n && (d == 0 && v.size == 0 || d == 1 && decide ((v.size : Int) ≤ 40)))) := rfl
  generalize okItem k n d v = R at *
  have A := fun w => goodKey_any k w hk
  have S := fun w => goodSeq_any n w
  have V := fun w => goodValue_any v w hv
  cases hK : okKey k with
  | false =>
    rw [hK] at A HO
    obtain rfl : R = false := HO.out
    clear HO
    go_enter Tryz.func101, Tryz.ntmps101
    go_wp2_with fail
    refine (A _).mono ?_
    rintro e w1 ⟨rfl, hw⟩
    rw [hw]; clear hw
    go_wp2
    go_ret
    exact ⟨rfl, below_alloc _ _⟩
  | true =>
    cases hS : okSeq n with
    | false =>
      rw [hK, hS] at HO
      rw [hK] at A
      rw [hS] at S
      obtain rfl : R = false := HO.out
      clear HO
      go_enter Tryz.func101, Tryz.ntmps101
      go_wp2_with fail
      refine (A _).mono ?_
      rintro e w1 ⟨rfl, hw⟩
      rw [hw]; clear hw
      go_wp2_with fail
      refine (S _).mono ?_
      rintro e w1 ⟨rfl, hw⟩
      rw [hw]; clear hw
      go_wp2
      go_ret
      exact ⟨rfl, below_alloc _ _⟩
    | true =>
      rw [hK, hS] at HO
      rw [hK] at A
      rw [hS] at S
      simp only [Bool.true_and] at HO
      by_cases h0 : d = 0
      · subst h0
        by_cases hz : v.size = 0
        · obtain rfl : R = true := by rw [HO.out, hz]; rfl
          obtain rfl := empty_of_size hz
          clear HO
          go_enter Tryz.func101, Tryz.ntmps101
          go_wp2_with fail
          refine (A _).mono ?_
          rintro e w1 ⟨rfl, hw⟩
          rw [hw]; clear hw
          go_wp2_with fail
          refine (S _).mono ?_
          rintro e w1 ⟨rfl, hw⟩
          rw [hw]; clear hw
          go_wp2
          go_ret
          exact ⟨rfl, below_alloc _ _⟩
        · have hz' : v.toList.isEmpty = false := by rw [isEmpty_eq]; simp [hz]
          obtain rfl : R = false := by
            have : (v.size == 0) = false := by simp [hz]
            rw [HO.out, this]; rfl
          clear HO
          go_enter Tryz.func101, Tryz.ntmps101
          go_wp2_with fail
          refine (A _).mono ?_
          rintro e w1 ⟨rfl, hw⟩
          rw [hw]; clear hw
          go_wp2_with fail
          refine (S _).mono ?_
          rintro e w1 ⟨rfl, hw⟩
          rw [hw]; clear hw
          go_wp2
          go_ret
          exact ⟨rfl, below_alloc _ _⟩
      · have e0 : (d == 0) = false := by simp [h0]
        by_cases h1 : d = 1
        · subst h1
          obtain rfl : R = decide ((v.size : Int) ≤ 40) := by rw [HO.out]; rfl
          clear HO
          go_enter Tryz.func101, Tryz.ntmps101
          go_wp2_with fail
          refine (A _).mono ?_
          rintro e w1 ⟨rfl, hw⟩
          rw [hw]; clear hw
          go_wp2_with fail
          refine (S _).mono ?_
          rintro e w1 ⟨rfl, hw⟩
          rw [hw]; clear hw
          go_wp2_with fail
          refine (V _).mono ?_
          rintro e w1 ⟨rfl, hw⟩
          rw [hw]; clear hw
          go_wp2
          go_ret
          exact ⟨rfl, below_alloc _ _⟩
        · have e1 : (d == 1) = false := by simp [h1]
          obtain rfl : R = false := by rw [HO.out, e0, e1]; rfl
          clear HO
          go_enter Tryz.func101, Tryz.ntmps101
          go_wp2_with fail
          refine (A _).mono ?_
          rintro e w1 ⟨rfl, hw⟩
          rw [hw]; clear hw
          go_wp2_with fail
          refine (S _).mono ?_
          rintro e w1 ⟨rfl, hw⟩
          rw [hw]; clear hw
          go_wp2
          go_ret
          exact ⟨rfl, below_alloc _ _⟩

set_option maxHeartbeats 1000000 in
theorem specGood_any (k v : ByteArray) (n d : Int) (w : World) (hk : k.size ≤ 1048576) (hv : v.size ≤ 1048576) :
    Calls Tryz.prog 89 #[.agg #[.string k, .int .i64 n, .int .i64 d, .string v]] w fun e w' => e = .returned (.bool (okItem k n d v)) ∧ Below w.heap.size w w' := by
  have HO : Hid (okItem k n d v = (okKey k && okSeq n && (d == 0 && v.size == 0 || d == 1 && decide ((v.size : Int) ≤ 40)))) := rfl
  generalize okItem k n d v = R at *
  have A := fun w => l4Key_any k w hk
  have S := fun w => l4Seq_any n w
  have I := fun w => l1In_any d 0 1 w
  cases hK : okKey k with
  | false =>
    rw [hK] at A HO
    obtain rfl : R = false := HO.out
    clear HO
    go_enter Tryz.func89, Tryz.ntmps89
    go_wp2_with fail
    refine (A _).mono ?_
    rintro e w1 ⟨rfl, hw⟩
    rw [hw]; clear hw
    go_wp2
    go_ret
    exact ⟨rfl, below_alloc _ _⟩
  | true =>
    cases hS : okSeq n with
    | false =>
      rw [hK, hS] at HO
      rw [hK] at A
      rw [hS] at S
      obtain rfl : R = false := HO.out
      clear HO
      go_enter Tryz.func89, Tryz.ntmps89
      go_wp2_with fail
      refine (A _).mono ?_
      rintro e w1 ⟨rfl, hw⟩
      rw [hw]; clear hw
      go_wp2_with fail
      refine (S _).mono ?_
      rintro e w1 ⟨rfl, hw⟩
      rw [hw]; clear hw
      go_wp2
      go_ret
      exact ⟨rfl, below_alloc _ _⟩
    | true =>
      rw [hK, hS] at HO
      rw [hK] at A
      rw [hS] at S
      simp only [Bool.true_and] at HO
      by_cases h0 : d = 0
      · subst h0
        have hin : (decide ((0 : Int) ≤ 0) && decide ((0 : Int) ≤ 1)) = true := rfl
        rw [hin] at I
        by_cases hz : v.size = 0
        · obtain rfl : R = true := by rw [HO.out, hz]; rfl
          obtain rfl := empty_of_size hz
          clear HO
          go_enter Tryz.func89, Tryz.ntmps89
          go_wp2_with fail
          refine (A _).mono ?_
          rintro e w1 ⟨rfl, hw⟩
          rw [hw]; clear hw
          go_wp2_with fail
          refine (S _).mono ?_
          rintro e w1 ⟨rfl, hw⟩
          rw [hw]; clear hw
          go_wp2_with fail
          refine (I _).mono ?_
          rintro e w1 ⟨rfl, hw⟩
          rw [hw]; clear hw
          go_wp2
          go_ret
          exact ⟨rfl, below_alloc _ _⟩
        · have hz' : v.toList.isEmpty = false := by rw [isEmpty_eq]; simp [hz]
          obtain rfl : R = false := by
            have : (v.size == 0) = false := by simp [hz]
            rw [HO.out, this]; rfl
          clear HO
          by_cases h40 : (v.size : Int) ≤ 40
          · skip
            go_enter Tryz.func89, Tryz.ntmps89
            go_wp2_with fail
            refine (A _).mono ?_
            rintro e w1 ⟨rfl, hw⟩
            rw [hw]; clear hw
            go_wp2_with fail
            refine (S _).mono ?_
            rintro e w1 ⟨rfl, hw⟩
            rw [hw]; clear hw
            go_wp2_with fail
            refine (I _).mono ?_
            rintro e w1 ⟨rfl, hw⟩
            rw [hw]; clear hw
            go_wp2
            go_ret
            exact ⟨rfl, below_alloc _ _⟩
          · skip
            go_enter Tryz.func89, Tryz.ntmps89
            go_wp2_with fail
            refine (A _).mono ?_
            rintro e w1 ⟨rfl, hw⟩
            rw [hw]; clear hw
            go_wp2_with fail
            refine (S _).mono ?_
            rintro e w1 ⟨rfl, hw⟩
            rw [hw]; clear hw
            go_wp2_with fail
            refine (I _).mono ?_
            rintro e w1 ⟨rfl, hw⟩
            rw [hw]; clear hw
            go_wp2
            go_ret
            exact ⟨rfl, below_alloc _ _⟩
      · have e0 : (d == 0) = false := by simp [h0]
        by_cases h1 : d = 1
        · subst h1
          have hin : (decide ((0 : Int) ≤ 1) && decide ((1 : Int) ≤ 1)) = true := rfl
          rw [hin] at I
          obtain rfl : R = decide ((v.size : Int) ≤ 40) := by rw [HO.out]; rfl
          clear HO
          by_cases h40 : (v.size : Int) ≤ 40
          · rw [decide_eq_true h40]
            go_enter Tryz.func89, Tryz.ntmps89
            go_wp2_with fail
            refine (A _).mono ?_
            rintro e w1 ⟨rfl, hw⟩
            rw [hw]; clear hw
            go_wp2_with fail
            refine (S _).mono ?_
            rintro e w1 ⟨rfl, hw⟩
            rw [hw]; clear hw
            go_wp2_with fail
            refine (I _).mono ?_
            rintro e w1 ⟨rfl, hw⟩
            rw [hw]; clear hw
            go_wp2
            go_ret
            exact ⟨rfl, below_alloc _ _⟩
          · rw [decide_eq_false h40]
            go_enter Tryz.func89, Tryz.ntmps89
            go_wp2_with fail
            refine (A _).mono ?_
            rintro e w1 ⟨rfl, hw⟩
            rw [hw]; clear hw
            go_wp2_with fail
            refine (S _).mono ?_
            rintro e w1 ⟨rfl, hw⟩
            rw [hw]; clear hw
            go_wp2_with fail
            refine (I _).mono ?_
            rintro e w1 ⟨rfl, hw⟩
            rw [hw]; clear hw
            go_wp2
            go_ret
            exact ⟨rfl, below_alloc _ _⟩
        · have e1 : (d == 1) = false := by simp [h1]
          have hin : (decide ((0 : Int) ≤ d) && decide (d ≤ 1)) = false := by
            by_cases h : 0 ≤ d
            · rw [decide_eq_false (p := d ≤ 1) (by omega), Bool.and_false]
            · rw [decide_eq_false h, Bool.false_and]
          rw [hin] at I
          obtain rfl : R = false := by rw [HO.out, e0, e1]; rfl
          clear HO
          go_enter Tryz.func89, Tryz.ntmps89
          go_wp2_with fail
          refine (A _).mono ?_
          rintro e w1 ⟨rfl, hw⟩
          rw [hw]; clear hw
          go_wp2_with fail
          refine (S _).mono ?_
          rintro e w1 ⟨rfl, hw⟩
          rw [hw]; clear hw
          go_wp2_with fail
          refine (I _).mono ?_
          rintro e w1 ⟨rfl, hw⟩
          rw [hw]; clear hw
          go_wp2
          go_ret
          exact ⟨rfl, below_alloc _ _⟩

end Go.Proofs.YtfdaffnkgpdhhaaGreat

namespace Go.Proofs.YtfdaffnkgpdhhaaGreat
open Go.RowKit
set_option linter.unusedVariables false
set_option maxRecDepth 100000

/-- The order of two texts, of two numbers, of two items (by key, then by falling number). -/
def cS (a b : ByteArray) : Int := if Op.bytesLess a.toList b.toList then -1 else if a.toList == b.toList then 0 else 1
def cI (x y : Int) : Int := if x < y then -1 else if y < x then 1 else 0
def cIt (k k' : ByteArray) (n n' : Int) : Int := if Op.bytesLess k.toList k'.toList then -1 else if k.toList == k'.toList then cI n' n else 1

theorem isNaNs_any (a : ByteArray) (w : World) : Calls Tryz.prog 140 #[.string a] w fun e w' => e = .returned (.bool false) ∧ w' = w := by
  go_enter Tryz.func140, Tryz.ntmps140
  go_wp2
  go_ret
  exact ⟨rfl, rfl⟩
theorem isNaNi_any (a : Int) (w : World) : Calls Tryz.prog 141 #[.int .i64 a] w fun e w' => e = .returned (.bool false) ∧ w' = w := by
  go_enter Tryz.func141, Tryz.ntmps141
  go_wp2
  go_ret
  exact ⟨rfl, rfl⟩

set_option maxHeartbeats 1000000 in
theorem cmpS_any (a b : ByteArray) (w : World) : Calls Tryz.prog 136 #[.string a, .string b] w fun e w' => e = .returned (.int .i64 (cS a b)) ∧ w' = w := by
  have HC : Hid (cS a b = if Op.bytesLess a.toList b.toList then -1 else if a.toList == b.toList then 0 else 1) := rfl
  generalize cS a b = c at *
  cases hl : Op.bytesLess a.toList b.toList with
  | true =>
    rw [hl] at HC
    obtain rfl : c = -1 := HC.out
    clear HC
    go_enter Tryz.func136, Tryz.ntmps136
    go_wp2_with fail
    refine (isNaNs_any a _).mono ?_
    rintro e w1 ⟨rfl, hw⟩
    rw [hw]; clear hw
    go_wp2_with fail
    refine (isNaNs_any b _).mono ?_
    rintro e w1 ⟨rfl, hw⟩
    rw [hw]; clear hw
    go_wp2
    go_ret
    exact ⟨rfl, rfl⟩
  | false =>
    cases he : (a.toList == b.toList) with
    | true =>
      rw [hl, he] at HC
      obtain rfl : c = 0 := HC.out
      clear HC
      go_enter Tryz.func136, Tryz.ntmps136
      go_wp2_with fail
      refine (isNaNs_any a _).mono ?_
      rintro e w1 ⟨rfl, hw⟩
      rw [hw]; clear hw
      go_wp2_with fail
      refine (isNaNs_any b _).mono ?_
      rintro e w1 ⟨rfl, hw⟩
      rw [hw]; clear hw
      go_wp2
      go_ret
      exact ⟨rfl, rfl⟩
    | false =>
      rw [hl, he] at HC
      obtain rfl : c = 1 := HC.out
      clear HC
      go_enter Tryz.func136, Tryz.ntmps136
      go_wp2_with fail
      refine (isNaNs_any a _).mono ?_
      rintro e w1 ⟨rfl, hw⟩
      rw [hw]; clear hw
      go_wp2_with fail
      refine (isNaNs_any b _).mono ?_
      rintro e w1 ⟨rfl, hw⟩
      rw [hw]; clear hw
      go_wp2
      go_ret
      exact ⟨rfl, rfl⟩

set_option maxHeartbeats 1000000 in
theorem cmpI_any (a b : Int) (w : World) : Calls Tryz.prog 137 #[.int .i64 a, .int .i64 b] w fun e w' => e = .returned (.int .i64 (cI a b)) ∧ w' = w := by
  have HC : Hid (cI a b = if a < b then -1 else if b < a then 1 else 0) := rfl
  generalize cI a b = c at *
  rcases Int.lt_trichotomy a b with h | h | h
  · obtain rfl : c = -1 := by rw [HC.out, if_pos h]
    clear HC
    go_enter Tryz.func137, Tryz.ntmps137
    go_wp2_with fail
    refine (isNaNi_any a _).mono ?_
    rintro e w1 ⟨rfl, hw⟩
    rw [hw]; clear hw
    go_wp2_with fail
    refine (isNaNi_any b _).mono ?_
    rintro e w1 ⟨rfl, hw⟩
    rw [hw]; clear hw
    go_wp2
    go_ret
    exact ⟨rfl, rfl⟩
  · subst h
    obtain rfl : c = 0 := by rw [HC.out, if_neg (by omega), if_neg (by omega)]
    clear HC
    go_enter Tryz.func137, Tryz.ntmps137
    go_wp2_with fail
    refine (isNaNi_any a _).mono ?_
    rintro e w1 ⟨rfl, hw⟩
    rw [hw]; clear hw
    go_wp2_with fail
    refine (isNaNi_any a _).mono ?_
    rintro e w1 ⟨rfl, hw⟩
    rw [hw]; clear hw
    go_wp2
    go_ret
    exact ⟨rfl, rfl⟩
  · obtain rfl : c = 1 := by rw [HC.out, if_neg (by omega), if_pos h]
    have h' : b ≤ a := by omega
    clear HC
    go_enter Tryz.func137, Tryz.ntmps137
    go_wp2_with fail
    refine (isNaNi_any a _).mono ?_
    rintro e w1 ⟨rfl, hw⟩
    rw [hw]; clear hw
    go_wp2_with fail
    refine (isNaNi_any b _).mono ?_
    rintro e w1 ⟨rfl, hw⟩
    rw [hw]; clear hw
    go_wp2
    go_ret
    exact ⟨rfl, rfl⟩

set_option maxHeartbeats 1000000 in
theorem rtf_any (a b : ByteArray) (x y : Int) (w : World) : Calls Tryz.prog 119 #[.string a, .string b, .int .i64 x, .int .i64 y] w fun e w' => e = .returned (.int .i64 (cIt a b x y)) ∧ w' = w := by
  have A := fun w => cmpS_any a b w
  have I := fun w => cmpI_any y x w
  have HT : Hid (cIt a b x y = if Op.bytesLess a.toList b.toList then -1 else if a.toList == b.toList then cI y x else 1) := rfl
  have HC : Hid (cS a b = if Op.bytesLess a.toList b.toList then -1 else if a.toList == b.toList then 0 else 1) := rfl
  generalize cS a b = c at *
  generalize cIt a b x y = t at *
  generalize cI y x = i at *
  generalize Op.bytesLess a.toList b.toList = l at *
  generalize (a.toList == b.toList) = q at *
  cases l with
  | true =>
    obtain rfl : c = -1 := HC.out
    obtain rfl : t = -1 := HT.out
    clear HC HT
    go_enter Tryz.func119, Tryz.ntmps119
    go_wp2_with fail
    refine (A _).mono ?_
    rintro e w1 ⟨rfl, hw⟩
    rw [hw]; clear hw
    go_wp2
    go_ret
    exact ⟨rfl, rfl⟩
  | false =>
    cases q with
    | true =>
      obtain rfl : c = 0 := HC.out
      obtain rfl : t = i := HT.out
      clear HC HT
      go_enter Tryz.func119, Tryz.ntmps119
      go_wp2_with fail
      refine (A _).mono ?_
      rintro e w1 ⟨rfl, hw⟩
      rw [hw]; clear hw
      go_wp2_with fail
      refine (I _).mono ?_
      rintro e w1 ⟨rfl, hw⟩
      rw [hw]; clear hw
      go_wp2
      go_ret
      exact ⟨rfl, rfl⟩
    | false =>
      obtain rfl : c = 1 := HC.out
      obtain rfl : t = 1 := HT.out
      clear HC HT
      go_enter Tryz.func119, Tryz.ntmps119
      go_wp2_with fail
      refine (A _).mono ?_
      rintro e w1 ⟨rfl, hw⟩
      rw [hw]; clear hw
      go_wp2
      go_ret
      exact ⟨rfl, rfl⟩

set_option maxHeartbeats 1000000 in
theorem orderOf_any (k v k' v' : ByteArray) (n d n' d' : Int) (w : World) :
    Calls Tryz.prog 85 #[.agg #[.string k, .int .i64 n, .int .i64 d, .string v], .agg #[.string k', .int .i64 n', .int .i64 d', .string v']] w fun e w' => e = .returned (.int .i64 (cIt k k' n n')) ∧ Below w.heap.size w w' := by
  go_enter Tryz.func85, Tryz.ntmps85
  go_wp2_with fail
  refine (rtf_any k k' n n' _).mono ?_
  rintro e w1 ⟨rfl, hw⟩
  rw [hw]; clear hw
  go_wp2
  go_ret
  exact ⟨rfl, below2 _ _ _⟩

set_option maxHeartbeats 1000000 in
theorem l4Compare_any (k v k' v' : ByteArray) (n d n' d' : Int) (w : World) :
    Calls Tryz.prog 90 #[.agg #[.string k, .int .i64 n, .int .i64 d, .string v], .agg #[.string k', .int .i64 n', .int .i64 d', .string v']] w fun e w' => e = .returned (.int .i64 (cIt k k' n n')) ∧ Below w.heap.size w w' := by
  have HT : Hid (cIt k k' n n' = if Op.bytesLess k.toList k'.toList then -1 else if k.toList == k'.toList then cI n' n else 1) := rfl
  generalize cIt k k' n n' = t at *
  cases hl : Op.bytesLess k.toList k'.toList with
  | true =>
    obtain rfl : t = -1 := by rw [HT.out, hl]; rfl
    clear HT
    go_enter Tryz.func90, Tryz.ntmps90
    go_wp2
    go_ret
    exact ⟨rfl, below2 _ _ _⟩
  | false =>
    cases he : (k.toList == k'.toList) with
    | false =>
      obtain rfl : t = 1 := by rw [HT.out, hl, he]; rfl
      clear HT
      go_enter Tryz.func90, Tryz.ntmps90
      go_wp2
      go_ret
      exact ⟨rfl, below2 _ _ _⟩
    | true =>
      have ht : t = cI n' n := by rw [HT.out, hl, he]; rfl
      clear HT
      rcases Int.lt_trichotomy n' n with h | h | h
      · obtain rfl : t = -1 := by rw [ht]; unfold cI; rw [if_pos h]
        clear ht
        go_enter Tryz.func90, Tryz.ntmps90
        go_wp2
        go_ret
        exact ⟨rfl, below2 _ _ _⟩
      · subst h
        obtain rfl : t = 0 := by rw [ht]; unfold cI; rw [if_neg (by omega), if_neg (by omega)]
        clear ht
        go_enter Tryz.func90, Tryz.ntmps90
        go_wp2
        go_ret
        exact ⟨rfl, below2 _ _ _⟩
      · obtain rfl : t = 1 := by rw [ht]; unfold cI; rw [if_neg (by omega), if_pos h]
        have h1 : (n == n') = false := by simp; omega
        clear ht
        go_enter Tryz.func90, Tryz.ntmps90
        go_wp2
        go_ret
        exact ⟨rfl, below2 _ _ _⟩
end Go.Proofs.YtfdaffnkgpdhhaaGreat

