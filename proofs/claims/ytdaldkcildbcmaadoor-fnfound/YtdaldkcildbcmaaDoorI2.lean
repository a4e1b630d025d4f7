/-
  CompareItem: spec.l4Compare, impl.orderOf and what it calls; both CompareItems; the law.
-/
import Derived.Test.YtdaldkcildbcmaaDoorI1
namespace Go.Proofs.YtdaldkcildbcmaaDoor
open Go.RowKit
set_option linter.unusedVariables false
set_option maxRecDepth 100000

/-- The order of two texts, of two numbers, of two items (by key, then by falling number). -/
def cS (a b : ByteArray) : Int := if Op.bytesLess a.toList b.toList then -1 else if a.toList == b.toList then 0 else 1
def cI (x y : Int) : Int := if x < y then -1 else if y < x then 1 else 0
def cIt (k k' : ByteArray) (n n' : Int) : Int := if Op.bytesLess k.toList k'.toList then -1 else if k.toList == k'.toList then cI n' n else 1

theorem isNaNs_any (a : ByteArray) (w : World) : Calls Tryd.prog 132 #[.string a] w fun e w' => e = .returned (.bool false) ∧ w' = w := by
  go_enter Tryd.func132, Tryd.ntmps132
  go_wp2
  go_ret
  exact ⟨rfl, rfl⟩
theorem isNaNi_any (a : Int) (w : World) : Calls Tryd.prog 133 #[.int .i64 a] w fun e w' => e = .returned (.bool false) ∧ w' = w := by
  go_enter Tryd.func133, Tryd.ntmps133
  go_wp2
  go_ret
  exact ⟨rfl, rfl⟩

set_option maxHeartbeats 1000000 in
theorem cmpS_any (a b : ByteArray) (w : World) : Calls Tryd.prog 130 #[.string a, .string b] w fun e w' => e = .returned (.int .i64 (cS a b)) ∧ w' = w := by
  have HC : Hid (cS a b = if Op.bytesLess a.toList b.toList then -1 else if a.toList == b.toList then 0 else 1) := rfl
  generalize cS a b = c at *
  cases hl : Op.bytesLess a.toList b.toList with
  | true =>
    rw [hl] at HC
    obtain rfl : c = -1 := HC.out
    clear HC
    go_enter Tryd.func130, Tryd.ntmps130
    go_wp2_with fail
    refine (isNaNs_any a _).mono ?_
    rintro e w1 ⟨rfl, hw⟩
    rw [hw]; clear hw
    go_wp2_with fail
    refine (isNaNs_any b _).mono ?_
    rintro e w1 ⟨rfl, hw⟩
    rw [hw]; clear hw
    go_wp2
    go_ret
    exact ⟨rfl, rfl⟩
  | false =>
    cases he : (a.toList == b.toList) with
    | true =>
      rw [hl, he] at HC
      obtain rfl : c = 0 := HC.out
      clear HC
      go_enter Tryd.func130, Tryd.ntmps130
      go_wp2_with fail
      refine (isNaNs_any a _).mono ?_
      rintro e w1 ⟨rfl, hw⟩
      rw [hw]; clear hw
      go_wp2_with fail
      refine (isNaNs_any b _).mono ?_
      rintro e w1 ⟨rfl, hw⟩
      rw [hw]; clear hw
      go_wp2
      go_ret
      exact ⟨rfl, rfl⟩
    | false =>
      rw [hl, he] at HC
      obtain rfl : c = 1 := HC.out
      clear HC
      go_enter Tryd.func130, Tryd.ntmps130
      go_wp2_with fail
      refine (isNaNs_any a _).mono ?_
      rintro e w1 ⟨rfl, hw⟩
      rw [hw]; clear hw
      go_wp2_with fail
      refine (isNaNs_any b _).mono ?_
      rintro e w1 ⟨rfl, hw⟩
      rw [hw]; clear hw
      go_wp2
      go_ret
      exact ⟨rfl, rfl⟩

set_option maxHeartbeats 1000000 in
theorem cmpI_any (a b : Int) (w : World) : Calls Tryd.prog 131 #[.int .i64 a, .int .i64 b] w fun e w' => e = .returned (.int .i64 (cI a b)) ∧ w' = w := by
  have HC : Hid (cI a b = if a < b then -1 else if b < a then 1 else 0) := rfl
  generalize cI a b = c at *
  rcases Int.lt_trichotomy a b with h | h | h
  · obtain rfl : c = -1 := by rw [HC.out, if_pos h]
    clear HC
    go_enter Tryd.func131, Tryd.ntmps131
    go_wp2_with fail
    refine (isNaNi_any a _).mono ?_
    rintro e w1 ⟨rfl, hw⟩
    rw [hw]; clear hw
    go_wp2_with fail
    refine (isNaNi_any b _).mono ?_
    rintro e w1 ⟨rfl, hw⟩
    rw [hw]; clear hw
    go_wp2
    go_ret
    exact ⟨rfl, rfl⟩
  · subst h
    obtain rfl : c = 0 := by rw [HC.out, if_neg (by omega), if_neg (by omega)]
    clear HC
    go_enter Tryd.func131, Tryd.ntmps131
    go_wp2_with fail
    refine (isNaNi_any a _).mono ?_
    rintro e w1 ⟨rfl, hw⟩
    rw [hw]; clear hw
    go_wp2_with fail
    refine (isNaNi_any a _).mono ?_
    rintro e w1 ⟨rfl, hw⟩
    rw [hw]; clear hw
    go_wp2
    go_ret
    exact ⟨rfl, rfl⟩
  · obtain rfl : c = 1 := by rw [HC.out, if_neg (by omega), if_pos h]
    have h' : b ≤ a := by omega
    clear HC
    go_enter Tryd.func131, Tryd.ntmps131
    go_wp2_with fail
    refine (isNaNi_any a _).mono ?_
    rintro e w1 ⟨rfl, hw⟩
    rw [hw]; clear hw
    go_wp2_with fail
    refine (isNaNi_any b _).mono ?_
    rintro e w1 ⟨rfl, hw⟩
    rw [hw]; clear hw
    go_wp2
    go_ret
    exact ⟨rfl, rfl⟩

set_option maxHeartbeats 1000000 in
theorem rtf_any (a b : ByteArray) (x y : Int) (w : World) : Calls Tryd.prog 129 #[.string a, .string b, .int .i64 x, .int .i64 y] w fun e w' => e = .returned (.int .i64 (cIt a b x y)) ∧ w' = w := by
  have A := fun w => cmpS_any a b w
  have I := fun w => cmpI_any y x w
  have HT : Hid (cIt a b x y = if Op.bytesLess a.toList b.toList then -1 else if a.toList == b.toList then cI y x else 1) := rfl
  have HC : Hid (cS a b = if Op.bytesLess a.toList b.toList then -1 else if a.toList == b.toList then 0 else 1) := rfl
  generalize cS a b = c at *
  generalize cIt a b x y = t at *
  generalize cI y x = i at *
  generalize Op.bytesLess a.toList b.toList = l at *
  generalize (a.toList == b.toList) = q at *
  cases l with
  | true =>
    obtain rfl : c = -1 := HC.out
    obtain rfl : t = -1 := HT.out
    clear HC HT
    go_enter Tryd.func129, Tryd.ntmps129
    go_wp2_with fail
    refine (A _).mono ?_
    rintro e w1 ⟨rfl, hw⟩
    rw [hw]; clear hw
    go_wp2
    go_ret
    exact ⟨rfl, rfl⟩
  | false =>
    cases q with
    | true =>
      obtain rfl : c = 0 := HC.out
      obtain rfl : t = i := HT.out
      clear HC HT
      go_enter Tryd.func129, Tryd.ntmps129
      go_wp2_with fail
      refine (A _).mono ?_
      rintro e w1 ⟨rfl, hw⟩
      rw [hw]; clear hw
      go_wp2_with fail
      refine (I _).mono ?_
      rintro e w1 ⟨rfl, hw⟩
      rw [hw]; clear hw
      go_wp2
      go_ret
      exact ⟨rfl, rfl⟩
    | false =>
      obtain rfl : c = 1 := HC.out
      obtain rfl : t = 1 := HT.out
      clear HC HT
      go_enter Tryd.func129, Tryd.ntmps129
      go_wp2_with fail
      refine (A _).mono ?_
      rintro e w1 ⟨rfl, hw⟩
      rw [hw]; clear hw
      go_wp2
      go_ret
      exact ⟨rfl, rfl⟩

set_option maxHeartbeats 1000000 in
theorem orderOf_any (k v k' v' : ByteArray) (n d n' d' : Int) (w : World) :
    Calls Tryd.prog 128 #[.agg #[.string k, .int .i64 n, .int .i64 d, .string v], .agg #[.string k', .int .i64 n', .int .i64 d', .string v']] w fun e w' => e = .returned (.int .i64 (cIt k k' n n')) ∧ Below w.heap.size w w' := by
  go_enter Tryd.func128, Tryd.ntmps128
  go_wp2_with fail
  refine (rtf_any k k' n n' _).mono ?_
  rintro e w1 ⟨rfl, hw⟩
  rw [hw]; clear hw
  go_wp2
  go_ret
  exact ⟨rfl, below2 _ _ _⟩

set_option maxHeartbeats 1000000 in
theorem l4Compare_any (k v k' v' : ByteArray) (n d n' d' : Int) (w : World) :
    Calls Tryd.prog 45 #[.agg #[.string k, .int .i64 n, .int .i64 d, .string v], .agg #[.string k', .int .i64 n', .int .i64 d', .string v']] w fun e w' => e = .returned (.int .i64 (cIt k k' n n')) ∧ Below w.heap.size w w' := by
  have HT : Hid (cIt k k' n n' = if Op.bytesLess k.toList k'.toList then -1 else if k.toList == k'.toList then cI n' n else 1) := rfl
  generalize cIt k k' n n' = t at *
  cases hl : Op.bytesLess k.toList k'.toList with
  | true =>
    obtain rfl : t = -1 := by rw [HT.out, hl]; rfl
    clear HT
    go_enter Tryd.func45, Tryd.ntmps45
    go_wp2
    go_ret
    exact ⟨rfl, below2 _ _ _⟩
  | false =>
    cases he : (k.toList == k'.toList) with
    | false =>
      obtain rfl : t = 1 := by rw [HT.out, hl, he]; rfl
      clear HT
      go_enter Tryd.func45, Tryd.ntmps45
      go_wp2
      go_ret
      exact ⟨rfl, below2 _ _ _⟩
    | true =>
      have ht : t = cI n' n := by rw [HT.out, hl, he]; rfl
      clear HT
      rcases Int.lt_trichotomy n' n with h | h | h
      · obtain rfl : t = -1 := by rw [ht]; unfold cI; rw [if_pos h]
        clear ht
        go_enter Tryd.func45, Tryd.ntmps45
        go_wp2
        go_ret
        exact ⟨rfl, below2 _ _ _⟩
      · subst h
        obtain rfl : t = 0 := by rw [ht]; unfold cI; rw [if_neg (by omega), if_neg (by omega)]
        clear ht
        go_enter Tryd.func45, Tryd.ntmps45
        go_wp2
        go_ret
        exact ⟨rfl, below2 _ _ _⟩
      · obtain rfl : t = 1 := by rw [ht]; unfold cI; rw [if_neg (by omega), if_pos h]
        have h1 : (n == n') = false := by simp; omega
        clear ht
        go_enter Tryd.func45, Tryd.ntmps45
        go_wp2
        go_ret
        exact ⟨rfl, below2 _ _ _⟩
end Go.Proofs.YtdaldkcildbcmaaDoor
