/-
  Sums of chunks: impl.ChunkSum, spec.ChunkSum.
-/
import Derived.Test.YtocaigffikdlhaaS2
import Derived.Test.YtocaigffikdlhaaD2ToD3
namespace Go.Proofs.Ytocaigffikdlhaa
open Go.RowKit
set_option linter.unusedVariables false
set_option maxRecDepth 100000

/-- The sum of a chunk. -/
def cks (f a : Int) (d : ByteArray) : Nat := csum (varT (max f 0) ++ varT (max a 0) ++ d).data.toList
theorem run_max_int {P : Program} (w : World) (x y : Int) (ty : TypeId) : (Builtin.max_ #[3, 3] ty #[.int .i64 x, .int .i64 y]).run P w = .ok (.int .i64 (max x y)) w := by
  rcases Int.le_total x y with h | h
  · by_cases h' : y ≤ x
    · obtain rfl : x = y := by omega
      simp [Builtin.max_, Builtin.max2, go_sem]
    · simp [Builtin.max_, Builtin.max2, go_sem, h, h', Int.max_eq_right]
  · simp [Builtin.max_, Builtin.max2, go_sem, h, Int.max_eq_left]
    omega

set_option maxHeartbeats 1000000 in
theorem implCks_any (f a : Int) (d : ByteArray) (w : World) (f1 : -9223372036854775808 ≤ f) (f2 : f ≤ 9223372036854775807) (a1 : -9223372036854775808 ≤ a) (a2 : a ≤ 9223372036854775807) (hd : d.size ≤ 1048576) :
    Calls Try.prog 43 #[.int .i64 f, .int .i64 a, .string d] w fun e w' => e = .returned (.int .u32 ((cks f a d : Nat) : Int)) ∧ Below w.heap.size w w' := by
  have HC : Hid (cks f a d = csum (varT (max f 0) ++ varT (max a 0) ++ d).data.toList) := rfl
  have R1 := fun w => run_max_int (P := Try.prog) w f 0 3
  have R2 := fun w => run_max_int (P := Try.prog) w a 0 3
  obtain ⟨f', hf'⟩ : ∃ f', f' = max f 0 := ⟨_, rfl⟩
  obtain ⟨a', ha'⟩ : ∃ a', a' = max a 0 := ⟨_, rfl⟩
  rw [← hf', ← ha'] at HC
  rw [← hf'] at R1
  rw [← ha'] at R2
  have KF := fun w => implVar_any f' w (by omega) (by omega)
  have KA := fun w => implVar_any a' w (by omega) (by omega)
  have sf := varT_le f' (by omega)
  have sa := varT_le a' (by omega)
  have hsz : (varT f' ++ varT a' ++ d).size ≤ 2097152 := by simp only [ByteArray.size_append]; omega
  have KS := fun w => implSum_any _ w hsz
  rw [← HC.out] at KS
  generalize varT f' = tf at *
  generalize varT a' = ta at *
  generalize cks f a d = r at *
  generalize decide (0 ≤ f') = df at *
  generalize decide (0 ≤ a') = da at *
  have s2 : (tf ++ ta).size ≤ 18 := by simp only [ByteArray.size_append]; omega
  clear HC hsz hf' ha'
  go_enter Try.func43, Try.ntmps43
  go_wp2_with fail
  refine (KF _).mono ?_
  rintro e w1 ⟨rfl, hb1⟩
  go_wp2_with fail
  refine (KA _).mono ?_
  rintro e w2 ⟨rfl, hb2⟩
  go_wp2_with fail
  refine (KS _).mono ?_
  rintro e w3 ⟨rfl, hb3⟩
  have hb := below_then (below_then hb1 hb2) hb3
  clear KF KA KS hb1 hb2 hb3
  go_wp2
  go_ret
  exact ⟨rfl, hb⟩

set_option maxHeartbeats 1000000 in
theorem l13Sum_any (f a : Int) (d : ByteArray) (w : World) (f1 : -9223372036854775808 ≤ f) (f2 : f ≤ 9223372036854775807) (a1 : -9223372036854775808 ≤ a) (a2 : a ≤ 9223372036854775807) (hd : d.size ≤ 1048576) :
    Calls Try.prog 85 #[.int .i64 f, .int .i64 a, .string d] w fun e w' => e = .returned (.int .u32 ((cks f a d : Nat) : Int)) ∧ Below w.heap.size w w' := by
  obtain ⟨n, hn⟩ := Int.eq_ofNat_of_zero_le (show 0 ≤ max f 0 from by omega)
  obtain ⟨m, hm⟩ := Int.eq_ofNat_of_zero_le (show 0 ≤ max a 0 from by omega)
  have HC : Hid (cks f a d = csum (varT (max f 0) ++ varT (max a 0) ++ d).data.toList) := rfl
  rw [hn, hm, varT_nat, varT_nat] at HC
  have KF := fun w => l2Var_any n w (by omega)
  have KA := fun w => l2Var_any m w (by omega)
  have sf := varT_le n (by omega)
  have sa := varT_le m (by omega)
  rw [varT_nat] at sf sa
  have hsz : ((⟨(varL n).toArray⟩ : ByteArray) ++ ⟨(varL m).toArray⟩ ++ d).size ≤ 2097152 := by simp only [ByteArray.size_append]; omega
  have KS := fun w => l2Sum_any _ w hsz
  rw [← HC.out] at KS
  generalize (⟨(varL n).toArray⟩ : ByteArray) = tf at *
  generalize (⟨(varL m).toArray⟩ : ByteArray) = ta at *
  generalize cks f a d = r at *
  have s2 : (tf ++ ta).size ≤ 18 := by simp only [ByteArray.size_append]; omega
  clear HC hsz
  have hE : (f < 0 ∧ n = 0) ∨ (¬ f < 0 ∧ f = n) := by omega
  have hE2 : (a < 0 ∧ m = 0) ∨ (¬ a < 0 ∧ a = m) := by omega
  clear hn hm
  rcases hE with ⟨h1, rfl⟩ | ⟨h1, rfl⟩ <;> rcases hE2 with ⟨h2, rfl⟩ | ⟨h2, rfl⟩
  all_goals
    go_enter Try.func85, Try.ntmps85
    go_wp2_with fail
    refine (KF _).mono ?_
    rintro e w1 ⟨rfl, hb1⟩
    go_wp2_with fail
    refine (KA _).mono ?_
    rintro e w2 ⟨rfl, hb2⟩
    go_wp2_with fail
    refine (KS _).mono ?_
    rintro e w3 ⟨rfl, hb3⟩
    have hb := below_then (below_then hb1 hb2) hb3
    clear KF KA KS hb1 hb2 hb3
    go_wp2
    go_ret
    exact ⟨rfl, hb⟩
theorem specCks_any (f a : Int) (d : ByteArray) (w : World) (f1 : -9223372036854775808 ≤ f) (f2 : f ≤ 9223372036854775807) (a1 : -9223372036854775808 ≤ a) (a2 : a ≤ 9223372036854775807) (hd : d.size ≤ 1048576) :
    Calls Try.prog 42 #[.int .i64 f, .int .i64 a, .string d] w fun e w' => e = .returned (.int .u32 ((cks f a d : Nat) : Int)) ∧ Below w.heap.size w w' := by
  go_enter Try.func42, Try.ntmps42
  go_wp2_with fail
  refine (l13Sum_any f a d _ f1 f2 a1 a2 hd).mono ?_
  rintro e w1 ⟨rfl, hb1⟩
  go_wp2
  go_ret
  exact ⟨rfl, hb1⟩
theorem cks_lt (f a : Int) (d : ByteArray) : cks f a d < 4294967296 := by
  unfold cks
  exact csum_lt _
end Go.Proofs.Ytocaigffikdlhaa
