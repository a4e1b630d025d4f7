/-
  The walk of the law laws.FnVars.
-/
import Derived.Test.YtpjicnjihkknnaaD3
import Derived.Test.YtpjicnjihkknnaaJ
namespace Go.Proofs.Ytpjicnjihkknnaa
open Go.RowKit
set_option linter.unusedVariables false

theorem more_take (n : Nat) (h : n < 9223372036854775808) : take ((⟨(varL n).toArray⟩ : ByteArray) ++ ⟨#[109, 111, 114, 101]⟩).data.toList = (n, (varL n).length) := by
  have e : ((⟨(varL n).toArray⟩ : ByteArray) ++ ⟨#[109, 111, 114, 101]⟩).data.toList = varL n ++ [109, 111, 114, 101] := by
    simp [ByteArray.data_append]
  rw [e, take_var n _ h]
theorem slice_take (t : ByteArray) (w : World) (k : Nat) (hk : k ≤ t.size) : (Instr.slice 9 (.string t) none (some (.int .i64 (k : Int))) none).run Try.prog w = .ok (.string ⟨(t.data.toList.take k).toArray⟩) w := by
  rw [run_slice_string_h (w := w) (s := t) (t := 9) Try.underlying9 .i64 k (by omega) (by omega)]
  have e : t.extract 0 (k : Int).toNat = ⟨(t.data.toList.take k).toArray⟩ := by
    apply ByteArray.ext
    apply Array.toList_inj.1
    simp [ByteArray.data_extract]
  rw [e]

set_option maxRecDepth 100000 in
set_option maxHeartbeats 4000000 in
theorem second (t : ByteArray) (hs : t.size ≤ 20) : ((take t.data.toList).2 = 0 ∧ (take t.data.toList).1 = 0) ∨ ((take t.data.toList).2 ≠ 0 ∧ (take t.data.toList).2 ≤ t.size ∧ (take t.data.toList).1 < 9223372036854775808 ∧ t.data.toList.take (take t.data.toList).2 = varL (take t.data.toList).1) := by
  obtain ⟨h1, _, h3⟩ := take_bound t.data.toList
  by_cases h : (take t.data.toList).2 = 0
  · exact .inl ⟨h, tk_nothing _ _ _ _ h⟩
  · exact .inr ⟨h, by simpa using h3, h1, (take_back _ h).symm⟩

set_option maxRecDepth 100000 in
set_option maxHeartbeats 4000000 in
theorem lawVars (v u : Value) (l m : List UInt8) (w : World) (hv : YL w v l) (hn : l.length ≤ maxLen) (hu : YL w u m) (hn2 : m.length ≤ maxLen) :
    Calls Try.prog 3 #[v, u] w fun e w' => e = .returned (.bool true) ∧ Below w.heap.size w w' := by
  unfold maxLen at hn hn2
  have hv' := hv
  have hu' := hu
  obtain ⟨va, vc, rfl, _⟩ := hv'
  obtain ⟨ua, uc, rfl, _⟩ := hu'
  by_cases hg : wrap64 ((l.length : Int) + m.length) ≤ 1048576
  · go_enter Try.func3, Try.ntmps3
    go_wp2_with fail
    refine (drawVar_any _ l _ hv hn).mono ?_
    rintro e w1 ⟨⟨n, rfl, hn1, hn3⟩, hb1⟩
    go_wp2_with fail
    refine (implVar_any n _ hn1 hn3).mono ?_
    rintro e w2 ⟨rfl, hb2⟩
    have hB2 := below_then hb1 hb2
    clear hb1 hb2
    go_wp2_with fail
    refine (specVar_any n _ hn1 hn3).mono ?_
    rintro e w3 ⟨rfl, hb3⟩
    have hB3 := below_then hB2 hb3
    clear hb3 hB2
    have hT := varT_le n hn3
    have tail : ∀ (w4 : World) (hB4 : Below w.heap.size w w4), Calls Try.prog 19 #[.slice ua m.length uc] w4 fun e w' => (∃ s : ByteArray, e = .returned (.string s) ∧ s.size ≤ 20) ∧ Below w4.heap.size w4 w' := fun w4 hB4 => drawTake_any _ m _ (hu.below hB4) hn2
    by_cases h0 : 0 ≤ n
    · obtain ⟨k, rfl⟩ := Int.eq_ofNat_of_zero_le h0
      have htk := more_take k (by omega)
      have hlen : (⟨(varL k).toArray⟩ : ByteArray).size = (varL k).length := by show (varL k).toArray.size = _; simp
      rw [varT_nat] at hT ⊢
      rw [decide_eq_true h0]
      generalize (⟨(varL k).toArray⟩ : ByteArray) = T at *
      have hadd : (T ++ ⟨#[109, 111, 114, 101]⟩).size ≤ 1048576 := by rw [ByteArray.size_append]; show T.size + 4 ≤ _; omega
      go_wp2_with fail
      refine (implTake_any _ _ hadd).mono ?_
      rw [htk]
      rintro e w4 ⟨rfl, rfl⟩
      go_wp2_with fail
      refine (tail _ hB3).mono ?_
      rintro e w5 ⟨⟨t, rfl, hts⟩, hb5⟩
      have hB5 := below_then hB3 hb5
      clear hb5
      have hsec := second t hts
      have KI := fun w0 => implTake_any t w0 (by omega)
      have KS := fun w0 => specTake_any t w0 (by omega)
      have HSL := fun w0 => slice_take t w0 (take t.data.toList).2
      generalize (take t.data.toList).1 = a at *
      generalize (take t.data.toList).2 = k2 at *
      go_wp2_with fail
      refine (KI _).mono ?_
      rintro e w6 ⟨rfl, rfl⟩
      go_wp2_with fail
      refine (KS _).mono ?_
      rintro e w7 ⟨rfl, rfl⟩
      rcases hsec with ⟨rfl, rfl⟩ | ⟨hk0, hkl, ha, htake⟩
      · go_wp2
        go_ret
        exact ⟨rfl, hB5⟩
      · have g0 : ((k2 : Int) == 0) = false := by rw [beq_eq_false_iff_ne]; omega
        clear KI KS
        go_wp2_with fail
        refine (implVar_any a _ (by omega) (by omega)).mono ?_
        rintro e w8 ⟨rfl, hb8⟩
        have hsl := HSL w8 hkl
        rw [htake, ← varT_nat] at hsl
        clear htake HSL
        rw [decide_eq_true (show (0 : Int) ≤ (a : Int) from by omega)]
        generalize varT (a : Int) = V at hsl ⊢
        go_wp2
        go_ret
        exact ⟨rfl, below_then hB5 hb8⟩
    · have h0' : n < 0 := by omega
      rw [decide_eq_false h0]
      generalize varT n = T at *
      go_wp2_with fail
      refine (tail _ hB3).mono ?_
      rintro e w5 ⟨⟨t, rfl, hts⟩, hb5⟩
      have hB5 := below_then hB3 hb5
      clear hb5
      have hsec := second t hts
      have KI := fun w0 => implTake_any t w0 (by omega)
      have KS := fun w0 => specTake_any t w0 (by omega)
      have HSL := fun w0 => slice_take t w0 (take t.data.toList).2
      generalize (take t.data.toList).1 = a at *
      generalize (take t.data.toList).2 = k2 at *
      go_wp2_with fail
      refine (KI _).mono ?_
      rintro e w6 ⟨rfl, rfl⟩
      go_wp2_with fail
      refine (KS _).mono ?_
      rintro e w7 ⟨rfl, rfl⟩
      rcases hsec with ⟨rfl, rfl⟩ | ⟨hk0, hkl, ha, htake⟩
      · go_wp2
        go_ret
        exact ⟨rfl, hB5⟩
      · have g0 : ((k2 : Int) == 0) = false := by rw [beq_eq_false_iff_ne]; omega
        clear KI KS
        go_wp2_with fail
        refine (implVar_any a _ (by omega) (by omega)).mono ?_
        rintro e w8 ⟨rfl, hb8⟩
        have hsl := HSL w8 hkl
        rw [htake, ← varT_nat] at hsl
        clear htake HSL
        rw [decide_eq_true (show (0 : Int) ≤ (a : Int) from by omega)]
        generalize varT (a : Int) = V at hsl ⊢
        go_wp2
        go_ret
        exact ⟨rfl, below_then hB5 hb8⟩
  · have hg' : 1048576 < wrap64 ((l.length : Int) + m.length) := by omega
    go_enter Try.func3, Try.ntmps3
    go_wp2
    go_ret
    exact ⟨rfl, Below.refl _ _⟩

end Go.Proofs.Ytpjicnjihkknnaa
