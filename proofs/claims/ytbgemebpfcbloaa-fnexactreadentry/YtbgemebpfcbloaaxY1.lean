/-
  An entry's bytes: laws.toEntry, laws.szEntry, spec.EntryBytes, impl.EntryBytes.
-/
import Derived.Test.YtbgemebpfcbloaaC
import Derived.Test.YtbgemebpfcbloaaxV1
namespace Go.Proofs.Ytbgemebpfcbloaa
open Go.RowKit
set_option linter.unusedVariables false
set_option maxRecDepth 100000

theorem l1In_any (n lo hi : Int) (w : World) : Calls Try.prog 58 #[.int .i64 n, .int .i64 lo, .int .i64 hi] w fun e w' => e = .returned (.bool (decide (lo ≤ n) && decide (n ≤ hi))) ∧ w' = w := by
  cases h1 : decide (lo ≤ n) with
  | true =>
    go_enter Try.func58, Try.ntmps58
    go_wp2
    go_ret
    exact ⟨rfl, rfl⟩
  | false =>
    go_enter Try.func58, Try.ntmps58
    go_wp2
    go_ret
    exact ⟨rfl, rfl⟩

/-- An entry is good. -/
def okEn (t : Int) (s : ByteArray) : Bool := (decide (1 ≤ t) && decide (t ≤ 1000000)) && decide ((s.size : Int) ≤ 100)

theorem l3Entry_any (t : Int) (s : ByteArray) (w : World) (hs : s.size ≤ 1048576) :
    Calls Try.prog 87 #[.agg #[.int .i64 t, .string s]] w fun e w' => e = .returned (.bool (okEn t s)) ∧ Below w.heap.size w w' := by
  unfold okEn
  cases h1 : (decide (1 ≤ t) && decide (t ≤ 1000000)) with
  | true =>
    go_enter Try.func87, Try.ntmps87
    go_wp2_with fail
    refine (l1In_any _ _ _ _).mono ?_
    rintro e w1 ⟨rfl, rfl⟩
    rw [h1]
    go_wp2
    go_ret
    exact ⟨rfl, below_alloc _ _⟩
  | false =>
    go_enter Try.func87, Try.ntmps87
    go_wp2_with fail
    refine (l1In_any _ _ _ _).mono ?_
    rintro e w1 ⟨rfl, rfl⟩
    rw [h1]
    go_wp2
    go_ret
    exact ⟨rfl, below_alloc _ _⟩

theorem goodEntry_any (t : Int) (s : ByteArray) (w : World) (hs : s.size ≤ 1048576) :
    Calls Try.prog 89 #[.agg #[.int .i64 t, .string s]] w fun e w' => e = .returned (.bool (okEn t s)) ∧ Below w.heap.size w w' := by
  unfold okEn
  cases h1 : decide (1 ≤ t) with
  | false =>
    go_enter Try.func89, Try.ntmps89
    go_wp2
    go_ret
    exact ⟨rfl, below_alloc _ _⟩
  | true =>
    cases h2 : decide (t ≤ 1000000) with
    | false =>
      go_enter Try.func89, Try.ntmps89
      go_wp2
      go_ret
      exact ⟨rfl, below_alloc _ _⟩
    | true =>
      go_enter Try.func89, Try.ntmps89
      go_wp2
      go_ret
      exact ⟨rfl, below_alloc _ _⟩

theorem toEntry_any (t : Int) (s : ByteArray) (w : World) :
    Calls Try.prog 45 #[.agg #[.int .i64 t, .string s]] w fun e w' => e = .returned (.agg #[.int .i64 t, .string s]) ∧ Below w.heap.size w w' := by
  go_enter Try.func45, Try.ntmps45
  go_wp2
  exact bodyPost_ret (v := .agg #[.int .i64 t, .string s]) (by simp [results, Try.results45, go_sem]) rfl ⟨rfl, by repeat (first | exact Below.refl _ _ | refine Below.alloc ?_ (by simp; try omega) _)⟩

theorem szEntry_any (t : Int) (s : ByteArray) (w : World) (hs : s.size ≤ maxLen) :
    Calls Try.prog 43 #[.agg #[.int .i64 t, .string s], .int .i64 1048576] w fun e w' => (∃ q : Int, e = .returned (.int .i64 q) ∧ (q = -1 ∨ (0 ≤ q ∧ s.size ≤ 1048576))) ∧ Below w.heap.size w w' := by
  unfold maxLen at hs
  by_cases h : (s.size : Int) ≤ 1048576
  · go_enter Try.func43, Try.ntmps43
    go_wp2
    go_ret
    exact ⟨⟨_, rfl, .inr ⟨by omega, by omega⟩⟩, below_alloc _ _⟩
  · go_enter Try.func43, Try.ntmps43
    go_wp2
    go_ret
    exact ⟨⟨_, rfl, .inl rfl⟩, below_alloc _ _⟩

/-- An entry's bytes. -/
def entT (n t : Nat) (s : ByteArray) : ByteArray := ⟨(varL n).toArray⟩ ++ ⟨(varL t).toArray⟩ ++ s

set_option maxHeartbeats 1000000 in
theorem specEntry_yes (n t : Nat) (s : ByteArray) (w : World) (h1 : 1 ≤ n) (h2 : n ≤ 2000000) (he : okEn t s = true) :
    Calls Try.prog 44 #[.int .i64 n, .agg #[.int .i64 t, .string s]] w fun e w' => e = .returned (.tuple #[.string (entT n t s), .bool true]) ∧ Below w.heap.size w w' := by
  have hsz : s.size ≤ 100 := by simp only [okEn, Bool.and_eq_true, decide_eq_true_eq] at he; omega
  have ht : t ≤ 1000000 := by simp only [okEn, Bool.and_eq_true, decide_eq_true_eq] at he; omega
  have hin : (decide ((1 : Int) ≤ n) && decide ((n : Int) ≤ 2000000)) = true := by simp; omega
  go_enter Try.func44, Try.ntmps44
  go_wp2_with fail
  refine (l1In_any _ _ _ _).mono ?_
  rintro e w1 ⟨rfl, rfl⟩
  rw [hin]
  go_wp2_with fail
  refine (l3Entry_any t s _ (by omega)).mono ?_
  rintro e w1 ⟨rfl, hb1⟩
  rw [he]
  have X1 := (Box.new w #[.int .i64 t, .string s] 80).below hb1
  have hB1 := below_then (below_alloc _ _) hb1
  clear hb1 he hin
  have hz1 := X1.1
  have p0 : ∀ x : WC w1.heap.size w1, x.w.cell? ⟨w.heap.size, 0, none⟩ = some (.int .i64 t) := fun x => (x.ok.cell (p := ⟨w.heap.size, 0, none⟩) hz1).trans X1.c2.2.1
  have p1 : ∀ x : WC w1.heap.size w1, x.w.cell? ⟨w.heap.size, 1, none⟩ = some (.string s) := fun x => (x.ok.cell (p := ⟨w.heap.size, 1, none⟩) hz1).trans X1.c2.2.2
  have KN : Hid (∀ x : WC w1.heap.size w1, Calls Try.prog 88 #[.int .i64 n] x.w fun e w'' => e = .returned (.string ⟨(varL n).toArray⟩) ∧ ∃ m : WC w1.heap.size w1, w'' = m.w) := fun x => calm_of_below (Nat.le_refl _) (l2Var_any n _ (by omega))
  have KT : Hid (∀ x : WC w1.heap.size w1, Calls Try.prog 88 #[.int .i64 t] x.w fun e w'' => e = .returned (.string ⟨(varL t).toArray⟩) ∧ ∃ m : WC w1.heap.size w1, w'' = m.w) := fun x => calm_of_below (Nat.le_refl _) (l2Var_any t _ (by omega))
  have HE : Hid (entT n t s = ⟨(varL n).toArray⟩ ++ ⟨(varL t).toArray⟩ ++ s) := rfl
  have hne : Nonempty (WC w1.heap.size w1) := ⟨⟨_, Below.refl _ _⟩⟩
  have b1 : (varL n).length ≤ 9 := varL_len 8 n (by simp; omega)
  have b2 : (varL t).length ≤ 9 := varL_len 8 t (by simp; omega)
  have e1 : ((⟨(varL n).toArray⟩ : ByteArray)).size = (varL n).length := by simp [ByteArray.size]
  have e2 : ((⟨(varL t).toArray⟩ : ByteArray)).size = (varL t).length := by simp [ByteArray.size]
  generalize (⟨(varL n).toArray⟩ : ByteArray) = A at *
  generalize (⟨(varL t).toArray⟩ : ByteArray) = B at *
  go_wp2_with fail
  refine wp_region_calm (B := w1.heap.size) (W := w1) (by kernel_rfl) (by kernel_rfl) (Below.refl _ _) ?_
  iterate 2 (go_big_quiet_step ((go_at_call 88; exact KN.out _)))
  repeat (go_big_quiet_step ((go_at_call 88; exact KT.out _)))
  refine wpQuiet_nil ?_
  intro _ hw'
  obtain ⟨x, hx⟩ := hw'
  subst hx
  go_wp2
  go_ret2
  exact ⟨by rw [HE.out]; rfl, hB1.trans (x.ok.mono hB1.size)⟩

set_option maxHeartbeats 1000000 in
theorem specEntry_no (i t : Int) (s : ByteArray) (w : World) (hs : s.size ≤ 1048576) (h : ((decide (1 ≤ i) && decide (i ≤ 2000000)) && okEn t s) = false) :
    Calls Try.prog 44 #[.int .i64 i, .agg #[.int .i64 t, .string s]] w fun e w' => e = .returned (.tuple #[.string ⟨#[]⟩, .bool false]) ∧ Below w.heap.size w w' := by
  cases hin : (decide (1 ≤ i) && decide (i ≤ 2000000)) with
  | false =>
    clear h
    go_enter Try.func44, Try.ntmps44
    go_wp2_with fail
    refine (l1In_any _ _ _ _).mono ?_
    rintro e w1 ⟨rfl, rfl⟩
    rw [hin]
    go_wp2
    go_ret2
    exact ⟨rfl, below_alloc _ _⟩
  | true =>
    have he : okEn t s = false := by rw [hin] at h; simpa using h
    clear h
    go_enter Try.func44, Try.ntmps44
    go_wp2_with fail
    refine (l1In_any _ _ _ _).mono ?_
    rintro e w1 ⟨rfl, rfl⟩
    rw [hin]
    go_wp2_with fail
    refine (l3Entry_any t s _ (by omega)).mono ?_
    rintro e w1 ⟨rfl, hb1⟩
    rw [he]
    go_wp2
    go_ret2
    exact ⟨rfl, below_then (below_alloc _ _) hb1⟩

set_option maxHeartbeats 1000000 in
theorem twoNumbers_any (n t : Nat) (w : World) (h1 : n ≤ 2000000) (h2 : t ≤ 1000000) :
    Calls Try.prog 90 #[.int .i64 n, .int .i64 t] w fun e w' => e = .returned (.string (⟨(varL n).toArray⟩ ++ ⟨(varL t).toArray⟩)) ∧ Below w.heap.size w w' := by
  have b1 : (varL n).length ≤ 9 := varL_len 8 n (by simp; omega)
  have b2 : (varL t).length ≤ 9 := varL_len 8 t (by simp; omega)
  have e1 : ((⟨(varL n).toArray⟩ : ByteArray)).size = (varL n).length := by simp [ByteArray.size]
  have e2 : ((⟨(varL t).toArray⟩ : ByteArray)).size = (varL t).length := by simp [ByteArray.size]
  have V1 := fun w => implVar_any (n : Int) w (by omega) (by omega)
  have V2 := fun w => implVar_any (t : Int) w (by omega) (by omega)
  rw [varT_nat] at V1 V2
  generalize (⟨(varL n).toArray⟩ : ByteArray) = A at *
  generalize (⟨(varL t).toArray⟩ : ByteArray) = B at *
  go_enter Try.func90, Try.ntmps90
  go_wp2_with fail
  refine (V1 _).mono ?_
  rintro e w1 ⟨rfl, hb1⟩
  go_wp2_with fail
  refine (V2 _).mono ?_
  rintro e w2 ⟨rfl, hb2⟩
  go_wp2
  go_ret
  exact ⟨rfl, below_then hb1 hb2⟩

set_option maxHeartbeats 1000000 in
theorem implEntry_yes (n t : Nat) (s : ByteArray) (w : World) (h1 : 1 ≤ n) (h2 : n ≤ 2000000) (he : okEn t s = true) :
    Calls Try.prog 46 #[.int .i64 n, .agg #[.int .i64 t, .string s]] w fun e w' => e = .returned (.tuple #[.string (entT n t s), .bool true]) ∧ Below w.heap.size w w' := by
  have hsz : s.size ≤ 100 := by simp only [okEn, Bool.and_eq_true, decide_eq_true_eq] at he; omega
  have ht : t ≤ 1000000 := by simp only [okEn, Bool.and_eq_true, decide_eq_true_eq] at he; omega
  go_enter Try.func46, Try.ntmps46
  go_wp2_with fail
  refine (goodEntry_any t s _ (by omega)).mono ?_
  rintro e w1 ⟨rfl, hb1⟩
  rw [he]
  have X1 := (Box.new w #[.int .i64 t, .string s] 80).below hb1
  have hB1 := below_then (below_alloc _ _) hb1
  clear hb1 he
  have hz1 := X1.1
  have p0 : ∀ x : WC w1.heap.size w1, x.w.cell? ⟨w.heap.size, 0, none⟩ = some (.int .i64 t) := fun x => (x.ok.cell (p := ⟨w.heap.size, 0, none⟩) hz1).trans X1.c2.2.1
  have p1 : ∀ x : WC w1.heap.size w1, x.w.cell? ⟨w.heap.size, 1, none⟩ = some (.string s) := fun x => (x.ok.cell (p := ⟨w.heap.size, 1, none⟩) hz1).trans X1.c2.2.2
  have KN : Hid (∀ x : WC w1.heap.size w1, Calls Try.prog 90 #[.int .i64 n, .int .i64 t] x.w fun e w'' => e = .returned (.string (⟨(varL n).toArray⟩ ++ ⟨(varL t).toArray⟩)) ∧ ∃ m : WC w1.heap.size w1, w'' = m.w) := fun x => calm_of_below (Nat.le_refl _) (twoNumbers_any n t _ h2 ht)
  have HE : Hid (entT n t s = ⟨(varL n).toArray⟩ ++ ⟨(varL t).toArray⟩ ++ s) := rfl
  have hne : Nonempty (WC w1.heap.size w1) := ⟨⟨_, Below.refl _ _⟩⟩
  have e1 : ((⟨(varL n).toArray⟩ : ByteArray) ++ ⟨(varL t).toArray⟩).size ≤ 18 := by
    have b1 : (varL n).length ≤ 9 := varL_len 8 n (by simp; omega)
    have b2 : (varL t).length ≤ 9 := varL_len 8 t (by simp; omega)
    rw [ByteArray.size_append]; simp [ByteArray.size]; omega
  generalize (⟨(varL n).toArray⟩ : ByteArray) ++ ⟨(varL t).toArray⟩ = A at *
  go_wp2_with fail
  refine wp_region_calm (B := w1.heap.size) (W := w1) (by kernel_rfl) (by kernel_rfl) (Below.refl _ _) ?_
  repeat (go_big_quiet_step ((go_at_call 90; exact KN.out _)))
  refine wpQuiet_nil ?_
  intro _ hw'
  obtain ⟨x, hx⟩ := hw'
  subst hx
  go_wp2
  go_ret2
  exact ⟨by rw [HE.out]; rfl, hB1.trans (x.ok.mono hB1.size)⟩

set_option maxHeartbeats 1000000 in
theorem implEntry_no (i t : Int) (s : ByteArray) (w : World) (hs : s.size ≤ 1048576) (h : ((decide (1 ≤ i) && decide (i ≤ 2000000)) && okEn t s) = false) :
    Calls Try.prog 46 #[.int .i64 i, .agg #[.int .i64 t, .string s]] w fun e w' => e = .returned (.tuple #[.string ⟨#[]⟩, .bool false]) ∧ Below w.heap.size w w' := by
  by_cases h1 : i < 1
  · clear h
    go_enter Try.func46, Try.ntmps46
    go_wp2
    go_ret2
    exact ⟨rfl, below_alloc _ _⟩
  · by_cases h2 : (2000000 : Int) < i
    · clear h
      go_enter Try.func46, Try.ntmps46
      go_wp2
      go_ret2
      exact ⟨rfl, below_alloc _ _⟩
    · have he : okEn t s = false := by
        rw [show (decide (1 ≤ i) && decide (i ≤ 2000000)) = true from by simp; omega] at h; simpa using h
      clear h
      go_enter Try.func46, Try.ntmps46
      go_wp2_with fail
      refine (goodEntry_any t s _ (by omega)).mono ?_
      rintro e w1 ⟨rfl, hb1⟩
      rw [he]
      go_wp2
      go_ret2
      exact ⟨rfl, below_then (below_alloc _ _) hb1⟩

set_option maxHeartbeats 1000000 in
theorem lawEntryBytes (i t : Int) (s : ByteArray) (w : World) (hs : s.size ≤ maxLen) :
    Calls Try.prog 8 #[.int .i64 i, .agg #[.int .i64 t, .string s]] w fun e w' => e = .returned (.bool true) ∧ Below w.heap.size w w' := by
  go_enter Try.func8, Try.ntmps8
  go_wp2_with fail
  refine (szEntry_any t s _ hs).mono ?_
  rintro e w1 ⟨⟨q, rfl, hq⟩, hb1⟩
  have hB1 := below_then (below_alloc _ _) hb1
  have X1 := (Box.new w #[.int .i64 t, .string s] 77).below hb1
  clear hb1 hs
  rcases hq with rfl | ⟨hq0, hsz⟩
  · go_wp2
    go_ret
    exact ⟨rfl, hB1⟩
  · obtain ⟨hz, p0, p1⟩ := X1.c2
    go_wp2_with fail
    refine (toEntry_any t s _).mono ?_
    rintro e w2 ⟨rfl, hb2⟩
    have hB2 := below_then hB1 hb2
    have X2 := X1.below hb2
    clear X1 hz p0 p1 hb2
    obtain ⟨T, ok, KS, KI⟩ : ∃ (T : ByteArray) (ok : Bool), (∀ w, Calls Try.prog 44 #[.int .i64 i, .agg #[.int .i64 t, .string s]] w fun e w' => e = .returned (.tuple #[.string T, .bool ok]) ∧ Below w.heap.size w w') ∧
        (∀ w, Calls Try.prog 46 #[.int .i64 i, .agg #[.int .i64 t, .string s]] w fun e w' => e = .returned (.tuple #[.string T, .bool ok]) ∧ Below w.heap.size w w') := by
      cases h : ((decide (1 ≤ i) && decide (i ≤ 2000000)) && okEn t s) with
      | false => exact ⟨_, _, fun w => specEntry_no i t s w hsz h, fun w => implEntry_no i t s w hsz h⟩
      | true =>
        simp only [Bool.and_eq_true, decide_eq_true_eq] at h
        have ht : 1 ≤ t := by have := h.2; simp only [okEn, Bool.and_eq_true, decide_eq_true_eq] at this; omega
        obtain ⟨n, rfl⟩ := Int.eq_ofNat_of_zero_le (show 0 ≤ i from by omega)
        obtain ⟨m, rfl⟩ := Int.eq_ofNat_of_zero_le (show 0 ≤ t from by omega)
        exact ⟨_, _, fun w => specEntry_yes n m s w (by omega) (by omega) h.2, fun w => implEntry_yes n m s w (by omega) (by omega) h.2⟩
    go_wp2_with fail
    refine (KS _).mono ?_
    rintro e w3 ⟨rfl, hb3⟩
    have hB3 := below_then hB2 hb3
    have X3 := X2.below hb3
    clear X2 hb3 KS
    obtain ⟨hz, p0, p1⟩ := X3.c2
    go_wp2_with fail
    refine (toEntry_any t s _).mono ?_
    rintro e w4 ⟨rfl, hb4⟩
    have hB4 := below_then hB3 hb4
    clear X3 hz p0 p1 hb4
    go_wp2_with fail
    refine (KI _).mono ?_
    rintro e w5 ⟨rfl, hb5⟩
    clear KI
    go_wp2
    go_ret
    exact ⟨rfl, below_then hB4 hb5⟩
end Go.Proofs.Ytbgemebpfcbloaa
