/-
  impl.goodStep, impl.lacksName, impl.takenName.
-/
import Derived.Test.YtbgemebpfcbloaaQ0
namespace Go.Proofs.Ytbgemebpfcbloaa
open Go.RowKit Go.Maps
set_option linter.unusedVariables false
set_option maxRecDepth 100000

/-- A step as a value. -/
theorem kinds (k : Int) : k = 1 ∨ k = 2 ∨ k = 3 ∨ k = 4 ∨ k = 5 ∨ k = 6 ∨ k = 7 ∨ k = 8 ∨ ((k == 1) = false ∧ (k == 2) = false ∧ (k == 3) = false ∧ (k == 4) = false ∧ (k == 5) = false ∧ (k == 6) = false ∧ (k == 7) = false ∧ (k == 8) = false) := by
  simp only [beq_eq_false_iff_ne]; omega
def kindOk (k : Int) (nm ot : ByteArray) (kp : Int) : Bool :=
  if k == 1 || k == 2 || k == 3 || k == 6 then okN nm else if k == 4 || k == 5 then okN nm && okN ot else if k == 7 then true else if k == 8 then decide (0 ≤ kp) && decide (kp ≤ 4000) else false
def goodS (k : Int) (nm ot da : ByteArray) (kp : Int) : Bool := decide ((da.size : Int) ≤ 4000) && kindOk k nm ot kp
def named (k : Int) : Bool := k == 2 || k == 3 || k == 4 || k == 5 || k == 6
def lacks (k : Int) (has : Bool) : Bool := named k && !has
def taken (k : Int) (has hot : Bool) : Bool := (k == 1 && has) || (k == 5 && hot)

set_option maxHeartbeats 1000000 in
theorem goodStep_any (k : Int) (nm ot da : ByteArray) (kp : Int) (w : World) (h1 : nm.size ≤ 1048576) (h2 : ot.size ≤ 1048576) (h3 : da.size ≤ 1048576) :
    Calls Try.prog 99 #[.agg #[.int .i64 k, .string nm, .string ot, .string da, .int .i64 kp]] w fun e w' => e = .returned (.bool (goodS k nm ot da kp)) ∧ Below w.heap.size w w' := by
  have I1 := fun w => isFileName_any nm w h1
  have I2 := fun w => isFileName_any ot w h2
  by_cases hd : (da.size : Int) ≤ 4000
  · have hd' : decide ((4000 : Int) < da.size) = false := by simp; omega
    have e0 : goodS k nm ot da kp = kindOk k nm ot kp := by rw [goodS, decide_eq_true hd, Bool.true_and]
    rw [e0]
    clear e0 hd
    rcases kinds k with rfl | rfl | rfl | rfl | rfl | rfl | rfl | rfl | ⟨k1, k2, k3, k4, k5, k6, k7, k8⟩
    case inr.inr.inr.inr.inr.inr.inr.inr =>
      rw [show kindOk k nm ot kp = false from by simp [kindOk, k1, k2, k3, k4, k5, k6, k7, k8]]
      go_enter Try.func99, Try.ntmps99
      go_wp2
      go_ret
      exact ⟨rfl, below_alloc _ _⟩
    case inr.inr.inr.inr.inr.inr.inl =>
      go_enter Try.func99, Try.ntmps99
      go_wp2
      go_ret
      exact ⟨rfl, below_alloc _ _⟩
    case inr.inr.inr.inr.inr.inr.inr.inl =>
      rw [show kindOk 8 nm ot kp = (decide (0 ≤ kp) && decide (kp ≤ 4000)) from rfl]
      cases hk : decide (0 ≤ kp) with
      | true =>
        go_enter Try.func99, Try.ntmps99
        go_wp2
        go_ret
        exact ⟨rfl, below_alloc _ _⟩
      | false =>
        go_enter Try.func99, Try.ntmps99
        go_wp2
        go_ret
        exact ⟨rfl, below_alloc _ _⟩
    case inr.inr.inr.inl =>
      rw [show kindOk 4 nm ot kp = (okN nm && okN ot) from rfl]
      cases hN : okN nm with
      | true =>
        rw [hN] at I1
        go_enter Try.func99, Try.ntmps99
        go_wp2_with fail
        refine (I1 _).mono ?_
        rintro e w1 ⟨rfl, rfl⟩
        go_wp2_with fail
        refine (I2 _).mono ?_
        rintro e w1 ⟨rfl, rfl⟩
        go_wp2
        go_ret
        exact ⟨rfl, below_alloc _ _⟩
      | false =>
        rw [hN] at I1
        go_enter Try.func99, Try.ntmps99
        go_wp2_with fail
        refine (I1 _).mono ?_
        rintro e w1 ⟨rfl, rfl⟩
        go_wp2
        go_ret
        exact ⟨rfl, below_alloc _ _⟩
    case inr.inr.inr.inr.inl =>
      rw [show kindOk 5 nm ot kp = (okN nm && okN ot) from rfl]
      cases hN : okN nm with
      | true =>
        rw [hN] at I1
        go_enter Try.func99, Try.ntmps99
        go_wp2_with fail
        refine (I1 _).mono ?_
        rintro e w1 ⟨rfl, rfl⟩
        go_wp2_with fail
        refine (I2 _).mono ?_
        rintro e w1 ⟨rfl, rfl⟩
        go_wp2
        go_ret
        exact ⟨rfl, below_alloc _ _⟩
      | false =>
        rw [hN] at I1
        go_enter Try.func99, Try.ntmps99
        go_wp2_with fail
        refine (I1 _).mono ?_
        rintro e w1 ⟨rfl, rfl⟩
        go_wp2
        go_ret
        exact ⟨rfl, below_alloc _ _⟩
    all_goals
      go_enter Try.func99, Try.ntmps99
      go_wp2_with fail
      refine (I1 _).mono ?_
      rintro e w1 ⟨rfl, rfl⟩
      go_wp2
      go_ret
      exact ⟨rfl, below_alloc _ _⟩
  · have e0 : goodS k nm ot da kp = false := by rw [goodS, decide_eq_false hd, Bool.false_and]
    have hd' : (4000 : Int) < da.size := by omega
    rw [e0]
    clear e0 hd
    go_enter Try.func99, Try.ntmps99
    go_wp2
    go_ret
    exact ⟨rfl, below_alloc _ _⟩

theorem key9 (nm : ByteArray) (h : nm.size ≤ 1048576) : keyOf Try.prog 9 (.string nm) = some (keyL nm) := WideMaps.keyOf_string_mk Try.underlying9 (by unfold maxLen; omega)

set_option maxHeartbeats 1000000 in
theorem lacksName_any (b n : Nat) (D : DataW Unit) (k : Int) (nm ot da : ByteArray) (kp : Int) (has : Bool) (w : World) (h1 : nm.size ≤ 1048576) (hown : w.ownsMap Try.prog 9 (plainElem Try.prog 3) b n D) (hhas : Maps.has D (keyL nm) = has) :
    Calls Try.prog 100 #[.map (some b), .agg #[.int .i64 k, .string nm, .string ot, .string da, .int .i64 kp]] w fun e w' => e = .returned (.bool (lacks k has)) ∧ Below w.heap.size w w' := by
  have hkey := key9 nm h1
  rcases kinds k with rfl | rfl | rfl | rfl | rfl | rfl | rfl | rfl | ⟨k1, k2, k3, k4, k5, k6, k7, k8⟩
  case inr.inr.inr.inr.inr.inr.inr.inr =>
    rw [show lacks k has = false from by simp [lacks, named, k2, k3, k4, k5, k6]]
    clear hhas hown
    go_enter Try.func100, Try.ntmps100
    go_wp2
    go_ret
    exact ⟨rfl, below_alloc _ _⟩
  case inl =>
    clear hhas hown
    go_enter Try.func100, Try.ntmps100
    go_wp2
    go_ret
    exact ⟨rfl, below_alloc _ _⟩
  case inr.inr.inr.inr.inr.inr.inl =>
    clear hhas hown
    go_enter Try.func100, Try.ntmps100
    go_wp2
    go_ret
    exact ⟨rfl, below_alloc _ _⟩
  case inr.inr.inr.inr.inr.inr.inr.inl =>
    clear hhas hown
    go_enter Try.func100, Try.ntmps100
    go_wp2
    go_ret
    exact ⟨rfl, below_alloc _ _⟩
  all_goals
    go_enter Try.func100, Try.ntmps100
    go_wp2_with (at_lookup; refine wpList_lookup_own_ok_int _ rfl _ _ 94 rfl 9 3 .i64 law9 Try.underlying94 Try.underlying3 (zero3 _) b n D rfl (hown.alloc _) _ _ rfl hkey ?_; intro c hat hwc)
    go_ret
    exact ⟨rfl, below_alloc _ _⟩

set_option maxHeartbeats 1000000 in
theorem takenName_any (b n : Nat) (D : DataW Unit) (k : Int) (nm ot da : ByteArray) (kp : Int) (has hot : Bool) (w : World) (h1 : nm.size ≤ 1048576) (h2 : ot.size ≤ 1048576) (hown : w.ownsMap Try.prog 9 (plainElem Try.prog 3) b n D) (hhas : Maps.has D (keyL nm) = has) (hhot : Maps.has D (keyL ot) = hot) :
    Calls Try.prog 101 #[.map (some b), .agg #[.int .i64 k, .string nm, .string ot, .string da, .int .i64 kp]] w fun e w' => e = .returned (.bool (taken k has hot)) ∧ Below w.heap.size w w' := by
  have hkey := key9 nm h1
  have hkey2 := key9 ot h2
  rcases kinds k with rfl | rfl | rfl | rfl | rfl | rfl | rfl | rfl | ⟨k1, k2, k3, k4, k5, k6, k7, k8⟩
  case inr.inr.inr.inr.inr.inr.inr.inr =>
    rw [show taken k has hot = false from by simp [taken, k1, k5]]
    clear hhas hhot hown
    go_enter Try.func101, Try.ntmps101
    go_wp2
    go_ret
    exact ⟨rfl, below_alloc _ _⟩
  case inl =>
    rw [show taken 1 has hot = has from by simp [taken]]
    clear hhot
    go_enter Try.func101, Try.ntmps101
    go_wp2_with (at_lookup; refine wpList_lookup_own_ok_int _ rfl _ _ 94 rfl 9 3 .i64 law9 Try.underlying94 Try.underlying3 (zero3 _) b n D rfl (hown.alloc _) _ _ rfl hkey ?_; intro c hat hwc)
    go_ret
    exact ⟨rfl, below_alloc _ _⟩
  case inr.inr.inr.inr.inl =>
    rw [show taken 5 has hot = hot from by simp [taken]]
    clear hhas
    go_enter Try.func101, Try.ntmps101
    go_wp2_with (at_lookup; refine wpList_lookup_own_ok_int _ rfl _ _ 94 rfl 9 3 .i64 law9 Try.underlying94 Try.underlying3 (zero3 _) b n D rfl (hown.alloc _) _ _ rfl hkey2 ?_; intro c hat hwc)
    go_ret
    exact ⟨rfl, below_alloc _ _⟩
  all_goals
    clear hhas hhot hown
    go_enter Try.func101, Try.ntmps101
    go_wp2
    go_ret
    exact ⟨rfl, below_alloc _ _⟩
end Go.Proofs.Ytbgemebpfcbloaa
