/-
  Plain functions of chapter 2, no program: a number's bytes, what is taken of bytes, the sum's table and the sum.
-/
import Derived.WalkKit
import Derived.ProofKit
import Derived.Below
namespace Go.Proofs.YtenbdjlhcadhaaaGreat
open Go.RowKit

/-- The bytes of a number: seven bits each, the lowest ahead. -/
def varL (n : Nat) : List UInt8 := if h : n < 128 then [UInt8.ofNat n] else UInt8.ofNat (n % 128 + 128) :: varL (n / 128)
termination_by n
decreasing_by omega
theorem varL_lt (n : Nat) (h : n < 128) : varL n = [UInt8.ofNat n] := by rw [varL, dif_pos h]
theorem varL_ge (n : Nat) (h : ¬ n < 128) : varL n = UInt8.ofNat (n % 128 + 128) :: varL (n / 128) := by rw [varL, dif_neg h]
theorem varL_len (j : Nat) : ∀ n, n < 128 ^ (j + 1) → (varL n).length ≤ j + 1 := by
  induction j with
  | zero => intro n h; rw [varL_lt n (by simpa using h)]; simp
  | succ j ih =>
    intro n h
    by_cases h1 : n < 128
    · rw [varL_lt n h1]; simp
    · rw [varL_ge n h1]
      have := ih (n / 128) (by rw [Nat.pow_succ] at h; omega)
      simp; omega
theorem varL_pos (n : Nat) : 1 ≤ (varL n).length := by
  by_cases h1 : n < 128
  · rw [varL_lt n h1]; simp
  · rw [varL_ge n h1]; simp

/-- Bytes as cells. -/
def bcs (l : List UInt8) : List Value := l.map fun c => .int .u8 (c.toNat : Int)
theorem bcs_length (l : List UInt8) : (bcs l).length = l.length := by simp [bcs]
theorem bcs_append (l r : List UInt8) : bcs (l ++ r) = bcs l ++ bcs r := by simp [bcs]

/-- What is taken of a number's bytes, from byte k on; f: how many bytes may come yet. -/
def tk (s : List UInt8) : Nat → Nat → Nat → Nat × Nat
  | 0, _, _ => (0, 0)
  | f + 1, k, n =>
    match s[k]? with
    | none => (0, 0)
    | some c => if c.toNat < 128 then (if 0 < k ∧ c.toNat = 0 then (0, 0) else (n + c.toNat % 128 * 128 ^ k, k + 1)) else tk s f (k + 1) (n + c.toNat % 128 * 128 ^ k)
def take (s : List UInt8) : Nat × Nat := tk s 9 0 0
theorem tk_none (s : List UInt8) (f k n : Nat) (h : s.length ≤ k) : tk s f k n = (0, 0) := by
  cases f with
  | zero => rfl
  | succ f => simp [tk, List.getElem?_eq_none h]
theorem tk_some (s : List UInt8) (f k n : Nat) (h : k < s.length) : tk s (f + 1) k n = if s[k].toNat < 128 then (if 0 < k ∧ s[k].toNat = 0 then (0, 0) else (n + s[k].toNat % 128 * 128 ^ k, k + 1)) else tk s f (k + 1) (n + s[k].toNat % 128 * 128 ^ k) := by
  simp [tk, List.getElem?_eq_getElem h]
theorem tk_bound (s : List UInt8) (f : Nat) : ∀ k n, n < 128 ^ k → k + f = 9 → k ≤ s.length → (tk s f k n).1 < 128 ^ 9 ∧ (tk s f k n).2 ≤ 9 ∧ (tk s f k n).2 ≤ s.length := by
  induction f with
  | zero => intro k n _ _ _; simp [tk]
  | succ f ih =>
    intro k n h hf hk
    by_cases h1 : k < s.length
    · rw [tk_some s f k n h1]
      have hlt : n + s[k].toNat % 128 * 128 ^ k < 128 ^ (k + 1) := by
        rw [Nat.pow_succ]
        have h2 : s[k].toNat % 128 ≤ 127 := by omega
        have h3 := Nat.mul_le_mul_right (128 ^ k) h2
        omega
      have hle : 128 ^ (k + 1) ≤ 128 ^ 9 := Nat.pow_le_pow_right (by omega) (by omega)
      split
      · split
        · simp
        · exact ⟨by show _ < _; omega, by show _ ≤ _; omega, by show _ ≤ _; omega⟩
      · exact ih _ _ hlt (by omega) (by omega)
    · rw [tk_none s _ _ _ (by omega)]; simp
theorem take_bound (s : List UInt8) : (take s).1 < 9223372036854775808 ∧ (take s).2 ≤ 9 ∧ (take s).2 ≤ s.length := by
  have := tk_bound s 9 0 0 (by simp) rfl (by omega)
  simpa [take] using this

/-- One step of the sum's rule. -/
def cb (n : Nat) : Nat := if n % 2 = 1 then (n / 2) ^^^ 2197175160 else n / 2
def cbs : Nat → Nat → Nat
  | 0, n => n
  | k + 1, n => cbs k (cb n)
def ct (i : Nat) : Nat := cbs 8 i
theorem cb_lt (n : Nat) (h : n < 4294967296) : cb n < 4294967296 := by
  unfold cb
  split
  · exact Nat.xor_lt_two_pow (n := 32) (by omega) (by omega)
  · omega
theorem cbs_lt (k n : Nat) (h : n < 4294967296) : cbs k n < 4294967296 := by
  induction k generalizing n with
  | zero => exact h
  | succ k ih => exact ih _ (cb_lt n h)
theorem cbs_succ (k n : Nat) : cbs (k + 1) n = cb (cbs k n) := by
  induction k generalizing n with
  | zero => rfl
  | succ k ih => exact ih (cb n)
theorem ct_lt (i : Nat) (h : i < 256) : ct i < 4294967296 := cbs_lt 8 i (by omega)
/-- The sum goes on by one byte. -/
def cstep (s c : Nat) : Nat := ct ((s % 256) ^^^ c) ^^^ (s / 256)
theorem cstep_lt (s c : Nat) (hs : s < 4294967296) (hc : c < 256) : cstep s c < 4294967296 :=
  Nat.xor_lt_two_pow (n := 32) (ct_lt _ (Nat.xor_lt_two_pow (n := 8) (by omega) (by omega))) (by omega)
def con : Nat → List UInt8 → Nat
  | s, [] => s
  | s, c :: l => con (cstep s c.toNat) l
theorem con_lt (l : List UInt8) (s : Nat) (hs : s < 4294967296) : con s l < 4294967296 := by
  induction l generalizing s with
  | nil => exact hs
  | cons c l ih => exact ih _ (cstep_lt s _ hs c.toNat_lt)
theorem con_append (a b : List UInt8) (s : Nat) : con s (a ++ b) = con (con s a) b := by
  induction a generalizing s with
  | nil => rfl
  | cons c l ih => exact ih _
def csum (l : List UInt8) : Nat := 4294967295 - con 4294967295 l
theorem csum_lt (l : List UInt8) : csum l < 4294967296 := by unfold csum; omega
theorem con_take_succ (l : List UInt8) (s k : Nat) (h : k < l.length) : con s (l.take (k + 1)) = cstep (con s (l.take k)) l[k].toNat := by
  rw [List.take_succ_eq_append_getElem h, con_append]
  rfl
/-- The table. -/
def tblL : List Value := (List.range 256).map fun i => .int .u32 ((ct i : Nat) : Int)
theorem tblL_length : tblL.length = 256 := by simp [tblL]
theorem tblL_at (i : Nat) (h : i < 256) : tblL[i]? = some (.int .u32 ((ct i : Nat) : Int)) := by simp [tblL, h]
end Go.Proofs.YtenbdjlhcadhaaaGreat
