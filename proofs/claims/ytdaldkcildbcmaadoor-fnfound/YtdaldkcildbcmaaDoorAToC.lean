/-
  Plain functions of chapter 2, no program: a number's bytes, what is taken of bytes, the sum's table and the sum.
  A region that draws its order and holds calls that only make new memory and answer one value, whatever the world: one walk, in the order of the text (the library's theorem on quiet regions, at the class 'as it was below block B').
-/
import Derived.WalkKit
import Derived.ProofKit
import Derived.Below
import Derived.Test.YtdaldkcildbcmaaDoorB
import Derived.Deep.QuietTactic
import Derived.BigQuiet
namespace Go.Proofs.YtdaldkcildbcmaaDoor
open Go.RowKit
/-- The bytes of a number: seven bits each, the lowest ahead. -/
def varL (n : Nat) : List UInt8 := if h : n < 128 then [UInt8.ofNat n] else UInt8.ofNat (n % 128 + 128) :: varL (n / 128)
termination_by n
decreasing_by omega
/-- Bytes as cells. -/
def bcs (l : List UInt8) : List Value := l.map fun c => .int .u8 (c.toNat : Int)
/-- What is taken of a number's bytes, from byte k on; f: how many bytes may come yet. -/
def tk (s : List UInt8) : Nat → Nat → Nat → Nat × Nat
  | 0, _, _ => (0, 0)
  | f + 1, k, n =>
    match s[k]? with
    | none => (0, 0)
    | some c => if c.toNat < 128 then (if 0 < k ∧ c.toNat = 0 then (0, 0) else (n + c.toNat % 128 * 128 ^ k, k + 1)) else tk s f (k + 1) (n + c.toNat % 128 * 128 ^ k)
def take (s : List UInt8) : Nat × Nat := tk s 9 0 0
/-- One step of the sum's rule. -/
def cb (n : Nat) : Nat := if n % 2 = 1 then (n / 2) ^^^ 2197175160 else n / 2
def cbs : Nat → Nat → Nat
  | 0, n => n
  | k + 1, n => cbs k (cb n)
def ct (i : Nat) : Nat := cbs 8 i
theorem cb_lt (n : Nat) (h : n < 4294967296) : cb n < 4294967296 := by
  unfold cb
  split
  · exact Nat.xor_lt_two_pow (n := 32) (by omega) (by omega)
  · omega
theorem cbs_lt (k n : Nat) (h : n < 4294967296) : cbs k n < 4294967296 := by
  induction k generalizing n with
  | zero => exact h
  | succ k ih => exact ih _ (cb_lt n h)
theorem cbs_succ (k n : Nat) : cbs (k + 1) n = cb (cbs k n) := by
  induction k generalizing n with
  | zero => rfl
  | succ k ih => exact ih (cb n)
theorem ct_lt (i : Nat) (h : i < 256) : ct i < 4294967296 := cbs_lt 8 i (by omega)
/-- The sum goes on by one byte. -/
def cstep (s c : Nat) : Nat := ct ((s % 256) ^^^ c) ^^^ (s / 256)
theorem cstep_lt (s c : Nat) (hs : s < 4294967296) (hc : c < 256) : cstep s c < 4294967296 :=
  Nat.xor_lt_two_pow (n := 32) (ct_lt _ (Nat.xor_lt_two_pow (n := 8) (by omega) (by omega))) (by omega)
def con : Nat → List UInt8 → Nat
  | s, [] => s
  | s, c :: l => con (cstep s c.toNat) l
theorem con_lt (l : List UInt8) (s : Nat) (hs : s < 4294967296) : con s l < 4294967296 := by
  induction l generalizing s with
  | nil => exact hs
  | cons c l ih => exact ih _ (cstep_lt s _ hs c.toNat_lt)
def csum (l : List UInt8) : Nat := 4294967295 - con 4294967295 l
theorem csum_lt (l : List UInt8) : csum l < 4294967296 := by unfold csum; omega
/-- The table. -/
def tblL : List Value := (List.range 256).map fun i => .int .u32 ((ct i : Nat) : Int)
theorem tblL_length : tblL.length = 256 := by simp [tblL]
theorem tblL_at (i : Nat) (h : i < 256) : tblL[i]? = some (.int .u32 ((ct i : Nat) : Int)) := by simp [tblL, h]
/-- A world that is as W was below block B. -/
structure WC (B : Nat) (W : World) where
  w : World
  ok : Below B W w

theorem wp_region_calm {P : Program} {B : Nat} {W : World} {id : Nat} {Q : Exit → Act → World → Prop} {a : Act} {w : World} {l : List Oper} (hm : P.follows .mixedOrders = true) (hB : Region.lexB .any l.toArray = true) (hw : Below B W w)
    (h : wpQuiet P l.toArray (fun w' => ∃ n : WC B W, w' = n.w) (fun a' => ∀ w', (∃ n : WC B W, w' = n.w) → Q .normal a' w') l a) : (Code.region id l.toArray true).wp P Q a w :=
  wp_region_quiet (C := fun w' => ∃ n : WC B W, w' = n.w) hm hB ⟨⟨w.drew, hw.drew⟩, rfl⟩ (by simpa using h)

/-- A call that answers v and leaves what is below B. -/
theorem calm_of {P : Program} {B : Nat} {W : World} {f : FuncId} {args : Array Value} {x : WC B W} {v : Value}
    (h : Calls P f args x.w fun e w'' => e = .returned v ∧ Below B W w'') : Calls P f args x.w fun e w'' => e = .returned v ∧ ∃ m : WC B W, w'' = m.w :=
  h.mono fun _ w'' ⟨he, hb⟩ => ⟨he, ⟨w'', hb⟩, rfl⟩
/-- .. out of a contract that leaves all that was there. -/
theorem calm_of_below {P : Program} {B : Nat} {W : World} {f : FuncId} {args : Array Value} {x : WC B W} {v : Value} (hB : B ≤ W.heap.size)
    (h : Calls P f args x.w fun e w'' => e = .returned v ∧ Below x.w.heap.size x.w w'') : Calls P f args x.w fun e w'' => e = .returned v ∧ ∃ m : WC B W, w'' = m.w :=
  calm_of (h.mono fun _ _ ⟨he, hb⟩ => ⟨he, x.ok.trans (hb.mono (Nat.le_trans hB x.ok.size))⟩)
end Go.Proofs.YtdaldkcildbcmaaDoor
