/-
  Good states, plainly.
-/
import Derived.Test.YthlllegedfjhlaaKV
import Derived.Test.YthlllegedfjhlaaI2
namespace Go.Proofs.Ythlllegedfjhlaa
open Go.RowKit
set_option linter.unusedVariables false
set_option maxRecDepth 100000

def less (a b : ByteArray) : Bool := Op.bytesLess a.toList b.toList
def okC (x : Pr) : Bool := okKey x.k && decide ((x.v.size : Int) ≤ 40)
def okS (x : Ss) : Bool := (decide ((0 : Int) ≤ x.n) && decide (x.n ≤ 99)) && ((decide ((1 : Int) ≤ x.d) && decide (x.d ≤ 1000000)) && ((decide ((0 : Int) ≤ x.c) && decide (x.c ≤ 4)) && decide ((x.v.size : Int) ≤ 40)))
def cAt (l : List Pr) (i : Nat) : Bool := okC (l.getD i default) && (decide (i = 0) || less (l.getD (i - 1) default).k (l.getD i default).k)
def sAt (l : List Ss) (i : Nat) : Bool := okS (l.getD i default) && (decide (i = 0) || decide ((l.getD (i - 1) default).n < (l.getD i default).n))
def cTo (l : List Pr) (i : Nat) : Bool := (List.range i).all (cAt l)
def sTo (l : List Ss) (i : Nat) : Bool := (List.range i).all (sAt l)
def gcB (l : List Pr) : Bool := cTo l l.length
def gsB (l : List Ss) : Bool := sTo l l.length
/-- The state is good. -/
def gB (C : List Pr) (S : List Ss) : Bool := (gcB C && decide (C.length ≤ 40)) && (gsB S && decide (S.length ≤ 12))
theorem cTo_succ (l : List Pr) (i : Nat) : cTo l (i + 1) = (cTo l i && cAt l i) := by simp [cTo, List.range_succ, List.all_append]
theorem sTo_succ (l : List Ss) (i : Nat) : sTo l (i + 1) = (sTo l i && sAt l i) := by simp [sTo, List.range_succ, List.all_append]
theorem cTo_stop (l : List Pr) (i : Nat) (hi : i < l.length) (h : cAt l i = false) : gcB l = false := by
  unfold gcB cTo
  rw [List.all_eq_false]
  exact ⟨i, List.mem_range.2 hi, by simp [h]⟩
theorem sTo_stop (l : List Ss) (i : Nat) (hi : i < l.length) (h : sAt l i = false) : gsB l = false := by
  unfold gsB sTo
  rw [List.all_eq_false]
  exact ⟨i, List.mem_range.2 hi, by simp [h]⟩
theorem gcB_at {l : List Pr} (h : gcB l = true) {i : Nat} (hi : i < l.length) : cAt l i = true := by
  unfold gcB cTo at h
  rw [List.all_eq_true] at h
  exact h i (List.mem_range.2 hi)
theorem gsB_at {l : List Ss} (h : gsB l = true) {i : Nat} (hi : i < l.length) : sAt l i = true := by
  unfold gsB sTo at h
  rw [List.all_eq_true] at h
  exact h i (List.mem_range.2 hi)
theorem getP (l : List Pr) (i : Nat) (h : i < l.length) : l.getD i default = l[i] := by simp [List.getD_eq_getElem?_getD, h]
theorem getS (l : List Ss) (i : Nat) (h : i < l.length) : l.getD i default = l[i] := by simp [List.getD_eq_getElem?_getD, h]
theorem ret_bool {a b : Bool} (h : a = b) : (Ending.returned (.bool a)) = .returned (.bool b) := by rw [h]
end Go.Proofs.Ythlllegedfjhlaa
