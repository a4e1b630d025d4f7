/-
  Items and runs, plainly.
-/
import Derived.Test.YtcjkdkaahkphfaaI2
namespace Go.Proofs.Ytcjkdkaahkphfaa
open Go.RowKit
set_option linter.unusedVariables false

/-- An item. -/
structure It where
  k : ByteArray
  n : Int
  d : Int
  v : ByteArray
def It.zero : It := ⟨⟨#[]⟩, 0, 0, ⟨#[]⟩⟩
instance : Inhabited It := ⟨It.zero⟩
def bl (b : ByteArray) : List UInt8 := b.data.toList
theorem bl_len (b : ByteArray) : (bl b).length = b.size := by simp [bl]
theorem bl_inj {a b : ByteArray} (h : bl a = bl b) : a = b := ByteArray.ext (Array.toList_inj.1 h)
theorem bl_mk (l : List UInt8) : bl ⟨l.toArray⟩ = l := rfl
def okIt (x : It) : Bool := okItem x.k x.n x.d x.v
def lessIt (a b : It) : Prop := cIt a.k b.k a.n b.n < 0
instance (a b : It) : Decidable (lessIt a b) := by unfold lessIt; infer_instance
/-- The item at i of a run is good, and behind the one ahead. -/
def okAt (l : List It) (i : Nat) : Bool := okIt (l.getD i default) && (i == 0 || decide (lessIt (l.getD (i - 1) default) (l.getD i default)))
def goodTo (l : List It) (i : Nat) : Bool := (List.range i).all (okAt l)
def goodR (l : List It) : Bool := goodTo l l.length
theorem goodTo_zero (l : List It) : goodTo l 0 = true := rfl
theorem goodTo_succ (l : List It) (i : Nat) : goodTo l (i + 1) = (goodTo l i && okAt l i) := by
  simp [goodTo, List.range_succ, List.all_append]
theorem goodTo_stop (l : List It) (i : Nat) (hi : i < l.length) (h : okAt l i = false) : goodR l = false := by
  unfold goodR goodTo
  rw [List.all_eq_false]
  exact ⟨i, List.mem_range.2 hi, by simp [h]⟩
theorem goodR_at {l : List It} (h : goodR l = true) {i : Nat} (hi : i < l.length) : okAt l i = true := by
  unfold goodR goodTo at h
  rw [List.all_eq_true] at h
  exact h i (List.mem_range.2 hi)

theorem okIt_key {x : It} (h : okIt x = true) : 1 ≤ x.k.size ∧ x.k.size ≤ 16 := by
  unfold okIt okItem okKey at h
  simp only [Bool.and_eq_true, decide_eq_true_eq] at h
  omega
theorem okIt_seq {x : It} (h : okIt x = true) : 0 ≤ x.n ∧ x.n ≤ 1000000000 := by
  unfold okIt okItem okSeq at h
  simp only [Bool.and_eq_true, decide_eq_true_eq] at h
  exact h.1.2
theorem okIt_kind {x : It} (h : okIt x = true) : (x.d = 0 ∨ x.d = 1) ∧ x.v.size ≤ 40 := by
  unfold okIt okItem at h
  simp only [Bool.and_eq_true, Bool.or_eq_true, decide_eq_true_eq, beq_iff_eq] at h
  omega
end Go.Proofs.Ytcjkdkaahkphfaa
