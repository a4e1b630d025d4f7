/-
  An item put into a run: spec.l6Put.
-/
import Derived.Test.YtcjkdkaahkphfaaX2
import Derived.Test.YtcjkdkaahkphfaaK3
import Derived.Laws.AppendOwnNone
namespace Go.Proofs.Ytcjkdkaahkphfaa
open Go.RowKit
set_option linter.unusedVariables false
set_option maxRecDepth 100000

theorem flat4_one (l : List It) : ∀ u ∈ flat4 l, u.oneCell' = true := by
  intro u hu
  induction l with
  | nil => simp [flat4] at hu
  | cons x r ih =>
    simp only [flat4, List.mem_cons] at hu
    rcases hu with rfl | rfl | rfl | rfl | hu
    · rfl
    · rfl
    · rfl
    · rfl
    · exact ih hu
/-- A part of a row. -/
theorem row_part {w : World} {base g cap : Nat} {L : List It} (h : w.ownsRow base 68 4 (.slice (some ⟨g, 0, none⟩) L.length cap) L.length (flat4 L)) (a m : Nat) (ham : a + m ≤ L.length) :
    ∀ j u, (flat4 ((L.drop a).take m))[j]? = some u → w.cell? ((⟨g, a * 4, none⟩ : Addr).add j) = some u := by
  intro j u hj
  have hlen : j < ((L.drop a).take m).length * 4 := by
    have := (List.getElem?_eq_some_iff.1 hj).1
    rwa [flat4_length] at this
  rw [List.length_take, List.length_drop] at hlen
  have hsplit : flat4 L = flat4 (L.take a) ++ (flat4 ((L.drop a).take m) ++ flat4 ((L.drop a).drop m)) := by
    rw [← flat4_append, List.take_append_drop, ← flat4_append, List.take_append_drop]
  rw [show (⟨g, a * 4, none⟩ : Addr).add j = ⟨g, a * 4 + j, none⟩ from by by_cases h0 : j = 0 <;> simp [Addr.add, h0], h.cellAt (a * 4 + j) (by omega), hsplit]
  rw [List.getElem?_append_right (by rw [flat4_length, List.length_take]; omega)]
  rw [flat4_length, List.length_take, show min a L.length = a from by omega, Nat.add_sub_cancel_left]
  rw [List.getElem?_append_left (by rw [flat4_length, List.length_take, List.length_drop]; omega)]
  exact hj
def small (L : List It) : Prop := ∀ i (h : i < L.length), L[i].k.size ≤ 17 ∧ L[i].v.size ≤ 41
theorem small_mem {L : List It} (h : small L) : ∀ x ∈ L, x.k.size ≤ 17 ∧ x.v.size ≤ 41 := by
  intro x hx
  obtain ⟨i, hi, rfl⟩ := List.getElem_of_mem hx
  exact h i hi
theorem small_of {L : List It} (h : ∀ x ∈ L, x.k.size ≤ 17 ∧ x.v.size ≤ 41) : small L := fun i hi => h _ (List.getElem_mem hi)
def PutPost (L : List It) (w : World) (base : Nat) (e : Ending) (w' : World) : Prop :=
  ∃ v' L', e = .returned v' ∧ w'.ownsRow base 68 4 v' L'.length (flat4 L') ∧ L' ≠ [] ∧ L'.length ≤ L.length + 1 ∧ small L' ∧ Below w.heap.size w w'
theorem PutPost.mk {L L' : List It} {w w' : World} {base : Nat} {v' : Value} (h1 : w'.ownsRow base 68 4 v' L'.length (flat4 L')) (h2 : L' ≠ []) (h3 : L'.length ≤ L.length + 1) (h4 : small L') (h5 : Below w.heap.size w w') : PutPost L w base (.returned v') w' := ⟨v', L', rfl, h1, h2, h3, h4, h5⟩

end Go.Proofs.Ytcjkdkaahkphfaa
