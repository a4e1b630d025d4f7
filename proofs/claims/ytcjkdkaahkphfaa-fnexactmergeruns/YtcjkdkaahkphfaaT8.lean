/-
  What is seen, one by one: impl's seenAt and its closure, for every loop body.
-/
import Derived.Test.YtcjkdkaahkphfaaS8
import Derived.Test.YtcjkdkaahkphfaaA8
namespace Go.Proofs.Ytcjkdkaahkphfaa
open Go.RowKit Go.Shelf Go.Lib
set_option linter.unusedVariables false
set_option maxRecDepth 100000
attribute [local go_sem] Oper.semAt_some

theorem Kept.refl (B : Nat) (W : World) : Kept B W W := ⟨Nat.le_refl _, fun _ _ h _ _ _ => h, .inl rfl, fun h => h⟩
theorem Kept.of_below {B : Nat} {W W' : World} (hb : Below W.heap.size W W') (hB : B < W.heap.size) : Kept B W W' where
  size := hb.size
  keep k o ho _ _ _ := (hb.block k (Array.getElem?_eq_some_iff.1 ho).1).trans ho
  row := .inl (rowOf_below hb hB)
  sane hs g e := by rw [rowOf_below hb hB] at e; exact Nat.lt_of_lt_of_le (hs g e) hb.size
theorem Kept.cell {B : Nat} {W W' : World} (h : Kept B W W') {b o : Nat} {v : Value} (hc : W.cell? ⟨b, o, none⟩ = some v) (hb : b ≠ B) (hr : rowOf W B = none) : W'.cell? ⟨b, o, none⟩ = some v := by
  obtain ⟨ob, ho, hoc⟩ := cells_of_cell hc
  have hk := h.keep b ob ho hoc hb (by rw [hr]; simp)
  have he : W'.heap[b]? = W.heap[b]? := by rw [hk]; exact ho.symm
  rw [← hc]; simp [World.cell?, he]
theorem seenTo_lt (l : List It) (q : Int) (k : Nat) (hk : k < l.length) (hs : seenB l q k = true) : (seenTo l q k).length < (seenL l q).length := by
  obtain ⟨r, h1, _⟩ := seenTo_pre l q (k + 1) (l.length - (k + 1))
  rw [show k + 1 + (l.length - (k + 1)) = l.length from by omega] at h1
  unfold seenL
  rw [h1, seenTo, if_pos hs]
  simp

end Go.Proofs.Ytcjkdkaahkphfaa
