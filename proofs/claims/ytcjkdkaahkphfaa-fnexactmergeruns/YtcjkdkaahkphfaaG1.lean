/-
  Slices of texts that came in: szStringS, toStringS; spec.FramesBytes, impl.FramesBytes.
-/
import Derived.Test.YtcjkdkaahkphfaaProg
import Derived.Test.YtcjkdkaahkphfaaH1
import Derived.SliceStrings
namespace Go.Proofs.Ytcjkdkaahkphfaa
open Go.RowKit
set_option maxRecDepth 100000
set_option linter.unusedVariables false

theorem Try.info9g : (Try.prog.info? 9).map (fun i => (i.zero, i.size, i.bytes)) = some (some (.string ⟨#[]⟩), 1, 16) := by kernel_rfl
theorem SL.below {w w' : World} {v : Value} {l : List ByteArray} (h : SL w v l) (hb : Below w.heap.size w w') : SL w' v l := by
  obtain ⟨a, cap, hv, hc⟩ := h
  refine ⟨a, cap, hv, fun hl => ?_⟩
  obtain ⟨b, off, ha, hbl, hcell⟩ := hc hl
  exact ⟨b, off, ha, Nat.lt_of_lt_of_le hbl hb.size, fun i hi => (hb.cell (p := ⟨b, off + i, none⟩) hbl).trans (hcell i hi)⟩

def totS : List ByteArray → Nat
  | [] => 0
  | x :: r => x.size + totS r
theorem totS_take_succ (l : List ByteArray) (k : Nat) (h : k < l.length) : totS (l.take (k + 1)) = totS (l.take k) + l[k].size := by
  induction l generalizing k with
  | nil => simp at h
  | cons x r ih =>
    cases k with
    | zero => simp [totS]
    | succ k =>
      simp only [List.take_succ_cons, totS, List.getElem_cons_succ]
      rw [ih k (by simpa using h)]; omega

/-- The first k of a list of texts, and empty ones for the rest. -/
def partS (l : List ByteArray) (k : Nat) : List ByteArray := l.take k ++ List.replicate (l.length - k) ⟨#[]⟩
theorem partS_zero (l : List ByteArray) : partS l 0 = List.replicate l.length ⟨#[]⟩ := by simp [partS]
theorem partS_all (l : List ByteArray) : partS l l.length = l := by simp [partS]
theorem partS_at (l : List ByteArray) (k : Nat) (h : k < l.length) : (partS l k)[k]? = some ⟨#[]⟩ := by
  unfold partS
  rw [List.getElem?_append_right (by simp; omega)]
  simp only [List.length_take, List.getElem?_replicate]
  rw [if_pos (by omega)]
theorem partS_set (l : List ByteArray) (k : Nat) (h : k < l.length) : (partS l k).set k l[k] = partS l (k + 1) := by
  unfold partS
  have hl : (l.take k).length = k := by rw [List.length_take]; omega
  rw [List.set_append_right _ _ (by omega), hl, Nat.sub_self, List.take_succ_eq_append_getElem h, show l.length - k = (l.length - (k + 1)) + 1 from by omega, List.replicate_succ, List.set_cons_zero, List.append_assoc]
  rfl
theorem madeS (n : Nat) : (madeCells (Value.string ⟨#[]⟩).cells (n * 1)).toList = (List.replicate n (⟨#[]⟩ : ByteArray)).map Value.string := by
  have h : (Value.string ⟨#[]⟩).cells = #[.string ⟨#[]⟩] := rfl
  rw [h]
  apply List.ext_getElem?
  intro i
  by_cases hi : i < n
  · simp [madeCells, hi, Nat.mod_one]
  · rw [List.getElem?_eq_none (by simp [madeCells]; omega), List.getElem?_eq_none (by simp; omega)]

end Go.Proofs.Ytcjkdkaahkphfaa
