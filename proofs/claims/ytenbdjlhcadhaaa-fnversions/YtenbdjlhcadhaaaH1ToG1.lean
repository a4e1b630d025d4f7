/-
  laws.markText; slices of texts: eqStringS, markStringS, heldStringS.
  Slices of texts that came in: szStringS, toStringS; spec.FramesBytes, impl.FramesBytes.
-/
import Derived.Test.YtenbdjlhcadhaaaV1
import Derived.Test.YtenbdjlhcadhaaaE
import Derived.Deep.QuietTactic
import Derived.BigQuiet
import Derived.SliceStrings
namespace Go.Proofs.Ytenbdjlhcadhaaa
open Go.RowKit
set_option maxRecDepth 100000
set_option linter.unusedVariables false

def mkD : Nat → Nat → List UInt8 → List UInt8
  | 0, _, acc => acc
  | f + 1, k, acc => if k = 0 then acc else mkD f (k / 10) (UInt8.ofNat (48 + k % 10) :: acc)
def mkT (k : Int) : ByteArray := if k ≤ 0 then ⟨#[109, 48]⟩ else ⟨(109 :: mkD 20 k.toNat []).toArray⟩

theorem mkD_zero (f : Nat) (acc : List UInt8) : mkD f 0 acc = acc := by cases f <;> simp [mkD]
theorem bcat (a b : List UInt8) : (⟨a.toArray⟩ : ByteArray) ++ ⟨b.toArray⟩ = ⟨(a ++ b).toArray⟩ := by
  apply ByteArray.ext
  simp
theorem mkT_pos (n : Nat) (h : 1 ≤ n) : mkT (n : Int) = ⟨(109 :: mkD 20 n []).toArray⟩ := by simp [mkT]; omega

/-- The value v is a slice whose elements are the texts l. -/
def SL (w : World) (v : Value) (l : List ByteArray) : Prop :=
  ∃ a cap, v = .slice a l.length cap ∧ (l ≠ [] → ∃ b off, a = some ⟨b, off, none⟩ ∧ b < w.heap.size ∧ ∀ i (h : i < l.length), w.cell? ⟨b, off + i, none⟩ = some (.string l[i]))
theorem SL_of_owns {w : World} {base : Nat} {e : TypeId} {v : Value} {l : List ByteArray} (h : w.ownsRow base e 1 v l.length (l.map Value.string)) : SL w v l := by
  have h' := h
  obtain ⟨hl, h⟩ := h
  rcases h with ⟨rfl, h0⟩ | ⟨g, cap, cur, rfl, hbg, hh, hcap, hm, hsz, htk⟩
  · exact ⟨none, 0, by rw [h0], fun hne => absurd (List.length_eq_zero_iff.1 h0) hne⟩
  · refine ⟨_, cap, rfl, fun _ => ⟨g, 0, rfl, (Array.getElem?_eq_some_iff.1 hh).1, fun i hi => ?_⟩⟩
    rw [Nat.zero_add, h'.cellAt i (by omega)]
    simp [hi]

/-- Marks of a row of texts. -/
def mkLS (k : Int) (l : List ByteArray) : Nat → List ByteArray
  | 0 => l
  | j + 1 => (mkLS k l j).set j (mkT (k + j))
theorem mkLS_length (k : Int) (l : List ByteArray) (j : Nat) : (mkLS k l j).length = l.length := by
  induction j with
  | zero => rfl
  | succ j ih => simp [mkLS, ih]
theorem mkLS_get (k : Int) (l : List ByteArray) (j i : Nat) (hi : i < l.length) : (mkLS k l j)[i]? = if i < j then some (mkT (k + i)) else l[i]? := by
  induction j with
  | zero => simp [mkLS]
  | succ j ih =>
    simp only [mkLS]
    by_cases h : i = j
    · subst h
      rw [List.getElem?_set_self (by rw [mkLS_length]; exact hi), if_pos (by omega)]
    · rw [List.getElem?_set_ne (by omega), ih]
      by_cases h2 : i < j
      · rw [if_pos h2, if_pos (by omega)]
      · rw [if_neg h2, if_neg (by omega)]
def mkAllS (k : Int) (n : Nat) : List ByteArray := (List.range n).map fun i : Nat => mkT (k + (i : Int))
theorem mkAllS_length (k : Int) (n : Nat) : (mkAllS k n).length = n := by simp [mkAllS]
theorem mkLS_all (k : Int) (l : List ByteArray) : mkLS k l l.length = mkAllS k l.length := by
  apply List.ext_getElem?
  intro i
  by_cases hi : i < l.length
  · rw [mkLS_get k l _ i hi, if_pos hi]; simp [mkAllS, hi]
  · rw [List.getElem?_eq_none (by rw [mkLS_length]; omega), List.getElem?_eq_none (by rw [mkAllS_length]; omega)]

end Go.Proofs.Ytenbdjlhcadhaaa

namespace Go.Proofs.Ytenbdjlhcadhaaa
open Go.RowKit
set_option maxRecDepth 100000
set_option linter.unusedVariables false

theorem Try.info9g : (Try.prog.info? 9).map (fun i => (i.zero, i.size, i.bytes)) = some (some (.string ⟨#[]⟩), 1, 16) := by kernel_rfl
theorem SL.below {w w' : World} {v : Value} {l : List ByteArray} (h : SL w v l) (hb : Below w.heap.size w w') : SL w' v l := by
  obtain ⟨a, cap, hv, hc⟩ := h
  refine ⟨a, cap, hv, fun hl => ?_⟩
  obtain ⟨b, off, ha, hbl, hcell⟩ := hc hl
  exact ⟨b, off, ha, Nat.lt_of_lt_of_le hbl hb.size, fun i hi => (hb.cell (p := ⟨b, off + i, none⟩) hbl).trans (hcell i hi)⟩

def totS : List ByteArray → Nat
  | [] => 0
  | x :: r => x.size + totS r
theorem totS_take_succ (l : List ByteArray) (k : Nat) (h : k < l.length) : totS (l.take (k + 1)) = totS (l.take k) + l[k].size := by
  induction l generalizing k with
  | nil => simp at h
  | cons x r ih =>
    cases k with
    | zero => simp [totS]
    | succ k =>
      simp only [List.take_succ_cons, totS, List.getElem_cons_succ]
      rw [ih k (by simpa using h)]; omega

/-- The first k of a list of texts, and empty ones for the rest. -/
def partS (l : List ByteArray) (k : Nat) : List ByteArray := l.take k ++ List.replicate (l.length - k) ⟨#[]⟩
theorem partS_zero (l : List ByteArray) : partS l 0 = List.replicate l.length ⟨#[]⟩ := by simp [partS]
theorem partS_all (l : List ByteArray) : partS l l.length = l := by simp [partS]
theorem partS_at (l : List ByteArray) (k : Nat) (h : k < l.length) : (partS l k)[k]? = some ⟨#[]⟩ := by
  unfold partS
  rw [List.getElem?_append_right (by simp; omega)]
  simp only [List.length_take, List.getElem?_replicate]
  rw [if_pos (by omega)]
theorem partS_set (l : List ByteArray) (k : Nat) (h : k < l.length) : (partS l k).set k l[k] = partS l (k + 1) := by
  unfold partS
  have hl : (l.take k).length = k := by rw [List.length_take]; omega
  rw [List.set_append_right _ _ (by omega), hl, Nat.sub_self, List.take_succ_eq_append_getElem h, show l.length - k = (l.length - (k + 1)) + 1 from by omega, List.replicate_succ, List.set_cons_zero, List.append_assoc]
  rfl
theorem madeS (n : Nat) : (madeCells (Value.string ⟨#[]⟩).cells (n * 1)).toList = (List.replicate n (⟨#[]⟩ : ByteArray)).map Value.string := by
  have h : (Value.string ⟨#[]⟩).cells = #[.string ⟨#[]⟩] := rfl
  rw [h]
  apply List.ext_getElem?
  intro i
  by_cases hi : i < n
  · simp [madeCells, hi, Nat.mod_one]
  · rw [List.getElem?_eq_none (by simp [madeCells]; omega), List.getElem?_eq_none (by simp; omega)]

end Go.Proofs.Ytenbdjlhcadhaaa
