/-
  Pairs in a row: rows of two texts; eqPairS, markPairS, heldPairS.
-/
import Derived.Test.YtcjkdkaahkphfaaM8
import Derived.Test.YtcjkdkaahkphfaaA8
namespace Go.Proofs.Ytcjkdkaahkphfaa
open Go.RowKit
set_option linter.unusedVariables false
set_option maxRecDepth 100000

def flat2 : List (ByteArray × ByteArray) → List Value
  | [] => []
  | s :: r => .string s.1 :: .string s.2 :: flat2 r
theorem flat2_length (l : List (ByteArray × ByteArray)) : (flat2 l).length = l.length * 2 := by
  induction l with
  | nil => rfl
  | cons x r ih => simp only [flat2, List.length_cons, ih]; omega
theorem flat2_append (l m : List (ByteArray × ByteArray)) : flat2 (l ++ m) = flat2 l ++ flat2 m := by
  induction l with
  | nil => rfl
  | cons x r ih => simp only [List.cons_append, flat2, ih]
theorem flat2_get (l : List (ByteArray × ByteArray)) (i : Nat) (h : i < l.length) : (flat2 l)[i * 2]? = some (.string l[i].1) ∧ (flat2 l)[i * 2 + 1]? = some (.string l[i].2) := by
  induction l generalizing i with
  | nil => simp at h
  | cons x r ih =>
    cases i with
    | zero => exact ⟨rfl, rfl⟩
    | succ i =>
      have := ih i (by simpa using h)
      rw [show (i + 1) * 2 = i * 2 + 1 + 1 from by omega, show i * 2 + 1 + 1 + 1 = (i * 2 + 1) + 1 + 1 from by omega]
      simp only [flat2, List.getElem?_cons_succ, List.getElem_cons_succ]
      exact this
theorem flat2_set (l : List (ByteArray × ByteArray)) (i : Nat) (s : ByteArray × ByteArray) : ((flat2 l).set (i * 2) (.string s.1)).set (i * 2 + 1) (.string s.2) = flat2 (l.set i s) := by
  induction l generalizing i with
  | nil => simp [flat2]
  | cons x r ih =>
    cases i with
    | zero => simp [flat2]
    | succ i =>
      rw [show (i + 1) * 2 = i * 2 + 1 + 1 from by omega, show i * 2 + 1 + 1 + 1 = (i * 2 + 1) + 1 + 1 from by omega]
      simp only [flat2, List.set_cons_succ]
      rw [ih i]
/-- The value v is a slice of the pairs l. -/
def PR (w : World) (v : Value) (l : List (ByteArray × ByteArray)) : Prop :=
  ∃ a cap, v = .slice a l.length cap ∧ (l ≠ [] → ∃ b off, a = some ⟨b, off, none⟩ ∧ b < w.heap.size ∧
    ∀ i (h : i < l.length), w.cell? ⟨b, off + i * 2, none⟩ = some (.string l[i].1) ∧ w.cell? ⟨b, off + i * 2 + 1, none⟩ = some (.string l[i].2))
theorem PR.below {w w' : World} {v : Value} {l : List (ByteArray × ByteArray)} (h : PR w v l) (hb : Below w.heap.size w w') : PR w' v l := by
  obtain ⟨a, cap, hv, hc⟩ := h
  refine ⟨a, cap, hv, fun hl => ?_⟩
  obtain ⟨b, off, ha, hbl, hcell⟩ := hc hl
  refine ⟨b, off, ha, Nat.lt_of_lt_of_le hbl hb.size, fun i hi => ?_⟩
  obtain ⟨c0, c1⟩ := hcell i hi
  exact ⟨(hb.cell (p := ⟨b, off + i * 2, none⟩) hbl).trans c0, (hb.cell (p := ⟨b, off + i * 2 + 1, none⟩) hbl).trans c1⟩
theorem PR_nil (w : World) : PR w (.slice none 0 0) [] := ⟨none, 0, rfl, fun h => absurd rfl h⟩
theorem PR_of_owns {w : World} {base n : Nat} {e : TypeId} {v : Value} {l : List (ByteArray × ByteArray)} (h : w.ownsRow base e 2 v n (flat2 l)) (hn : n = l.length) : PR w v l := by
  subst hn
  have h' := h
  obtain ⟨hl, h⟩ := h
  rcases h with ⟨rfl, h0⟩ | ⟨g, cap, cur, rfl, hbg, hh, hcap, hm, hsz, htk⟩
  · exact ⟨none, 0, by rw [h0], fun hne => absurd (List.length_eq_zero_iff.1 h0) hne⟩
  · refine ⟨_, cap, rfl, fun _ => ⟨g, 0, rfl, (Array.getElem?_eq_some_iff.1 hh).1, fun i hi => ?_⟩⟩
    obtain ⟨g0, g1⟩ := flat2_get l i hi
    rw [Nat.zero_add]
    exact ⟨by rw [h'.cellAt (i * 2) (by omega), g0], by rw [h'.cellAt (i * 2 + 1) (by omega), g1]⟩
theorem owns2_at {w : World} {base : Nat} {e : TypeId} {g cap n : Nat} {xs : List Value} (h : w.ownsRow base e 2 (.slice (some ⟨g, 0, none⟩) n cap) n xs) (i : Nat) (hi : i < n) (j : Nat) (hj : j < 2) :
    (∃ u, w.cell? ⟨g, i * 2 + j, none⟩ = some u) ∧ w.frozen? ⟨g, i * 2 + j, none⟩ = false := by
  have hl := h.1
  refine ⟨?_, h.frozenAt _⟩
  rw [h.cellAt (i * 2 + j) (by omega)]
  exact ⟨_, List.getElem?_eq_getElem (by omega)⟩
theorem one2 (x : ByteArray × ByteArray) : ∀ u ∈ flat2 [x], u.oneCell' = true := by
  intro u hu
  simp only [flat2, List.mem_cons, List.not_mem_nil, or_false] at hu
  rcases hu with rfl | rfl <;> rfl

def mkPr (k : Int) : ByteArray × ByteArray := (mkT k, mkT (k + 1))
def mkPrs (k : Int) (n : Nat) : List (ByteArray × ByteArray) := (List.range n).map fun j : Nat => mkPr (k + 2 * (j : Int))
theorem mkPrs_length (k : Int) (n : Nat) : (mkPrs k n).length = n := by simp [mkPrs]
theorem mkPrs_at (k : Int) (n j : Nat) (h : j < n) : (mkPrs k n)[j]'(by rw [mkPrs_length]; exact h) = mkPr (k + 2 * (j : Int)) := by simp [mkPrs]
def mkQ (l : List (ByteArray × ByteArray)) (k : Int) (j : Nat) : List (ByteArray × ByteArray) := (mkPrs k l.length).take j ++ l.drop j
theorem mkQ_set (l : List (ByteArray × ByteArray)) (k : Int) (j : Nat) (h : j < l.length) : (mkQ l k j).set j (mkPr (k + 2 * (j : Int))) = mkQ l k (j + 1) := by
  unfold mkQ
  have h1 : ((mkPrs k l.length).take j).length = j := by rw [List.length_take, mkPrs_length]; omega
  rw [List.set_append_right _ _ (by omega), h1, Nat.sub_self, List.take_succ_eq_append_getElem (by rw [mkPrs_length]; exact h), mkPrs_at k _ j h, List.drop_eq_getElem_cons h, List.set_cons_zero, List.append_assoc]
  rfl
theorem mkQ_all (l : List (ByteArray × ByteArray)) (k : Int) : mkQ l k l.length = mkPrs k l.length := by
  unfold mkQ
  rw [List.take_of_length_le (by rw [mkPrs_length]; omega), List.drop_eq_nil_of_le (by omega), List.append_nil]
theorem mkQ_zero (l : List (ByteArray × ByteArray)) (k : Int) : mkQ l k 0 = l := by simp [mkQ]

end Go.Proofs.Ytcjkdkaahkphfaa
