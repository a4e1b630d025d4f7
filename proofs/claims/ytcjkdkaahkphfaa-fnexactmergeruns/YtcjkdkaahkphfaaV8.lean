/-
  VisibleAt and ScanAt of the specification.
-/
import Derived.Test.YtcjkdkaahkphfaaU8
import Derived.Test.YtcjkdkaahkphfaaS9
namespace Go.Proofs.Ytcjkdkaahkphfaa
open Go.RowKit
set_option linter.unusedVariables false
set_option maxRecDepth 100000

theorem owns_lower {w : World} {base base' : Nat} {e : TypeId} {size : Nat} {v : Value} {n : Nat} {xs : List Value} (h : w.ownsRow base e size v n xs) (hb : base' ≤ base) : w.ownsRow base' e size v n xs := by
  refine ⟨h.1, ?_⟩
  rcases h.2 with h | ⟨g, c, cur, h, hg, hh⟩
  · exact .inl h
  · exact .inr ⟨g, c, cur, h, by omega, hh⟩
theorem scan_step (P : List (ByteArray × ByteArray)) (f t : ByteArray) (k : Nat) (h : k < P.length) : scanL (P.take (k + 1)) f t = if inB f t P[k].1 = true then scanL (P.take k) f t ++ [(P[k].1, P[k].2)] else scanL (P.take k) f t := by
  rw [List.take_succ_eq_append_getElem h]
  unfold scanL
  rw [List.filter_append]
  by_cases hb : inB f t P[k].1 = true
  · rw [if_pos hb]; simp [hb]
  · rw [if_neg hb]; simp [hb]
theorem scan_len (P : List (ByteArray × ByteArray)) (f t : ByteArray) : (scanL P f t).length ≤ P.length := List.length_filter_le _ _
theorem prs_step (S : List It) (k : Nat) (h : k < S.length) : prs (S.take (k + 1)) = if S[k].d = 1 then prs (S.take k) ++ [(S[k].k, S[k].v)] else prs (S.take k) := by
  rw [List.take_succ_eq_append_getElem h, prs_append, prs_one]
  split
  · rfl
  · simp
theorem prs_len (S : List It) : (prs S).length ≤ S.length := by
  unfold prs; rw [List.length_map]; exact List.length_filter_le _ _

def vsB (l : List It) (q : Int) : Bool := mayM l && okSeq q
def vsL (l : List It) (q : Int) : List (ByteArray × ByteArray) := if vsB l q then prs (seenL l q) else []
def scB (l : List It) (f t : ByteArray) (q : Int) : Bool := mayM l && okSeq q && decide ((f.size : Int) ≤ 16) && decide ((t.size : Int) ≤ 16)
def scL (l : List It) (f t : ByteArray) (q : Int) : List (ByteArray × ByteArray) := if scB l f t q then scanL (prs (seenL l q)) f t else []
theorem mayM_good {l : List It} (h : mayM l = true) : goodR l = true ∧ l.length ≤ 400 := by
  unfold mayM at h
  simp only [Bool.and_eq_true, decide_eq_true_eq] at h
  exact ⟨h.2, h.1⟩
theorem sc_empty (l : List It) (q : Int) : scB l ⟨#[]⟩ ⟨#[]⟩ q = vsB l q ∧ scL l ⟨#[]⟩ ⟨#[]⟩ q = vsL l q := by
  have h1 : scB l ⟨#[]⟩ ⟨#[]⟩ q = vsB l q := by
    have e : decide (((⟨#[]⟩ : ByteArray).size : Int) ≤ 16) = true := by decide
    simp only [scB, vsB, e, Bool.and_true]
  refine ⟨h1, ?_⟩
  unfold scL vsL
  rw [h1, scan_empty]

end Go.Proofs.Ytcjkdkaahkphfaa
