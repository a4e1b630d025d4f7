/-
  impl.copySkip: a list of one's own.
-/
import Derived.Test.YtcjkdkaahkphfaaDoorP2
namespace Go.Proofs.YtcjkdkaahkphfaaDoor
open Go.RowKit
set_option linter.unusedVariables false
set_option maxRecDepth 100000

def lnkV (t : Tw) (g c : Nat) : Value := .slice (some ⟨g, 0, none⟩) t.next.length c
/-- The links of the first towers lie in rows of one's own, in blocks gs with room cs. -/
def LnkC (w : World) (base : Nat) (ts : List Tw) (gs cs : List Nat) : Prop :=
  gs.length ≤ ts.length ∧ cs.length = gs.length ∧ gs.Pairwise (· < ·) ∧ ∀ i (h : i < gs.length) (h' : i < ts.length) (h'' : i < cs.length), base < gs[i] ∧ w.ownsRow gs[i] 3 1 (lnkV ts[i] gs[i] cs[i]) ts[i].next.length (ts[i].next.map (.int .i64))
theorem LnkC.nil (w : World) (base : Nat) (ts : List Tw) : LnkC w base ts [] [] := ⟨by simp, rfl, List.Pairwise.nil, fun i h => by simp at h⟩
theorem LnkC.below {w w' : World} {base : Nat} {ts : List Tw} {gs cs : List Nat} (h : LnkC w base ts gs cs) (hb : Below w.heap.size w w') : LnkC w' base ts gs cs :=
  ⟨h.1, h.2.1, h.2.2.1, fun i h1 h2 h3 => ⟨(h.2.2.2 i h1 h2 h3).1, owns_below (h.2.2.2 i h1 h2 h3).2 hb⟩⟩
theorem LnkC.setCell {w : World} {base : Nat} {ts : List Tw} {gs cs : List Nat} (h : LnkC w base ts gs cs) {a : Addr} (ha : a.block ≤ base) (u : Value) : LnkC (w.setCell a u) base ts gs cs :=
  ⟨h.1, h.2.1, h.2.2.1, fun i h1 h2 h3 => ⟨(h.2.2.2 i h1 h2 h3).1, ownsRow_setCell_below (h.2.2.2 i h1 h2 h3).2 (by have := (h.2.2.2 i h1 h2 h3).1; omega) u⟩⟩
theorem LnkC.lt {w : World} {base : Nat} {ts : List Tw} {gs cs : List Nat} (h : LnkC w base ts gs cs) {g : Nat} (hg : g ∈ gs) : g < w.heap.size := by
  obtain ⟨i, hi, rfl⟩ := List.getElem_of_mem hg
  exact (owns_lt (h.2.2.2 i hi (Nat.lt_of_lt_of_le hi h.1) (by have := h.2.1; omega)).2).2
theorem LnkC.snoc {w : World} {base : Nat} {ts : List Tw} {gs cs : List Nat} {g c : Nat} (h : LnkC w base ts gs cs) (hl : gs.length < ts.length) (hg : base < g) (hall : ∀ x ∈ gs, x < g)
    (ho : w.ownsRow g 3 1 (lnkV ts[gs.length] g c) ts[gs.length].next.length (ts[gs.length].next.map (.int .i64))) : LnkC w base ts (gs ++ [g]) (cs ++ [c]) := by
  have hcs := h.2.1
  refine ⟨by simp; omega, by simp [hcs], List.pairwise_append.2 ⟨h.2.2.1, by simp, fun a ha b hb => ?_⟩, fun i hi hi' hi'' => ?_⟩
  · rw [List.mem_singleton.1 hb]; exact hall a ha
  · by_cases e : i < gs.length
    · rw [List.getElem_append_left e, List.getElem_append_left (show i < cs.length by omega)]; exact h.2.2.2 i e hi' (by omega)
    · have hi2 : i = gs.length := by simp at hi; omega
      subst hi2
      rw [List.getElem_append_right (by omega), List.getElem_append_right (by omega)]
      simpa [hcs] using ⟨hg, ho⟩
/-- The link slices: the first ones one's own, the rest as they came. -/
def mixU (ts : List Tw) (us : List Value) (gs cs : List Nat) : List Value := (List.zipWith (fun t (p : Nat × Nat) => lnkV t p.1 p.2) ts (gs.zip cs)) ++ us.drop gs.length
theorem mixU_nil (ts : List Tw) (us : List Value) : mixU ts us [] [] = us := by simp [mixU]
theorem mixU_len (ts : List Tw) (us : List Value) (gs cs : List Nat) (hu : us.length = ts.length) (hc : cs.length = gs.length) (hg : gs.length ≤ ts.length) : (mixU ts us gs cs).length = ts.length := by
  simp [mixU, hc]; omega
theorem mixU_at (ts : List Tw) (us : List Value) (gs cs : List Nat) (hu : us.length = ts.length) (hc : cs.length = gs.length) (hg : gs.length < ts.length) : (mixU ts us gs cs)[gs.length]? = some (us[gs.length]'(by omega)) := by
  unfold mixU
  rw [List.getElem?_append_right (by simp [hc]; omega), List.getElem?_drop]
  rw [show gs.length + (gs.length - (List.zipWith (fun t (p : Nat × Nat) => lnkV t p.1 p.2) ts (gs.zip cs)).length) = gs.length from by simp [hc]; omega]
  exact List.getElem?_eq_getElem (by omega)
theorem mixU_set (ts : List Tw) (us : List Value) (gs cs : List Nat) (g c : Nat) (hu : us.length = ts.length) (hc : cs.length = gs.length) (hg : gs.length < ts.length) : (mixU ts us gs cs).set gs.length (lnkV ts[gs.length] g c) = mixU ts us (gs ++ [g]) (cs ++ [c]) := by
  apply List.ext_getElem?
  intro i
  unfold mixU
  have hL : (List.zipWith (fun t (p : Nat × Nat) => lnkV t p.1 p.2) ts (gs.zip cs)).length = gs.length := by simp [hc]; omega
  have hL2 : (List.zipWith (fun t (p : Nat × Nat) => lnkV t p.1 p.2) ts ((gs ++ [g]).zip (cs ++ [c]))).length = gs.length + 1 := by simp [hc]; omega
  have hz : (gs ++ [g]).zip (cs ++ [c]) = gs.zip cs ++ [(g, c)] := by rw [List.zip_append hc.symm]; rfl
  rcases Nat.lt_trichotomy i gs.length with h | h | h
  · rw [List.getElem?_set_ne (by omega), List.getElem?_append_left (by omega), List.getElem?_append_left (by omega), hz]
    simp only [List.getElem?_zipWith]
    rw [List.getElem?_append_left (by simp [hc]; omega)]
  · subst h
    rw [List.getElem?_set_self (by rw [List.length_append, hL, List.length_drop]; omega), List.getElem?_append_left (by omega), hz]
    simp only [List.getElem?_zipWith]
    rw [List.getElem?_append_right (by simp [hc]), List.getElem?_eq_getElem hg]
    simp [hc]
  · rw [List.getElem?_set_ne (by omega), List.getElem?_append_right (by omega), List.getElem?_append_right (by omega), hL, hL2, List.getElem?_drop, List.getElem?_drop, List.length_append, List.length_singleton]
    congr 1
    omega
theorem zipU_set (ts : List Tw) (vs : List Value) (i : Nat) (u : Value) (h : i < ts.length) : (List.zipWith rowU ts vs).set i (rowU ts[i] u) = List.zipWith rowU ts (vs.set i u) := by
  apply List.ext_getElem?
  intro j
  by_cases e : j = i
  · subst e
    by_cases h2 : j < vs.length
    · rw [List.getElem?_set_self (by simp; omega)]
      simp [List.getElem?_zipWith, h, h2]
    · rw [List.set_eq_of_length_le (by simp; omega), List.set_eq_of_length_le (by omega)]
  · rw [List.getElem?_set_ne (fun x => e x.symm)]
    simp only [List.getElem?_zipWith]
    rw [List.getElem?_set_ne (fun x => e x.symm)]
end Go.Proofs.YtcjkdkaahkphfaaDoor
