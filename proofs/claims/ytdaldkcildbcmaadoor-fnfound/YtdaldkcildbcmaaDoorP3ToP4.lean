/-
  impl.copySkip: a list of one's own.
  impl.copySkip, walked.
-/
import Derived.Test.YtdaldkcildbcmaaDoorP2
namespace Go.Proofs.YtdaldkcildbcmaaDoor
open Go.RowKit
set_option linter.unusedVariables false
set_option maxRecDepth 100000
def lnkV (t : Tw) (g c : Nat) : Value := .slice (some ⟨g, 0, none⟩) t.next.length c
/-- The links of the first towers lie in rows of one's own, in blocks gs with room cs. -/
def LnkC (w : World) (base : Nat) (ts : List Tw) (gs cs : List Nat) : Prop :=
  gs.length ≤ ts.length ∧ cs.length = gs.length ∧ gs.Pairwise (· < ·) ∧ ∀ i (h : i < gs.length) (h' : i < ts.length) (h'' : i < cs.length), base < gs[i] ∧ w.ownsRow gs[i] 3 1 (lnkV ts[i] gs[i] cs[i]) ts[i].next.length (ts[i].next.map (.int .i64))
theorem LnkC.nil (w : World) (base : Nat) (ts : List Tw) : LnkC w base ts [] [] := ⟨by simp, rfl, List.Pairwise.nil, fun i h => by simp at h⟩
theorem LnkC.below {w w' : World} {base : Nat} {ts : List Tw} {gs cs : List Nat} (h : LnkC w base ts gs cs) (hb : Below w.heap.size w w') : LnkC w' base ts gs cs :=
  ⟨h.1, h.2.1, h.2.2.1, fun i h1 h2 h3 => ⟨(h.2.2.2 i h1 h2 h3).1, owns_below (h.2.2.2 i h1 h2 h3).2 hb⟩⟩
theorem LnkC.setCell {w : World} {base : Nat} {ts : List Tw} {gs cs : List Nat} (h : LnkC w base ts gs cs) {a : Addr} (ha : a.block ≤ base) (u : Value) : LnkC (w.setCell a u) base ts gs cs :=
  ⟨h.1, h.2.1, h.2.2.1, fun i h1 h2 h3 => ⟨(h.2.2.2 i h1 h2 h3).1, ownsRow_setCell_below (h.2.2.2 i h1 h2 h3).2 (by have := (h.2.2.2 i h1 h2 h3).1; omega) u⟩⟩
theorem LnkC.lt {w : World} {base : Nat} {ts : List Tw} {gs cs : List Nat} (h : LnkC w base ts gs cs) {g : Nat} (hg : g ∈ gs) : g < w.heap.size := by
  obtain ⟨i, hi, rfl⟩ := List.getElem_of_mem hg
  exact (owns_lt (h.2.2.2 i hi (Nat.lt_of_lt_of_le hi h.1) (by have := h.2.1; omega)).2).2
theorem LnkC.snoc {w : World} {base : Nat} {ts : List Tw} {gs cs : List Nat} {g c : Nat} (h : LnkC w base ts gs cs) (hl : gs.length < ts.length) (hg : base < g) (hall : ∀ x ∈ gs, x < g)
    (ho : w.ownsRow g 3 1 (lnkV ts[gs.length] g c) ts[gs.length].next.length (ts[gs.length].next.map (.int .i64))) : LnkC w base ts (gs ++ [g]) (cs ++ [c]) := by
  have hcs := h.2.1
  refine ⟨by simp; omega, by simp [hcs], List.pairwise_append.2 ⟨h.2.2.1, by simp, fun a ha b hb => ?_⟩, fun i hi hi' hi'' => ?_⟩
  · rw [List.mem_singleton.1 hb]; exact hall a ha
  · by_cases e : i < gs.length
    · rw [List.getElem_append_left e, List.getElem_append_left (show i < cs.length by omega)]; exact h.2.2.2 i e hi' (by omega)
    · have hi2 : i = gs.length := by simp at hi; omega
      subst hi2
      rw [List.getElem_append_right (by omega), List.getElem_append_right (by omega)]
      simpa [hcs] using ⟨hg, ho⟩
/-- The link slices: the first ones one's own, the rest as they came. -/
def mixU (ts : List Tw) (us : List Value) (gs cs : List Nat) : List Value := (List.zipWith (fun t (p : Nat × Nat) => lnkV t p.1 p.2) ts (gs.zip cs)) ++ us.drop gs.length
/-- A list of one's own: the towers in vT, the heads in block g1 with room c1, the links in blocks gs with room cs. -/
structure OwnSk (w : World) (base : Nat) (hs : List Int) (ts : List Tw) (us : List Value) (vT : Value) (g1 c1 : Nat) (gs cs : List Nat) : Prop where
  len : gs.length = ts.length
  rows : w.ownsRow base 73 5 vT ts.length (flat5 (List.zipWith rowU ts (mixU ts us gs cs)))
  lnk : LnkC w base ts gs cs
  head : w.ownsRow g1 3 1 (.slice (some ⟨g1, 0, none⟩) hs.length c1) hs.length (hs.map (.int .i64))
  up1 : ∀ g, vT.ownBlock = some g → ∀ x ∈ gs, g < x
  up2 : ∀ x ∈ gs, x < g1
  up3 : ∀ g, vT.ownBlock = some g → g < g1
  lo : base ≤ g1

end Go.Proofs.YtdaldkcildbcmaaDoor
