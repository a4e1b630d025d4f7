/-
  Towers in memory; szTower, szTowerS, szSkip.
  toTowerS, toSkip: new rows all.
-/
import Derived.Test.YtdaldkcildbcmaaDoorEToG1
namespace Go.Proofs.YtdaldkcildbcmaaDoor
open Go.RowKit
set_option linter.unusedVariables false
set_option maxRecDepth 100000
theorem Box.c5 {w : World} {b : Nat} {v0 v1 v2 v3 v4 : Value} (h : Box w b [v0, v1, v2, v3, v4]) : b < w.heap.size ∧ w.cell? ⟨b, 0, none⟩ = some v0 ∧ w.cell? ⟨b, 1, none⟩ = some v1 ∧ w.cell? ⟨b, 2, none⟩ = some v2 ∧ w.cell? ⟨b, 3, none⟩ = some v3 ∧ w.cell? ⟨b, 4, none⟩ = some v4 :=
  ⟨h.1, h.2.1 0 _ rfl, h.2.1 1 _ rfl, h.2.1 2 _ rfl, h.2.1 3 _ rfl, h.2.1 4 _ rfl⟩
/-- The value v is a slice of the towers ts. -/
def TW (w : World) (v : Value) (ts : List Tw) : Prop :=
  ∃ a cap, v = .slice a ts.length cap ∧ (ts ≠ [] → ∃ b off, a = some ⟨b, off, none⟩ ∧ b < w.heap.size ∧
    ∀ i (h : i < ts.length), ∃ u, (w.cell? ⟨b, off + i * 5, none⟩ = some (.string ts[i].key) ∧ w.cell? ⟨b, off + i * 5 + 1, none⟩ = some (.int .i64 ts[i].seq) ∧ w.cell? ⟨b, off + i * 5 + 2, none⟩ = some (.int .i64 ts[i].kind) ∧ w.cell? ⟨b, off + i * 5 + 3, none⟩ = some (.string ts[i].val) ∧ w.cell? ⟨b, off + i * 5 + 4, none⟩ = some u) ∧ IL w u ts[i].next)
theorem TW.below {w w' : World} {v : Value} {l : List Tw} (h : TW w v l) (hb : Below w.heap.size w w') : TW w' v l := by
  obtain ⟨a, cap, hv, hc⟩ := h
  refine ⟨a, cap, hv, fun hl => ?_⟩
  obtain ⟨b, off, ha, hbl, hcell⟩ := hc hl
  refine ⟨b, off, ha, Nat.lt_of_lt_of_le hbl hb.size, fun i hi => ?_⟩
  obtain ⟨u, ⟨c0, c1, c2, c3, c4⟩, hu⟩ := hcell i hi
  exact ⟨u, ⟨(hb.cell (p := ⟨b, off + i * 5, none⟩) hbl).trans c0, (hb.cell (p := ⟨b, off + i * 5 + 1, none⟩) hbl).trans c1, (hb.cell (p := ⟨b, off + i * 5 + 2, none⟩) hbl).trans c2, (hb.cell (p := ⟨b, off + i * 5 + 3, none⟩) hbl).trans c3, (hb.cell (p := ⟨b, off + i * 5 + 4, none⟩) hbl).trans c4⟩, hu.below hb⟩

/-- How much a tower bears. -/
def Tw.big (t : Tw) : Nat := t.key.size + t.val.size + t.next.length
def totT : List Tw → Nat
  | [] => 0
  | s :: r => s.big + totT r
/-- Every length fits. -/
def Tw.fits (t : Tw) : Prop := t.key.size ≤ maxLen ∧ t.val.size ≤ maxLen ∧ t.next.length ≤ maxLen

/-- A tower's row, its links in the block g. -/
def rowT (t : Tw) (g : Nat) : Tc := ⟨t.key, t.seq, t.kind, t.val, .slice (some ⟨g, 0, none⟩) t.next.length t.next.length⟩
def partT (ts : List Tw) (gs : List Nat) : List Tc := List.zipWith rowT ts gs ++ List.replicate (ts.length - gs.length) Tc.zero
/-- The links of the towers ts lie in the blocks gs, one each, all behind base. -/
def Lnk (w : World) (base : Nat) (ts : List Tw) (gs : List Nat) : Prop :=
  gs.length ≤ ts.length ∧ gs.Pairwise (· < ·) ∧ ∀ i (h : i < gs.length) (h' : i < ts.length), base < gs[i] ∧ w.ownsRow gs[i] 3 1 (.slice (some ⟨gs[i], 0, none⟩) ts[i].next.length ts[i].next.length) ts[i].next.length (ts[i].next.map (.int .i64))
theorem Lnk.below {w w' : World} {base : Nat} {ts : List Tw} {gs : List Nat} (h : Lnk w base ts gs) (hb : Below w.heap.size w w') : Lnk w' base ts gs :=
  ⟨h.1, h.2.1, fun i hi hi' => ⟨(h.2.2 i hi hi').1, owns_below (h.2.2 i hi hi').2 hb⟩⟩
theorem Lnk.setCell {w : World} {base : Nat} {ts : List Tw} {gs : List Nat} (h : Lnk w base ts gs) {a : Addr} (ha : a.block ≤ base) (u : Value) : Lnk (w.setCell a u) base ts gs :=
  ⟨h.1, h.2.1, fun i hi hi' => ⟨(h.2.2 i hi hi').1, ownsRow_setCell_below (h.2.2 i hi hi').2 (by have := (h.2.2 i hi hi').1; omega) u⟩⟩
theorem Lnk.lt {w : World} {base : Nat} {ts : List Tw} {gs : List Nat} (h : Lnk w base ts gs) {g : Nat} (hg : g ∈ gs) : g < w.heap.size := by
  obtain ⟨i, hi, rfl⟩ := List.getElem_of_mem hg
  exact (owns_lt (h.2.2 i hi (Nat.lt_of_lt_of_le hi h.1)).2).2
theorem Lnk.snoc {w : World} {base : Nat} {ts : List Tw} {gs : List Nat} {g : Nat} (h : Lnk w base ts gs) (hl : gs.length < ts.length) (hg : base < g) (hall : ∀ x ∈ gs, x < g)
    (ho : w.ownsRow g 3 1 (.slice (some ⟨g, 0, none⟩) ts[gs.length].next.length ts[gs.length].next.length) ts[gs.length].next.length (ts[gs.length].next.map (.int .i64))) : Lnk w base ts (gs ++ [g]) := by
  refine ⟨by simp; omega, List.pairwise_append.2 ⟨h.2.1, by simp, fun a ha b hb => ?_⟩, fun i hi hi' => ?_⟩
  · rw [List.mem_singleton.1 hb]; exact hall a ha
  · by_cases e : i < gs.length
    · rw [List.getElem_append_left e]; exact h.2.2 i e hi'
    · have hi2 : i = gs.length := by simp at hi; omega
      subst hi2
      rw [List.getElem_append_right (by omega)]
      simpa using ⟨hg, ho⟩
theorem Lnk.il {w : World} {base : Nat} {ts : List Tw} {gs : List Nat} (h : Lnk w base ts gs) (i : Nat) (hi : i < gs.length) (hi' : i < ts.length) : IL w (.slice (some ⟨gs[i], 0, none⟩) ts[i].next.length ts[i].next.length) ts[i].next :=
  IL_of_owns (h.2.2 i hi hi').2 rfl
end Go.Proofs.YtdaldkcildbcmaaDoor
