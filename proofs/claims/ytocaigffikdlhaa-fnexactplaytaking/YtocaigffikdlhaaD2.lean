/-
  spec.DrawSumOf, spec.DrawSumOn, laws.numberOf; bytes of a text that may be written.
-/
import Derived.Test.YtocaigffikdlhaaD1
namespace Go.Proofs.Ytocaigffikdlhaa
open Go.RowKit
set_option linter.unusedVariables false

/-- The value v is a slice whose elements are the bytes l. -/
def YL (w : World) (v : Value) (l : List UInt8) : Prop :=
  ∃ a cap, v = .slice a l.length cap ∧ (l ≠ [] → ∃ cb off, a = some ⟨cb, off, none⟩ ∧ cb < w.heap.size ∧ ∀ i (h : i < l.length), w.cell? ⟨cb, off + i, none⟩ = some (.int .u8 (l[i].toNat : Int)))
theorem YL.below {w w' : World} {v : Value} {l : List UInt8} (h : YL w v l) (hb : Below w.heap.size w w') : YL w' v l := by
  obtain ⟨a, cap, hv, hc⟩ := h
  refine ⟨a, cap, hv, fun hl => ?_⟩
  obtain ⟨b, off, ha, hbl, hcell⟩ := hc hl
  exact ⟨b, off, ha, Nat.lt_of_lt_of_le hbl hb.size, fun i hi => (hb.cell (p := ⟨b, off + i, none⟩) hbl).trans (hcell i hi)⟩
theorem cur_new {w : World} {v : Value} {l : List UInt8} (h : YL w v l) : Cur (w.alloc (.cells #[v, .int .i64 0, .int .u64 0] 88)) w.heap.size l 0 := by
  have hb := below_alloc w (.cells #[v, .int .i64 0, .int .u64 0] 88)
  refine ⟨v, 0, 0, Box.new w #[v, .int .i64 0, .int .u64 0] 88, by omega, by omega, ?_⟩
  obtain ⟨a, cap, rfl, hc⟩ := h
  refine ⟨a, cap, rfl, fun hl => ?_⟩
  obtain ⟨cb, off, ha, hbl, hcell⟩ := hc hl
  exact ⟨cb, off, ha, Nat.lt_of_lt_of_le hbl hb.size, hbl, fun i hi => (hb.cell (p := ⟨cb, off + i, none⟩) hbl).trans (hcell i hi)⟩
theorem below_cur {w w1 w2 : World} (hb : Below w.heap.size w w1) (hc : Chg (· = w.heap.size) w1 w2) : Below w.heap.size w w2 :=
  hb.trans (hc.below hb.size (fun k hk => by omega))

/-- Block g holds the bytes m; they may be written. -/
def Wr (w : World) (g : Nat) (m : List UInt8) : Prop := g < w.heap.size ∧ ∀ j (h : j < m.length), w.cell? ⟨g, j, none⟩ = some (.int .u8 (m[j].toNat : Int)) ∧ w.frozen? ⟨g, j, none⟩ = false
theorem Wr.below {w w' : World} {g : Nat} {m : List UInt8} (h : Wr w g m) (hb : Below w.heap.size w w') : Wr w' g m :=
  ⟨Nat.lt_of_lt_of_le h.1 hb.size, fun j hj => ⟨(hb.cell (p := ⟨g, j, none⟩) h.1).trans (h.2 j hj).1, (hb.frozen (p := ⟨g, j, none⟩) h.1).trans (h.2 j hj).2⟩⟩
theorem Wr.set {w : World} {g : Nat} {m : List UInt8} (h : Wr w g m) (i : Nat) (hi : i < m.length) (c : UInt8) : Wr (w.setCell ⟨g, i, none⟩ (.int .u8 (c.toNat : Int))) g (m.set i c) := by
  refine ⟨by simpa using h.1, fun j hj => ⟨?_, by simpa using (h.2 j (by simpa using hj)).2⟩⟩
  by_cases hji : j = i
  · subst hji
    rw [World.cell?_setCell_same _ _ _ (h.2 j hi).1, List.getElem_set_self]
  · rw [World.cell?_setCell_other _ _ _ _ (fun e => hji (congrArg Addr.off e).symm), List.getElem_set_ne (by omega)]
    exact (h.2 j (by simpa using hj)).1
theorem bytes_of (s : ByteArray) (w : World) : ∃ cap W', (convert 9 22 (.string s)).run Try.prog w = .ok (.slice (some ⟨w.heap.size, 0, none⟩) s.size cap) W' ∧ Wr W' w.heap.size s.data.toList ∧ Below w.heap.size w W' := by
  refine ⟨_, _, run_bytes_of_string w 9 22 5 s Try.underlying9 Try.underlying22 Try.underlying5, ⟨?_, fun j hj => ?_⟩, (Below.refl _ _).drew.alloc (Nat.le_refl _) _⟩
  · simp
  · have hj' : j < s.data.size := by simpa using hj
    refine ⟨?_, ?_⟩
    · refine (World.cell?_alloc_mark w.drew _ _ _ j).trans ?_
      rw [bytesRow_at s _ j hj']; simp
    · refine (World.frozen?_alloc_mark w.drew _ _ _ _ j).trans ?_
      have hsz : s.data.size ≤ (bytesRow s (grownCap w s.size 0 5)).size := by
        unfold bytesRow
        rw [Array.size_append, Array.size_map]; omega
      rw [decide_eq_false (by omega), Bool.false_and]
theorem conv_wr {w : World} {g cap n : Nat} {m : List UInt8} (h : Wr w g m) (hn : m.length = n) : (convert 22 9 (.slice (some ⟨g, 0, none⟩) n cap)).run Try.prog w = .ok (.string ⟨m.toArray⟩) w := by
  subst hn
  have := run_convert_bytes_back (P := Try.prog) w 22 9 5 ⟨g, 0, none⟩ cap m Try.underlying22 Try.underlying5 Try.underlying9 (by
    intro j hj
    rw [show (⟨g, 0, none⟩ : Addr).add j = ⟨g, j, none⟩ from by simp [Addr.add]; omega]
    exact (h.2 j hj).1)
  simpa using this
end Go.Proofs.Ytocaigffikdlhaa
