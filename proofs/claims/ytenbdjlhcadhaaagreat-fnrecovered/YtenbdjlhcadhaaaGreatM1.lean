/-
  Metas in a row: rows of four cells; szMetaS, toMetaS, eqMetaS.
-/
import Derived.Test.YtenbdjlhcadhaaaGreatK9ToM0
import Derived.Test.YtenbdjlhcadhaaaGreatS9ToK2
import Derived.Test.YtenbdjlhcadhaaaGreatRV0ToH1
import Derived.OwnWalk
import Derived.Deep.RegionHeld3
import Derived.Deep.QuietTactic
import Derived.BigQuiet
namespace Go.Proofs.YtenbdjlhcadhaaaGreat
open Go.RowKit
set_option linter.unusedVariables false
set_option maxRecDepth 100000

def flat4 : List Mt → List Value
  | [] => []
  | s :: r => .int .i64 s.n :: .int .i64 s.d :: .string s.k :: .string s.v :: flat4 r
theorem flat4_length (l : List Mt) : (flat4 l).length = l.length * 4 := by
  induction l with
  | nil => rfl
  | cons x r ih => simp only [flat4, List.length_cons, ih]; omega
theorem flat4_append (l m : List Mt) : flat4 (l ++ m) = flat4 l ++ flat4 m := by
  induction l with
  | nil => rfl
  | cons x r ih => simp only [List.cons_append, flat4, ih]
theorem flat4_get (l : List Mt) (i : Nat) (h : i < l.length) : (flat4 l)[i * 4]? = some (.int .i64 l[i].n) ∧ (flat4 l)[i * 4 + 1]? = some (.int .i64 l[i].d) ∧ (flat4 l)[i * 4 + 2]? = some (.string l[i].k) ∧ (flat4 l)[i * 4 + 3]? = some (.string l[i].v) := by
  induction l generalizing i with
  | nil => simp at h
  | cons x r ih =>
    cases i with
    | zero => exact ⟨rfl, rfl, rfl, rfl⟩
    | succ i =>
      have := ih i (by simpa using h)
      rw [show (i + 1) * 4 = i * 4 + 1 + 1 + 1 + 1 from by omega, show i * 4 + 1 + 1 + 1 + 1 + 1 = (i * 4 + 1) + 1 + 1 + 1 + 1 from by omega, show i * 4 + 1 + 1 + 1 + 1 + 2 = (i * 4 + 2) + 1 + 1 + 1 + 1 from by omega, show i * 4 + 1 + 1 + 1 + 1 + 3 = (i * 4 + 3) + 1 + 1 + 1 + 1 from by omega]
      simp only [flat4, List.getElem?_cons_succ, List.getElem_cons_succ]
      exact this
theorem flat4_set (l : List Mt) (i : Nat) (s : Mt) : ((((flat4 l).set (i * 4) (.int .i64 s.n)).set (i * 4 + 1) (.int .i64 s.d)).set (i * 4 + 2) (.string s.k)).set (i * 4 + 3) (.string s.v) = flat4 (l.set i s) := by
  induction l generalizing i with
  | nil => simp [flat4]
  | cons x r ih =>
    cases i with
    | zero => simp [flat4]
    | succ i =>
      rw [show (i + 1) * 4 = i * 4 + 1 + 1 + 1 + 1 from by omega, show i * 4 + 1 + 1 + 1 + 1 + 1 = (i * 4 + 1) + 1 + 1 + 1 + 1 from by omega, show i * 4 + 1 + 1 + 1 + 1 + 2 = (i * 4 + 2) + 1 + 1 + 1 + 1 from by omega, show i * 4 + 1 + 1 + 1 + 1 + 3 = (i * 4 + 3) + 1 + 1 + 1 + 1 from by omega]
      simp only [flat4, List.set_cons_succ]
      rw [ih i]
theorem flat4_zeros (n : Nat) : (madeCells (Value.agg #[.int .i64 0, .int .i64 0, .string ⟨#[]⟩, .string ⟨#[]⟩]).cells (n * 4)).toList = flat4 (List.replicate n Mt.zero) := by
  have hcs : (Value.agg #[.int .i64 0, .int .i64 0, .string ⟨#[]⟩, .string ⟨#[]⟩]).cells = #[.int .i64 0, .int .i64 0, .string ⟨#[]⟩, .string ⟨#[]⟩] := rfl
  rw [hcs]
  apply List.ext_getElem?
  intro i
  by_cases hi : i < n * 4
  · obtain ⟨j, m, hm, rfl⟩ : ∃ j m, m < 4 ∧ i = j * 4 + m := ⟨i / 4, i % 4, by omega, by omega⟩
    have hj : j < (List.replicate n Mt.zero).length := by simp; omega
    obtain ⟨g0, g1, g2, g3⟩ := flat4_get _ j hj
    obtain rfl | rfl | rfl | rfl : m = 0 ∨ m = 1 ∨ m = 2 ∨ m = 3 := by omega
    · rw [Nat.add_zero] at hi ⊢; rw [g0]; simp [madeCells, hi, Mt.zero]
    · rw [g1]; simp [madeCells, hi, Mt.zero]
    · rw [g2]; simp [madeCells, hi, Mt.zero]
    · rw [g3]; simp [madeCells, hi, Mt.zero]
  · rw [List.getElem?_eq_none (by simp [madeCells]; omega), List.getElem?_eq_none (by rw [flat4_length]; simp; omega)]
/-- The value v is a slice of the items l. -/
def IR (w : World) (v : Value) (l : List Mt) : Prop :=
  ∃ a cap, v = .slice a l.length cap ∧ (l ≠ [] → ∃ b off, a = some ⟨b, off, none⟩ ∧ b < w.heap.size ∧
    ∀ i (h : i < l.length), w.cell? ⟨b, off + i * 4, none⟩ = some (.int .i64 l[i].n) ∧ w.cell? ⟨b, off + i * 4 + 1, none⟩ = some (.int .i64 l[i].d) ∧ w.cell? ⟨b, off + i * 4 + 2, none⟩ = some (.string l[i].k) ∧ w.cell? ⟨b, off + i * 4 + 3, none⟩ = some (.string l[i].v))
theorem IR.below {w w' : World} {v : Value} {l : List Mt} (h : IR w v l) (hb : Below w.heap.size w w') : IR w' v l := by
  obtain ⟨a, cap, hv, hc⟩ := h
  refine ⟨a, cap, hv, fun hl => ?_⟩
  obtain ⟨b, off, ha, hbl, hcell⟩ := hc hl
  refine ⟨b, off, ha, Nat.lt_of_lt_of_le hbl hb.size, fun i hi => ?_⟩
  obtain ⟨c0, c1, c2, c3⟩ := hcell i hi
  exact ⟨(hb.cell (p := ⟨b, off + i * 4, none⟩) hbl).trans c0, (hb.cell (p := ⟨b, off + i * 4 + 1, none⟩) hbl).trans c1, (hb.cell (p := ⟨b, off + i * 4 + 2, none⟩) hbl).trans c2, (hb.cell (p := ⟨b, off + i * 4 + 3, none⟩) hbl).trans c3⟩
theorem IR_nil (w : World) : IR w (.slice none 0 0) [] := ⟨none, 0, rfl, fun h => absurd rfl h⟩
theorem IR_of_owns {w : World} {base n : Nat} {e : TypeId} {v : Value} {l : List Mt} (h : w.ownsRow base e 4 v n (flat4 l)) (hn : n = l.length) : IR w v l := by
  subst hn
  have h' := h
  obtain ⟨hl, h⟩ := h
  rcases h with ⟨rfl, h0⟩ | ⟨g, cap, cur, rfl, hbg, hh, hcap, hm, hsz, htk⟩
  · exact ⟨none, 0, by rw [h0], fun hne => absurd (List.length_eq_zero_iff.1 h0) hne⟩
  · refine ⟨_, cap, rfl, fun _ => ⟨g, 0, rfl, (Array.getElem?_eq_some_iff.1 hh).1, fun i hi => ?_⟩⟩
    obtain ⟨g0, g1, g2, g3⟩ := flat4_get l i hi
    rw [Nat.zero_add]
    exact ⟨by rw [h'.cellAt (i * 4) (by omega), g0], by rw [h'.cellAt (i * 4 + 1) (by omega), g1], by rw [h'.cellAt (i * 4 + 2) (by omega), g2], by rw [h'.cellAt (i * 4 + 3) (by omega), g3]⟩
def part4 (l : List Mt) (k : Nat) : List Mt := l.take k ++ List.replicate (l.length - k) Mt.zero
theorem part4_zero (l : List Mt) : part4 l 0 = List.replicate l.length Mt.zero := by simp [part4]
theorem part4_all (l : List Mt) : part4 l l.length = l := by simp [part4]
theorem part4_set (l : List Mt) (k : Nat) (h : k < l.length) : (part4 l k).set k l[k] = part4 l (k + 1) := by
  unfold part4
  have h1 : (l.take k).length = k := by simp; omega
  obtain ⟨m, hm⟩ : ∃ m, l.length - k = m + 1 := ⟨l.length - k - 1, by omega⟩
  rw [List.set_append_right _ _ (by omega), h1, Nat.sub_self, hm, List.replicate_succ, List.set_cons_zero, List.take_succ_eq_append_getElem h, List.append_assoc, show l.length - (k + 1) = m from by omega]
  rfl
theorem owns4_at {w : World} {base : Nat} {e : TypeId} {g cap n : Nat} {xs : List Value} (h : w.ownsRow base e 4 (.slice (some ⟨g, 0, none⟩) n cap) n xs) (i : Nat) (hi : i < n) (j : Nat) (hj : j < 4) :
    (∃ u, w.cell? ⟨g, i * 4 + j, none⟩ = some u) ∧ w.frozen? ⟨g, i * 4 + j, none⟩ = false := by
  have hl := h.1
  refine ⟨?_, h.frozenAt _⟩
  rw [h.cellAt (i * 4 + j) (by omega)]
  exact ⟨_, List.getElem?_eq_getElem (by omega)⟩
def tot4 : List Mt → Nat
  | [] => 0
  | s :: r => s.k.size + s.v.size + tot4 r
theorem tot4_take (l : List Mt) (k : Nat) (h : k < l.length) : tot4 (l.take (k + 1)) = tot4 (l.take k) + (l[k].k.size + l[k].v.size) := by
  induction l generalizing k with
  | nil => simp at h
  | cons x r ih =>
    cases k with
    | zero => simp [tot4]
    | succ k =>
      simp only [List.take_succ_cons, tot4, List.getElem_cons_succ]
      rw [ih k (by simpa using h)]; omega
theorem tot4_mem (l : List Mt) (k : Nat) (h : k < l.length) : l[k].k.size + l[k].v.size ≤ tot4 l := by
  induction l generalizing k with
  | nil => simp at h
  | cons x r ih =>
    cases k with
    | zero => simp [tot4]
    | succ k => have := ih k (by simpa using h); simp only [tot4, List.getElem_cons_succ]; omega

theorem Tryz.info71 : (Tryz.prog.info? 71).map (fun i => (i.zero, i.size, i.bytes)) = some (some (.agg #[.int .i64 0, .int .i64 0, .string ⟨#[]⟩, .string ⟨#[]⟩]), 4, 48) := by kernel_rfl

theorem below_undrew {w w' : World} (h : Below w.drew.heap.size w.drew w') : Below w.heap.size w w' := (Below.refl _ _).drew.trans h
end Go.Proofs.YtenbdjlhcadhaaaGreat
