/-
  slices.CompactFunc over items: those that are like the one ahead go.
-/
import Derived.Test.YtcjkdkaahkphfaaJ9
import Derived.Test.YtcjkdkaahkphfaaV8
import Derived.Test.YtcjkdkaahkphfaaX3
import Derived.Laws.IdiomCopy
namespace Go.Proofs.Ytcjkdkaahkphfaa
open Go.RowKit
set_option linter.unusedVariables false
set_option maxRecDepth 100000

def arrC (xs : List It) (i : Nat) : List It := cpTo xs i ++ xs.drop (cpTo xs i).length
theorem arrC_len (xs : List It) (i : Nat) (h : i ≤ xs.length) : (arrC xs i).length = xs.length := by
  have := cpTo_len xs i
  unfold arrC; rw [List.length_append, List.length_drop]; omega
theorem arrC_at (xs : List It) (i j : Nat) (h1 : (cpTo xs i).length ≤ j) (h2 : j < xs.length) : (arrC xs i)[j]? = some xs[j] := by
  unfold arrC
  rw [List.getElem?_append_right h1, List.getElem?_drop, show (cpTo xs i).length + (j - (cpTo xs i).length) = j from by omega, List.getElem?_eq_getElem h2]
theorem arrC_put (xs : List It) (i : Nat) (h : i < xs.length) (h0 : i ≠ 0) (hs : sm xs[i] (xs[i - 1]'(by omega)) = false) : (arrC xs i).set (cpTo xs i).length xs[i] = arrC xs (i + 1) ∧ (cpTo xs (i + 1)).length = (cpTo xs i).length + 1 := by
  have hl := cpTo_len xs i
  have e : cpTo xs (i + 1) = cpTo xs i ++ [xs[i]] := by
    rw [cpTo, getD_at xs i h, getD_at xs (i - 1) (by omega), if_pos (.inr hs)]
  refine ⟨?_, by rw [e]; simp⟩
  unfold arrC
  rw [e, List.set_append_right _ _ (Nat.le_refl _), Nat.sub_self, List.drop_eq_getElem_cons (show (cpTo xs i).length < xs.length by omega), List.set_cons_zero, List.append_assoc, List.length_append, List.length_singleton]
  rfl
theorem arrC_skip (xs : List It) (i : Nat) (h : i < xs.length) (h0 : i ≠ 0) (hs : sm xs[i] (xs[i - 1]'(by omega)) = true) : arrC xs (i + 1) = arrC xs i ∧ cpTo xs (i + 1) = cpTo xs i := by
  have e : cpTo xs (i + 1) = cpTo xs i := by
    rw [cpTo, getD_at xs i h, getD_at xs (i - 1) (by omega), if_neg]
    rintro (h1 | h1)
    · exact h0 h1
    · rw [hs] at h1; cases h1
  exact ⟨by unfold arrC; rw [e], e⟩
theorem cp_take (xs : List It) : ∀ k, k ≤ xs.length → (∀ j (h : j < xs.length), 1 ≤ j → j < k → sm xs[j] (xs[j - 1]'(by omega)) = false) → cpTo xs k = xs.take k
  | 0, _, _ => by simp [cpTo]
  | k + 1, hk, h => by
    have ih := cp_take xs k (by omega) (fun j hj h1 h2 => h j hj h1 (by omega))
    rw [cpTo, List.take_succ_eq_append_getElem (by omega), getD_at xs k (by omega), if_pos, ih]
    by_cases h0 : k = 0
    · exact .inl h0
    · right
      rw [getD_at xs (k - 1) (by omega)]
      exact h k (by omega) (by omega) (by omega)
theorem owns_take {w : World} {base : Nat} {e : TypeId} {size g cap n m : Nat} {xs : List Value} (h : w.ownsRow base e size (.slice (some ⟨g, 0, none⟩) n cap) n xs) (hm : m ≤ n) : w.ownsRow base e size (.slice (some ⟨g, 0, none⟩) m cap) m (xs.take (m * size)) := by
  have hl := h.1
  refine ⟨by rw [List.length_take, hl]; have := Nat.mul_le_mul_right size hm; omega, ?_⟩
  rcases h.2 with ⟨h1, _⟩ | ⟨g', c, cur, h1, h2, h3, h4, h5, h6, h7⟩
  · simp at h1
  · simp only [Value.slice.injEq, Option.some.injEq, Addr.mk.injEq, and_true, true_and] at h1
    obtain ⟨rfl, rfl⟩ := h1
    refine .inr ⟨g, cap, cur, rfl, h2, h3, by omega, h5, h6, ?_⟩
    rw [← h7, List.take_take, Nat.min_eq_left (Nat.mul_le_mul_right size hm)]
theorem flat4_take (xs : List It) (m : Nat) : (flat4 xs).take (m * 4) = flat4 (xs.take m) := by
  induction xs generalizing m with
  | nil => simp [flat4]
  | cons x r ih =>
    cases m with
    | zero => simp [flat4]
    | succ m => rw [show (m + 1) * 4 = m * 4 + 1 + 1 + 1 + 1 from by omega]; simp only [flat4, List.take_succ_cons, ih m]
/-- Cells behind a row of one's own written: the row stands. -/
theorem owns_behind {base : Nat} {e : TypeId} {size g cap n : Nat} {xs : List Value} : ∀ (vs : List Value) (o : Nat) (w : World), xs.length ≤ o → w.ownsRow base e size (.slice (some ⟨g, 0, none⟩) n cap) n xs → (w.setCells g o vs).ownsRow base e size (.slice (some ⟨g, 0, none⟩) n cap) n xs ∧ Chg (· = g) w (w.setCells g o vs)
  | [], o, w, _, h => ⟨h, Chg.refl _ _⟩
  | v :: r, o, w, ho, h => by
    have h1 := (h.stored o v).1
    rw [List.set_eq_of_length_le ho] at h1
    obtain ⟨h2, h3⟩ := owns_behind r (o + 1) _ (by omega) h1
    exact ⟨h2, ((Chg.refl (· = g) w).setCell (p := ⟨g, o, none⟩) rfl v).trans h3⟩
theorem zero83 (w : World) : (zeroValue 68).run Try.prog w = .ok (.agg #[.string ⟨#[]⟩, .int .i64 0, .int .i64 0, .string ⟨#[]⟩]) w := by
  obtain ⟨i0, hi, hz0, _, _⟩ := info_parts Try.info68
  simp [zeroValue, typeInfo, hi, hz0, go_sem]
theorem run_clear_items (w : World) (ty : TypeId) (b o n c : Nat) (hn : 0 < n) (hc : ∀ j, j < n * 4 → (w.cell? ⟨b, o + j, none⟩).isSome = true) (hf : ∀ j, w.frozen? ⟨b, j, none⟩ = false) :
    ∃ vs : List Value, (Builtin.clear_ #[38] ty #[.slice (some ⟨b, o, none⟩) n c]).run Try.prog w = .ok (.tuple #[]) (w.setCells b o vs) := by
  have hlen : (Builtin.zeroCells (Value.agg #[.string ⟨#[]⟩, .int .i64 0, .int .i64 0, .string ⟨#[]⟩]).cells n).toList.length = n * 4 := by simp [Builtin.zeroCells, Value.cells]
  have hone : ∀ v ∈ (Builtin.zeroCells (Value.agg #[.string ⟨#[]⟩, .int .i64 0, .int .i64 0, .string ⟨#[]⟩]).cells n).toList, v.oneCell' = true := by
    intro v hv
    simp only [Builtin.zeroCells, Array.toList_map, List.mem_map] at hv
    obtain ⟨i, _, rfl⟩ := hv
    have : i % (Value.agg #[.string ⟨#[]⟩, .int .i64 0, .int .i64 0, .string ⟨#[]⟩]).cells.size = 0 ∨ i % (Value.agg #[.string ⟨#[]⟩, .int .i64 0, .int .i64 0, .string ⟨#[]⟩]).cells.size = 1 ∨ i % (Value.agg #[.string ⟨#[]⟩, .int .i64 0, .int .i64 0, .string ⟨#[]⟩]).cells.size = 2 ∨ i % (Value.agg #[.string ⟨#[]⟩, .int .i64 0, .int .i64 0, .string ⟨#[]⟩]).cells.size = 3 := by
      show i % 4 = 0 ∨ i % 4 = 1 ∨ i % 4 = 2 ∨ i % 4 = 3
      omega
    rcases this with h | h | h | h <;> rw [h] <;> rfl
  generalize hzs : (Builtin.zeroCells (Value.agg #[.string ⟨#[]⟩, .int .i64 0, .int .i64 0, .string ⟨#[]⟩]).cells n).toList = zs at *
  have hst := run_storeCells_cells (P := Try.prog) b o zs 0 w (by intro j hj; rw [Nat.add_zero]; exact hc j (by omega)) (fun j _ => hf _) hone
  simp only [Nat.add_zero] at hst
  obtain ⟨m, rfl⟩ : ∃ m, n = m + 1 := ⟨n - 1, by omega⟩
  refine ⟨zs, ?_⟩
  simp [Builtin.clear_, run_underlying Try.underlying38, hzs, hst]
end Go.Proofs.Ytcjkdkaahkphfaa
