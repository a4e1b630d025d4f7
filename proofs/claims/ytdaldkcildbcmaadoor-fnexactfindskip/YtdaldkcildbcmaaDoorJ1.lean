/-
  Looking through all the levels, plainly.
-/
import Derived.Test.YtdaldkcildbcmaaDoorJ0
namespace Go.Proofs.YtdaldkcildbcmaaDoor
set_option linter.unusedVariables false

theorem go1_ok {hs : List Int} {ts : List Tw} (G : GoodI hs ts) (t : Tw) {lv : Nat} (h : lv < 5) : ∀ (f : Nat) (a : Int) (n : Nat), (a = -1 ∨ okAt ts lv a) → (go1 hs ts t lv f a n).1 = -1 ∨ okAt ts lv (go1 hs ts t lv f a n).1 := by
  intro f
  induction f with
  | zero => intro a n ha; exact ha
  | succ f ih =>
    intro a n ha
    simp only [go1]
    split
    · exact ha
    · rename_i h3
      split
      · rcases good_step G h ha with h4 | ⟨h4, _⟩
        · omega
        · exact ih _ _ (.inr h4)
      · exact ha
theorem go1_many (hs : List Int) (ts : List Tw) (t : Tw) (lv : Nat) : ∀ (f : Nat) (a : Int) (n : Nat), (go1 hs ts t lv f a n).2 ≤ n + f := by
  intro f
  induction f with
  | zero => intro a n; exact Nat.le_refl _
  | succ f ih =>
    intro a n
    simp only [go1]
    split
    · exact Nat.le_add_right _ _
    · split
      · have := ih (NX hs ts a lv) (n + 1); omega
      · show n + 1 ≤ n + (f + 1); omega
/-- Where one is, and how many were looked at, when k levels are done, from the highest on. -/
def SkS (hs : List Int) (ts : List Tw) (t : Tw) : Nat → Int × Nat
  | 0 => (-1, 0)
  | k + 1 => go1 hs ts t (4 - k) (ts.length + 1) (SkS hs ts t k).1 (SkS hs ts t k).2
theorem okAt_down {ts : List Tw} {lv lv' : Nat} {a : Int} (h : a = -1 ∨ okAt ts lv a) (hl : lv' ≤ lv) : a = -1 ∨ okAt ts lv' a := by
  rcases h with h | ⟨h0, h1, h2⟩
  · exact .inl h
  · exact .inr ⟨h0, h1, by omega⟩
theorem SkS_ok {hs : List Int} {ts : List Tw} (G : GoodI hs ts) (t : Tw) : ∀ k, k ≤ 5 → ∀ lv, lv ≤ 5 - k → (SkS hs ts t k).1 = -1 ∨ okAt ts lv (SkS hs ts t k).1 := by
  intro k
  induction k with
  | zero => intro _ lv _; exact .inl rfl
  | succ k ih =>
    intro hk lv hl
    exact okAt_down (go1_ok G t (by omega) _ _ _ (ih (by omega) (4 - k) (by omega))) (by omega)
theorem SkS_many (hs : List Int) (ts : List Tw) (t : Tw) : ∀ k, (SkS hs ts t k).2 ≤ k * (ts.length + 1) := by
  intro k
  induction k with
  | zero => exact Nat.zero_le _
  | succ k ih =>
    have := go1_many hs ts t (4 - k) (ts.length + 1) (SkS hs ts t k).1 (SkS hs ts t k).2
    simp only [SkS]
    rw [Nat.succ_mul]; omega
/-- The last ones that are less, when k levels are done. -/
def lastL (hs : List Int) (ts : List Tw) (t : Tw) (k : Nat) : List Int := (List.range 5).map fun j => if 5 - k ≤ j then (SkS hs ts t (5 - j)).1 else 0
theorem lastL_len (hs : List Int) (ts : List Tw) (t : Tw) (k : Nat) : (lastL hs ts t k).length = 5 := by simp [lastL]
theorem lastL_zero (hs : List Int) (ts : List Tw) (t : Tw) : lastL hs ts t 0 = List.replicate 5 0 := by simp [lastL, List.range_succ]
theorem lastL_set (hs : List Int) (ts : List Tw) (t : Tw) (k : Nat) (h : k < 5) : (lastL hs ts t k).set (4 - k) (SkS hs ts t (k + 1)).1 = lastL hs ts t (k + 1) := by
  apply List.ext_getElem?
  intro j
  by_cases hj : j < 5
  · by_cases e : 4 - k = j
    · subst e
      rw [List.getElem?_set_self (by rw [lastL_len]; exact hj)]
      simp only [lastL, List.getElem?_map, List.getElem?_range hj, Option.map_some]
      rw [if_pos (by omega), show 5 - (4 - k) = k + 1 from by omega]
    · rw [List.getElem?_set_ne e]
      simp only [lastL, List.getElem?_map, List.getElem?_range hj, Option.map_some]
      by_cases e2 : 5 - k ≤ j
      · rw [if_pos e2, if_pos (by omega)]
      · rw [if_neg e2, if_neg (by omega)]
  · rw [List.getElem?_eq_none (by rw [List.length_set, lastL_len]; omega), List.getElem?_eq_none (by rw [lastL_len]; omega)]
theorem lastL_first (hs : List Int) (ts : List Tw) (t : Tw) : (lastL hs ts t 5)[0]? = some (SkS hs ts t 5).1 := by simp [lastL]
end Go.Proofs.YtdaldkcildbcmaaDoor
