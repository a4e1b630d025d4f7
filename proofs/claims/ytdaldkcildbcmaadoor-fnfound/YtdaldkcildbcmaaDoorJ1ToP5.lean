/-
  Looking through all the levels, plainly.
  A tower put into a list, plainly.
-/
import Derived.Test.YtdaldkcildbcmaaDoorJ0
import Derived.Test.YtdaldkcildbcmaaDoorP3ToP4
namespace Go.Proofs.YtdaldkcildbcmaaDoor
set_option linter.unusedVariables false
theorem go1_ok {hs : List Int} {ts : List Tw} (G : GoodI hs ts) (t : Tw) {lv : Nat} (h : lv < 5) : ∀ (f : Nat) (a : Int) (n : Nat), (a = -1 ∨ okAt ts lv a) → (go1 hs ts t lv f a n).1 = -1 ∨ okAt ts lv (go1 hs ts t lv f a n).1 := by
  intro f
  induction f with
  | zero => intro a n ha; exact ha
  | succ f ih =>
    intro a n ha
    simp only [go1]
    split
    · exact ha
    · rename_i h3
      split
      · rcases good_step G h ha with h4 | ⟨h4, _⟩
        · omega
        · exact ih _ _ (.inr h4)
      · exact ha
theorem go1_many (hs : List Int) (ts : List Tw) (t : Tw) (lv : Nat) : ∀ (f : Nat) (a : Int) (n : Nat), (go1 hs ts t lv f a n).2 ≤ n + f := by
  intro f
  induction f with
  | zero => intro a n; exact Nat.le_refl _
  | succ f ih =>
    intro a n
    simp only [go1]
    split
    · exact Nat.le_add_right _ _
    · split
      · have := ih (NX hs ts a lv) (n + 1); omega
      · show n + 1 ≤ n + (f + 1); omega
/-- Where one is, and how many were looked at, when k levels are done, from the highest on. -/
def SkS (hs : List Int) (ts : List Tw) (t : Tw) : Nat → Int × Nat
  | 0 => (-1, 0)
  | k + 1 => go1 hs ts t (4 - k) (ts.length + 1) (SkS hs ts t k).1 (SkS hs ts t k).2
theorem okAt_down {ts : List Tw} {lv lv' : Nat} {a : Int} (h : a = -1 ∨ okAt ts lv a) (hl : lv' ≤ lv) : a = -1 ∨ okAt ts lv' a := by
  rcases h with h | ⟨h0, h1, h2⟩
  · exact .inl h
  · exact .inr ⟨h0, h1, by omega⟩
theorem SkS_ok {hs : List Int} {ts : List Tw} (G : GoodI hs ts) (t : Tw) : ∀ k, k ≤ 5 → ∀ lv, lv ≤ 5 - k → (SkS hs ts t k).1 = -1 ∨ okAt ts lv (SkS hs ts t k).1 := by
  intro k
  induction k with
  | zero => intro _ lv _; exact .inl rfl
  | succ k ih =>
    intro hk lv hl
    exact okAt_down (go1_ok G t (by omega) _ _ _ (ih (by omega) (4 - k) (by omega))) (by omega)
theorem SkS_many (hs : List Int) (ts : List Tw) (t : Tw) : ∀ k, (SkS hs ts t k).2 ≤ k * (ts.length + 1) := by
  intro k
  induction k with
  | zero => exact Nat.zero_le _
  | succ k ih =>
    have := go1_many hs ts t (4 - k) (ts.length + 1) (SkS hs ts t k).1 (SkS hs ts t k).2
    simp only [SkS]
    rw [Nat.succ_mul]; omega
/-- The last ones that are less, when k levels are done. -/
def lastL (hs : List Int) (ts : List Tw) (t : Tw) (k : Nat) : List Int := (List.range 5).map fun j => if 5 - k ≤ j then (SkS hs ts t (5 - j)).1 else 0
theorem lastL_len (hs : List Int) (ts : List Tw) (t : Tw) (k : Nat) : (lastL hs ts t k).length = 5 := by simp [lastL]
theorem lastL_zero (hs : List Int) (ts : List Tw) (t : Tw) : lastL hs ts t 0 = List.replicate 5 0 := by simp [lastL, List.range_succ]
theorem lastL_set (hs : List Int) (ts : List Tw) (t : Tw) (k : Nat) (h : k < 5) : (lastL hs ts t k).set (4 - k) (SkS hs ts t (k + 1)).1 = lastL hs ts t (k + 1) := by
  apply List.ext_getElem?
  intro j
  by_cases hj : j < 5
  · by_cases e : 4 - k = j
    · subst e
      rw [List.getElem?_set_self (by rw [lastL_len]; exact hj)]
      simp only [lastL, List.getElem?_map, List.getElem?_range hj, Option.map_some]
      rw [if_pos (by omega), show 5 - (4 - k) = k + 1 from by omega]
    · rw [List.getElem?_set_ne e]
      simp only [lastL, List.getElem?_map, List.getElem?_range hj, Option.map_some]
      by_cases e2 : 5 - k ≤ j
      · rw [if_pos e2, if_pos (by omega)]
      · rw [if_neg e2, if_neg (by omega)]
  · rw [List.getElem?_eq_none (by rw [List.length_set, lastL_len]; omega), List.getElem?_eq_none (by rw [lastL_len]; omega)]
theorem lastL_first (hs : List Int) (ts : List Tw) (t : Tw) : (lastL hs ts t 5)[0]? = some (SkS hs ts t 5).1 := by simp [lastL]
end Go.Proofs.YtdaldkcildbcmaaDoor
namespace Go.Proofs.YtdaldkcildbcmaaDoor
open Go.RowKit
set_option linter.unusedVariables false
set_option maxRecDepth 100000
def putNx (t : Tw) (lv : Nat) (k : Int) : Tw := ⟨t.key, t.seq, t.kind, t.val, t.next.set lv k⟩
/-- One level: the link at which the tower comes in is turned to it. -/
def insH (H : List Int) (a : Int) (lv : Nat) (k : Int) : List Int := if a = -1 then H.set lv k else H
def insT (T : List Tw) (a : Int) (lv : Nat) (k : Int) : List Tw := if a = -1 then T else T.set a.toNat (putNx (tw T a) lv k)
/-- The levels below n. -/
def insTo (hs : List Int) (ts : List Tw) (L : List Int) (k : Int) : Nat → List Int × List Tw
  | 0 => (hs, ts)
  | lv + 1 => (insH (insTo hs ts L k lv).1 (L.getD lv 0) lv k, insT (insTo hs ts L k lv).2 (L.getD lv 0) lv k)
theorem insT_len (T : List Tw) (a : Int) (lv : Nat) (k : Int) : (insT T a lv k).length = T.length := by
  unfold insT; split <;> simp
theorem insH_len (H : List Int) (a : Int) (lv : Nat) (k : Int) : (insH H a lv k).length = H.length := by
  unfold insH; split <;> simp
theorem insTo_len (hs : List Int) (ts : List Tw) (L : List Int) (k : Int) : ∀ n, (insTo hs ts L k n).1.length = hs.length ∧ (insTo hs ts L k n).2.length = ts.length
  | 0 => ⟨rfl, rfl⟩
  | n + 1 => by
    have := insTo_len hs ts L k n
    exact ⟨by rw [insTo, insH_len]; exact this.1, by rw [insTo, insT_len]; exact this.2⟩
theorem insT_at (T : List Tw) (a : Int) (lv : Nat) (k : Int) (i : Nat) : tw (insT T a lv k) (i : Int) = if a ≠ -1 ∧ a.toNat = i ∧ i < T.length then putNx (tw T a) lv k else tw T (i : Int) := by
  unfold insT
  by_cases h : a = -1
  · simp [h]
  · rw [if_neg h]
    unfold tw
    rw [Int.toNat_natCast, List.getD_eq_getElem?_getD, List.getElem?_set]
    by_cases e : a.toNat = i
    · by_cases hi : i < T.length
      · rw [if_pos e, if_pos (by omega), if_pos ⟨h, e, hi⟩]; rfl
      · rw [if_pos e, if_neg (by omega), if_neg (by omega)]
        simp [List.getD_eq_getElem?_getD, hi]
    · rw [if_neg e, if_neg (fun x => e x.2.1), List.getD_eq_getElem?_getD]
/-- What no level has turned stays. -/
theorem insTo_next (hs : List Int) (ts : List Tw) (L : List Int) (k : Int) : ∀ n (i : Nat) (lv : Nat), n ≤ lv → (tw (insTo hs ts L k n).2 (i : Int)).next.getD lv 0 = (tw ts (i : Int)).next.getD lv 0
  | 0, i, lv, _ => rfl
  | n + 1, i, lv, h => by
    have ih := insTo_next hs ts L k n
    rw [insTo, insT_at]
    split
    · rename_i hc
      have e : tw (insTo hs ts L k n).2 (L.getD n 0) = tw (insTo hs ts L k n).2 (i : Int) := by unfold tw; rw [hc.2.1, Int.toNat_natCast]
      rw [e]
      unfold putNx
      dsimp only
      rw [← ih i lv (by omega)]
      simp only [List.getD_eq_getElem?_getD]
      rw [List.getElem?_set_ne (by omega)]
    · exact ih i lv (by omega)
theorem insTo_head (hs : List Int) (ts : List Tw) (L : List Int) (k : Int) : ∀ n (lv : Nat), n ≤ lv → (insTo hs ts L k n).1.getD lv 0 = hs.getD lv 0
  | 0, lv, _ => rfl
  | n + 1, lv, h => by
    have ih := insTo_head hs ts L k n lv (by omega)
    rw [insTo]
    unfold insH
    dsimp only
    split
    · rw [← ih]
      simp only [List.getD_eq_getElem?_getD]
      rw [List.getElem?_set_ne (by omega)]
    · exact ih
theorem insTo_keep (hs : List Int) (ts : List Tw) (L : List Int) (k : Int) : ∀ n (i : Nat), (tw (insTo hs ts L k n).2 (i : Int)).key = (tw ts (i : Int)).key ∧ (tw (insTo hs ts L k n).2 (i : Int)).seq = (tw ts (i : Int)).seq ∧ (tw (insTo hs ts L k n).2 (i : Int)).kind = (tw ts (i : Int)).kind ∧ (tw (insTo hs ts L k n).2 (i : Int)).val = (tw ts (i : Int)).val ∧ (tw (insTo hs ts L k n).2 (i : Int)).next.length = (tw ts (i : Int)).next.length
  | 0, i => ⟨rfl, rfl, rfl, rfl, rfl⟩
  | n + 1, i => by
    have ih := insTo_keep hs ts L k n i
    rw [insTo, insT_at]
    split
    · rename_i hc
      have e : tw (insTo hs ts L k n).2 (L.getD n 0) = tw (insTo hs ts L k n).2 (i : Int) := by unfold tw; rw [hc.2.1, Int.toNat_natCast]
      rw [e]
      unfold putNx
      dsimp only
      exact ⟨ih.1, ih.2.1, ih.2.2.1, ih.2.2.2.1, by rw [List.length_set]; exact ih.2.2.2.2⟩
    · exact ih
/-- The new tower's own links: what was there. -/
def ownL (hs : List Int) (ts : List Tw) (L : List Int) (n : Nat) : List Int := (List.range n).map fun lv => NX hs ts (L.getD lv 0) lv
theorem ownL_len (hs : List Int) (ts : List Tw) (L : List Int) (n : Nat) : (ownL hs ts L n).length = n := by simp [ownL]
theorem ownL_succ (hs : List Int) (ts : List Tw) (L : List Int) (n : Nat) : ownL hs ts L (n + 1) = ownL hs ts L n ++ [NX hs ts (L.getD n 0) n] := by
  unfold ownL; rw [List.range_succ, List.map_append]; rfl
end Go.Proofs.YtdaldkcildbcmaaDoor
