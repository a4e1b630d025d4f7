/-
  Looking for an item in a list with towers, plainly: each step goes to a tower that is greater, so the way ends.
-/
import Derived.Test.YtdaldkcildbcmaaDoorH3
namespace Go.Proofs.YtdaldkcildbcmaaDoor
set_option linter.unusedVariables false

theorem lev_next (ts : List Tw) (lv : Nat) : ∀ (f : Nat) (a x : Int) (l : List Int), lev ts lv f a x = some l → ∀ y ∈ l, nx ts y lv = -1 ∨ cT (tw ts y) (tw ts (nx ts y lv)) < 0 := by
  intro f
  induction f with
  | zero => intro a x l h; cases h
  | succ f ih =>
    intro a x l h y hy
    simp only [lev] at h
    split at h
    · cases h; simp at hy
    · split at h
      · rename_i h1 hm
        obtain ⟨l', hl', rfl⟩ := Option.map_eq_some_iff.1 h
        rcases List.mem_cons.1 hy with rfl | hy
        · obtain ⟨⟨k0, _, _⟩, _⟩ := (mayB_iff _ _ _ _).1 hm
          cases f with
          | zero => cases hl'
          | succ f =>
            simp only [lev] at hl'
            split at hl'
            · exact .inl (by assumption)
            · split at hl'
              · rename_i hm2
                obtain ⟨_, k3⟩ := (mayB_iff _ _ _ _).1 hm2
                rcases k3 with k3 | k3
                · omega
                · exact .inr k3
              · cases hl'
        · exact ih _ _ _ hl' y hy
      · cases h
/-- In a good list the next on a level is none, or is so high, and greater. -/
theorem good_step {hs : List Int} {ts : List Tw} (G : GoodI hs ts) {lv : Nat} (h : lv < 5) {a : Int} (ha : a = -1 ∨ okAt ts lv a) :
    NX hs ts a lv = -1 ∨ (okAt ts lv (NX hs ts a lv) ∧ (a = -1 ∨ cT (tw ts a) (tw ts (NX hs ts a lv)) < 0)) := by
  obtain ⟨_, _, _, hlv⟩ := G
  obtain ⟨l, e, hn⟩ := hlv lv h
  obtain ⟨f1, f2, f3, _⟩ := lev_facts _ _ _ _ _ _ e
  rcases ha with rfl | ha
  · rw [NX_head]
    rcases f1 with f1 | f1
    · exact .inl f1
    · exact .inr ⟨f1, .inl rfl⟩
  · obtain ⟨a0, a1, a2⟩ := ha
    obtain ⟨i, rfl⟩ := Int.eq_ofNat_of_zero_le a0
    rw [NX_at]
    have hm := rising_all f3 (fun z hz => (f2 z hz).1) hn i ⟨a0, a1, a2⟩
    rcases (f2 _ hm).2 with h1 | h1
    · exact .inl h1
    · rcases lev_next _ _ _ _ _ _ e _ hm with h2 | h2
      · exact .inl h2
      · exact .inr ⟨h1, .inr h2⟩
/-- The towers that are greater. -/
def behindL (ts : List Tw) (a : Int) : List Nat := (List.range ts.length).filter fun j : Nat => decide (cT (tw ts a) (tw ts (j : Int)) < 0)
def behind (ts : List Tw) (a : Int) : Nat := if a < 0 then ts.length else (behindL ts a).length
theorem behind_le (ts : List Tw) (a : Int) : behind ts a ≤ ts.length := by
  unfold behind
  split
  · exact Nat.le_refl _
  · have := List.length_filter_le (fun j : Nat => decide (cT (tw ts a) (tw ts (j : Int)) < 0)) (List.range ts.length)
    rw [List.length_range] at this
    exact this
theorem mem_behindL {ts : List Tw} {a : Int} {j : Nat} : j ∈ behindL ts a ↔ j < ts.length ∧ cT (tw ts a) (tw ts (j : Int)) < 0 := by
  unfold behindL
  rw [List.mem_filter, List.mem_range, decide_eq_true_eq]
theorem behindL_nodup (ts : List Tw) (a : Int) : (behindL ts a).Nodup := List.nodup_range.filter _
theorem behind_lt {ts : List Tw} {lv : Nat} {a x : Int} (hx : okAt ts lv x) (ha : a = -1 ∨ (0 ≤ a ∧ cT (tw ts a) (tw ts x) < 0)) : behind ts x < behind ts a := by
  obtain ⟨x0, x1, _⟩ := hx
  obtain ⟨i, rfl⟩ := Int.eq_ofNat_of_zero_le x0
  have hi : i < ts.length := by omega
  have hbx : behind ts (i : Int) = (behindL ts (i : Int)).length := by unfold behind; rw [if_neg (by omega)]
  have hni : i ∉ behindL ts (i : Int) := fun h => cT_irrefl _ (mem_behindL.1 h).2
  have hnd : (i :: behindL ts (i : Int)).Nodup := List.nodup_cons.2 ⟨hni, behindL_nodup _ _⟩
  rw [hbx]
  rcases ha with rfl | ⟨a0, ha⟩
  · have hba : behind ts (-1) = (List.range ts.length).length := by unfold behind; rw [if_pos (by omega), List.length_range]
    rw [hba]
    have := short_of_subset _ (List.range ts.length) hnd (fun y hy => by
      rcases List.mem_cons.1 hy with rfl | hy
      · exact List.mem_range.2 hi
      · exact List.mem_range.2 (mem_behindL.1 hy).1)
    simp only [List.length_cons, List.length_range] at this ⊢
    omega
  · have hba : behind ts a = (behindL ts a).length := by unfold behind; rw [if_neg (by omega)]
    rw [hba]
    have := short_of_subset _ (behindL ts a) hnd (fun y hy => by
      rcases List.mem_cons.1 hy with rfl | hy
      · exact mem_behindL.2 ⟨hi, ha⟩
      · obtain ⟨h1, h2⟩ := mem_behindL.1 hy
        exact mem_behindL.2 ⟨h1, cT_trans ha h2⟩)
    simp only [List.length_cons] at this
    omega
/-- On a level from a on: the last that is less, and how many were looked at. -/
def go1 (hs : List Int) (ts : List Tw) (t : Tw) (lv : Nat) : Nat → Int → Nat → Int × Nat
  | 0, a, n => (a, n)
  | f + 1, a, n => if NX hs ts a lv < 0 then (a, n) else if cT (tw ts (NX hs ts a lv)) t < 0 then go1 hs ts t lv f (NX hs ts a lv) (n + 1) else (a, n + 1)
end Go.Proofs.YtdaldkcildbcmaaDoor
