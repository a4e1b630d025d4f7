/-
  An edit applied, plainly: what is kept, what is put in its place, and that both ways come to one.
-/
import Derived.Test.YtenbdjlhcadhaaaGreatLK
namespace Go.Proofs.YtenbdjlhcadhaaaGreat
open Go.RowKit
set_option linter.unusedVariables false

/-- The metas that are left behind the first k drops. -/
def dropL (l : List Mt) (dr : List Int) (k : Nat) : List Mt := l.filter fun m => !((dr.take k).any fun d => d == m.n)
theorem dropL_zero (l : List Mt) (dr : List Int) : dropL l dr 0 = l := by simp [dropL]
theorem dropL_succ (l : List Mt) (dr : List Int) (k : Nat) (h : k < dr.length) : dropL l dr (k + 1) = (dropL l dr k).filter fun m => !(m.n == dr[k]) := by
  unfold dropL
  rw [List.filter_filter]
  apply List.filter_congr
  intro m _
  rw [List.take_succ_eq_append_getElem h, List.any_append]
  have : (dr[k] == m.n) = (m.n == dr[k]) := by rw [Bool.eq_iff_iff]; simp only [beq_iff_eq]; exact eq_comm
  simp [this, Bool.and_comm]
/-- The drop at j is there. -/
def thAt (l : List Mt) (dr : List Int) (j : Nat) : Bool := (dropL l dr j).any fun m => m.n == dr.getD j 0
def thTo (l : List Mt) (dr : List Int) (k : Nat) : Bool := (List.range k).all (thAt l dr)
theorem thTo_succ (l : List Mt) (dr : List Int) (k : Nat) : thTo l dr (k + 1) = (thTo l dr k && thAt l dr k) := by
  simp [thTo, List.range_succ, List.all_append]
theorem thTo_stop (l : List Mt) (dr : List Int) (k : Nat) (hk : k < dr.length) (h : thAt l dr k = false) : thTo l dr dr.length = false := by
  unfold thTo
  rw [List.all_eq_false]
  exact ⟨k, List.mem_range.2 hk, by simp [h]⟩
def thC (l : List Mt) (dr : List Int) : Nat → Nat
  | 0 => 0
  | k + 1 => thC l dr k + if thAt l dr k then 1 else 0
theorem thC_le (l : List Mt) (dr : List Int) (k : Nat) : thC l dr k ≤ k := by
  induction k with
  | zero => simp [thC]
  | succ k ih => simp only [thC]; split <;> omega
theorem thC_iff (l : List Mt) (dr : List Int) (k : Nat) : thC l dr k = k ↔ thTo l dr k = true := by
  induction k with
  | zero => simp [thC, thTo]
  | succ k ih =>
    have := thC_le l dr k
    rw [thTo_succ]
    simp only [thC]
    cases hb : thAt l dr k with
    | true => simp; exact ih
    | false => simp; omega
theorem one_out (d : Int) : ∀ (l : List Mt), l.Pairwise (fun a b => a.n ≠ b.n) → (l.filter fun m => !(m.n == d)).length + (if l.any (fun m => m.n == d) then 1 else 0) = l.length
  | [], _ => by simp
  | a :: r, h => by
    rw [List.pairwise_cons] at h
    have ih := one_out d r h.2
    by_cases e : a.n = d
    · have hr : r.any (fun m => m.n == d) = false := by
        rw [List.any_eq_false]
        intro x hx
        simp only [beq_iff_eq]
        intro hxd
        exact h.1 x hx (e.trans hxd.symm)
      rw [hr] at ih
      simp only [List.filter_cons, List.any_cons, hr]
      simp [e] at ih ⊢
      exact ih
    · have e' : (a.n == d) = false := beq_eq_false_iff_ne.2 e
      simp only [List.filter_cons, List.any_cons, e', Bool.not_false, if_true, Bool.false_or, List.length_cons]
      omega
theorem dropL_apart {l : List Mt} (h : l.Pairwise fun a b => a.n ≠ b.n) (dr : List Int) (k : Nat) : (dropL l dr k).Pairwise fun a b => a.n ≠ b.n := h.filter _
theorem dropL_count {l : List Mt} (h : l.Pairwise fun a b => a.n ≠ b.n) (dr : List Int) (k : Nat) (hk : k ≤ dr.length) : (dropL l dr k).length + thC l dr k = l.length := by
  induction k with
  | zero => simp [dropL_zero, thC]
  | succ k ih =>
    have h1 := ih (by omega)
    have h2 := one_out dr[k] (dropL l dr k) (dropL_apart h dr k)
    rw [dropL_succ l dr k (by omega)]
    have h3 : thAt l dr k = (dropL l dr k).any fun m => m.n == dr[k] := by unfold thAt; rw [getI_at dr k (by omega)]
    simp only [thC]
    rw [h3]
    omega
/-- The specification's way: gone or kept, one by one. -/
def goneM (dr : List Int) (m : Mt) : Bool := dr.any fun d => d == m.n
def kpL (l : List Mt) (dr : List Int) (k : Nat) : List Mt := (l.take k).filter fun m => !goneM dr m
def gnC (l : List Mt) (dr : List Int) : Nat → Nat
  | 0 => 0
  | k + 1 => gnC l dr k + if goneM dr (l.getD k default) then 1 else 0
theorem gnC_le (l : List Mt) (dr : List Int) (k : Nat) : gnC l dr k ≤ k := by
  induction k with
  | zero => simp [gnC]
  | succ k ih => simp only [gnC]; split <;> omega
theorem kpL_step (l : List Mt) (dr : List Int) (k : Nat) (h : k < l.length) : kpL l dr (k + 1) = kpL l dr k ++ (if goneM dr l[k] then [] else [l[k]]) := by
  unfold kpL
  rw [List.take_succ_eq_append_getElem h, List.filter_append]
  congr 1
  cases hb : goneM dr l[k] <;> simp [hb]
theorem kpL_len (l : List Mt) (dr : List Int) (k : Nat) (hk : k ≤ l.length) : (kpL l dr k).length + gnC l dr k = k := by
  induction k with
  | zero => simp [kpL, gnC]
  | succ k ih =>
    have h1 := ih (by omega)
    rw [kpL_step l dr k (by omega), List.length_append]
    simp only [gnC]
    rw [getD_at l k (by omega)]
    cases hb : goneM dr l[k] <;> simp <;> omega
theorem kpL_all (l : List Mt) (dr : List Int) : kpL l dr l.length = dropL l dr dr.length := by
  unfold kpL dropL goneM
  rw [List.take_length, List.take_length]
theorem gnC_iff {l : List Mt} (h : l.Pairwise fun a b => a.n ≠ b.n) (dr : List Int) : gnC l dr l.length = dr.length ↔ thTo l dr dr.length = true := by
  rw [← thC_iff]
  have h1 := dropL_count h dr dr.length (Nat.le_refl _)
  have h2 := kpL_len l dr l.length (Nat.le_refl _)
  rw [kpL_all] at h2
  omega

/-- A meta put in its place. -/
def posM (l : List Mt) (m : Mt) : Nat := (l.takeWhile fun x => decide (x.n < m.n)).length
def insM (l : List Mt) (m : Mt) : List Mt := l.take (posM l m) ++ [m] ++ l.drop (posM l m)
def insTo (l ad : List Mt) : Nat → List Mt
  | 0 => l
  | j + 1 => insM (insTo l ad j) (ad.getD j default)
theorem posM_le (l : List Mt) (m : Mt) : posM l m ≤ l.length := (List.takeWhile_sublist _).length_le
theorem insM_perm (l : List Mt) (m : Mt) : (insM l m).Perm (l ++ [m]) := by
  unfold insM
  have h1 : l.take (posM l m) ++ [m] ++ l.drop (posM l m) = l.take (posM l m) ++ m :: l.drop (posM l m) := by simp
  rw [h1]
  refine List.perm_middle.trans ?_
  rw [List.take_append_drop]
  exact (List.perm_append_singleton m l).symm
theorem insTo_perm (l ad : List Mt) (j : Nat) (hj : j ≤ ad.length) : (insTo l ad j).Perm (l ++ ad.take j) := by
  induction j with
  | zero => simp [insTo]
  | succ j ih =>
    have h1 := ih (by omega)
    simp only [insTo]
    rw [getD_at ad j (by omega), List.take_succ_eq_append_getElem (by omega), ← List.append_assoc]
    exact (insM_perm _ _).trans (h1.append_right _)
theorem insTo_len (l ad : List Mt) (j : Nat) (hj : j ≤ ad.length) : (insTo l ad j).length = l.length + j := by
  have := (insTo_perm l ad j hj).length_eq
  rw [this, List.length_append, List.length_take]; omega
theorem posM_lt (l : List Mt) (m : Mt) : ∀ (k : Nat) (hk : k < posM l m) (hl : k < l.length), l[k].n < m.n := by
  induction l with
  | nil => intro k _ hl; simp at hl
  | cons x r ih =>
    intro k hk hl
    by_cases hx : x.n < m.n
    · have e : posM (x :: r) m = posM r m + 1 := by simp [posM, hx]
      rw [e] at hk
      cases k with
      | zero => exact hx
      | succ k => rw [List.getElem_cons_succ]; exact ih k (by omega) (by simpa using hl)
    · have e : posM (x :: r) m = 0 := by simp [posM, hx]
      omega
theorem posM_ge (l : List Mt) (m : Mt) (hk : posM l m < l.length) : ¬ l[posM l m].n < m.n := by
  intro h
  have key : ∀ (l : List Mt) (hk : posM l m < l.length), ¬ l[posM l m].n < m.n := by
    intro l
    induction l with
    | nil => intro hk; simp at hk
    | cons x r ih =>
      intro hk h
      by_cases hx : x.n < m.n
      · have e : posM (x :: r) m = posM r m + 1 := by simp [posM, hx]
        simp only [e] at h hk
        simp only [List.getElem_cons_succ] at h
        exact ih (by simpa using hk) h
      · have e : posM (x :: r) m = 0 := by simp [posM, hx]
        simp only [e] at h
        exact hx h
  exact key l hk h
/-- Going on while the number is less comes to the place. -/
theorem posM_step (l : List Mt) (m : Mt) (k : Nat) (hk : k ≤ posM l m) : (k < l.length ∧ (l.getD k default).n < m.n) ↔ k < posM l m := by
  have hp := posM_le l m
  constructor
  · rintro ⟨h1, h2⟩
    rcases Nat.lt_or_ge k (posM l m) with h | h
    · exact h
    · have e : k = posM l m := by omega
      subst e
      rw [getD_at l _ h1] at h2
      exact absurd h2 (posM_ge l m h1)
  · intro h
    have h1 : k < l.length := by omega
    refine ⟨h1, ?_⟩
    rw [getD_at l k h1]
    exact posM_lt l m k h h1
theorem insM_rise {l : List Mt} {m : Mt} (h : l.Pairwise fun a b => a.n < b.n) (hm : ∀ x ∈ l, x.n ≠ m.n) : (insM l m).Pairwise fun a b => a.n < b.n := by
  unfold insM
  have hl : ∀ x ∈ l.take (posM l m), x.n < m.n := by
    intro x hx
    obtain ⟨i, hi, rfl⟩ := List.getElem_of_mem hx
    rw [List.getElem_take]
    simp at hi
    exact posM_lt l m i (by omega) (by omega)
  have hr : ∀ x ∈ l.drop (posM l m), m.n < x.n := by
    intro x hx
    obtain ⟨i, hi, rfl⟩ := List.getElem_of_mem hx
    rw [List.getElem_drop]
    simp at hi
    have hp : posM l m < l.length := by omega
    have h0 := posM_ge l m hp
    have h1 := hm _ (List.getElem_mem hp)
    rcases Nat.eq_zero_or_pos i with rfl | hi0
    · simp only [Nat.add_zero]; omega
    · have := List.pairwise_iff_getElem.1 h (posM l m) (posM l m + i) hp (by omega) (by omega)
      omega
  rw [List.append_assoc, List.pairwise_append]
  refine ⟨h.sublist (List.take_sublist _ _), ?_, ?_⟩
  · rw [List.singleton_append, List.pairwise_cons]
    exact ⟨hr, h.sublist (List.drop_sublist _ _)⟩
  · intro a ha b hb
    rw [List.singleton_append, List.mem_cons] at hb
    rcases hb with rfl | hb
    · exact hl a ha
    · have := hl a ha; have := hr b hb; omega
theorem insTo_rise {l ad : List Mt} (h : l.Pairwise fun a b => a.n < b.n) (hp : (l ++ ad).Pairwise fun a b => a.n ≠ b.n) (j : Nat) (hj : j ≤ ad.length) : (insTo l ad j).Pairwise fun a b => a.n < b.n := by
  induction j with
  | zero => exact h
  | succ j ih =>
    simp only [insTo]
    rw [getD_at ad j (by omega)]
    refine insM_rise (ih (by omega)) fun x hx => ?_
    have hx2 := (insTo_perm l ad j (by omega)).mem_iff.1 hx
    rw [List.pairwise_append] at hp
    rw [List.mem_append] at hx2
    rcases hx2 with hx2 | hx2
    · exact hp.2.2 x hx2 ad[j] (List.getElem_mem _)
    · obtain ⟨i, hi, rfl⟩ := List.getElem_of_mem hx2
      rw [List.getElem_take]
      simp at hi
      exact List.pairwise_iff_getElem.1 hp.2.1 i j (by omega) (by omega) (by omega)
/-- None of those that are added is there. -/
def adAt (l ad : List Mt) (j : Nat) : Bool := !((l ++ ad.take j).any fun m => m.n == (ad.getD j default).n)
def adTo (l ad : List Mt) (k : Nat) : Bool := (List.range k).all (adAt l ad)
theorem adTo_succ (l ad : List Mt) (k : Nat) : adTo l ad (k + 1) = (adTo l ad k && adAt l ad k) := by
  simp [adTo, List.range_succ, List.all_append]
theorem adTo_stop (l ad : List Mt) (k : Nat) (hk : k < ad.length) (h : adAt l ad k = false) : adTo l ad ad.length = false := by
  unfold adTo
  rw [List.all_eq_false]
  exact ⟨k, List.mem_range.2 hk, by simp [h]⟩
theorem adAt_iff (l ad : List Mt) (j : Nat) (hj : j < ad.length) : adAt l ad j = true ↔ ∀ x ∈ l ++ ad.take j, x.n ≠ ad[j].n := by
  unfold adAt
  rw [getD_at ad j hj, Bool.not_eq_true', List.any_eq_false]
  simp only [beq_iff_eq]
theorem adTo_iff {l : List Mt} (h : l.Pairwise fun a b => a.n ≠ b.n) (ad : List Mt) (k : Nat) (hk : k ≤ ad.length) : adTo l ad k = true ↔ (l ++ ad.take k).Pairwise fun a b => a.n ≠ b.n := by
  induction k with
  | zero => simp [adTo]; exact h
  | succ k ih =>
    rw [adTo_succ, Bool.and_eq_true, ih (by omega), adAt_iff l ad k (by omega), List.take_succ_eq_append_getElem (by omega), ← List.append_assoc, List.pairwise_append (l₁ := l ++ ad.take k)]
    constructor
    · rintro ⟨h1, h2⟩
      exact ⟨h1, List.pairwise_singleton _ _, fun a ha b hb => by rw [List.mem_singleton] at hb; subst hb; exact h2 a ha⟩
    · rintro ⟨h1, _, h3⟩
      exact ⟨h1, fun x hx => h3 x hx _ (List.mem_singleton.2 rfl)⟩
/-- What comes of it, and whether it may be. -/
def apL (l : List Mt) (dr : List Int) (ad : List Mt) : List Mt := insTo (kpL l dr l.length) ad ad.length
theorem apL_len (l : List Mt) (dr : List Int) (ad : List Mt) : (apL l dr ad).length ≤ l.length + ad.length := by
  unfold apL
  rw [insTo_len _ _ _ (Nat.le_refl _)]
  have := kpL_len l dr l.length (Nat.le_refl _)
  omega
theorem apL_good {l : List Mt} {dr : List Int} {ad : List Mt} (h : goodMs (apL l dr ad) = true) : (dropL l dr dr.length ++ ad).Pairwise fun a b => a.n ≠ b.n := by
  have h1 := ms_apart h
  have h2 := insTo_perm (kpL l dr l.length) ad ad.length (Nat.le_refl _)
  rw [List.take_length, kpL_all] at h2
  have h3 : (apL l dr ad).Perm (dropL l dr dr.length ++ ad) := by unfold apL; rw [kpL_all]; exact h2
  exact (h3.pairwise_iff (fun {x y} h e => h e.symm)).1 h1
theorem apL_mem (l : List Mt) (dr : List Int) (ad : List Mt) (x : Mt) : x ∈ apL l dr ad ↔ x ∈ dropL l dr dr.length ++ ad := by
  have h2 := insTo_perm (kpL l dr l.length) ad ad.length (Nat.le_refl _)
  rw [List.take_length] at h2
  unfold apL
  rw [h2.mem_iff, kpL_all]
theorem apL_rise {l : List Mt} {dr : List Int} {ad : List Mt} (h : l.Pairwise fun a b => a.n < b.n) (hp : (dropL l dr dr.length ++ ad).Pairwise fun a b => a.n ≠ b.n) : (apL l dr ad).Pairwise fun a b => a.n < b.n := by
  unfold apL
  rw [kpL_all]
  exact insTo_rise (h.filter _) hp _ (Nat.le_refl _)
end Go.Proofs.YtenbdjlhcadhaaaGreat
