/-
  All items that can be read, plainly; what a round of a loop keeps that puts behind a slice.
-/
import Derived.Test.YtniepppbbkoanaaR6
import Derived.RangeFuncNested
namespace Go.Proofs.Ytniepppbbkoanaa
open Go.RowKit Go.Lib
set_option linter.unusedVariables false
set_option maxRecDepth 100000

/-- All items, as far as they can be read. -/
def rdL : Nat → List UInt8 → List UInt8 → List It
  | 0, _, _ => []
  | f + 1, s, key => if s = [] then [] else if rdOk s key then rdIt s key :: rdL f (s.drop (rdN s)) (bl (rdIt s key).k) else []
theorem rd_a (s : List UInt8) (h : (rd s).ok = true) : 4 ≤ (rd s).a := by
  unfold rd at h ⊢
  simp only [Bool.and_eq_true, decide_eq_true_eq] at h ⊢
  omega
theorem rdN_pos {s key : List UInt8} (h : rdOk s key = true) : 4 ≤ rdN s ∧ rdN s ≤ s.length := by
  unfold rdOk at h
  simp only [Bool.and_eq_true, decide_eq_true_eq] at h
  have := rd_a s h.1.1
  unfold rdN
  omega
theorem rdL_fuel : ∀ (f g : Nat) (s key : List UInt8), s.length < f → s.length < g → rdL f s key = rdL g s key := by
  intro f
  induction f with
  | zero => intro g s key h; omega
  | succ f ih =>
    intro g s key h1 h2
    obtain ⟨g, rfl⟩ : ∃ g', g = g' + 1 := ⟨g - 1, by omega⟩
    unfold rdL
    by_cases hs : s = []
    · rw [if_pos hs, if_pos hs]
    · rw [if_neg hs, if_neg hs]
      cases hk : rdOk s key with
      | false => rfl
      | true =>
        have := rdN_pos hk
        have hl : 0 < s.length := List.length_pos_iff.2 hs
        simp only [if_true]
        rw [ih g _ _ (by rw [List.length_drop]; omega) (by rw [List.length_drop]; omega)]
def itsOf (s key : List UInt8) : List It := rdL (s.length + 1) s key
theorem itsOf_nil (key : List UInt8) : itsOf [] key = [] := by simp [itsOf, rdL]
theorem itsOf_stop {s key : List UInt8} (h : rdOk s key = false) : itsOf s key = [] := by
  unfold itsOf rdL
  split
  · rfl
  · rw [if_neg (by rw [h]; simp)]
theorem itsOf_step {s key : List UInt8} (hs : s ≠ []) (h : rdOk s key = true) : itsOf s key = rdIt s key :: itsOf (s.drop (rdN s)) (bl (rdIt s key).k) := by
  have := rdN_pos h
  have hl : 0 < s.length := List.length_pos_iff.2 hs
  unfold itsOf
  rw [rdL, if_neg hs, if_pos h, rdL_fuel _ ((s.drop (rdN s)).length + 1) _ _ (by rw [List.length_drop]; omega) (by omega)]
theorem rdIt_size {s key : List UInt8} (h : rdOk s key = true) : (rdIt s key).k.size ≤ key.length + (rd s).r ∧ (rdIt s key).v.size ≤ s.length := by
  unfold rdIt
  constructor
  · show (tx _).size ≤ _
    rw [tx_size, List.length_append, List.length_take, List.length_take]; omega
  · show (tx _).size ≤ _
    rw [tx_size, List.length_take, List.length_drop]; omega
theorem step_size {s key : List UInt8} (h : rdOk s key = true) : (bl (rdIt s key).k).length + (s.drop (rdN s)).length + 4 ≤ key.length + s.length := by
  have h1 := (rdIt_size h).1
  have h2 := rdN_pos h
  rw [bl_len, List.length_drop]
  unfold rdOk at h
  simp only [Bool.and_eq_true, decide_eq_true_eq] at h
  have := rd_a s h.1.1
  have : rdN s = (rd s).a + (rd s).r + (rd s).z := rfl
  omega
theorem itsOf_sizes : ∀ (n : Nat) (s key : List UInt8), s.length ≤ n → ∀ x ∈ itsOf s key, x.k.size ≤ key.length + s.length ∧ x.v.size ≤ s.length := by
  intro n
  induction n with
  | zero =>
    intro s key hn x hx
    obtain rfl : s = [] := List.eq_nil_of_length_eq_zero (by omega)
    rw [itsOf_nil] at hx; simp at hx
  | succ n ih =>
    intro s key hn x hx
    by_cases hs : s = []
    · subst hs; rw [itsOf_nil] at hx; simp at hx
    · cases hk : rdOk s key with
      | false => rw [itsOf_stop hk] at hx; simp at hx
      | true =>
        rw [itsOf_step hs hk, List.mem_cons] at hx
        have h1 := rdIt_size hk
        have h2 := step_size hk
        have h3 := rdN_pos hk
        rcases hx with rfl | hx
        · refine ⟨?_, h1.2⟩
          rw [bl_len] at h2; omega
        · have := ih _ _ (by rw [List.length_drop]; omega) x hx
          rw [List.length_drop] at this h2
          omega
theorem itsOf_len : ∀ (n : Nat) (s key : List UInt8), s.length ≤ n → (itsOf s key).length * 4 ≤ s.length := by
  intro n
  induction n with
  | zero =>
    intro s key hn
    obtain rfl : s = [] := List.eq_nil_of_length_eq_zero (by omega)
    rw [itsOf_nil]; simp
  | succ n ih =>
    intro s key hn
    by_cases hs : s = []
    · subst hs; rw [itsOf_nil]; simp
    · cases hk : rdOk s key with
      | false => rw [itsOf_stop hk]; simp
      | true =>
        have h3 := rdN_pos hk
        have := ih (s.drop (rdN s)) (bl (rdIt s key).k) (by rw [List.length_drop]; omega)
        rw [itsOf_step hs hk, List.length_cons]
        rw [List.length_drop] at this
        omega
/-- A run's items are read back. -/
theorem itsOf_rest {l : List It} (h : goodR l = true) : ∀ (k i : Nat), i + k = l.length → itsOf (restL l i) (ahead l i) = l.drop i := by
  intro k
  induction k with
  | zero =>
    intro i hi
    obtain rfl : i = l.length := by omega
    rw [rest_end, itsOf_nil]; simp
  | succ k ih =>
    intro i hi
    have h1 : i < l.length := by omega
    have hne : restL l i ≠ [] := fun e => by have := rest_nil (by omega) e; omega
    obtain ⟨b1, b2, b3, _⟩ := rd_back (goodR_at h h1) (restL l (i + 1))
    rw [← rest_step l i h1] at b1 b2 b3
    have e : (restL l i).drop (itL (l.getD i default) (cm l i)).length = restL l (i + 1) := by rw [rest_step l i h1, List.drop_left]
    rw [itsOf_step hne b1, b2, b3, e, ← ahead_succ, ih (i + 1) (by omega), List.drop_eq_getElem_cons h1]
    simp [List.getD_eq_getElem?_getD, List.getElem?_eq_getElem h1]
theorem itsOf_run {l : List It} (h : goodR l = true) : itsOf (itsL l l.length) [] = l := by
  have := itsOf_rest h l.length 0 (by omega)
  rw [rest_zero] at this
  simpa [ahead] using this

/-- The block of the row that the variable in block B names. -/
def rowOf (W : World) (B : Nat) : Option Nat := (W.cell? ⟨B, 0, none⟩).bind Value.ownBlock
/-- What a round keeps that writes the variable in block B and the row that it names. -/
structure Kept (B : Nat) (W W' : World) : Prop where
  size : W.heap.size ≤ W'.heap.size
  keep : ∀ k o, W.heap[k]? = some o → o.isCells = true → k ≠ B → rowOf W B ≠ some k → W'.heap[k]? = some o
  row : rowOf W' B = rowOf W B ∨ ∀ g, rowOf W' B = some g → W.heap.size ≤ g
  sane : (∀ g, rowOf W B = some g → g < W.heap.size) → ∀ g, rowOf W' B = some g → g < W'.heap.size
theorem Kept.trans {B : Nat} {X Y Z : World} (h : Kept B X Y) (k : Kept B Y Z) : Kept B X Z where
  size := Nat.le_trans h.size k.size
  keep j o ho hc hB hr := k.keep j o (h.keep j o ho hc hB hr) hc hB (fun e => by
    rcases h.row with h1 | h1
    · rw [h1] at e; exact hr e
    · have h2 := h1 j e
      have h3 := (Array.getElem?_eq_some_iff.1 ho).1
      omega)
  row := by
    rcases k.row with h1 | h1
    · rcases h.row with h2 | h2
      · exact .inl (h1.trans h2)
      · exact .inr fun g hg => h2 g (by rw [← h1]; exact hg)
    · exact .inr fun g hg => Nat.le_trans h.size (h1 g hg)
  sane hs := k.sane (h.sane hs)
theorem Kept.put {B : Nat} {w : World} (hB : B < w.heap.size) (W : World) (l : Nat) (o o' : Obj) (hl : w.heap.size ≤ l) (h : W.heap[l]? = some o) (hc : o.isCells = false) (_ : o.isWalk = false) : Kept B W (W.putObj l o') := by
  have hne : ∀ k, k ≠ l → (W.putObj l o').heap[k]? = W.heap[k]? := fun k hk => World.putObj_heap_other hk
  have hr : rowOf (W.putObj l o') B = rowOf W B := by
    unfold rowOf World.cell?
    rw [hne B (by omega)]
  have hg := (grownBy_putObj' W l o').size
  refine ⟨hg, fun k u hu hcu hkB _ => ?_, .inl hr, fun hs g e => ?_⟩
  · rw [hne k (fun e => by subst e; rw [h] at hu; cases hu; rw [hc] at hcu; cases hcu)]; exact hu
  · rw [hr] at e; exact Nat.lt_of_lt_of_le (hs g e) hg
theorem Kept.box {B : Nat} {W W' : World} (h : Kept B W W') {b : Nat} {vs : List Value} (hx : Box W b vs) (hb : b ≠ B) (hr : rowOf W B ≠ some b) (hv : vs ≠ []) : Box W' b vs := by
  obtain ⟨h1, h2, h3⟩ := hx
  have hlt : b < W.heap.size := h1
  obtain ⟨v, r, rfl⟩ : ∃ v r, vs = v :: r := by cases vs with | nil => exact absurd rfl hv | cons v r => exact ⟨v, r, rfl⟩
  obtain ⟨o, ho, hoc⟩ := cells_of_cell (h2 0 v rfl)
  have hk := h.keep b o ho hoc hb hr
  have he : W'.heap[b]? = W.heap[b]? := by rw [hk]; exact ho.symm
  refine ⟨Nat.lt_of_lt_of_le h1 h.size, fun j u hu => ?_, fun j => ?_⟩
  · rw [← h2 j u hu]; simp [World.cell?, he]
  · rw [← h3 j]; simp [World.frozen?, he]
end Go.Proofs.Ytniepppbbkoanaa
