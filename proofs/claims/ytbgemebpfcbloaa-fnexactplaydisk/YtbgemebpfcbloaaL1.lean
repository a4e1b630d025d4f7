/-
  Names in rising order: which one is found by going through them, and which one a map of them has.
-/
import Derived.Test.YtbgemebpfcbloaaD
import Derived.Maps.Views
namespace Go.Proofs.Ytbgemebpfcbloaa
open Go.RowKit Go.Maps

theorem bless_iff : ∀ (x y : List UInt8), Op.bytesLess x y = true ↔ x < y
  | [], [] => by simp [Op.bytesLess]
  | _ :: _, [] => by simp [Op.bytesLess]
  | [], _ :: _ => by simp [Op.bytesLess]
  | a :: x, b :: y => by
    have ih := bless_iff x y
    simp only [Op.bytesLess, List.cons_lt_cons_iff, Bool.or_eq_true, Bool.and_eq_true, decide_eq_true_eq, beq_iff_eq, ih]
theorem less_iff (a b : ByteArray) : less a b = true ↔ a.toList < b.toList := bless_iff _ _
theorem less_irrefl (a : ByteArray) : less a a = false := by
  cases h : less a a with
  | false => rfl
  | true => exact absurd ((less_iff a a).1 h) (List.lt_irrefl _)
theorem less_trans {a b c : ByteArray} (h : less a b = true) (k : less b c = true) : less a c = true :=
  (less_iff a c).2 (List.lt_trans ((less_iff a b).1 h) ((less_iff b c).1 k))
theorem toList_inj {a b : ByteArray} (h : a.toList = b.toList) : a = b := by
  rw [ByteArray.toList_eq, ByteArray.toList_eq] at h
  cases a; cases b; simp only [Array.toList_inj] at h; rw [h]

/-- Each name is less than the next. -/
theorem okNs_next {l : List (ByteArray × Int)} {n : Nat} (h : okNs l n = true) (i : Nat) (hi : i + 1 < l.length) : less l[i].1 l[i + 1].1 = true := by
  simp only [okNs, Bool.and_eq_true] at h
  have h1 := h.1
  unfold okEs at h1
  rw [List.all_eq_true] at h1
  have h2 := h1 (i + 1) (by simpa using hi)
  simp only [okE, List.getD_eq_getElem?_getD, Nat.add_sub_cancel, List.getElem?_eq_getElem hi, List.getElem?_eq_getElem (show i < l.length from by omega), Option.getD_some, Bool.and_eq_true, Bool.or_eq_true, decide_eq_true_eq] at h2
  rcases h2.2 with h3 | h3
  · omega
  · exact h3
theorem okNs_less {l : List (ByteArray × Int)} {n : Nat} (h : okNs l n = true) (i d : Nat) (hi : i + (d + 1) < l.length) : less l[i].1 l[i + (d + 1)].1 = true := by
  induction d with
  | zero => exact okNs_next h i hi
  | succ d ih =>
    have h1 := ih (by omega)
    have h2 := okNs_next h (i + (d + 1)) (by omega)
    exact less_trans h1 h2
theorem okNs_lt {l : List (ByteArray × Int)} {n : Nat} (h : okNs l n = true) (i j : Nat) (hij : i < j) (hj : j < l.length) : less l[i].1 l[j].1 = true := by
  obtain ⟨d, rfl⟩ : ∃ d, j = i + (d + 1) := ⟨j - i - 1, by omega⟩
  exact okNs_less h i d hj

/-- What a name means in a list: the last that has it. -/
def lkp (nm : ByteArray) (o : Option Int) : List (ByteArray × Int) → Option Int
  | [] => o
  | x :: r => lkp nm (if x.1.toList == nm.toList then some x.2 else o) r
theorem lkp_none (nm : ByteArray) (o : Option Int) (l : List (ByteArray × Int)) (h : ∀ i (hi : i < l.length), l[i].1 ≠ nm) : lkp nm o l = o := by
  induction l generalizing o with
  | nil => rfl
  | cons x r ih =>
    have h0 : x.1 ≠ nm := h 0 (by simp)
    have hb : (x.1.toList == nm.toList) = false := by
      cases hb : (x.1.toList == nm.toList) with
      | false => rfl
      | true => exact absurd (toList_inj (by simpa using hb)) h0
    simp only [lkp, hb]
    exact ih o fun i hi e => h (i + 1) (by simpa using hi) (by rw [List.getElem_cons_succ]; exact e)
theorem lkp_some (nm : ByteArray) (o : Option Int) (l : List (ByteArray × Int)) (k : Nat) (hk : k < l.length) (he : l[k].1 = nm) (h : ∀ i (hi : i < l.length), l[i].1 = nm → i = k) : lkp nm o l = some l[k].2 := by
  induction l generalizing o k with
  | nil => simp at hk
  | cons x r ih =>
    cases k with
    | zero =>
      have h0 : x.1 = nm := he
      simp only [lkp, h0, beq_self_eq_true, if_true]
      rw [lkp_none nm _ r fun i hi hx => by have := h (i + 1) (by simpa using hi) (by simpa using hx); omega]
      rfl
    | succ k =>
      simp only [lkp]
      exact ih _ k (by simpa using hk) (by simpa using he) fun i hi hx => by have := h (i + 1) (by simpa using hi) (by simpa using hx); omega

/-- Going through rising names: where it stops is the name, or there is none. -/
theorem at_yes {l : List (ByteArray × Int)} {n : Nat} (h : okNs l n = true) (nm : ByteArray) (k : Nat) (hk : k < l.length) (he : l[k].1 = nm) : lkp nm none l = some l[k].2 :=
  lkp_some nm none l k hk he fun i hi hx => by
    rcases Nat.lt_trichotomy i k with h1 | h1 | h1
    · have := okNs_lt h i k h1 hk; rw [hx, he, less_irrefl] at this; cases this
    · exact h1
    · have := okNs_lt h k i h1 hi; rw [hx, he, less_irrefl] at this; cases this
theorem at_no {l : List (ByteArray × Int)} {n : Nat} (h : okNs l n = true) (nm : ByteArray) (k : Nat) (hb : ∀ j (hj : j < l.length), j < k → less l[j].1 nm = true) (ha : ∀ hk : k < l.length, less l[k].1 nm = false ∧ l[k].1 ≠ nm) : lkp nm none l = none :=
  lkp_none nm none l fun i hi hx => by
    rcases Nat.lt_trichotomy i k with h1 | h1 | h1
    · have := hb i hi h1; rw [hx, less_irrefl] at this; cases this
    · subst h1; exact (ha hi).2 hx
    · have h2 := okNs_lt h k i h1 hi
      rw [hx] at h2
      rw [(ha (by omega)).1] at h2; cases h2
end Go.Proofs.Ytbgemebpfcbloaa
