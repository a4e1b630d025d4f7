/-
  Merging, plainly: which run's next item is the least, by both ways; all items in order; those that are the same kept once, by both ways.
-/
import Derived.Test.YtcjkdkaahkphfaaM8
namespace Go.Proofs.Ytcjkdkaahkphfaa
open Go.RowKit
set_option linter.unusedVariables false
set_option maxRecDepth 100000

def ltI (a b : It) : Bool := decide (cIt a.k b.k a.n b.n < 0)
def itAt (R : List (List It)) (at_ : List Nat) (i : Nat) : It := (R.getD i []).getD (at_.getD i 0) default
def opn (R : List (List It)) (at_ : List Nat) (i : Nat) : Bool := decide (at_.getD i 0 < (R.getD i []).length)
def stpM (R : List (List It)) (at_ : List Nat) (m i : Nat) : Nat := if ltI (itAt R at_ i) (itAt R at_ m) then i else m
/-- The specification's way: the best so far. -/
def lstTo (R : List (List It)) (at_ : List Nat) : Nat → Option Nat
  | 0 => none
  | i + 1 => if opn R at_ i then (match lstTo R at_ i with | none => some i | some b => some (stpM R at_ b i)) else lstTo R at_ i
def lst (R : List (List It)) (at_ : List Nat) : Option Nat := lstTo R at_ R.length
/-- The program's way: those that are not read to their end, then the least of them. -/
def opnTo (R : List (List It)) (at_ : List Nat) : Nat → List Nat
  | 0 => []
  | i + 1 => if opn R at_ i then opnTo R at_ i ++ [i] else opnTo R at_ i
def minO (R : List (List It)) (at_ : List Nat) : List Nat → Option Nat
  | [] => none
  | x :: xs => some (xs.foldl (stpM R at_) x)
theorem opn_min (R : List (List It)) (at_ : List Nat) : ∀ k, minO R at_ (opnTo R at_ k) = lstTo R at_ k
  | 0 => rfl
  | k + 1 => by
    have ih := opn_min R at_ k
    unfold opnTo lstTo
    cases h : opn R at_ k with
    | false => simpa using ih
    | true =>
      simp only [if_true]
      rw [← ih]
      cases hl : opnTo R at_ k with
      | nil => rfl
      | cons x xs => simp [minO, List.foldl_append]
theorem opnTo_mem (R : List (List It)) (at_ : List Nat) : ∀ k j, j ∈ opnTo R at_ k → j < k ∧ opn R at_ j = true
  | 0, j, h => by simp [opnTo] at h
  | k + 1, j, h => by
    unfold opnTo at h
    cases ho : opn R at_ k with
    | false =>
      rw [ho] at h
      have := opnTo_mem R at_ k j (by simpa using h)
      exact ⟨by omega, this.2⟩
    | true =>
      rw [ho, if_pos rfl, List.mem_append] at h
      rcases h with h | h
      · have := opnTo_mem R at_ k j h
        exact ⟨by omega, this.2⟩
      · obtain rfl : j = k := by simpa using h
        exact ⟨by omega, ho⟩
theorem lstTo_some (R : List (List It)) (at_ : List Nat) : ∀ k i, lstTo R at_ k = some i → i < k ∧ opn R at_ i = true
  | 0, i, h => by simp [lstTo] at h
  | k + 1, i, h => by
    unfold lstTo at h
    cases ho : opn R at_ k with
    | false =>
      rw [ho] at h
      have := lstTo_some R at_ k i (by simpa using h)
      exact ⟨by omega, this.2⟩
    | true =>
      rw [ho, if_pos rfl] at h
      cases hl : lstTo R at_ k with
      | none =>
        rw [hl] at h
        obtain rfl : k = i := by simpa using h
        exact ⟨by omega, ho⟩
      | some b =>
        rw [hl] at h
        have hb := lstTo_some R at_ k b hl
        simp only [Option.some.injEq] at h
        unfold stpM at h
        split at h
        · subst h; exact ⟨by omega, ho⟩
        · subst h; exact ⟨by omega, hb.2⟩
def adv (at_ : List Nat) (i : Nat) : List Nat := at_.set i (at_.getD i 0 + 1)
theorem adv_len (at_ : List Nat) (i : Nat) : (adv at_ i).length = at_.length := by simp [adv]
/-- How many items are left to read. -/
def remTo (R : List (List It)) (at_ : List Nat) : Nat → Nat
  | 0 => 0
  | i + 1 => remTo R at_ i + ((R.getD i []).length - at_.getD i 0)
theorem getD_set {α : Type} (l : List α) (i j : Nat) (a d : α) (hi : i < l.length) : (l.set i a).getD j d = if j = i then a else l.getD j d := by
  by_cases h : j = i
  · subst h; simp [List.getD_eq_getElem?_getD, hi]
  · rw [if_neg h]; simp [List.getD_eq_getElem?_getD, List.getElem?_set_ne (fun e => h e.symm)]
theorem rem_adv (R : List (List It)) (at_ : List Nat) (i : Nat) (hi : i < at_.length) (ho : opn R at_ i = true) : ∀ k, remTo R (adv at_ i) k + (if i < k then 1 else 0) = remTo R at_ k
  | 0 => by simp [remTo]
  | k + 1 => by
    have ih := rem_adv R at_ i hi ho k
    unfold remTo
    unfold adv at ih ⊢
    rw [getD_set at_ i k _ _ hi]
    unfold opn at ho
    rw [decide_eq_true_eq] at ho
    by_cases h : k = i
    · subst h
      rw [if_pos rfl]
      rw [if_neg (by omega)] at ih
      rw [if_pos (by omega)]
      omega
    · rw [if_neg h]
      by_cases h2 : i < k
      · rw [if_pos h2] at ih; rw [if_pos (by omega)]; omega
      · rw [if_neg h2] at ih; rw [if_neg (by omega)]; omega
/-- All items from a state on. -/
def mrgN (R : List (List It)) : Nat → List Nat → List It
  | 0, _ => []
  | f + 1, at_ => match lst R at_ with
    | none => []
    | some i => itAt R at_ i :: mrgN R f (adv at_ i)
theorem mrgN_fuel (R : List (List It)) : ∀ (f g : Nat) (at_ : List Nat), at_.length = R.length → remTo R at_ R.length < f → remTo R at_ R.length < g → mrgN R f at_ = mrgN R g at_
  | 0, g, at_, _, h, _ => by omega
  | f + 1, 0, at_, _, _, h => by omega
  | f + 1, g + 1, at_, hl, h1, h2 => by
    unfold mrgN
    cases hs : lst R at_ with
    | none => rfl
    | some i =>
      obtain ⟨hi, ho⟩ := lstTo_some R at_ R.length i hs
      have := rem_adv R at_ i (by omega) ho R.length
      rw [if_pos hi] at this
      dsimp only
      rw [mrgN_fuel R f g (adv at_ i) (by rw [adv_len]; exact hl) (by omega) (by omega)]
def mrg (R : List (List It)) (at_ : List Nat) : List It := mrgN R (remTo R at_ R.length + 1) at_
theorem mrg_none {R : List (List It)} {at_ : List Nat} (h : lst R at_ = none) : mrg R at_ = [] := by
  unfold mrg mrgN; rw [h]
theorem mrg_some {R : List (List It)} {at_ : List Nat} {i : Nat} (hl : at_.length = R.length) (h : lst R at_ = some i) : mrg R at_ = itAt R at_ i :: mrg R (adv at_ i) := by
  obtain ⟨hi, ho⟩ := lstTo_some R at_ R.length i h
  have := rem_adv R at_ i (by omega) ho R.length
  rw [if_pos hi] at this
  unfold mrg
  rw [mrgN, h]
  dsimp only
  rw [mrgN_fuel R _ (remTo R (adv at_ i) R.length + 1) (adv at_ i) (by rw [adv_len]; exact hl) (by omega) (by omega)]
/-- Those that are the same, once. -/
def sm (a b : It) : Bool := decide (cIt a.k b.k a.n b.n = 0)
theorem sm_iff (a b : It) : sm a b = true ↔ a.k = b.k ∧ a.n = b.n := by
  unfold sm cIt cI
  rw [decide_eq_true_eq]
  by_cases h : Op.bytesLess a.k.toList b.k.toList = true
  · rw [if_pos h]
    constructor
    · intro e; omega
    · rintro ⟨e, _⟩
      rw [e] at h
      exact absurd ((bless_iff _ _).1 h) (List.lt_irrefl _)
  · rw [if_neg h]
    by_cases e : a.k.toList = b.k.toList
    · rw [if_pos (by simpa using e)]
      constructor
      · intro h1
        refine ⟨tl_inj e, ?_⟩
        split at h1
        · omega
        · split at h1 <;> omega
      · rintro ⟨_, e2⟩
        rw [if_neg (by omega), if_neg (by omega)]
    · rw [if_neg (by simpa using e)]
      constructor
      · intro h1; omega
      · rintro ⟨e2, _⟩; exact absurd (by rw [e2]) e
theorem sm_comm (a b : It) : sm a b = sm b a := by
  rw [Bool.eq_iff_iff, sm_iff, sm_iff]
  exact ⟨fun h => ⟨h.1.symm, h.2.symm⟩, fun h => ⟨h.1.symm, h.2.symm⟩⟩
def putM (out : List It) (x : It) : List It := match out.getLast? with
  | none => out ++ [x]
  | some y => if sm y x then out else out ++ [x]
/-- The program's way: each that is unlike the one ahead. -/
def cpTo (xs : List It) : Nat → List It
  | 0 => []
  | i + 1 => if i = 0 ∨ sm (xs.getD i default) (xs.getD (i - 1) default) = false then cpTo xs i ++ [xs.getD i default] else cpTo xs i
theorem cp_last (xs : List It) : ∀ i, ∃ y, (cpTo xs (i + 1)).getLast? = some y ∧ sm y (xs.getD i default) = true
  | 0 => ⟨xs.getD 0 default, by simp [cpTo], (sm_iff _ _).2 ⟨rfl, rfl⟩⟩
  | i + 1 => by
    obtain ⟨y, h1, h2⟩ := cp_last xs i
    rw [cpTo]
    cases hs : sm (xs.getD (i + 1) default) (xs.getD (i + 1 - 1) default) with
    | false => exact ⟨xs.getD (i + 1) default, by simp, (sm_iff _ _).2 ⟨rfl, rfl⟩⟩
    | true =>
      refine ⟨y, by rw [if_neg (by simp)]; exact h1, ?_⟩
      rw [Nat.add_sub_cancel] at hs
      rw [sm_iff] at h2 hs ⊢
      exact ⟨h2.1.trans hs.1.symm, h2.2.trans hs.2.symm⟩
theorem cp_put (xs : List It) : ∀ i, i ≤ xs.length → (xs.take i).foldl putM [] = cpTo xs i
  | 0, _ => rfl
  | i + 1, h => by
    have ih := cp_put xs i (by omega)
    rw [List.take_succ_eq_append_getElem (by omega), List.foldl_append, ih]
    simp only [List.foldl_cons, List.foldl_nil]
    rw [← getD_at xs i (by omega)]
    unfold putM
    cases i with
    | zero => simp [cpTo]
    | succ i =>
      obtain ⟨y, h1, h2⟩ := cp_last xs i
      have hc : cpTo xs (i + 1 + 1) = if i + 1 = 0 ∨ sm (xs.getD (i + 1) default) (xs.getD (i + 1 - 1) default) = false then cpTo xs (i + 1) ++ [xs.getD (i + 1) default] else cpTo xs (i + 1) := rfl
      rw [h1, hc]
      dsimp only
      have he : sm y (xs.getD (i + 1) default) = sm (xs.getD (i + 1) default) (xs.getD (i + 1 - 1) default) := by
        rw [Nat.add_sub_cancel, Bool.eq_iff_iff, sm_iff, sm_iff]
        rw [sm_iff] at h2
        rw [h2.1, h2.2]
        exact ⟨fun h => ⟨h.1.symm, h.2.symm⟩, fun h => ⟨h.1.symm, h.2.symm⟩⟩
      rw [he]
      cases hs : sm (xs.getD (i + 1) default) (xs.getD (i + 1 - 1) default) with
      | false => simp
      | true => simp
theorem cpTo_len (xs : List It) : ∀ i, (cpTo xs i).length ≤ i
  | 0 => Nat.le_refl _
  | i + 1 => by
    have := cpTo_len xs i
    unfold cpTo
    split
    · simp; omega
    · omega
def cmpL (xs : List It) : List It := cpTo xs xs.length
theorem cmp_put (xs : List It) : xs.foldl putM [] = cmpL xs := by
  have := cp_put xs xs.length (Nat.le_refl _)
  rwa [List.take_length] at this
/-- All together. -/
def totR (R : List (List It)) : Nat → Nat
  | 0 => 0
  | i + 1 => totR R i + (R.getD i []).length
theorem remTo_zero (R : List (List It)) (n : Nat) : ∀ k, remTo R (List.replicate n 0) k = totR R k
  | 0 => rfl
  | k + 1 => by
    unfold remTo totR
    rw [remTo_zero R n k]
    have : (List.replicate n 0).getD k 0 = 0 := by
      simp only [List.getD_eq_getElem?_getD, List.getElem?_replicate]
      split <;> rfl
    rw [this]; rfl
theorem mrgN_len (R : List (List It)) : ∀ f at_, (mrgN R f at_).length ≤ f
  | 0, _ => Nat.le_refl _
  | f + 1, at_ => by
    unfold mrgN
    split
    · simp
    · have := mrgN_len R f
      simp only [List.length_cons]
      have := this (adv at_ (by assumption))
      omega
def allM (R : List (List It)) : Nat → Bool
  | 0 => true
  | i + 1 => allM R i && mayM (R.getD i [])
def mgB (R : List (List It)) : Bool := decide (R.length ≤ 12) && allM R R.length && decide (totR R R.length ≤ 400)
def mgL (R : List (List It)) : List It := if mgB R then cmpL (mrg R (List.replicate R.length 0)) else []
end Go.Proofs.Ytcjkdkaahkphfaa
