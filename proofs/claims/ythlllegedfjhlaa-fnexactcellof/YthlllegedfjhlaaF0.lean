/-
  Where a session, a cell is in a list, plainly.
-/
import Derived.Test.YthlllegedfjhlaaG0
import Derived.Lib.Bytealg
namespace Go.Proofs.Ythlllegedfjhlaa
open Go.RowKit
set_option linter.unusedVariables false
set_option maxRecDepth 100000

/-- How many from the front on f takes. -/
def plc {α : Type} (f : α → Bool) (l : List α) : Nat := (l.takeWhile f).length
theorem plc_le {α : Type} (f : α → Bool) (l : List α) : plc f l ≤ l.length := by
  unfold plc
  induction l with
  | nil => simp
  | cons x r ih => simp only [List.takeWhile_cons]; split <;> simp <;> omega
theorem plc_one {α : Type} (f : α → Bool) (l : List α) (p : Nat) (hp : p ≤ l.length) (h1 : ∀ i (h : i < l.length), i < p → f l[i] = true) (h2 : ∀ h : p < l.length, f l[p] = false) : plc f l = p := by
  unfold plc
  induction l generalizing p with
  | nil => simp at hp; simp [hp]
  | cons x r ih =>
    cases p with
    | zero => have := h2 (by simp); simp only [List.getElem_cons_zero] at this; simp [this]
    | succ p =>
      have h0 := h1 0 (by simp) (by omega)
      simp only [List.getElem_cons_zero] at h0
      rw [List.takeWhile_cons, h0]
      simp only [if_true, List.length_cons]
      rw [ih p (by simpa using hp) (fun i h hi => by have := h1 (i + 1) (by simp; omega) (by omega); simpa using this) (fun h => by have := h2 (by simp; omega); simpa using this)]
def fS (id : Int) (x : Ss) : Bool := decide (x.n < id)
def fC (key : ByteArray) (x : Pr) : Bool := less x.k key
def hsS (S : List Ss) (id : Int) : Bool := decide (∃ h : plc (fS id) S < S.length, (S[plc (fS id) S]'h).n = id)
open Classical in
noncomputable def hsC (C : List Pr) (key : ByteArray) : Bool := decide (∃ h : plc (fC key) C < C.length, (C[plc (fC key) C]'h).k.toList = key.toList)
theorem hsS_at (S : List Ss) (id : Int) (p : Nat) (hp : plc (fS id) S = p) (h : p < S.length) : hsS S id = decide (S[p].n = id) := by
  subst hp; unfold hsS; exact decide_eq_decide.2 ⟨fun ⟨_, e⟩ => e, fun e => ⟨h, e⟩⟩
theorem hsS_end (S : List Ss) (id : Int) (p : Nat) (hp : plc (fS id) S = p) (h : ¬ p < S.length) : hsS S id = false := by
  subst hp; unfold hsS; exact decide_eq_false fun ⟨e, _⟩ => h e
theorem hsC_at (C : List Pr) (key : ByteArray) (p : Nat) (hp : plc (fC key) C = p) (h : p < C.length) : hsC C key = (C[p].k.toList == key.toList) := by
  subst hp; unfold hsC
  rw [Bool.eq_iff_iff, decide_eq_true_iff, beq_iff_eq]
  exact ⟨fun ⟨_, e⟩ => e, fun e => ⟨h, e⟩⟩
theorem hsC_end (C : List Pr) (key : ByteArray) (p : Nat) (hp : plc (fC key) C = p) (h : ¬ p < C.length) : hsC C key = false := by
  subst hp; unfold hsC; exact decide_eq_false fun ⟨e, _⟩ => h e
theorem hsS_lt {S : List Ss} {id : Int} (h : hsS S id = true) : plc (fS id) S < S.length := by unfold hsS at h; exact (of_decide_eq_true h).1
theorem hsC_lt {C : List Pr} {key : ByteArray} (h : hsC C key = true) : plc (fC key) C < C.length := by unfold hsC at h; exact (of_decide_eq_true h).1
theorem bless_iff : ∀ (x y : List UInt8), Op.bytesLess x y = true ↔ x < y
  | [], [] => by simp [Op.bytesLess]
  | _ :: _, [] => by simp [Op.bytesLess]
  | [], _ :: _ => by simp [Op.bytesLess]
  | a :: x, b :: y => by
    have ih := bless_iff x y
    simp only [Op.bytesLess, List.cons_lt_cons_iff, Bool.or_eq_true, Bool.and_eq_true, decide_eq_true_eq, beq_iff_eq, ih]
theorem less_trans {a b c : ByteArray} (h : less a b = true) (k : less b c = true) : less a c = true :=
  (bless_iff _ _).2 (List.lt_trans ((bless_iff _ _).1 h) ((bless_iff _ _).1 k))
theorem cmpB_lt : ∀ (x y : List UInt8), Lib.compareBytes x y < 0 ↔ Op.bytesLess x y = true
  | [], [] => by simp [Lib.compareBytes, Op.bytesLess]
  | _ :: _, [] => by simp [Lib.compareBytes, Op.bytesLess]
  | [], _ :: _ => by simp [Lib.compareBytes, Op.bytesLess]
  | a :: x, b :: y => by
    have ih := cmpB_lt x y
    unfold Lib.compareBytes Op.bytesLess
    by_cases h1 : a < b
    · simp [h1]
    · by_cases h2 : b < a
      · have : ¬ a = b := fun e => by subst e; exact h1 h2
        simp [h1, h2, this]
      · have : a = b := UInt8.le_antisymm (UInt8.not_lt.1 h2) (UInt8.not_lt.1 h1)
        subst this
        simp [h1, ih]
theorem cmpB_eq : ∀ (x y : List UInt8), Lib.compareBytes x y = 0 ↔ x = y
  | [], [] => by simp [Lib.compareBytes]
  | _ :: _, [] => by simp [Lib.compareBytes]
  | [], _ :: _ => by simp [Lib.compareBytes]
  | a :: x, b :: y => by
    have ih := cmpB_eq x y
    unfold Lib.compareBytes
    by_cases h1 : a < b
    · have : ¬ a = b := fun e => by subst e; exact UInt8.lt_irrefl _ h1
      simp [h1, this]
    · by_cases h2 : b < a
      · have : ¬ a = b := fun e => by subst e; exact h1 h2
        simp [h1, h2, this]
      · have : a = b := UInt8.le_antisymm (UInt8.not_lt.1 h2) (UInt8.not_lt.1 h1)
        subst this
        simp [h1, ih]
def cB (a b : ByteArray) : Int := Lib.compareBytes a.data.toList b.data.toList
theorem tl (a : ByteArray) : a.toList = a.data.toList := ByteArray.toList_eq a
theorem cB_lt (a b : ByteArray) : cB a b < 0 ↔ less a b = true := by unfold cB less; rw [tl, tl]; exact cmpB_lt _ _
theorem cB_eq (a b : ByteArray) : cB a b = 0 ↔ a.toList = b.toList := by unfold cB; rw [tl, tl]; exact cmpB_eq _ _
theorem cI_lt (a b : Int) : cI a b < 0 ↔ a < b := by unfold cI; split <;> (try split) <;> omega
theorem cI_eq (a b : Int) : cI a b = 0 ↔ a = b := by unfold cI; split <;> (try split) <;> omega
/-- What rises, rises over more than one step. -/
theorem rises {α : Type} (R : α → α → Prop) (tr : ∀ a b c, R a b → R b c → R a c) (l : List α) (step : ∀ i (h : i + 1 < l.length), R (l[i]'(by omega)) l[i + 1]) : ∀ i j (hi : i < l.length) (hj : j < l.length), i < j → R l[i] l[j] := by
  intro i j hi hj hij
  obtain ⟨m, rfl⟩ : ∃ m, j = i + 1 + m := ⟨j - i - 1, by omega⟩
  induction m with
  | zero => exact step i hj
  | succ m ih => exact tr _ _ _ (ih (by omega) (by omega)) (step (i + 1 + m) hj)
theorem gsB_srt {l : List Ss} (h : gsB l = true) : ∀ i j (hi : i < l.length) (hj : j < l.length), i < j → l[i].n < l[j].n := by
  refine rises (fun a b => a.n < b.n) (fun a b c h k => Int.lt_trans h k) l fun i hi => ?_
  have := gsB_at h hi
  unfold sAt at this
  rw [getS l (i + 1) hi, Nat.add_sub_cancel, getS l i (by omega)] at this
  simp only [Bool.and_eq_true, Bool.or_eq_true, decide_eq_true_eq] at this
  rcases this.2 with h | h
  · omega
  · exact h
theorem gcB_srt {l : List Pr} (h : gcB l = true) : ∀ i j (hi : i < l.length) (hj : j < l.length), i < j → less l[i].k l[j].k = true := by
  refine rises (fun a b => less a.k b.k = true) (fun a b c h k => less_trans (a := a.k) (b := b.k) (c := c.k) h k) l fun i hi => ?_
  have := gcB_at h hi
  unfold cAt at this
  rw [getP l (i + 1) hi, Nat.add_sub_cancel, getP l i (by omega)] at this
  simp only [Bool.and_eq_true, Bool.or_eq_true, decide_eq_true_eq] at this
  rcases this.2 with h | h
  · omega
  · exact h
end Go.Proofs.Ythlllegedfjhlaa
