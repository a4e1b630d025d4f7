/-
  Merging, plainly: which item of a run is seen, by the program's way and by the specification's.
-/
import Derived.Test.YtcjkdkaahkphfaaP0
namespace Go.Proofs.Ytcjkdkaahkphfaa
open Go.RowKit
set_option linter.unusedVariables false

theorem bless_iff : ∀ (x y : List UInt8), Op.bytesLess x y = true ↔ x < y
  | [], [] => by simp [Op.bytesLess]
  | _ :: _, [] => by simp [Op.bytesLess]
  | [], _ :: _ => by simp [Op.bytesLess]
  | a :: x, b :: y => by
    have ih := bless_iff x y
    simp only [Op.bytesLess, List.cons_lt_cons_iff, Bool.or_eq_true, Bool.and_eq_true, decide_eq_true_eq, beq_iff_eq, ih]
theorem lessIt_iff (a b : It) : lessIt a b ↔ a.k.toList < b.k.toList ∨ (a.k.toList = b.k.toList ∧ b.n < a.n) := by
  unfold lessIt cIt cI
  by_cases h : Op.bytesLess a.k.toList b.k.toList = true
  · rw [if_pos h]
    exact ⟨fun _ => Or.inl ((bless_iff _ _).1 h), fun _ => by omega⟩
  · rw [if_neg h]
    have hn : ¬ a.k.toList < b.k.toList := fun h' => h ((bless_iff _ _).2 h')
    by_cases e : a.k.toList = b.k.toList
    · rw [if_pos (by simpa using e)]
      constructor
      · intro h1
        refine Or.inr ⟨e, ?_⟩
        split at h1
        · assumption
        · split at h1 <;> omega
      · rintro (h1 | ⟨_, h1⟩)
        · exact absurd h1 hn
        · rw [if_pos h1]; omega
    · rw [if_neg (by simpa using e)]
      constructor
      · intro h1; omega
      · rintro (h1 | ⟨h1, _⟩)
        · exact absurd h1 hn
        · exact absurd h1 e
theorem lessIt_trans {a b c : It} (h1 : lessIt a b) (h2 : lessIt b c) : lessIt a c := by
  rw [lessIt_iff] at *
  rcases h1 with h1 | ⟨e1, h1⟩
  · rcases h2 with h2 | ⟨e2, h2⟩
    · exact Or.inl (List.lt_trans h1 h2)
    · exact Or.inl (e2 ▸ h1)
  · rcases h2 with h2 | ⟨e2, h2⟩
    · exact Or.inl (e1 ▸ h2)
    · exact Or.inr ⟨e1.trans e2, by omega⟩
theorem rising {L : List It} (h : goodR L = true) : ∀ (d i : Nat), i + d + 1 < L.length → lessIt (L.getD i default) (L.getD (i + d + 1) default) := by
  intro d
  induction d with
  | zero =>
    intro i hi
    have := goodR_at h (i := i + 1) (by omega)
    unfold okAt at this
    simp only [Bool.and_eq_true, Bool.or_eq_true, beq_iff_eq, decide_eq_true_eq] at this
    rcases this.2 with h1 | h1
    · omega
    · simpa using h1
  | succ d ih =>
    intro i hi
    have h1 := ih i (by omega)
    have := goodR_at h (i := i + (d + 1) + 1) (by omega)
    unfold okAt at this
    simp only [Bool.and_eq_true, Bool.or_eq_true, beq_iff_eq, decide_eq_true_eq] at this
    rcases this.2 with h2 | h2
    · omega
    · rw [show i + (d + 1) + 1 - 1 = i + d + 1 from by omega] at h2
      exact lessIt_trans h1 h2
theorem lessIt_irrefl (a : It) : ¬ lessIt a a := by
  rw [lessIt_iff]
  rintro (h | ⟨_, h⟩)
  · exact List.lt_irrefl _ h
  · omega
theorem lessIt_le {a b : It} (h : lessIt a b) : a.k.toList ≤ b.k.toList := by
  rw [lessIt_iff] at h
  rcases h with h | ⟨h, _⟩
  · exact List.le_of_lt h
  · rw [h]; exact List.le_refl _
theorem rise {L : List It} (h : goodR L = true) {i j : Nat} (hij : i < j) (hj : j < L.length) : lessIt (L.getD i default) (L.getD j default) := by
  have := rising h (j - i - 1) i (by omega)
  rwa [show i + (j - i - 1) + 1 = j from by omega] at this
theorem tl_inj {a b : ByteArray} (h : a.toList = b.toList) : a = b := by
  rw [ByteArray.toList_eq, ByteArray.toList_eq] at h
  exact ByteArray.ext (Array.toList_inj.1 h)
/-- Of one key between two of it all have it, and their numbers fall. -/
theorem between {L : List It} (h : goodR L = true) {j m i : Nat} (h1 : j ≤ m) (h2 : m < i) (hi : i < L.length) (he : (L.getD j default).k = (L.getD i default).k) :
    (L.getD m default).k = (L.getD i default).k ∧ (L.getD m default).n ≤ (L.getD j default).n := by
  have r2 := rise h h2 hi
  rcases Nat.lt_or_ge j m with hlt | hge
  · have r1 := rise h hlt (by omega)
    have e1 := lessIt_le r1
    have e2 := lessIt_le r2
    rw [he] at e1
    have e : (L.getD m default).k.toList = (L.getD i default).k.toList := List.le_antisymm e2 e1
    refine ⟨tl_inj e, ?_⟩
    rw [lessIt_iff] at r1
    rcases r1 with r1 | ⟨_, r1⟩
    · rw [he, ← e] at r1; exact absurd r1 (List.lt_irrefl _)
    · omega
  · obtain rfl : j = m := by omega
    exact ⟨he, Int.le_refl _⟩

/-- Whether the item at i is the one that is seen of its key at a number. -/
def seenB (l : List It) (q : Int) (i : Nat) : Bool :=
  decide ((l.getD i default).n ≤ q) && (i == 0 || !decide ((l.getD (i - 1) default).k = (l.getD i default).k) || decide (q < (l.getD (i - 1) default).n))
def seenTo (l : List It) (q : Int) : Nat → List It
  | 0 => []
  | i + 1 => if seenB l q i then seenTo l q i ++ [l.getD i default] else seenTo l q i
def seenL (l : List It) (q : Int) : List It := seenTo l q l.length
theorem seenTo_len (l : List It) (q : Int) : ∀ i, (seenTo l q i).length ≤ i
  | 0 => Nat.le_refl _
  | i + 1 => by
    have := seenTo_len l q i
    unfold seenTo
    split
    · simp; omega
    · omega
/-- The last of those that are seen. -/
theorem seenTo_last (l : List It) (q : Int) : ∀ i x, (seenTo l q i).getLast? = some x → ∃ j, j < i ∧ x = l.getD j default ∧ (l.getD j default).n ≤ q
  | 0, x, h => by simp [seenTo] at h
  | i + 1, x, h => by
    unfold seenTo at h
    cases hs : seenB l q i with
    | true =>
      rw [hs, if_pos rfl, List.getLast?_append] at h
      simp at h
      unfold seenB at hs
      simp only [Bool.and_eq_true, decide_eq_true_eq] at hs
      exact ⟨i, by omega, h.symm, hs.1⟩
    | false =>
      rw [hs] at h
      obtain ⟨j, h1, h2⟩ := seenTo_last l q i x (by simpa using h)
      exact ⟨j, by omega, h2⟩
theorem seenTo_key (l : List It) (q : Int) : ∀ i, (l.getD i default).n ≤ q → ∃ x, (seenTo l q (i + 1)).getLast? = some x ∧ x.k = (l.getD i default).k
  | 0, h => by
    refine ⟨l.getD 0 default, ?_, rfl⟩
    have : seenB l q 0 = true := by simp only [seenB, decide_eq_true h]; rfl
    rw [seenTo, this]; simp
  | i + 1, h => by
    cases hs : seenB l q (i + 1) with
    | true =>
      refine ⟨l.getD (i + 1) default, ?_, rfl⟩
      rw [seenTo, hs]; simp
    | false =>
      unfold seenB at hs
      rw [decide_eq_true h, Bool.true_and] at hs
      simp only [Bool.or_eq_false_iff, beq_eq_false_iff_ne, decide_eq_false_iff_not, Nat.add_sub_cancel, Bool.not_eq_false', decide_eq_true_eq] at hs
      obtain ⟨⟨_, hk⟩, hn⟩ := hs
      obtain ⟨x, h1, h2⟩ := seenTo_key l q i (by omega)
      refine ⟨x, ?_, h2.trans hk⟩
      rw [seenTo, if_neg (by
        intro h3
        unfold seenB at h3
        simp only [Bool.and_eq_true, Bool.or_eq_true, beq_iff_eq, decide_eq_true_eq, Nat.add_sub_cancel, Bool.not_eq_true', decide_eq_false_iff_not] at h3
        rcases h3.2 with (h4 | h4) | h4
        · omega
        · exact h4 hk
        · omega)]
      exact h1
/-- The specification's way: put behind those that are seen where the last one's key is another. -/
theorem seen_spec {l : List It} (h : goodR l = true) (q : Int) (i : Nat) (hi : i < l.length) :
    seenB l q i = (decide ((l.getD i default).n ≤ q) && (match (seenTo l q i).getLast? with | none => true | some x => !decide (x.k = (l.getD i default).k))) := by
  by_cases hn : (l.getD i default).n ≤ q
  · unfold seenB
    rw [decide_eq_true hn, Bool.true_and, Bool.true_and]
    cases i with
    | zero => simp [seenTo]
    | succ i =>
      rw [Nat.add_sub_cancel]
      cases hl : (seenTo l q (i + 1)).getLast? with
      | none =>
        by_cases hq : (l.getD i default).n ≤ q
        · obtain ⟨x, h1, _⟩ := seenTo_key l q i hq
          rw [hl] at h1; cases h1
        · have : decide (q < (l.getD i default).n) = true := decide_eq_true (by omega)
          rw [this]; simp
      | some x =>
        dsimp only
        by_cases hk : x.k = (l.getD (i + 1) default).k
        · rw [decide_eq_true hk]
          obtain ⟨j, h1, h2, h3⟩ := seenTo_last l q (i + 1) x hl
          subst h2
          obtain ⟨b1, b2⟩ := between h (show j ≤ i from by omega) (Nat.lt_succ_self i) hi hk
          rw [decide_eq_true b1, decide_eq_false (show ¬ q < (l.getD i default).n from by omega)]
          rfl
        · rw [decide_eq_false hk]
          by_cases hq : (l.getD i default).n ≤ q
          · obtain ⟨y, h1, h2⟩ := seenTo_key l q i hq
            rw [hl] at h1
            cases h1
            rw [h2] at hk
            rw [decide_eq_false hk]; simp
          · have : decide (q < (l.getD i default).n) = true := decide_eq_true (by omega)
            rw [this]; simp
  · unfold seenB
    rw [decide_eq_false hn]; rfl
theorem seenTo_mem (l : List It) (q : Int) : ∀ i x, x ∈ seenTo l q i → ∃ j, j < i ∧ x = l.getD j default ∧ seenB l q j = true
  | 0, x, h => by simp [seenTo] at h
  | i + 1, x, h => by
    unfold seenTo at h
    cases hs : seenB l q i with
    | true =>
      rw [hs, if_pos rfl, List.mem_append] at h
      rcases h with h | h
      · obtain ⟨j, h1, h2⟩ := seenTo_mem l q i x h
        exact ⟨j, by omega, h2⟩
      · exact ⟨i, by omega, by simpa using h, hs⟩
    | false =>
      rw [hs] at h
      obtain ⟨j, h1, h2⟩ := seenTo_mem l q i x (by simpa using h)
      exact ⟨j, by omega, h2⟩
theorem seenTo_pre (l : List It) (q : Int) (i : Nat) : ∀ d, ∃ r, seenTo l q (i + d) = seenTo l q i ++ r ∧ ∀ x ∈ r, ∃ j, i ≤ j ∧ j < i + d ∧ x = l.getD j default
  | 0 => ⟨[], by simp, by simp⟩
  | d + 1 => by
    obtain ⟨r, h1, h2⟩ := seenTo_pre l q i d
    rw [show i + (d + 1) = (i + d) + 1 from by omega, seenTo]
    cases hs : seenB l q (i + d) with
    | true =>
      refine ⟨r ++ [l.getD (i + d) default], by rw [if_pos rfl, h1, List.append_assoc], fun x hx => ?_⟩
      rw [List.mem_append] at hx
      rcases hx with hx | hx
      · obtain ⟨j, a, b, c⟩ := h2 x hx
        exact ⟨j, a, by omega, c⟩
      · exact ⟨i + d, by omega, by omega, by simpa using hx⟩
    | false =>
      refine ⟨r, by rw [if_neg (by simp)]; exact h1, fun x hx => ?_⟩
      obtain ⟨j, a, b, c⟩ := h2 x hx
      exact ⟨j, a, by omega, c⟩
theorem It.ext_iff' (a b : It) : a = b ↔ a.k = b.k ∧ a.n = b.n ∧ a.d = b.d ∧ a.v = b.v := by
  obtain ⟨a1, a2, a3, a4⟩ := a
  obtain ⟨b1, b2, b3, b4⟩ := b
  simp
instance itDec : DecidableEq It := fun a b => decidable_of_iff (a.k = b.k ∧ a.n = b.n ∧ a.d = b.d ∧ a.v = b.v) (It.ext_iff' a b).symm
/-- The item at i is the next of those that are seen just where it is seen. -/
theorem seen_next {l : List It} (h : goodR l = true) (q : Int) (i : Nat) (hi : i < l.length) :
    seenB l q i = match (seenL l q)[(seenTo l q i).length]? with | none => false | some x => decide (x = l.getD i default) := by
  obtain ⟨r, h1, h2⟩ := seenTo_pre l q (i + 1) (l.length - (i + 1))
  rw [show i + 1 + (l.length - (i + 1)) = l.length from by omega] at h1
  unfold seenL
  rw [h1, seenTo]
  cases hs : seenB l q i with
  | true => rw [if_pos rfl, List.append_assoc, List.getElem?_append_right (Nat.le_refl _)]; simp
  | false =>
    rw [if_neg (by simp), List.getElem?_append_right (Nat.le_refl _), Nat.sub_self]
    cases r with
    | nil => rfl
    | cons y r =>
      obtain ⟨j, a, b, c⟩ := h2 y (by simp)
      subst c
      symm
      show decide _ = false
      refine decide_eq_false fun e => ?_
      have := rise h (show i < j from by omega) (by omega)
      rw [e] at this
      exact lessIt_irrefl _ this
/-- Keys and values of what is put. -/
def prs (l : List It) : List (ByteArray × ByteArray) := (l.filter fun x => decide (x.d = 1)).map fun x => (x.k, x.v)
theorem prs_append (a b : List It) : prs (a ++ b) = prs a ++ prs b := by simp [prs]
theorem prs_one (x : It) : prs [x] = if x.d = 1 then [(x.k, x.v)] else [] := by
  by_cases h : x.d = 1 <;> simp [prs, h]
/-- Those whose key is in a range. -/
def inB (f t k : ByteArray) : Bool := !Op.bytesLess k.toList f.toList && (t.size == 0 || Op.bytesLess k.toList t.toList)
def scanL (l : List (ByteArray × ByteArray)) (f t : ByteArray) : List (ByteArray × ByteArray) := l.filter fun p => inB f t p.1
theorem scan_empty (l : List (ByteArray × ByteArray)) : scanL l ⟨#[]⟩ ⟨#[]⟩ = l := by
  unfold scanL
  rw [List.filter_eq_self]
  intro p _
  have : ∀ x : List UInt8, Op.bytesLess x [] = false := fun x => by cases x <;> rfl
  simp only [inB]
  rw [show (⟨#[]⟩ : ByteArray).toList = [] from by rw [ByteArray.toList_eq], this]
  rfl
/-- What stays. -/
def stayB (l : List It) (q : Int) (bot : Bool) (i : Nat) : Bool := decide (q < (l.getD i default).n) || (seenB l q i && !(bot && decide ((l.getD i default).d = 0)))
def dropTo (l : List It) (q : Int) (bot : Bool) : Nat → List It
  | 0 => []
  | i + 1 => if stayB l q bot i then dropTo l q bot i ++ [l.getD i default] else dropTo l q bot i
def dropL (l : List It) (q : Int) (bot : Bool) : List It := dropTo l q bot l.length
theorem dropTo_len (l : List It) (q : Int) (b : Bool) : ∀ i, (dropTo l q b i).length ≤ i
  | 0 => Nat.le_refl _
  | i + 1 => by
    have := dropTo_len l q b i
    unfold dropTo
    split
    · simp; omega
    · omega
/-- The greatest number. -/
def maxTo (l : List It) : Nat → Int
  | 0 => 0
  | i + 1 => max (maxTo l i) (l.getD i default).n
def newestL (l : List It) : Int := maxTo l l.length
theorem maxTo_nonneg (l : List It) : ∀ i, 0 ≤ maxTo l i
  | 0 => Int.le_refl _
  | i + 1 => by have := maxTo_nonneg l i; unfold maxTo; omega
/-- What is seen of a key. -/
def lookL (l : List It) (q : Int) (key : ByteArray) : Option It := (seenL l q).find? fun x => decide (x.k = key)
def mayM (l : List It) : Bool := decide (l.length ≤ 400) && goodR l
end Go.Proofs.Ytcjkdkaahkphfaa
