/-
  Runs and blocks, plainly: the bytes of a block, and items come back from them. No program.
-/
import Derived.Test.YtniepppbbkoanaaI2
import Derived.Test.YtniepppbbkoanaaJ
import Derived.Test.YtniepppbbkoanaaF1
namespace Go.Proofs.Ytniepppbbkoanaa
open Go.RowKit
set_option linter.unusedVariables false

/-- An item. -/
structure It where
  k : ByteArray
  n : Int
  d : Int
  v : ByteArray
def It.zero : It := ⟨⟨#[]⟩, 0, 0, ⟨#[]⟩⟩
instance : Inhabited It := ⟨It.zero⟩
def bl (b : ByteArray) : List UInt8 := b.data.toList
theorem bl_len (b : ByteArray) : (bl b).length = b.size := by simp [bl]
theorem bl_inj {a b : ByteArray} (h : bl a = bl b) : a = b := ByteArray.ext (Array.toList_inj.1 h)
theorem bl_mk (l : List UInt8) : bl ⟨l.toArray⟩ = l := rfl
def okIt (x : It) : Bool := okItem x.k x.n x.d x.v
def lessIt (a b : It) : Prop := cIt a.k b.k a.n b.n < 0
instance (a b : It) : Decidable (lessIt a b) := by unfold lessIt; infer_instance
/-- The item at i of a run is good, and behind the one ahead. -/
def okAt (l : List It) (i : Nat) : Bool := okIt (l.getD i default) && (i == 0 || decide (lessIt (l.getD (i - 1) default) (l.getD i default)))
def goodTo (l : List It) (i : Nat) : Bool := (List.range i).all (okAt l)
def goodR (l : List It) : Bool := goodTo l l.length
theorem goodTo_zero (l : List It) : goodTo l 0 = true := rfl
theorem goodTo_succ (l : List It) (i : Nat) : goodTo l (i + 1) = (goodTo l i && okAt l i) := by
  simp [goodTo, List.range_succ, List.all_append]
theorem goodTo_stop (l : List It) (i : Nat) (hi : i < l.length) (h : okAt l i = false) : goodR l = false := by
  unfold goodR goodTo
  rw [List.all_eq_false]
  exact ⟨i, List.mem_range.2 hi, by simp [h]⟩
theorem goodR_at {l : List It} (h : goodR l = true) {i : Nat} (hi : i < l.length) : okAt l i = true := by
  unfold goodR goodTo at h
  rw [List.all_eq_true] at h
  exact h i (List.mem_range.2 hi)

/-- How many bytes two texts have in common at the front. -/
def com : List UInt8 → List UInt8 → Nat
  | a :: r, b :: s => if a = b then com r s + 1 else 0
  | _, _ => 0
theorem com_le : ∀ (a b : List UInt8), com a b ≤ a.length ∧ com a b ≤ b.length
  | [], b => by simp [com]
  | a :: r, [] => by simp [com]
  | a :: r, b :: s => by
    have := com_le r s
    unfold com
    split
    · simp; omega
    · simp
theorem com_same : ∀ (a b : List UInt8), a.take (com a b) = b.take (com a b)
  | [], b => by simp [com]
  | a :: r, [] => by simp [com]
  | a :: r, b :: s => by
    have := com_same r s
    unfold com
    split
    · rename_i h; subst h; simp [this]
    · simp
theorem com_at : ∀ (a b : List UInt8) (j : Nat), j < com a b → a[j]? = b[j]?
  | [], b, j, h => by simp [com] at h
  | a :: r, [], j, h => by simp [com] at h
  | a :: r, b :: s, j, h => by
    unfold com at h
    split at h
    · rename_i e
      subst e
      cases j with
      | zero => rfl
      | succ j => simpa using com_at r s j (by omega)
    · omega
theorem com_stop : ∀ (a b : List UInt8) (ha : com a b < a.length) (hb : com a b < b.length), a[com a b] ≠ b[com a b]
  | [], b, ha, hb => by simp at ha
  | a :: r, [], ha, hb => by simp at hb
  | a :: r, b :: s, ha, hb => by
    by_cases e : a = b
    · subst e
      have h1 : com (a :: r) (a :: s) = com r s + 1 := by simp [com]
      simp only [h1, List.getElem_cons_succ]
      rw [h1] at ha hb
      exact com_stop r s (by simpa using ha) (by simpa using hb)
    · have h1 : com (a :: r) (b :: s) = 0 := by simp [com, e]
      simp only [h1, List.getElem_cons_zero]
      exact e
/-- What is found by going on while they are the same. -/
theorem com_eq (a b : List UInt8) (n : Nat) (hn : n ≤ a.length) (hb : n ≤ b.length) (h1 : ∀ j, j < n → a[j]? = b[j]?) (h2 : ∀ (ha : n < a.length) (hb : n < b.length), a[n] ≠ b[n]) : com a b = n := by
  rcases Nat.lt_trichotomy (com a b) n with h | h | h
  · have := com_stop a b (by omega) (by omega)
    have h3 := h1 _ h
    rw [List.getElem?_eq_getElem (by omega), List.getElem?_eq_getElem (by omega)] at h3
    exact absurd (Option.some.inj h3) this
  · exact h
  · have hl := com_le a b
    have h3 := com_at a b n h
    rw [List.getElem?_eq_getElem (by omega), List.getElem?_eq_getElem (by omega)] at h3
    exact absurd (Option.some.inj h3) (h2 (by omega) (by omega))

/-- A number in two bytes, the lowest ahead. -/
def twoL (n : Nat) : List UInt8 := [UInt8.ofNat n, UInt8.ofNat (n / 256)]
theorem twoL_len (n : Nat) : (twoL n).length = 2 := rfl
/-- The bytes of an item that has c bytes in common with the key ahead. -/
def itL (x : It) (c : Nat) : List UInt8 := varL c ++ varL (x.k.size - c) ++ varL (2 * x.n + x.d).toNat ++ varL x.v.size ++ (bl x.k).drop c ++ bl x.v
/-- What the key of the item at i has in common with the one ahead. -/
def cm (l : List It) (i : Nat) : Nat := if i % 4 = 0 then 0 else com (bl (l.getD (i - 1) default).k) (bl (l.getD i default).k)
theorem cm_le (l : List It) (i : Nat) : cm l i ≤ (l.getD i default).k.size := by
  unfold cm
  split
  · omega
  · have := (com_le (bl (l.getD (i - 1) default).k) (bl (l.getD i default).k)).2
    rwa [bl_len] at this
/-- The bytes of the first i items, the places of the restarts among them. -/
def itsL (l : List It) : Nat → List UInt8
  | 0 => []
  | i + 1 => itsL l i ++ itL (l.getD i default) (cm l i)
def plL (l : List It) : Nat → List UInt8
  | 0 => []
  | i + 1 => plL l i ++ (if i % 4 = 0 then twoL (itsL l i).length else [])
theorem plL_len (l : List It) (i : Nat) : (plL l i).length = 2 * ((i + 3) / 4) := by
  induction i with
  | zero => rfl
  | succ i ih =>
    unfold plL
    rw [List.length_append, ih]
    split
    · rw [twoL_len]; omega
    · simp; omega
def bodyL (l : List It) : List UInt8 := itsL l l.length ++ plL l l.length ++ twoL ((plL l l.length).length / 2)
def blkL (l : List It) : List UInt8 := bodyL l ++ wordL (csum (bodyL l))
def blk (l : List It) : ByteArray := ⟨(blkL l).toArray⟩

theorem okIt_key {x : It} (h : okIt x = true) : 1 ≤ x.k.size ∧ x.k.size ≤ 16 := by
  unfold okIt okItem okKey at h
  simp only [Bool.and_eq_true, decide_eq_true_eq] at h
  omega
theorem okIt_seq {x : It} (h : okIt x = true) : 0 ≤ x.n ∧ x.n ≤ 1000000000 := by
  unfold okIt okItem okSeq at h
  simp only [Bool.and_eq_true, decide_eq_true_eq] at h
  exact h.1.2
theorem okIt_kind {x : It} (h : okIt x = true) : (x.d = 0 ∨ x.d = 1) ∧ x.v.size ≤ 40 := by
  unfold okIt okItem at h
  simp only [Bool.and_eq_true, Bool.or_eq_true, decide_eq_true_eq, beq_iff_eq] at h
  omega
theorem var_small (n : Nat) (h : n < 128) : (varL n).length = 1 := by rw [varL_lt n h]; rfl
theorem itL_len {x : It} {c : Nat} (h : okIt x = true) (hc : c ≤ x.k.size) : 4 ≤ (itL x c).length ∧ (itL x c).length ≤ 67 := by
  have hk := okIt_key h
  have hs := okIt_seq h
  have hd := okIt_kind h
  have h1 := var_small c (by omega)
  have h2 := var_small (x.k.size - c) (by omega)
  have h3 := varL_len 4 (2 * x.n + x.d).toNat (by simp; omega)
  have h3' := varL_pos (2 * x.n + x.d).toNat
  have h4 := var_small x.v.size (by omega)
  simp only [itL, List.length_append, List.length_drop, bl_len, h1, h2, h4]
  omega
theorem itsL_len {l : List It} {i : Nat} (h : goodTo l i = true) : (itsL l i).length ≤ 67 * i ∧ 4 * i ≤ (itsL l i).length := by
  induction i with
  | zero => simp [itsL]
  | succ i ih =>
    rw [goodTo_succ, Bool.and_eq_true] at h
    have h1 := ih h.1
    have hok : okIt (l.getD i default) = true := by
      have := h.2
      unfold okAt at this
      rw [Bool.and_eq_true] at this
      exact this.1
    have := itL_len hok (cm_le l i)
    simp only [itsL, List.length_append]
    omega

/-- An item that is read at the front of s behind a key: what the text tells. -/
structure Rd where
  c : Nat
  r : Nat
  w : Nat
  z : Nat
  a : Nat
  ok : Bool
def rdA (s : List UInt8) : Nat × Nat := take s
def rd (s : List UInt8) : Rd :=
  let A := take s
  let B := take (s.drop A.2)
  let C := take (s.drop (A.2 + B.2))
  let D := take (s.drop (A.2 + B.2 + C.2))
  ⟨A.1, B.1, C.1, D.1, A.2 + B.2 + C.2 + D.2, decide (A.2 ≠ 0) && decide (B.2 ≠ 0) && decide (C.2 ≠ 0) && decide (D.2 ≠ 0)⟩
/-- An item's bytes are read back. -/
theorem rd_item {x : It} {c : Nat} (h : okIt x = true) (hc : c ≤ x.k.size) (more : List UInt8) :
    take (itL x c ++ more) = (c, (varL c).length) ∧ take ((itL x c ++ more).drop (varL c).length) = (x.k.size - c, (varL (x.k.size - c)).length) ∧
    take ((itL x c ++ more).drop ((varL c).length + (varL (x.k.size - c)).length)) = ((2 * x.n + x.d).toNat, (varL (2 * x.n + x.d).toNat).length) ∧
    take ((itL x c ++ more).drop ((varL c).length + (varL (x.k.size - c)).length + (varL (2 * x.n + x.d).toNat).length)) = (x.v.size, (varL x.v.size).length) := by
  have hk := okIt_key h
  have hs := okIt_seq h
  have hd := okIt_kind h
  have e : itL x c ++ more = varL c ++ (varL (x.k.size - c) ++ (varL (2 * x.n + x.d).toNat ++ (varL x.v.size ++ ((bl x.k).drop c ++ bl x.v ++ more)))) := by simp [itL]
  rw [e]
  have d1 : ∀ (p q : List UInt8) (m : Nat), (p ++ q).drop (p.length + m) = q.drop m := by
    intro p q m
    rw [← List.drop_drop, List.drop_left]
  have d0 : ∀ (p q : List UInt8), (p ++ q).drop p.length = q := fun p q => List.drop_left
  refine ⟨take_var c _ (by omega), ?_, ?_, ?_⟩
  · rw [d0]; exact take_var _ _ (by omega)
  · rw [d1, d0]; exact take_var _ _ (by omega)
  · rw [Nat.add_assoc, d1, d1, d0]; exact take_var _ _ (by omega)
end Go.Proofs.Ytniepppbbkoanaa
