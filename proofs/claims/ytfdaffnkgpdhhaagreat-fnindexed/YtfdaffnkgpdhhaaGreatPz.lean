/-
  Runs and blocks, plainly: the bytes of a block, and items come back from them. No program.
  Items come back from their block: plain facts, no program.
-/
import Derived.Test.YtfdaffnkgpdhhaaGreatIz
import Derived.Test.YtfdaffnkgpdhhaaGreatJ
import Derived.Test.YtfdaffnkgpdhhaaGreatF1
namespace Go.Proofs.YtfdaffnkgpdhhaaGreat
open Go.RowKit
set_option linter.unusedVariables false

/-- An item. -/
structure It where
  k : ByteArray
  n : Int
  d : Int
  v : ByteArray
def It.zero : It := ⟨⟨#[]⟩, 0, 0, ⟨#[]⟩⟩
instance : Inhabited It := ⟨It.zero⟩
def bl (b : ByteArray) : List UInt8 := b.data.toList
theorem bl_len (b : ByteArray) : (bl b).length = b.size := by simp [bl]
theorem bl_inj {a b : ByteArray} (h : bl a = bl b) : a = b := ByteArray.ext (Array.toList_inj.1 h)
theorem bl_mk (l : List UInt8) : bl ⟨l.toArray⟩ = l := rfl
def okIt (x : It) : Bool := okItem x.k x.n x.d x.v
def lessIt (a b : It) : Prop := cIt a.k b.k a.n b.n < 0
instance (a b : It) : Decidable (lessIt a b) := by unfold lessIt; infer_instance
/-- The item at i of a run is good, and behind the one ahead. -/
def okAt (l : List It) (i : Nat) : Bool := okIt (l.getD i default) && (i == 0 || decide (lessIt (l.getD (i - 1) default) (l.getD i default)))
def goodTo (l : List It) (i : Nat) : Bool := (List.range i).all (okAt l)
def goodR (l : List It) : Bool := goodTo l l.length
theorem goodTo_zero (l : List It) : goodTo l 0 = true := rfl
theorem goodTo_succ (l : List It) (i : Nat) : goodTo l (i + 1) = (goodTo l i && okAt l i) := by
  simp [goodTo, List.range_succ, List.all_append]
theorem goodTo_stop (l : List It) (i : Nat) (hi : i < l.length) (h : okAt l i = false) : goodR l = false := by
  unfold goodR goodTo
  rw [List.all_eq_false]
  exact ⟨i, List.mem_range.2 hi, by simp [h]⟩
theorem goodR_at {l : List It} (h : goodR l = true) {i : Nat} (hi : i < l.length) : okAt l i = true := by
  unfold goodR goodTo at h
  rw [List.all_eq_true] at h
  exact h i (List.mem_range.2 hi)

/-- How many bytes two texts have in common at the front. -/
def com : List UInt8 → List UInt8 → Nat
  | a :: r, b :: s => if a = b then com r s + 1 else 0
  | _, _ => 0
theorem com_le : ∀ (a b : List UInt8), com a b ≤ a.length ∧ com a b ≤ b.length
  | [], b => by simp [com]
  | a :: r, [] => by simp [com]
  | a :: r, b :: s => by
    have := com_le r s
    unfold com
    split
    · simp; omega
    · simp
theorem com_same : ∀ (a b : List UInt8), a.take (com a b) = b.take (com a b)
  | [], b => by simp [com]
  | a :: r, [] => by simp [com]
  | a :: r, b :: s => by
    have := com_same r s
    unfold com
    split
    · rename_i h; subst h; simp [this]
    · simp
theorem com_at : ∀ (a b : List UInt8) (j : Nat), j < com a b → a[j]? = b[j]?
  | [], b, j, h => by simp [com] at h
  | a :: r, [], j, h => by simp [com] at h
  | a :: r, b :: s, j, h => by
    unfold com at h
    split at h
    · rename_i e
      subst e
      cases j with
      | zero => rfl
      | succ j => simpa using com_at r s j (by omega)
    · omega
theorem com_stop : ∀ (a b : List UInt8) (ha : com a b < a.length) (hb : com a b < b.length), a[com a b] ≠ b[com a b]
  | [], b, ha, hb => by simp at ha
  | a :: r, [], ha, hb => by simp at hb
  | a :: r, b :: s, ha, hb => by
    by_cases e : a = b
    · subst e
      have h1 : com (a :: r) (a :: s) = com r s + 1 := by simp [com]
      simp only [h1, List.getElem_cons_succ]
      rw [h1] at ha hb
      exact com_stop r s (by simpa using ha) (by simpa using hb)
    · have h1 : com (a :: r) (b :: s) = 0 := by simp [com, e]
      simp only [h1, List.getElem_cons_zero]
      exact e
/-- What is found by going on while they are the same. -/
theorem com_eq (a b : List UInt8) (n : Nat) (hn : n ≤ a.length) (hb : n ≤ b.length) (h1 : ∀ j, j < n → a[j]? = b[j]?) (h2 : ∀ (ha : n < a.length) (hb : n < b.length), a[n] ≠ b[n]) : com a b = n := by
  rcases Nat.lt_trichotomy (com a b) n with h | h | h
  · have := com_stop a b (by omega) (by omega)
    have h3 := h1 _ h
    rw [List.getElem?_eq_getElem (by omega), List.getElem?_eq_getElem (by omega)] at h3
    exact absurd (Option.some.inj h3) this
  · exact h
  · have hl := com_le a b
    have h3 := com_at a b n h
    rw [List.getElem?_eq_getElem (by omega), List.getElem?_eq_getElem (by omega)] at h3
    exact absurd (Option.some.inj h3) (h2 (by omega) (by omega))

/-- A number in two bytes, the lowest ahead. -/
def twoL (n : Nat) : List UInt8 := [UInt8.ofNat n, UInt8.ofNat (n / 256)]
theorem twoL_len (n : Nat) : (twoL n).length = 2 := rfl
/-- The bytes of an item that has c bytes in common with the key ahead. -/
def itL (x : It) (c : Nat) : List UInt8 := varL c ++ varL (x.k.size - c) ++ varL (2 * x.n + x.d).toNat ++ varL x.v.size ++ (bl x.k).drop c ++ bl x.v
/-- What the key of the item at i has in common with the one ahead. -/
def cm (l : List It) (i : Nat) : Nat := if i % 4 = 0 then 0 else com (bl (l.getD (i - 1) default).k) (bl (l.getD i default).k)
theorem cm_le (l : List It) (i : Nat) : cm l i ≤ (l.getD i default).k.size := by
  unfold cm
  split
  · omega
  · have := (com_le (bl (l.getD (i - 1) default).k) (bl (l.getD i default).k)).2
    rwa [bl_len] at this
/-- The bytes of the first i items, the places of the restarts among them. -/
def itsL (l : List It) : Nat → List UInt8
  | 0 => []
  | i + 1 => itsL l i ++ itL (l.getD i default) (cm l i)
def plL (l : List It) : Nat → List UInt8
  | 0 => []
  | i + 1 => plL l i ++ (if i % 4 = 0 then twoL (itsL l i).length else [])
theorem plL_len (l : List It) (i : Nat) : (plL l i).length = 2 * ((i + 3) / 4) := by
  induction i with
  | zero => rfl
  | succ i ih =>
    unfold plL
    rw [List.length_append, ih]
    split
    · rw [twoL_len]; omega
    · simp; omega
def bodyL (l : List It) : List UInt8 := itsL l l.length ++ plL l l.length ++ twoL ((plL l l.length).length / 2)
def blkL (l : List It) : List UInt8 := bodyL l ++ wordL (csum (bodyL l))
def blk (l : List It) : ByteArray := ⟨(blkL l).toArray⟩

theorem okIt_key {x : It} (h : okIt x = true) : 1 ≤ x.k.size ∧ x.k.size ≤ 16 := by
  unfold okIt okItem okKey at h
  simp only [Bool.and_eq_true, decide_eq_true_eq] at h
  omega
theorem okIt_seq {x : It} (h : okIt x = true) : 0 ≤ x.n ∧ x.n ≤ 1000000000 := by
  unfold okIt okItem okSeq at h
  simp only [Bool.and_eq_true, decide_eq_true_eq] at h
  exact h.1.2
theorem okIt_kind {x : It} (h : okIt x = true) : (x.d = 0 ∨ x.d = 1) ∧ x.v.size ≤ 40 := by
  unfold okIt okItem at h
  simp only [Bool.and_eq_true, Bool.or_eq_true, decide_eq_true_eq, beq_iff_eq] at h
  omega
theorem var_small (n : Nat) (h : n < 128) : (varL n).length = 1 := by rw [varL_lt n h]; rfl
theorem itL_len {x : It} {c : Nat} (h : okIt x = true) (hc : c ≤ x.k.size) : 4 ≤ (itL x c).length ∧ (itL x c).length ≤ 67 := by
  have hk := okIt_key h
  have hs := okIt_seq h
  have hd := okIt_kind h
  have h1 := var_small c (by omega)
  have h2 := var_small (x.k.size - c) (by omega)
  have h3 := varL_len 4 (2 * x.n + x.d).toNat (by simp; omega)
  have h3' := varL_pos (2 * x.n + x.d).toNat
  have h4 := var_small x.v.size (by omega)
  simp only [itL, List.length_append, List.length_drop, bl_len, h1, h2, h4]
  omega
theorem itsL_len {l : List It} {i : Nat} (h : goodTo l i = true) : (itsL l i).length ≤ 67 * i ∧ 4 * i ≤ (itsL l i).length := by
  induction i with
  | zero => simp [itsL]
  | succ i ih =>
    rw [goodTo_succ, Bool.and_eq_true] at h
    have h1 := ih h.1
    have hok : okIt (l.getD i default) = true := by
      have := h.2
      unfold okAt at this
      rw [Bool.and_eq_true] at this
      exact this.1
    have := itL_len hok (cm_le l i)
    simp only [itsL, List.length_append]
    omega

/-- An item that is read at the front of s behind a key: what the text tells. -/
structure Rd where
  c : Nat
  r : Nat
  w : Nat
  z : Nat
  a : Nat
  ok : Bool
def rdA (s : List UInt8) : Nat × Nat := take s
def rd (s : List UInt8) : Rd :=
  let A := take s
  let B := take (s.drop A.2)
  let C := take (s.drop (A.2 + B.2))
  let D := take (s.drop (A.2 + B.2 + C.2))
  ⟨A.1, B.1, C.1, D.1, A.2 + B.2 + C.2 + D.2, decide (A.2 ≠ 0) && decide (B.2 ≠ 0) && decide (C.2 ≠ 0) && decide (D.2 ≠ 0)⟩
/-- An item's bytes are read back. -/
theorem rd_item {x : It} {c : Nat} (h : okIt x = true) (hc : c ≤ x.k.size) (more : List UInt8) :
    take (itL x c ++ more) = (c, (varL c).length) ∧ take ((itL x c ++ more).drop (varL c).length) = (x.k.size - c, (varL (x.k.size - c)).length) ∧
    take ((itL x c ++ more).drop ((varL c).length + (varL (x.k.size - c)).length)) = ((2 * x.n + x.d).toNat, (varL (2 * x.n + x.d).toNat).length) ∧
    take ((itL x c ++ more).drop ((varL c).length + (varL (x.k.size - c)).length + (varL (2 * x.n + x.d).toNat).length)) = (x.v.size, (varL x.v.size).length) := by
  have hk := okIt_key h
  have hs := okIt_seq h
  have hd := okIt_kind h
  have e : itL x c ++ more = varL c ++ (varL (x.k.size - c) ++ (varL (2 * x.n + x.d).toNat ++ (varL x.v.size ++ ((bl x.k).drop c ++ bl x.v ++ more)))) := by simp [itL]
  rw [e]
  have d1 : ∀ (p q : List UInt8) (m : Nat), (p ++ q).drop (p.length + m) = q.drop m := by
    intro p q m
    rw [← List.drop_drop, List.drop_left]
  have d0 : ∀ (p q : List UInt8), (p ++ q).drop p.length = q := fun p q => List.drop_left
  refine ⟨take_var c _ (by omega), ?_, ?_, ?_⟩
  · rw [d0]; exact take_var _ _ (by omega)
  · rw [d1, d0]; exact take_var _ _ (by omega)
  · rw [Nat.add_assoc, d1, d1, d0]; exact take_var _ _ (by omega)
end Go.Proofs.YtfdaffnkgpdhhaaGreat

namespace Go.Proofs.YtfdaffnkgpdhhaaGreat
open Go.RowKit
set_option linter.unusedVariables false

/-- How many bytes the four numbers have, whether each is one; the item, its bytes; whether it is taken. -/
def rdOk (s key : List UInt8) : Bool := (rd s).ok && decide ((rd s).c ≤ key.length) && decide ((rd s).a + (rd s).r + (rd s).z ≤ s.length)
def rdIt (s key : List UInt8) : It := ⟨⟨(key.take (rd s).c ++ (s.drop (rd s).a).take (rd s).r).toArray⟩, ((rd s).w : Int) / 2, ((rd s).w : Int) % 2, ⟨((s.drop ((rd s).a + (rd s).r)).take (rd s).z).toArray⟩⟩
def rdN (s : List UInt8) : Nat := (rd s).a + (rd s).r + (rd s).z
theorem rd_eq {x : It} {c : Nat} (h : okIt x = true) (hc : c ≤ x.k.size) (more : List UInt8) :
    rd (itL x c ++ more) = ⟨c, x.k.size - c, (2 * x.n + x.d).toNat, x.v.size, (varL c).length + (varL (x.k.size - c)).length + (varL (2 * x.n + x.d).toNat).length + (varL x.v.size).length, true⟩ := by
  obtain ⟨h1, h2, h3, h4⟩ := rd_item h hc more
  have p1 := varL_pos c
  have p2 := varL_pos (x.k.size - c)
  have p3 := varL_pos (2 * x.n + x.d).toNat
  have p4 := varL_pos x.v.size
  unfold rd
  simp only [h1, h2, h3, h4]
  congr 1
  simp only [Bool.and_eq_true, decide_eq_true_eq]
  omega
theorem mod_div {n d : Int} (hn : 0 ≤ n) (hd : d = 0 ∨ d = 1) : (((2 * n + d).toNat : Nat) : Int) / 2 = n ∧ (((2 * n + d).toNat : Nat) : Int) % 2 = d := by omega
/-- The key ahead of the item at i. -/
def ahead (l : List It) (i : Nat) : List UInt8 := if i = 0 then [] else bl (l.getD (i - 1) default).k
theorem cm_ahead (l : List It) (i : Nat) : cm l i ≤ (ahead l i).length ∧ (ahead l i).take (cm l i) = (bl (l.getD i default).k).take (cm l i) := by
  unfold cm ahead
  by_cases h : i % 4 = 0
  · simp [h]
  · rw [if_neg h, if_neg (by omega)]
    exact ⟨(com_le _ _).1, com_same _ _⟩
theorem okAt_it {l : List It} {i : Nat} (h : okAt l i = true) : okIt (l.getD i default) = true := by
  unfold okAt at h
  rw [Bool.and_eq_true] at h
  exact h.1
/-- An item of a run is read back. -/
theorem rd_back {l : List It} {i : Nat} (h : okAt l i = true) (more : List UInt8) :
    rdOk (itL (l.getD i default) (cm l i) ++ more) (ahead l i) = true ∧ rdIt (itL (l.getD i default) (cm l i) ++ more) (ahead l i) = l.getD i default ∧
    rdN (itL (l.getD i default) (cm l i) ++ more) = (itL (l.getD i default) (cm l i)).length ∧ (rd (itL (l.getD i default) (cm l i) ++ more)).r ≤ 16 ∧ (rd (itL (l.getD i default) (cm l i) ++ more)).z ≤ 40 := by
  have hok := okAt_it h
  obtain ⟨hc1, hc2⟩ := cm_ahead l i
  have hcs := cm_le l i
  have hk := okIt_key hok
  have hs := okIt_seq hok
  have hd := okIt_kind hok
  have hr := rd_eq hok hcs more
  generalize l.getD i default = x at *
  generalize cm l i = c at *
  generalize ahead l i = key at *
  have hN : (varL c).length + (varL (x.k.size - c)).length + (varL (2 * x.n + x.d).toNat).length + (varL x.v.size).length + (x.k.size - c) + x.v.size = (itL x c).length := by
    simp only [itL, List.length_append, List.length_drop, bl_len]
  have e : itL x c ++ more = (varL c ++ varL (x.k.size - c) ++ varL (2 * x.n + x.d).toNat ++ varL x.v.size) ++ ((bl x.k).drop c ++ (bl x.v ++ more)) := by simp [itL]
  have eA : (varL c ++ varL (x.k.size - c) ++ varL (2 * x.n + x.d).toNat ++ varL x.v.size).length = (varL c).length + (varL (x.k.size - c)).length + (varL (2 * x.n + x.d).toNat).length + (varL x.v.size).length := by simp only [List.length_append]
  refine ⟨?_, ?_, ?_, ?_, ?_⟩
  · unfold rdOk
    rw [hr]
    simp only [Bool.true_and, Bool.and_eq_true, decide_eq_true_eq, List.length_append]
    omega
  · unfold rdIt
    rw [hr]
    obtain ⟨m1, m2⟩ := mod_div hs.1 hd.1
    simp only [m1, m2]
    rw [← eA, e, List.drop_left, ← List.drop_drop, List.drop_left, List.take_left' (by simp [bl_len]), hc2, List.take_append_drop, List.drop_left' (by simp [bl_len]), List.take_left' (bl_len x.v)]
    rfl
  · unfold rdN
    rw [hr]
    exact hN
  · rw [hr]; show x.k.size - c ≤ 16; omega
  · rw [hr]; exact hd.2

theorem its_pre (l : List It) (i : Nat) : ∀ j, ∃ t, itsL l (i + j) = itsL l i ++ t := by
  intro j
  induction j with
  | zero => exact ⟨[], by simp⟩
  | succ j ih =>
    obtain ⟨t, ht⟩ := ih
    exact ⟨t ++ itL (l.getD (i + j) default) (cm l (i + j)), by rw [show i + (j + 1) = (i + j) + 1 from by omega, itsL, ht, List.append_assoc]⟩
/-- What is left of the items' bytes from the item at i on. -/
def restL (l : List It) (i : Nat) : List UInt8 := (itsL l l.length).drop (itsL l i).length
theorem rest_zero (l : List It) : restL l 0 = itsL l l.length := by simp [restL, itsL]
theorem rest_step (l : List It) (i : Nat) (hi : i < l.length) : restL l i = itL (l.getD i default) (cm l i) ++ restL l (i + 1) := by
  obtain ⟨t, ht⟩ := its_pre l (i + 1) (l.length - (i + 1))
  rw [show i + 1 + (l.length - (i + 1)) = l.length from by omega] at ht
  have h1 : restL l (i + 1) = t := by unfold restL; rw [ht, List.drop_left]
  rw [h1]
  unfold restL
  rw [ht, itsL, List.append_assoc, List.drop_left]
theorem rest_end (l : List It) : restL l l.length = [] := by simp [restL]
theorem itL_ne (x : It) (c : Nat) : itL x c ≠ [] := by
  intro h
  have := congrArg List.length h
  have h1 := varL_pos c
  simp only [itL, List.length_append, List.length_nil] at this
  omega
theorem rest_nil {l : List It} {i : Nat} (hi : i ≤ l.length) (h : restL l i = []) : i = l.length := by
  rcases Nat.lt_or_ge i l.length with h1 | h1
  · rw [rest_step l i h1] at h
    exact absurd (List.append_eq_nil_iff.1 h).1 (itL_ne _ _)
  · omega
/-- Reading all of them. -/
def rdAll : Nat → List UInt8 → List UInt8 → List It
  | 0, _, _ => []
  | f + 1, s, key => if s = [] then [] else rdIt s key :: rdAll f (s.drop (rdN s)) (bl (rdIt s key).k)
theorem ahead_succ (l : List It) (i : Nat) : ahead l (i + 1) = bl (l.getD i default).k := by simp [ahead]
theorem rdAll_rest {l : List It} (h : goodR l = true) : ∀ (f i : Nat), i ≤ l.length → l.length - i < f → rdAll f (restL l i) (ahead l i) = l.drop i := by
  intro f
  induction f with
  | zero => intro i hi hf; omega
  | succ f ih =>
    intro i hi hf
    rcases Nat.lt_or_ge i l.length with h1 | h1
    · have hne : restL l i ≠ [] := fun e => by have := rest_nil hi e; omega
      obtain ⟨b1, b2, b3, _⟩ := rd_back (goodR_at h h1) (restL l (i + 1))
      rw [rdAll, if_neg hne]
      rw [← rest_step l i h1] at b1 b2 b3
      rw [b2, b3, List.drop_eq_getElem_cons h1]
      have e : (restL l i).drop (itL (l.getD i default) (cm l i)).length = restL l (i + 1) := by rw [rest_step l i h1, List.drop_left]
      rw [e, ← ahead_succ, ih (i + 1) (by omega) (by omega)]
      simp [List.getD_eq_getElem?_getD, List.getElem?_eq_getElem h1]
    · obtain rfl : i = l.length := by omega
      rw [rest_end, rdAll]
      simp

/-- The number in two bytes at i. -/
def lo2 (s : List UInt8) (i : Nat) : Nat := (s.getD i 0).toNat + 256 * (s.getD (i + 1) 0).toNat
theorem lo2_lt (s : List UInt8) (i : Nat) : lo2 s i < 65536 := by
  have h1 := (s.getD i 0).toNat_lt
  have h2 := (s.getD (i + 1) 0).toNat_lt
  unfold lo2; omega
theorem lo2_two (p q : List UInt8) (n : Nat) (hn : n < 65536) : lo2 (p ++ twoL n ++ q) p.length = n := by
  unfold lo2 twoL
  have e1 : (p ++ [UInt8.ofNat n, UInt8.ofNat (n / 256)] ++ q).getD p.length 0 = UInt8.ofNat n := by
    rw [List.getD_eq_getElem?_getD, List.append_assoc, List.getElem?_append_right (Nat.le_refl _), Nat.sub_self]
    rfl
  have e2 : (p ++ [UInt8.ofNat n, UInt8.ofNat (n / 256)] ++ q).getD (p.length + 1) 0 = UInt8.ofNat (n / 256) := by
    rw [List.getD_eq_getElem?_getD, List.append_assoc, List.getElem?_append_right (by omega), show p.length + 1 - p.length = 1 from by omega]
    rfl
  rw [e1, e2, UInt8.toNat_ofNat', UInt8.toNat_ofNat']
  omega
/-- Where the places begin; whether a text has so many. -/
def many (s : List UInt8) : Nat := lo2 s (s.length - 6)
def parts (s : List UInt8) : Bool := decide (6 ≤ s.length) && decide (2 * many s ≤ s.length - 6)
def fromN (s : List UInt8) : Nat := s.length - 6 - 2 * many s
theorem wordL_len (n : Nat) : (wordL n).length = 4 := rfl
theorem blk_len (l : List It) : (blkL l).length = (itsL l l.length).length + (plL l l.length).length + 6 := by
  simp only [blkL, bodyL, List.length_append, twoL_len, wordL_len]
theorem blk_many {l : List It} (hl : l.length ≤ 1000) : many (blkL l) = (plL l l.length).length / 2 := by
  unfold many
  rw [blk_len, show (itsL l l.length).length + (plL l l.length).length + 6 - 6 = (itsL l l.length ++ plL l l.length).length from by rw [List.length_append]; omega]
  unfold blkL bodyL
  exact lo2_two _ _ _ (by rw [plL_len]; omega)
theorem blk_parts {l : List It} (hl : l.length ≤ 1000) : parts (blkL l) = true ∧ fromN (blkL l) = (itsL l l.length).length := by
  have h1 := blk_many hl
  have h2 := blk_len l
  have h3 := plL_len l l.length
  unfold parts fromN
  rw [h1, h2]
  simp only [Bool.and_eq_true, decide_eq_true_eq]
  omega
theorem blk_items (l : List It) : (blkL l).take (itsL l l.length).length = itsL l l.length := by
  unfold blkL bodyL
  rw [List.append_assoc, List.append_assoc, List.take_left]
theorem blk_sum (l : List It) : (blkL l).take ((blkL l).length - 4) = bodyL l ∧ (blkL l).drop ((blkL l).length - 4) = wordL (csum (bodyL l)) := by
  have h : (blkL l).length - 4 = (bodyL l).length := by simp [blkL, wordL_len]
  rw [h]
  exact ⟨by unfold blkL; rw [List.take_left], by unfold blkL; rw [List.drop_left]⟩
/-- One block, one run. -/
theorem blk_inj {l m : List It} (hl : goodR l = true) (hm : goodR m = true) (h1 : l.length ≤ 40) (h2 : m.length ≤ 40) (h : blkL l = blkL m) : l = m := by
  have e1 := (blk_parts (l := l) (by omega)).2
  have e2 := (blk_parts (l := m) (by omega)).2
  have e3 : itsL l l.length = itsL m m.length := by
    rw [← blk_items l, ← blk_items m, ← e1, ← e2, h]
  have r1 := rdAll_rest hl 41 0 (by omega) (by omega)
  have r2 := rdAll_rest hm 41 0 (by omega) (by omega)
  rw [rest_zero] at r1 r2
  rw [e3] at r1
  have e4 : ahead l 0 = ahead m 0 := rfl
  rw [e4] at r1
  rw [r2] at r1
  simpa using r1.symm
/-- What ReadBlock answers. -/
def RdRes (s : List UInt8) (l : List It) (ok : Bool) : Prop :=
  (ok = true ∧ goodR l = true ∧ l.length ≤ 40 ∧ blkL l = s) ∨ (ok = false ∧ l = [] ∧ ∀ m, goodR m = true → m.length ≤ 40 → blkL m ≠ s)
theorem RdRes.same {s : List UInt8} {l m : List It} {a b : Bool} (h : RdRes s l a) (h' : RdRes s m b) : l = m ∧ a = b := by
  rcases h with ⟨rfl, g, n, e⟩ | ⟨rfl, rfl, h⟩ <;> rcases h' with ⟨rfl, g', n', e'⟩ | ⟨rfl, rfl, h'⟩
  · exact ⟨blk_inj g g' n n' (e.trans e'.symm), rfl⟩
  · exact absurd e (h' _ g n)
  · exact absurd e' (h _ g' n')
  · exact ⟨rfl, rfl⟩
end Go.Proofs.YtfdaffnkgpdhhaaGreat

