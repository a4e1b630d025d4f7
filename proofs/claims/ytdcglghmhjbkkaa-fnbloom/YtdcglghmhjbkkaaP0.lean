/-
  Filters, plainly: places, rows of bits.
-/
import Derived.Test.YtdcglghmhjbkkaaF2
namespace Go.Proofs.Ytdcglghmhjbkkaa
set_option linter.unusedVariables false

/-- The places out of two sums. -/
def plA (a b : Nat) : Nat → List Nat
  | 0 => []
  | h + 1 => a % 256 :: plA ((a + b) % 4294967296) b h
theorem plA_length (b : Nat) : ∀ (h a : Nat), (plA a b h).length = h := by
  intro h; induction h with
  | zero => intro a; rfl
  | succ h ih => intro a; simp [plA, ih]
theorem plA_lt (b : Nat) : ∀ (h a : Nat), ∀ x ∈ plA a b h, x < 256 := by
  intro h; induction h with
  | zero => intro a x hx; simp [plA] at hx
  | succ h ih =>
    intro a x hx
    simp only [plA, List.mem_cons] at hx
    rcases hx with rfl | hx
    · exact Nat.mod_lt _ (by omega)
    · exact ih _ x hx
/-- The sum behind k steps. -/
def goA (a b : Nat) (k : Nat) : Nat := (a + k * b) % 4294967296
theorem goA_zero (a b : Nat) (h : a < 4294967296) : goA a b 0 = a := by unfold goA; rw [Nat.zero_mul, Nat.add_zero, Nat.mod_eq_of_lt h]
theorem goA_succ (a b k : Nat) : (goA a b k + b) % 4294967296 = goA a b (k + 1) := by
  unfold goA; rw [Nat.mod_add_mod, Nat.succ_mul]; congr 1; omega
theorem goA_lt (a b k : Nat) : goA a b k < 4294967296 := Nat.mod_lt _ (by omega)
theorem plA_at (b : Nat) : ∀ (h a k : Nat) (hk : k < (plA a b h).length), a < 4294967296 → (plA a b h)[k] = goA a b k % 256 := by
  intro h; induction h with
  | zero => intro a k hk _; simp [plA] at hk
  | succ h ih =>
    intro a k hk ha
    cases k with
    | zero => simp [plA, goA_zero a b ha]
    | succ k =>
      simp only [plA, List.getElem_cons_succ]
      rw [ih _ k (by simpa [plA] using hk) (Nat.mod_lt _ (by omega))]
      have : goA ((a + b) % 4294967296) b k = goA a b (k + 1) := by
        unfold goA; rw [Nat.mod_add_mod, Nat.succ_mul]; congr 1; omega
      rw [this]
/-- What PlacesOf tells of a key and so many hashes. -/
def plK (s : ByteArray) (h : Nat) : List Nat := plA (csum s.data.toList) (con 0 s.data.toList ||| 1) h
theorem plK_length (s : ByteArray) (h : Nat) : (plK s h).length = h := plA_length _ _ _
theorem plK_lt (s : ByteArray) (h : Nat) : ∀ x ∈ plK s h, x < 256 := plA_lt _ _ _
theorem odd_lt (s : ByteArray) : con 0 s.data.toList ||| 1 < 4294967296 :=
  Nat.or_lt_two_pow (n := 32) (con_lt _ _ (by omega)) (by omega)
theorem plK_at (s : ByteArray) (h k : Nat) (hk : k < h) : (plK s h)[k]'(by rw [plK_length]; exact hk) = goA (csum s.data.toList) (con 0 s.data.toList ||| 1) k % 256 :=
  plA_at _ _ _ _ _ (csum_lt _)

/-- A bit set in a row; several. -/
def setB (l : List UInt8) (p : Nat) : List UInt8 := l.set (p / 8) (l.getD (p / 8) 0 ||| UInt8.ofNat (2 ^ (p % 8)))
def setBs (l : List UInt8) (ps : List Nat) : List UInt8 := ps.foldl setB l
theorem setB_length (l : List UInt8) (p : Nat) : (setB l p).length = l.length := by simp [setB]
theorem setBs_length (l : List UInt8) (ps : List Nat) : (setBs l ps).length = l.length := by
  induction ps generalizing l with
  | nil => rfl
  | cons p ps ih => simp only [setBs, List.foldl_cons] at *; rw [ih, setB_length]
theorem setBs_take_succ (l : List UInt8) (ps : List Nat) (k : Nat) (h : k < ps.length) : setBs l (ps.take (k + 1)) = setB (setBs l (ps.take k)) ps[k] := by
  unfold setBs; rw [List.take_succ_eq_append_getElem h, List.foldl_append]; rfl
/-- A bit that is set. -/
def hasB (l : List UInt8) (p : Nat) : Bool := decide ((l.getD (p / 8) 0).toNat / 2 ^ (p % 8) % 2 = 1)
def hasBs (l : List UInt8) (ps : List Nat) : Bool := ps.all (hasB l)

theorem or_u8 (c d : UInt8) : (c ||| d).toNat = c.toNat ||| d.toNat := UInt8.toNat_or c d
theorem bit_of (c : UInt8) (i : Nat) : decide (c.toNat / 2 ^ i % 2 = 1) = c.toNat.testBit i := by
  rw [Nat.testBit_eq_decide_div_mod_eq]
theorem pow_u8 (i : Nat) (h : i < 8) : (UInt8.ofNat (2 ^ i)).toNat = 2 ^ i := by
  rw [UInt8.toNat_ofNat']
  exact Nat.mod_eq_of_lt (Nat.pow_lt_pow_right (by omega) h)
/-- A bit that is set once more changes nothing, and only then. -/
theorem or_same (c : UInt8) (i : Nat) (h : i < 8) : (c ||| UInt8.ofNat (2 ^ i)) = c ↔ c.toNat / 2 ^ i % 2 = 1 := by
  have hb := bit_of c i
  constructor
  · intro e
    have e1 := congrArg UInt8.toNat e
    rw [or_u8, pow_u8 i h] at e1
    have e2 := congrArg (Nat.testBit · i) e1
    simp only [Nat.testBit_or, Nat.testBit_two_pow_self, Bool.or_true] at e2
    rw [← e2] at hb
    exact of_decide_eq_true hb
  · intro e
    apply UInt8.toNat_inj.1
    rw [or_u8, pow_u8 i h]
    apply Nat.eq_of_testBit_eq
    intro j
    rw [Nat.testBit_or, Nat.testBit_two_pow]
    by_cases hj : i = j
    · subst hj
      rw [decide_eq_true e] at hb
      simp [← hb]
    · simp [hj]
theorem setB_same (l : List UInt8) (p : Nat) (h : p / 8 < l.length) : setB l p = l ↔ hasB l p = true := by
  unfold setB hasB
  rw [decide_eq_true_iff]
  have hg : l.getD (p / 8) 0 = l[p / 8] := by simp [h]
  rw [hg, ← or_same _ _ (Nat.mod_lt _ (by omega))]
  constructor
  · intro e
    have e1 : (l.set (p / 8) (l[p / 8] ||| UInt8.ofNat (2 ^ (p % 8))))[p / 8]'(by simpa using h) = l[p / 8] := by simp [e]
    rwa [List.getElem_set_self] at e1
  · intro e
    rw [e, List.set_getElem_self]
/-- What is set stays set. -/
theorem hasB_set (l : List UInt8) (p q : Nat) (h : p / 8 < l.length) (hq : hasB l q = true) : hasB (setB l p) q = true := by
  unfold hasB at *
  rw [decide_eq_true_iff] at *
  unfold setB
  by_cases hpq : p / 8 = q / 8
  · have e1 : (l.set (p / 8) (l.getD (p / 8) 0 ||| UInt8.ofNat (2 ^ (p % 8)))).getD (q / 8) 0 = l.getD (p / 8) 0 ||| UInt8.ofNat (2 ^ (p % 8)) := by
      rw [← hpq]; simp [h]
    rw [e1]
    rw [← hpq] at hq
    have hb := bit_of (l.getD (p / 8) 0) (q % 8)
    rw [decide_eq_true hq] at hb
    have hb2 := bit_of (l.getD (p / 8) 0 ||| UInt8.ofNat (2 ^ (p % 8))) (q % 8)
    rw [or_u8, Nat.testBit_or, ← hb, Bool.true_or] at hb2
    rw [or_u8]
    exact of_decide_eq_true hb2
  · have e1 : (l.set (p / 8) (l.getD (p / 8) 0 ||| UInt8.ofNat (2 ^ (p % 8)))).getD (q / 8) 0 = l.getD (q / 8) 0 := by
      simp [List.getElem?_set_ne hpq]
    rw [e1]; exact hq
theorem hasB_self (l : List UInt8) (p : Nat) (h : p / 8 < l.length) : hasB (setB l p) p = true := by
  rw [← setB_same _ _ (by rw [setB_length]; exact h)]
  unfold setB
  have e1 : (l.set (p / 8) (l.getD (p / 8) 0 ||| UInt8.ofNat (2 ^ (p % 8)))).getD (p / 8) 0 = l.getD (p / 8) 0 ||| UInt8.ofNat (2 ^ (p % 8)) := by simp [h]
  rw [e1, List.set_set, UInt8.or_assoc, UInt8.or_self]
theorem hasB_setBs (l : List UInt8) (ps : List Nat) (q : Nat) (h : ∀ p ∈ ps, p / 8 < l.length) (hq : hasB l q = true) : hasB (setBs l ps) q = true := by
  induction ps generalizing l with
  | nil => exact hq
  | cons p ps ih =>
    simp only [setBs, List.foldl_cons] at *
    exact ih _ (fun x hx => by rw [setB_length]; exact h x (List.mem_cons_of_mem _ hx)) (hasB_set l p q (h p (List.mem_cons_self ..)) hq)
/-- All are set just where setting them once more leaves the row as it is. -/
theorem setBs_same (l : List UInt8) (ps : List Nat) (h : ∀ p ∈ ps, p / 8 < l.length) : setBs l ps = l ↔ hasBs l ps = true := by
  induction ps generalizing l with
  | nil => simp [setBs, hasBs]
  | cons p ps ih =>
    have hp := h p (List.mem_cons_self ..)
    have ht : ∀ p ∈ ps, p / 8 < l.length := fun x hx => h x (List.mem_cons_of_mem _ hx)
    constructor
    · intro e
      have h1 : hasB l p = true := by
        have := hasB_setBs (setB l p) ps p (fun x hx => by rw [setB_length]; exact ht x hx) (hasB_self l p hp)
        simp only [setBs, List.foldl_cons] at e this
        rwa [e] at this
      have e2 := (setB_same l p hp).2 h1
      simp only [setBs, List.foldl_cons] at e
      rw [e2] at e
      simp only [hasBs, List.all_cons, h1, Bool.true_and]
      exact (ih l ht).1 e
    · intro e
      simp only [hasBs, List.all_cons, Bool.and_eq_true] at e
      simp only [setBs, List.foldl_cons]
      rw [(setB_same l p hp).2 e.1]
      exact (ih l ht).2 e.2
end Go.Proofs.Ytdcglghmhjbkkaa
