/-
  The sum is linear, and no burst of up to 32 bits goes unseen (Peterson and Brown): plain facts, no program.
-/
import Derived.Test.YtocaigffikdlhaaAToB
namespace Go.Proofs.Ytocaigffikdlhaa
open Go.RowKit

theorem cb_xor (x y : Nat) : cb (x ^^^ y) = cb x ^^^ cb y := by
  have hd : (x ^^^ y) / 2 = x / 2 ^^^ y / 2 := by
    have := Nat.xor_div_two_pow (a := x) (b := y) (n := 1); simpa using this
  have hm : (x ^^^ y) % 2 = (x % 2 ^^^ y % 2) := by
    have := Nat.xor_mod_two_pow (a := x) (b := y) (n := 1); simpa using this
  unfold cb
  rw [hd, hm]
  rcases Nat.mod_two_eq_zero_or_one x with hx | hx <;> rcases Nat.mod_two_eq_zero_or_one y with hy | hy <;> rw [hx, hy]
  · simp
  · simp [Nat.xor_assoc]
  · simp only [Nat.xor_zero, if_true, if_neg (show ¬ ((0 : Nat) = 1) from by decide)]
    rw [Nat.xor_assoc, Nat.xor_assoc, Nat.xor_comm (y / 2)]
  · rw [if_neg (by decide), if_pos rfl, if_pos rfl]
    rw [Nat.xor_assoc, Nat.xor_comm 2197175160 (y / 2 ^^^ 2197175160), Nat.xor_assoc (y / 2), Nat.xor_self, Nat.xor_zero]
theorem cbs_xor (k x y : Nat) : cbs k (x ^^^ y) = cbs k x ^^^ cbs k y := by
  induction k generalizing x y with
  | zero => rfl
  | succ k ih => show cbs k (cb (x ^^^ y)) = _; rw [cb_xor, ih]; rfl
theorem cbs_shift (k z : Nat) : cbs k (2 ^ k * z) = z := by
  induction k generalizing z with
  | zero => simp [cbs]
  | succ k ih =>
    show cbs k (cb (2 ^ (k + 1) * z)) = z
    have : cb (2 ^ (k + 1) * z) = 2 ^ k * z := by
      unfold cb
      have e : 2 ^ (k + 1) * z = 2 * (2 ^ k * z) := by rw [Nat.pow_succ, Nat.mul_comm (2 ^ k) 2, Nat.mul_assoc]
      rw [e, if_neg (by omega)]; omega
    rw [this, ih]
theorem cbs_add (j k x : Nat) : cbs (j + k) x = cbs k (cbs j x) := by
  induction j generalizing x with
  | zero => simp [cbs]
  | succ j ih => rw [show j + 1 + k = (j + k) + 1 from by omega]; exact ih (cb x)
/-- A number in two parts. -/
theorem split256 (x : Nat) : x = (x % 256) ^^^ (256 * (x / 256)) := by
  have h := Nat.xor_mod_two_pow (a := x % 256) (b := 256 * (x / 256)) (n := 8)
  have h2 := Nat.xor_div_two_pow (a := x % 256) (b := 256 * (x / 256)) (n := 8)
  simp only [show (2 : Nat) ^ 8 = 256 from rfl, Nat.mod_mod, Nat.mul_mod_right, Nat.xor_zero] at h
  simp only [show (2 : Nat) ^ 8 = 256 from rfl] at h2
  rw [show x % 256 / 256 = 0 from by omega, show 256 * (x / 256) / 256 = x / 256 from by omega, Nat.zero_xor] at h2
  omega
theorem cstep_eq (s c : Nat) (hc : c < 256) : cstep s c = cbs 8 (s ^^^ c) := by
  have hd : (s ^^^ c) / 256 = s / 256 := by
    have := Nat.xor_div_two_pow (a := s) (b := c) (n := 8)
    simp only [show (2 : Nat) ^ 8 = 256 from rfl] at this
    rw [this, show c / 256 = 0 from by omega, Nat.xor_zero]
  have hm : (s ^^^ c) % 256 = (s % 256) ^^^ c := by
    have := Nat.xor_mod_two_pow (a := s) (b := c) (n := 8)
    simp only [show (2 : Nat) ^ 8 = 256 from rfl] at this
    rw [this, show c % 256 = c from by omega]
  rw [split256 (s ^^^ c), cbs_xor, hd, hm]
  have := cbs_shift 8 (s / 256)
  simp only [show (2 : Nat) ^ 8 = 256 from rfl] at this
  rw [this]; rfl
/-- Bytes as one number, the first the lowest. -/
def num : List UInt8 → Nat
  | [] => 0
  | c :: l => c.toNat ^^^ (256 * num l)
theorem con_num (l : List UInt8) : ∀ s, con s l = cbs (8 * l.length) (s ^^^ num l) := by
  induction l with
  | nil => intro s; simp [con, num, cbs]
  | cons c l ih =>
    intro s
    show con (cstep s c.toNat) l = _
    rw [ih, cstep_eq s _ c.toNat_lt, List.length_cons, show 8 * (l.length + 1) = 8 + 8 * l.length from by omega, cbs_add]
    congr 1
    show _ = cbs 8 (s ^^^ (c.toNat ^^^ (256 * num l)))
    rw [← Nat.xor_assoc, cbs_xor 8 (s ^^^ c.toNat)]
    have := cbs_shift 8 (num l)
    simp only [show (2 : Nat) ^ 8 = 256 from rfl] at this
    rw [this]
theorem cb_ne (x : Nat) (h : x < 4294967296) (hx : x ≠ 0) : cb x ≠ 0 := by
  unfold cb
  split
  · intro h0
    have : x / 2 = 2197175160 := by
      have := congrArg (· ^^^ 2197175160) h0
      simpa [Nat.xor_assoc] using this
    omega
  · omega
theorem cbs_ne (k x : Nat) (h : x < 4294967296) (hx : x ≠ 0) : cbs k x ≠ 0 := by
  induction k generalizing x with
  | zero => exact hx
  | succ k ih => exact ih _ (cb_lt x h) (cb_ne x h hx)
theorem xor_eq_zero {a b : Nat} (h : a ^^^ b = 0) : a = b := by
  have := congrArg (· ^^^ b) h
  simpa [Nat.xor_assoc] using this
/-- No burst of up to 32 bits goes unseen. -/
theorem burst (a b : List UInt8) (p x : Nat) (hl : a.length = b.length) (hn : num b = num a ^^^ (2 ^ p * x)) (hp : p ≤ 8 * a.length) (h : x < 4294967296) (hx : x ≠ 0) : csum b ≠ csum a := by
  intro he
  have ha := con_lt a 4294967295 (by omega)
  have hb := con_lt b 4294967295 (by omega)
  have hc : con 4294967295 b = con 4294967295 a := by unfold csum at he; omega
  rw [con_num, con_num, hn, ← Nat.xor_assoc, ← hl, cbs_xor (8 * a.length) (4294967295 ^^^ num a)] at hc
  have h0 : cbs (8 * a.length) (2 ^ p * x) = 0 := by
    have := congrArg (fun z => cbs (8 * a.length) (4294967295 ^^^ num a) ^^^ z) hc
    simpa [← Nat.xor_assoc] using this
  rw [show 8 * a.length = p + (8 * a.length - p) from by omega, cbs_add, cbs_shift] at h0
  exact cbs_ne _ x h hx h0
/-- A bit that is turned. -/
theorem num_set (l : List UInt8) : ∀ (i j : Nat) (c : UInt8) (h : i < l.length), c.toNat = l[i].toNat ^^^ 2 ^ j → num (l.set i c) = num l ^^^ 2 ^ (8 * i + j) := by
  induction l with
  | nil => intro i j c h; simp at h
  | cons d l ih =>
    intro i j c h hc
    cases i with
    | zero =>
      simp only [List.set_cons_zero, num, List.getElem_cons_zero] at hc ⊢
      rw [hc, Nat.mul_zero, Nat.zero_add, Nat.xor_assoc, Nat.xor_assoc, Nat.xor_comm (2 ^ j)]
    | succ i =>
      simp only [List.set_cons_succ, num, List.getElem_cons_succ] at hc ⊢
      rw [ih i j c (by simpa using h) hc, Nat.xor_assoc]
      congr 1
      have e : ∀ z : Nat, 256 * z = z <<< 8 := fun z => by rw [Nat.shiftLeft_eq]; omega
      rw [e, Nat.shiftLeft_xor_distrib, ← e, ← e]
      congr 1
      rw [show 8 * (i + 1) + j = 8 + (8 * i + j) from by omega, Nat.pow_add 2 8 (8 * i + j)]
/-- The sum of three texts of one length, byte by byte. -/
theorem num_xor3 : ∀ (x a b c : List UInt8), x.length = a.length → b.length = a.length → c.length = a.length → (∀ i (h : i < x.length) (ha : i < a.length) (hb : i < b.length) (hc : i < c.length), x[i].toNat = a[i].toNat ^^^ b[i].toNat ^^^ c[i].toNat) → num x = num a ^^^ num b ^^^ num c := by
  intro x
  induction x with
  | nil =>
    intro a b c h1 h2 h3 _
    obtain rfl : a = [] := List.length_eq_zero_iff.1 h1.symm
    obtain rfl : b = [] := List.length_eq_zero_iff.1 h2
    obtain rfl : c = [] := List.length_eq_zero_iff.1 h3
    simp [num]
  | cons x0 x ih =>
    intro a b c h1 h2 h3 hall
    match a, b, c, h1, h2, h3, hall with
    | a0 :: a, b0 :: b, c0 :: c, h1, h2, h3, hall =>
      have h0 := hall 0 (by simp) (by simp) (by simp) (by simp)
      simp only [List.getElem_cons_zero] at h0
      have hr := ih a b c (by simpa using h1) (by simpa using h2) (by simpa using h3) (fun i h ha hb hc => by
        have := hall (i + 1) (by simpa using h) (by simpa using ha) (by simpa using hb) (by simpa using hc)
        simpa using this)
      simp only [num]
      have e : ∀ z : Nat, 256 * z = z <<< 8 := fun z => by rw [Nat.shiftLeft_eq]; omega
      rw [h0, hr, e, e, e, e, Nat.shiftLeft_xor_distrib, Nat.shiftLeft_xor_distrib]
      ac_rfl
    | [], _, _, h1, _, _, _ => simp at h1
    | _ :: _, [], _, _, h2, _, _ => simp at h2
    | _ :: _, _ :: _, [], _, _, h3, _ => simp at h3
theorem con_xor3 (x a b c : List UInt8) (h1 : x.length = a.length) (h2 : b.length = a.length) (h3 : c.length = a.length) (hn : num x = num a ^^^ num b ^^^ num c) (s : Nat) : con s x = con s a ^^^ con s b ^^^ con s c := by
  rw [con_num, con_num, con_num, con_num, h1, h2, h3, hn, ← cbs_xor, ← cbs_xor]
  congr 1
  have : ∀ s A B C : Nat, s ^^^ (A ^^^ B ^^^ C) = s ^^^ A ^^^ (s ^^^ B) ^^^ (s ^^^ C) := by
    intro s A B C
    have e : s ^^^ A ^^^ (s ^^^ B) ^^^ (s ^^^ C) = (s ^^^ s) ^^^ (s ^^^ (A ^^^ B ^^^ C)) := by ac_rfl
    rw [e, Nat.xor_self, Nat.zero_xor]
  exact this _ _ _ _
end Go.Proofs.Ytocaigffikdlhaa
