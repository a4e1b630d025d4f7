/-
  strconv.Itoa and bits.TrailingZeros32, laid at this program; how high a tower is, plainly.
-/
import Derived.Test.YtdaldkcildbcmaaDoorS2
import Derived.Test.YtdaldkcildbcmaaDoorI1
import Derived.Shelf.Strconv.Itoa3
import Derived.Shelf.Spec.TrailingZeros
import Derived.Shelf.Lay
import Derived.Ground.NamesProg
import Derived.Ground.Names7Prog
namespace Go.Proofs
open Go.Shelf Go.RowKit Go.Lib Go.Sort
shelf_lay LaysM.n171 Nm 171 at Tryd as Tryd.laysItoa
shelf_lay Lays7.n28 Nm7 28 at Tryd as Tryd.laysTz
namespace YtdaldkcildbcmaaDoor
set_option linter.unusedVariables false
set_option maxRecDepth 100000

/-- How many pairs of bits from the lowest on are 0, at most f. -/
def twL : Nat → Nat → Nat
  | 0, _ => 0
  | f + 1, h => if h % 4 = 0 then 1 + twL f (h / 4) else 0
theorem twL_zero (f : Nat) : twL f 0 = f := by
  induction f with
  | zero => rfl
  | succ f ih =>
    show (if 0 % 4 = 0 then 1 + twL f (0 / 4) else 0) = f + 1
    rw [if_pos rfl]
    show 1 + twL f 0 = f + 1
    rw [ih]; omega
theorem twL_pow (f k m : Nat) : twL f (2 ^ k * (2 * m + 1)) = min f (k / 2) := by
  induction f generalizing k with
  | zero => simp [twL]
  | succ f ih =>
    simp only [twL]
    by_cases hk : 2 ≤ k
    · obtain ⟨j, rfl⟩ : ∃ j, k = j + 2 := ⟨k - 2, by omega⟩
      have e : 2 ^ (j + 2) * (2 * m + 1) = 4 * (2 ^ j * (2 * m + 1)) := by rw [Nat.pow_add, show (2 : Nat) ^ 2 = 4 from rfl, Nat.mul_comm (2 ^ j) 4, Nat.mul_assoc]
      rw [e, if_pos (by omega), show 4 * (2 ^ j * (2 * m + 1)) / 4 = 2 ^ j * (2 * m + 1) from by omega, ih]
      omega
    · obtain rfl | rfl : k = 0 ∨ k = 1 := by omega
      · rw [Nat.pow_zero, Nat.one_mul, if_neg (by omega)]; omega
      · rw [Nat.pow_one, if_neg (by omega)]; omega
theorem tower_eq (h : Nat) (hh : h < 4294967296) : min (1 + Lib.ctz 32 h / 2) 5 = 1 + twL 4 h := by
  unfold Lib.ctz
  by_cases h0 : h = 0
  · subst h0; rw [if_pos rfl, twL_zero]; omega
  · rw [if_neg h0]
    obtain ⟨m, hm, _⟩ := Lib.ctzFrom_spec 32 h (by omega) (by omega)
    generalize Lib.ctzFrom 32 h = k at *
    rw [hm, twL_pow]; omega
theorem itoa_any (n : Int) (h0 : 0 ≤ n) (h1 : n ≤ 1000000000) (w : World) (htab : Lib.TabIs Tryd.prog w "internal/strconv.uint64pow10" .u64 Lib.pow10Tab) :
    Calls Tryd.prog 60 #[.int .i64 n] w fun e w' => e = .returned (.string ⟨(Lib.decDigits n.toNat).toArray⟩) ∧ Below w.heap.size w w' := by
  refine (Any.strconv_Itoa Tryd.laysItoa n (by omega) (by omega) w htab).mono ?_
  rintro e w' ⟨rfl, k, os, rfl⟩
  refine ⟨?_, ?_⟩
  · unfold Lib.itoa; rw [if_neg (by omega)]
  · exact ⟨rfl, rfl, rfl, by simp [grow], fun i hi => by simp only [grow]; exact Array.getElem?_append_left hi⟩
theorem tz_any (x : Nat) (hx : x < 4294967296) (w : World) (hT : TabAt (Tryd.laysTz_ren.g 0) Lib.deBruijn32tab w) :
    Calls Tryd.prog 58 #[.int .u32 x] w fun e w' => e = .returned (.int .i64 (Lib.ctz 32 x)) ∧ w' = w :=
  Any7.bits_TrailingZeros32 Tryd.laysTz x hx w (fun _ => hT)
end YtdaldkcildbcmaaDoor
end Go.Proofs
