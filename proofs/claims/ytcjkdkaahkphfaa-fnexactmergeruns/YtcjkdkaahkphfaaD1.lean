/-
  The cursor that draws: next, pick, wide, text, among, of. What is drawn is some value in its range; nothing but the cursor is written into.
-/
import Derived.Test.YtcjkdkaahkphfaaV1
import Derived.Test.YtcjkdkaahkphfaaE
import Derived.Deep.QuietTactic
import Derived.BigQuiet
namespace Go.Proofs.Ytcjkdkaahkphfaa
open Go.RowKit
set_option maxRecDepth 100000
set_option linter.unusedVariables false

/-- The value v is a slice whose elements are the bytes l, in a block ahead of b. -/
def BL (w : World) (b : Nat) (v : Value) (l : List UInt8) : Prop :=
  ∃ a cap, v = .slice a l.length cap ∧ (l ≠ [] → ∃ cb off, a = some ⟨cb, off, none⟩ ∧ cb < w.heap.size ∧ cb < b ∧ ∀ i (h : i < l.length), w.cell? ⟨cb, off + i, none⟩ = some (.int .u8 (l[i].toNat : Int)))
/-- Block b holds a cursor over the bytes l; it has gone K bytes at most. -/
def Cur (w : World) (b : Nat) (l : List UInt8) (K : Nat) : Prop :=
  ∃ (v : Value) (k sd : Nat), Box w b [v, .int .i64 k, .int .u64 sd] ∧ k ≤ K ∧ sd < 18446744073709551616 ∧ BL w b v l
theorem Box.c3 {w : World} {b : Nat} {v0 v1 v2 : Value} (h : Box w b [v0, v1, v2]) : b < w.heap.size ∧ w.cell? ⟨b, 0, none⟩ = some v0 ∧ w.cell? ⟨b, 1, none⟩ = some v1 ∧ w.cell? ⟨b, 2, none⟩ = some v2 :=
  ⟨h.1, h.2.1 0 _ rfl, h.2.1 1 _ rfl, h.2.1 2 _ rfl⟩

theorem wrap_u64 (n : Int) : IntKind.u64.wrap n = n % 18446744073709551616 := by simp [IntKind.wrap, IntKind.bits, IntKind.signed]
theorem Chg.cell {S : Nat → Prop} {w w' : World} (h : Chg S w w') {p : Addr} (hp : p.block < w.heap.size) (hs : ¬ S p.block) : w'.cell? p = w.cell? p := by
  unfold World.cell?
  rw [h.block p.block hp hs]
theorem BL.chg {w w' : World} {b : Nat} {v : Value} {l : List UInt8} (h : BL w b v l) (hc : Chg (· = b) w w') : BL w' b v l := by
  obtain ⟨a, cap, rfl, h⟩ := h
  refine ⟨a, cap, rfl, fun hl => ?_⟩
  obtain ⟨cb, off, ha, hcb, hne, hcell⟩ := h hl
  exact ⟨cb, off, ha, Nat.lt_of_lt_of_le hcb hc.size, hne, fun i hi => (hc.cell (p := ⟨cb, off + i, none⟩) hcb (Nat.ne_of_lt hne)).trans (hcell i hi)⟩
theorem cur_after {w : World} {b : Nat} {v : Value} {k sd K : Nat} {l : List UInt8} (X : Box w b [v, .int .i64 k, .int .u64 sd]) (hk : k ≤ K) (hb : BL w b v l) (n1 n2 : Nat) (z : Int) (h0 : 0 ≤ z) (h1 : z < 18446744073709551616) :
    Cur ((((w.drewN n1).setCell ⟨b, 1, none⟩ (.int .i64 ((k : Int) + 1))).setCell ⟨b, 2, none⟩ (.int .u64 z)).drewN n2) b l (K + 1) ∧ Chg (· = b) w ((((w.drewN n1).setCell ⟨b, 1, none⟩ (.int .i64 ((k : Int) + 1))).setCell ⟨b, 2, none⟩ (.int .u64 z)).drewN n2) := by
  have c1 : Chg (· = b) w (w.drewN n1) := Chg.of_below (below_drewN (Below.refl _ _) n1)
  have c2 := (c1.setCell (p := ⟨b, 1, none⟩) rfl (.int .i64 ((k : Int) + 1))).setCell (p := ⟨b, 2, none⟩) rfl (.int .u64 z)
  have c3 := c2.trans (Chg.of_below (S := (· = b)) (below_drewN (Below.refl _ ((((w.drewN n1).setCell ⟨b, 1, none⟩ (.int .i64 ((k : Int) + 1))).setCell ⟨b, 2, none⟩ (.int .u64 z)))) n2))
  obtain ⟨m, rfl⟩ := Int.eq_ofNat_of_zero_le h0
  have x1 := X.below (below_drewN (Below.refl _ _) n1)
  have x2 := (x1.set 1 (.int .i64 ((k + 1 : Nat) : Int)) (by simp)).set 2 (.int .u64 (m : Int)) (by simp)
  have x3 := x2.below (below_drewN (Below.refl _ _) n2)
  exact ⟨⟨v, k + 1, m, x3, by omega, by omega, hb.chg c3⟩, c3⟩
theorem and255 (z : Int) (h0 : 0 ≤ z) (h1 : z < 18446744073709551616) : ∃ x : Nat, bits BinOp.and IntKind.u64 z 255 = (x : Int) ∧ x ≤ 255 := by
  obtain ⟨m, rfl⟩ := Int.eq_ofNat_of_zero_le h0
  have := u64_and_nat m 255 (by omega) (by omega)
  rw [nat_mask8] at this
  exact ⟨m % 256, this, by omega⟩

theorem Cur.chg {w w' : World} {b : Nat} {l : List UInt8} {K : Nat} (h : Cur w b l K) (hc : Below w.heap.size w w') : Cur w' b l K := by
  obtain ⟨v, k, sd, X, hk, hs, hb⟩ := h
  exact ⟨v, k, sd, X.below hc, hk, hs, hb.chg (Chg.of_below hc)⟩
theorem Cur.mono {w : World} {b : Nat} {l : List UInt8} {K K' : Nat} (h : Cur w b l K) (hk : K ≤ K') : Cur w b l K' := by
  obtain ⟨v, k, sd, X, h1, h2, h3⟩ := h
  exact ⟨v, k, sd, X, by omega, h2, h3⟩
theorem Cur.lt {w : World} {b : Nat} {l : List UInt8} {K : Nat} (h : Cur w b l K) : b < w.heap.size := by
  obtain ⟨v, k, sd, X, _⟩ := h
  exact X.1

theorem bits_i64 (op : BinOp) (a c : Int) : -9223372036854775808 ≤ bits op .i64 a c ∧ bits op .i64 a c ≤ 9223372036854775807 := by
  have h : ∀ z : Int, -9223372036854775808 ≤ IntKind.i64.wrap z ∧ IntKind.i64.wrap z ≤ 9223372036854775807 := fun z => by rw [IntKind.wrap_i64]; omega
  unfold bits
  exact h _
theorem madeB (n : Nat) : (madeCells (Value.int .u8 0).cells (n * 1)).toList = bcs (List.replicate n 0) := by
  have h : (Value.int .u8 0).cells = #[.int .u8 0] := rfl
  rw [h]
  apply List.ext_getElem?
  intro i
  by_cases hi : i < n
  · simp [madeCells, hi, Nat.mod_one, bcs]
  · rw [List.getElem?_eq_none (by simp [madeCells]; omega), List.getElem?_eq_none (by simp [bcs]; omega)]
theorem bcs_set (m : List UInt8) (j x : Nat) (hx : x < 256) : (bcs m).set j (.int .u8 (x : Int)) = bcs (m.set j (UInt8.ofNat x)) := by
  unfold bcs
  rw [List.map_set, UInt8.toNat_ofNat', Nat.mod_eq_of_lt (by omega)]
theorem cur_set {w : World} {b : Nat} {l : List UInt8} {K K' : Nat} (h : Cur w b l K) (hk : K ≤ K') (p : Addr) (hp : b < p.block) (u : Value) : Cur (w.setCell p u) b l K' := by
  obtain ⟨v, k, sd, X, h1, h2, a, cap, rfl, hc⟩ := h
  refine ⟨_, k, sd, X.setOther p u (by omega), by omega, h2, a, cap, rfl, fun hl => ?_⟩
  obtain ⟨cb, off, ha, hcb, hne, hcell⟩ := hc hl
  refine ⟨cb, off, ha, by simpa using hcb, hne, fun i hi => ?_⟩
  rw [World.cell?_setCell_other _ _ _ _ (by intro e; rw [e] at hp; simp at hp; omega)]
  exact hcell i hi
theorem chg_new {S : Nat → Prop} {w w1 : World} (h : Chg S w w1) (p : Addr) (hp : w.heap.size ≤ p.block) (u : Value) : Chg S w (w1.setCell p u) :=
  ⟨h.os, h.tape, h.output, by simpa using h.size, fun k hk hs => (Below.heap_setCell w1 p u k (fun e => by omega)).trans (h.block k hk hs)⟩

end Go.Proofs.Ytcjkdkaahkphfaa
