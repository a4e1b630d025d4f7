/-
  Filters: OnesIn.
-/
import Derived.Test.YtdcglghmhjbkkaaR1
namespace Go.Proofs.Ytdcglghmhjbkkaa
open Go.RowKit
set_option linter.unusedVariables false
set_option maxRecDepth 100000

/-- How many ones a number has. -/
def pc : Nat → Nat → Nat
  | 0, _ => 0
  | f + 1, n => if n = 0 then 0 else n % 2 + pc f (n / 2)
def ones (c : UInt8) : Nat := pc 8 c.toNat
def onesL (l : List UInt8) : Nat := (l.map ones).sum
theorem pc_le (f : Nat) : ∀ n, pc f n ≤ f := by
  induction f with
  | zero => intro n; simp [pc]
  | succ f ih =>
    intro n
    unfold pc
    split
    · omega
    · have := ih (n / 2); omega
theorem onesL_take_succ (l : List UInt8) (k : Nat) (h : k < l.length) : onesL (l.take (k + 1)) = onesL (l.take k) + ones l[k] := by
  unfold onesL
  rw [List.take_succ_eq_append_getElem h, List.map_append, List.sum_append]; simp
theorem onesL_le (l : List UInt8) : onesL l ≤ 8 * l.length := by
  induction l with
  | nil => simp [onesL]
  | cons c l ih =>
    have h1 : onesL (c :: l) = ones c + onesL l := by simp [onesL]
    have h2 : ones c ≤ 8 := pc_le 8 _
    rw [h1, List.length_cons]; omega
theorem onesL_take_le (l : List UInt8) (k : Nat) : onesL (l.take k) ≤ 8 * l.length := by
  have h1 := onesL_le (l.take k)
  have h2 : (l.take k).length ≤ l.length := by simp; omega
  omega

/-- The table of ones of package bits. -/
def popL : List UInt8 := [0, 1, 1, 2, 1, 2, 2, 3, 1, 2, 2, 3, 2, 3, 3, 4, 1, 2, 2, 3, 2, 3, 3, 4, 2, 3, 3, 4, 3, 4, 4, 5, 1, 2, 2, 3, 2, 3, 3, 4, 2, 3, 3, 4, 3, 4, 4, 5, 2, 3, 3, 4, 3, 4, 4, 5, 3, 4, 4, 5, 4, 5, 5, 6, 1, 2, 2, 3, 2, 3, 3, 4, 2, 3, 3, 4, 3, 4, 4, 5, 2, 3, 3, 4, 3, 4, 4, 5, 3, 4, 4, 5, 4, 5, 5, 6, 2, 3, 3, 4, 3, 4, 4, 5, 3, 4, 4, 5, 4, 5, 5, 6, 3, 4, 4, 5, 4, 5, 5, 6, 4, 5, 5, 6, 5, 6, 6, 7, 1, 2, 2, 3, 2, 3, 3, 4, 2, 3, 3, 4, 3, 4, 4, 5, 2, 3, 3, 4, 3, 4, 4, 5, 3, 4, 4, 5, 4, 5, 5, 6, 2, 3, 3, 4, 3, 4, 4, 5, 3, 4, 4, 5, 4, 5, 5, 6, 3, 4, 4, 5, 4, 5, 5, 6, 4, 5, 5, 6, 5, 6, 6, 7, 2, 3, 3, 4, 3, 4, 4, 5, 3, 4, 4, 5, 4, 5, 5, 6, 3, 4, 4, 5, 4, 5, 5, 6, 4, 5, 5, 6, 5, 6, 6, 7, 3, 4, 4, 5, 4, 5, 5, 6, 4, 5, 5, 6, 5, 6, 6, 7, 4, 5, 5, 6, 5, 6, 6, 7, 5, 6, 6, 7, 6, 7, 7, 8]
theorem pop_all : ∀ i : Fin 256, (popL.getD i.val 0).toNat = pc 8 i.val := by decide +kernel
theorem pop_at (i : Nat) (h : i < 256) (h2 : i < (⟨popL.toArray⟩ : ByteArray).size) : wrap64 (((⟨popL.toArray⟩ : ByteArray)[i]'h2).toNat : Int) = ((pc 8 i : Nat) : Int) := by
  have e := pop_all ⟨i, h⟩
  have hl : i < popL.length := by
    have : popL.length = 256 := rfl
    omega
  have e2 : ((⟨popL.toArray⟩ : ByteArray)[i]'h2) = popL[i] := rfl
  rw [e2]
  simp only [List.getD_eq_getElem?_getD, List.getElem?_eq_getElem hl, Option.getD_some] at e
  rw [e]
  have := pc_le 8 i
  unfold wrap64
  omega
set_option maxHeartbeats 4000000 in
theorem onesCount_any (c : UInt8) (w : World) : Calls Try.prog 49 #[.int .u8 (c.toNat : Int)] w fun e w' => e = .returned (.int .i64 ((ones c : Nat) : Int)) ∧ w' = w := by
  have hc := c.toNat_lt
  go_enter Try.func49, Try.ntmps49
  go_wp2
  go_ret
  refine ⟨?_, rfl⟩
  show Ending.returned (Value.int IntKind.i64 (wrap64 (((⟨popL.toArray⟩ : ByteArray)[c.toNat]'(by show c.toNat < 256; exact hc)).toNat : Int))) = _
  rw [pop_at c.toNat hc]; rfl

set_option maxHeartbeats 4000000 in
theorem implOnes_good (n : Int) (s : ByteArray) (m : Int) (w : World) (hg : goodF n s m = true) :
    Calls Try.prog 17 #[.agg #[.int .i64 n, .string s, .int .i64 m]] w fun e w' => e = .returned (.tuple #[.int .i64 ((onesL s.data.toList : Nat) : Int), .bool true]) ∧ Below w.heap.size w w' := by
  have hs : s.size = 32 := by
    unfold goodF at hg; simp only [Bool.and_eq_true, decide_eq_true_eq] at hg; exact hg.1.1.2
  have hl : s.data.toList.length = 32 := by simpa using hs
  have X0 := Box.new w #[.int .i64 n, .string s, .int .i64 m] 24
  have hb0 := below_alloc w (.cells #[.int .i64 n, .string s, .int .i64 m] 24)
  have G := fun w => implGood_any n s m w
  rw [hg] at G
  have RW := fun w => rowOf_any n s m w hs
  have HT := onesL_take_le s.data.toList
  have HS := onesL_take_succ s.data.toList
  have HAll : Hid (onesL s.data.toList = onesL (s.data.toList.take 32)) := by show _ = _; rw [← hl, List.take_length]
  generalize s.data.toList = l at *
  go_enter Try.func17, Try.ntmps17
  go_wp2_with fail
  refine (G _).mono ?_
  rintro e w1 ⟨rfl, hb1⟩
  have X1 := X0.below hb1
  have hB1 := below_then hb0 hb1
  clear X0 hb0 hb1 G
  obtain ⟨_, x0, x1, x2⟩ := X1.c3
  go_wp2_with fail
  refine (RW _).mono ?_
  rintro e w2 ⟨rfl, hb2⟩
  have hB2 := below_then hB1 hb2
  clear X1 hB1 hb2 x0 x1 x2 RW
  go_wp2_with fail
  go_loopw [4, 12] (fun t i wr => ∃ k : Nat, k ≤ 32 ∧ i = .int .i64 k ∧ t = .int .i64 ((onesL (l.take k) : Nat) : Int) ∧ wr = w2) (fun _ i _ => 32 - (intOf i).toNat)
  case atStart => exact ⟨0, Nat.zero_le _, rfl, rfl, rfl⟩
  case round =>
    obtain ⟨k, hk, rfl, rfl, rfl⟩ := hrel
    by_cases hlt : k < 32
    · have hk2 : k < l.length := by omega
      have hT := HT k
      have hS := HS k hk2
      have hidx : (Instr.index 69 (.agg (rowA l)) (.int .i64 (k : Int))).run Try.prog wr = .ok (.int .u8 (l[k].toNat : Int)) wr := by
        have hp : (Go.part 5 (rowA l) k).run Try.prog wr = .ok (.int .u8 (l[k].toNat : Int)) wr := by
          simp [Go.part, isAgg, run_underlying Try.underlying5, rowA_at l k hk2]
        simp [Instr.index, run_underlying Try.underlying69, asIntOf, hp]
        omega
      have OC := fun w => onesCount_any l[k] w
      have h8 : ones l[k] ≤ 8 := pc_le 8 _
      generalize ones l[k] = o at *
      generalize l[k] = c at *
      generalize onesL (l.take k) = T at *
      go_wp2_with fail
      refine (OC _).mono ?_
      rintro e w3 ⟨rfl, hw⟩
      rw [hw]; clear hw OC
      have HS2 : Hid (onesL (l.take (k + 1)) = T + o) := hS
      clear hS
      go_wp2
      go_roundw
      case rel => exact ⟨k + 1, by omega, by go_num, by rw [HS2.out]; go_num, trivial⟩
      case measure => simp [intOf]; omega
    · obtain rfl : k = 32 := by omega
      rw [← HAll.out]
      clear HAll
      go_wp2
      go_ret2
      exact ⟨rfl, hB2⟩

set_option maxHeartbeats 4000000 in
theorem implOnes_bad (n : Int) (s : ByteArray) (m : Int) (w : World) (hg : goodF n s m = false) :
    Calls Try.prog 17 #[.agg #[.int .i64 n, .string s, .int .i64 m]] w fun e w' => e = .returned (.tuple #[.int .i64 0, .bool false]) ∧ Below w.heap.size w w' := by
  have hb0 := below_alloc w (.cells #[.int .i64 n, .string s, .int .i64 m] 24)
  have G := fun w => implGood_any n s m w
  rw [hg] at G
  go_enter Try.func17, Try.ntmps17
  go_wp2_with fail
  refine (G _).mono ?_
  rintro e w1 ⟨rfl, hb1⟩
  have hB1 := below_then hb0 hb1
  clear hb0 hb1 G
  go_wp2
  go_ret2
  exact ⟨rfl, hB1⟩
set_option maxHeartbeats 4000000 in
theorem specOnes_bad (n : Int) (s : ByteArray) (m : Int) (w : World) (hg : goodF n s m = false) :
    Calls Try.prog 41 #[.agg #[.int .i64 n, .string s, .int .i64 m]] w fun e w' => e = .returned (.tuple #[.int .i64 0, .bool false]) ∧ Below w.heap.size w w' := by
  have hb0 := below_alloc w (.cells #[.int .i64 n, .string s, .int .i64 m] 24)
  have G := fun w => specGood_any n s m w
  rw [hg] at G
  go_enter Try.func41, Try.ntmps41
  go_wp2_with fail
  refine (G _).mono ?_
  rintro e w1 ⟨rfl, hb1⟩
  have hB1 := below_then hb0 hb1
  clear hb0 hb1 G
  go_wp2
  go_ret2
  exact ⟨rfl, hB1⟩

/-- What is left of the ones of a byte when some of its bits are gone. -/
theorem and1_u8 (x : Nat) (h : x < 256) : bits BinOp.and IntKind.u8 (x : Int) 1 = ((x % 2 : Nat) : Int) := by
  have e2 := u8_and_nat x 1 h (by omega)
  rw [show ((1 : Nat) : Int) = 1 from rfl] at e2
  rw [e2, Nat.and_one_is_mod]
set_option maxHeartbeats 4000000 in
theorem specOnes_good (n : Int) (s : ByteArray) (m : Int) (w : World) (hg : goodF n s m = true) :
    Calls Try.prog 41 #[.agg #[.int .i64 n, .string s, .int .i64 m]] w fun e w' => e = .returned (.tuple #[.int .i64 ((onesL s.data.toList : Nat) : Int), .bool true]) ∧ Below w.heap.size w w' := by
  have hs : s.size = 32 := by
    unfold goodF at hg; simp only [Bool.and_eq_true, decide_eq_true_eq] at hg; exact hg.1.1.2
  have hl : s.data.toList.length = 32 := by simpa using hs
  have X0 := Box.new w #[.int .i64 n, .string s, .int .i64 m] 24
  have hb0 := below_alloc w (.cells #[.int .i64 n, .string s, .int .i64 m] 24)
  have G := fun w => specGood_any n s m w
  rw [hg] at G
  have HT := onesL_take_le s.data.toList
  have HS := onesL_take_succ s.data.toList
  have HAll : Hid (onesL s.data.toList = onesL (s.data.toList.take 32)) := by show _ = _; rw [← hl, List.take_length]
  go_enter Try.func41, Try.ntmps41
  go_wp2_with fail
  refine (G _).mono ?_
  rintro e w1 ⟨rfl, hb1⟩
  have X1 := X0.below hb1
  have hB1 := below_then hb0 hb1
  clear X0 hb0 hb1 G
  obtain ⟨_, x0, x1, x2⟩ := X1.c3
  go_wp2_with fail
  go_loopw [4, 5] (fun t i wr => ∃ k : Nat, k ≤ 32 ∧ i = .int .i64 k ∧ t = .int .i64 ((onesL (s.data.toList.take k) : Nat) : Int) ∧ wr = w1) (fun _ i _ => 32 - (intOf i).toNat)
  case atStart => exact ⟨0, Nat.zero_le _, rfl, rfl, rfl⟩
  case round =>
    obtain ⟨k, hk, rfl, rfl, rfl⟩ := hrel
    by_cases hlt : k < 32
    · have hk2 : k < s.data.toList.length := by omega
      have hT := HT k
      have hS := HS k hk2
      have hL : s.data.toList[k] = s[k] := by simp; rfl
      rw [hL] at hS
      have HS2 : Hid (onesL (s.data.toList.take (k + 1)) = onesL (s.data.toList.take k) + pc 8 s[k].toNat) := hS
      clear hS HS HT HAll hL
      have hcl := s[k].toNat_lt
      generalize onesL (s.data.toList.take k) = T at *
      go_wp2_with fail
      go_loopw [4, 6] (fun t b w3 => ∃ (f x y : Nat), b = .int .u8 (x : Int) ∧ t = .int .i64 ((T + y : Nat) : Int) ∧ y + pc f x = pc 8 s[k].toNat ∧ x < 2 ^ f ∧ x < 256 ∧ y ≤ 8 ∧ w3 = wr) (fun _ b _ => (intOf b).toNat)
      case atStart => exact ⟨8, s[k].toNat, 0, rfl, rfl, by omega, by simpa using hcl, hcl, by omega, rfl⟩
      case round =>
        obtain ⟨f, x, y, rfl, rfl, hy, hxf, hx, hy8, rfl⟩ := hrel
        by_cases hx0 : x = 0
        · subst hx0
          have hz : pc f 0 = 0 := by cases f <;> simp [pc]
          rw [hz] at hy
          have HS3 : Hid (onesL (s.data.toList.take (k + 1)) = T + y) := by show _ = _; rw [HS2.out, ← hy]; rfl
          clear hy HS2
          go_wp2
          go_roundw
          case rel => exact ⟨k + 1, by omega, by go_num, by rw [HS3.out], trivial⟩
          case measure => simp [intOf]; omega
        · obtain ⟨g, rfl⟩ : ∃ g, f = g + 1 := by
            cases f with
            | zero => simp at hxf; omega
            | succ g => exact ⟨g, rfl⟩
          have ha := and1_u8 x hx
          have hpc : pc (g + 1) x = x % 2 + pc g (x / 2) := by rw [pc, if_neg hx0]
          have hle := pc_le 8 s[k].toNat
          rw [hpc] at hy
          have HY : Hid (y + x % 2 + pc g (x / 2) = pc 8 s[k].toNat) := by show _ = _; omega
          have hy2 : y + x % 2 ≤ 8 := by omega
          have hx2 : x / 2 < 2 ^ g := by rw [Nat.div_lt_iff_lt_mul (by omega)]; rw [Nat.pow_succ] at hxf; exact hxf
          clear hy hpc hle hxf
          go_wp2
          go_roundw
          case rel => exact ⟨g, x / 2, y + x % 2, by go_num, by go_num, HY.out, hx2, by omega, hy2, trivial⟩
          case measure => simp [intOf]; omega
    · obtain rfl : k = 32 := by omega
      rw [← HAll.out]
      clear HAll
      go_wp2
      go_ret2
      exact ⟨rfl, hB1⟩
def onesF (n : Int) (s : ByteArray) (m : Int) : Int × Bool := if goodF n s m then (((onesL s.data.toList : Nat) : Int), true) else (0, false)
theorem implOnes (n : Int) (s : ByteArray) (m : Int) (w : World) :
    Calls Try.prog 17 #[.agg #[.int .i64 n, .string s, .int .i64 m]] w fun e w' => e = .returned (.tuple #[.int .i64 (onesF n s m).1, .bool (onesF n s m).2]) ∧ Below w.heap.size w w' := by
  unfold onesF
  cases hg : goodF n s m with
  | false => exact implOnes_bad n s m w hg
  | true => exact implOnes_good n s m w hg
theorem specOnes (n : Int) (s : ByteArray) (m : Int) (w : World) :
    Calls Try.prog 41 #[.agg #[.int .i64 n, .string s, .int .i64 m]] w fun e w' => e = .returned (.tuple #[.int .i64 (onesF n s m).1, .bool (onesF n s m).2]) ∧ Below w.heap.size w w' := by
  unfold onesF
  cases hg : goodF n s m with
  | false => exact specOnes_bad n s m w hg
  | true => exact specOnes_good n s m w hg
end Go.Proofs.Ytdcglghmhjbkkaa
