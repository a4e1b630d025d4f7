/-
  The sum's table: impl.sumWords, impl.SumTable; an array in a variable, its block named.
  impl.SumOn, impl.SumOf.
-/
import Derived.Test.YtenbdjlhcadhaaaGreatCToV1
import Derived.Laws.Tables
import Derived.Laws.Rows
import Derived.Deep.WholeRow
namespace Go.Proofs.YtenbdjlhcadhaaaGreat
open Go.RowKit
set_option maxRecDepth 100000
set_option linter.unusedVariables false

/-- A variable of a type whose zero value is known. -/
theorem wpList_allocTo {P : Program} {ops : Array Oper} {rest : List Oper} {o : Oper} {a : Act} {w : World} {Q : Exit → Act → World → Prop} (hg : o.guard = none) (t : TypeId) (ho : o.op = .alloc t)
    (cells : Array Value) (hz : (P.info? t).map (fun i => (i.zero, i.size)) = some (some (.agg cells), cells.size))
    (h : wpList P ops Q rest (a.put o.dst (.pointer (some ⟨w.heap.size, 0, none⟩))) (w.alloc (.cells cells t))) : wpList P ops Q (o :: rest) a w := by
  refine wpList_plain hg fun K hK => ?_
  cases hi : P.info? t with
  | none => simp [hi] at hz
  | some i =>
    simp only [hi, Option.map_some, Option.some.injEq, Prod.mk.injEq] at hz
    unfold Oper.wp execOp
    simp [ho, Sem.run_bind, Instr.alloc, newVar, newRow, Sem.run_pure, Result.andThen_ok, zeroValue, typeInfo, hi, hz.1, Value.cells]
    exact hK _ _ h

theorem wpList_buildAs {P : Program} {ops : Array Oper} {rest : List Oper} {o : Oper} {a : Act} {w : World} {Q : Exit → Act → World → Prop} (hg : o.guard = none) (t : TypeId) (parts : Array (Nat × Operand)) (ho : o.op = .build t parts)
    (cells : Array Value) (hf : P.built t (parts.map fun (i, x) => (i, a.eval x)).toList = some cells)
    (h : wpList P ops Q rest (a.put o.dst (.agg cells)) w) : wpList P ops Q (o :: rest) a w :=
  wpList_build hg t parts ho (by rw [hf]; rfl) (by rw [hf]; exact h)

def tblA : Array Value := tblL.toArray
def zerA : Array Value := Array.replicate 256 (.int .u32 0)
theorem tblA_size : tblA.size = 256 := by simp [tblA, tblL_length]
theorem zerA_size : zerA.size = 256 := by simp [zerA]
theorem tblA_at (i : Nat) (h : i < 256) : tblA[i]? = some (.int .u32 ((ct i : Nat) : Int)) := by simp [tblA, tblL_at i h]
set_option maxRecDepth 100000 in
theorem Tryz.zero118 : (Tryz.prog.info? 118).map (fun i => (i.zero, i.size)) = some (some (.agg zerA), zerA.size) := by kernel_rfl
theorem Tryz.size118 : (Tryz.prog.info? 118).map (·.size) = some tblA.size := by kernel_rfl
theorem tblA_one : tblA.all (·.oneCell') = true := by kernel_rfl

set_option maxRecDepth 100000 in
set_option maxHeartbeats 4000000 in
theorem sumWords_any (w : World) :
    Calls Tryz.prog 92 #[] w fun e w' => e = .returned (.agg tblA) ∧ Below w.heap.size w w' := by
  go_enter Tryz.func92, Tryz.ntmps92
  apply wp_seq_k; intro K0 hK0
  apply wp_region_lit
  refine wpList_allocTo rfl 118 rfl zerA Tryz.zero118 ?_
  apply wpList_nil
  refine hK0 _ _ ?_
  apply wp_seq_k; intro K1 hK1
  apply wp_region_lit
  refine wpList_buildAs rfl 118 _ rfl tblA ?_ ?_
  · kernel_rfl
  refine wpList_store_row rfl 118 _ _ rfl w.heap.size tblA rfl rfl 118 zerA (heap_alloc_last _ _) Tryz.size118 (by rw [tblA_size, zerA_size]) tblA_one ?_
  apply wpList_nil
  refine hK1 _ _ ?_
  rw [World.setRow_alloc_new]
  apply wp_ret
  refine bodyPost_ret (v := .agg tblA) (results_cell_row rfl _ _ w.heap.size 118 tblA (0, 0) _ rfl (heap_alloc_last _ _) Tryz.underlying118 rfl Tryz.size118) rfl ⟨rfl, below_alloc _ _⟩

end Go.Proofs.YtenbdjlhcadhaaaGreat

namespace Go.Proofs.YtenbdjlhcadhaaaGreat
open Go.RowKit
set_option maxRecDepth 100000
set_option linter.unusedVariables false

theorem u8_xor_val (s c : Nat) (hc : c < 256) : bits BinOp.xor IntKind.u8 ((s : Int) % 256) (c : Int) = (((s % 256) ^^^ c : Nat) : Int) := by
  have := u8_xor_nat (s % 256) c (by omega) hc
  rw [← this]; congr 1
theorem step_val (s c : Nat) (hs : s < 4294967296) (hc : c < 256) : bits BinOp.xor IntKind.u32 ((ct ((s % 256) ^^^ c) : Nat) : Int) ((s : Int) / 256) = ((cstep s c : Nat) : Int) := by
  have := u32_xor_nat (ct ((s % 256) ^^^ c)) (s / 256) (ct_lt _ (Nat.xor_lt_two_pow (n := 8) (by omega) (by omega))) (by omega)
  unfold cstep
  rw [← this]; congr 1

theorem nat_not (x : Nat) (h : x < 4294967296) : 4294967295 ^^^ x = 4294967295 - x := by
  apply Nat.eq_of_testBit_eq
  intro i
  have e1 := Nat.testBit_two_pow_sub_succ (x := x) (n := 32) (by simpa using h) i
  have e2 : (4294967295 : Nat).testBit i = decide (i < 32) := by
    have := Nat.testBit_two_pow_sub_one 32 i
    simpa using this
  rw [show 4294967295 - x = 2 ^ 32 - (x + 1) from by omega, e1, Nat.testBit_xor, e2]
  by_cases hi : i < 32
  · simp [hi]
  · have : x.testBit i = false := Nat.testBit_lt_two_pow (Nat.lt_of_lt_of_le h (by
      have : 2 ^ 32 ≤ 2 ^ i := Nat.pow_le_pow_right (by omega) (by omega)
      simpa using this))
    simp [hi, this]
theorem not_val (x : Nat) (h : x < 4294967296) : bits BinOp.xor IntKind.u32 IntKind.u32.max (x : Int) = ((4294967295 - x : Nat) : Int) := by
  have := u32_xor_nat 4294967295 x (by omega) h
  rw [nat_not x h] at this
  rw [← this]; congr 1

set_option maxRecDepth 100000 in
set_option maxHeartbeats 4000000 in
theorem implOn_any (sum : Nat) (s : ByteArray) (w : World) (hs : s.size ≤ 1048576) (h0 : sum < 4294967296) :
    Calls Tryz.prog 86 #[.int .u32 sum, .string s] w fun e w' => e = .returned (.int .u32 ((con sum s.data.toList : Nat) : Int)) ∧ Below w.heap.size w w' := by
  go_enter Tryz.func86, Tryz.ntmps86
  go_wp2
  refine wp_scope_jumps2 0 (fun a' w' => ∃ (j m b : Nat) (x y : Int) (u7 u8 u9 u10 u11 u12 u13 u14 u15 u16 u17 u18 u19 u20 u21 u22 u23 u24 : Value), a' = { tmps := #[.int .u32 x, .string s, undef, undef, .int .u32 0, .pointer (some ⟨b, 0, none⟩), .int .i64 y, u7, u8, u9, u10, u11, u12, u13, u14, u15, u16, u17, u18, u19, u20, u21, u22, u23, u24, undef], defers := [] } ∧ x = m ∧ y = j ∧ j ≤ s.size ∧ m < 4294967296 ∧ con sum s.data.toList = con m (s.data.toList.drop j) ∧ w'.heap[b]? = some (.cells tblA 118) ∧ Below w.heap.size w w') (fun a' _ => s.size - (intOf (a'.tmps.getD 6 undef)).toNat) rfl ?_ ?_
  · rintro a' wr ⟨j, m, b, x, y, u7, u8, u9, u10, u11, u12, u13, u14, u15, u16, u17, u18, u19, u20, u21, u22, u23, u24, rfl, rfl, rfl, hj, hm, ht, htb, hb⟩
    have HT : Hid (con sum s.data.toList = con m (s.data.toList.drop j)) := ht
    have HC : Hid (wr.heap[b]? = some (.cells tblA 118)) := htb
    clear ht htb
    by_cases hjl : j < s.size
    · have hLl : j < s.data.toList.length := by simpa using hjl
      have hL : s.data.toList[j] = s[j] := by simp; rfl
      have hc := s[j].toNat_lt
      obtain ⟨c, hce⟩ : ∃ c, c = s[j].toNat := ⟨_, rfl⟩
      have hx := u8_xor_val m s[j].toNat hc
      have hi : (m % 256) ^^^ s[j].toNat < 256 := Nat.xor_lt_two_pow (n := 8) (by omega) (by omega)
      have hcell : wr.cell? ⟨b, (m % 256) ^^^ s[j].toNat, none⟩ = some (.int .u32 ((ct ((m % 256) ^^^ s[j].toNat) : Nat) : Int)) := by
        rw [cell_of_row _ _ _ _ _ _ HC.out]; exact tblA_at _ hi
      have hst := step_val m s[j].toNat hm hc
      have HN : Hid (con sum s.data.toList = con (cstep m s[j].toNat) (s.data.toList.drop (j + 1))) := by
        show _ = _
        rw [HT.out, List.drop_eq_getElem_cons hLl, hL]; rfl
      have hlt := cstep_lt m s[j].toNat hm hc
      go_wp2
      go_step3
      refine ⟨rfl, ⟨j + 1, cstep m s[j].toNat, b, _, _, _, _, _, _, _, _, _, _, _, _, _, _, _, _, _, _, _, _, rfl, rfl, by simp, by omega, hlt, HN.out, HC.out, hb⟩, ?_⟩
      simp [intOf]; omega
    · have HN : Hid (con sum s.data.toList = m) := by
        show _ = _
        rw [HT.out, List.drop_eq_nil_of_le (by simp; omega)]; rfl
      go_wp2
      simp only [Exit.jump]
      go_ret
      exact ⟨by rw [HN.out]; rfl, hb⟩
  · intro key
    go_wp2_with fail
    refine (sumWords_any _).mono ?_
    rintro e w1 ⟨rfl, hb1⟩
    go_wp2_with (first | (refine wpList_allocTo rfl 118 rfl zerA Tryz.zero118 ?_) | (refine wpList_store_row rfl 118 _ _ rfl w1.heap.size tblA rfl rfl 118 zerA (heap_alloc_last _ _) Tryz.size118 (by rw [tblA_size, zerA_size]) tblA_one ?_; rw [World.setRow_alloc_new]))
    go_step3
    rename_i K hK
    show K _ _
    refine hK _ _ (key _ _ ⟨0, sum, _, _, _, _, _, _, _, _, _, _, _, _, _, _, _, _, _, _, _, _, _, rfl, rfl, rfl, by omega, h0, rfl, heap_alloc_last _ _, hb1.alloc hb1.size _⟩)

set_option maxHeartbeats 1000000 in
theorem implSum_any (s : ByteArray) (w : World) (hs : s.size ≤ 1048576) :
    Calls Tryz.prog 69 #[.string s] w fun e w' => e = .returned (.int .u32 ((csum s.data.toList : Nat) : Int)) ∧ Below w.heap.size w w' := by
  go_enter Tryz.func69, Tryz.ntmps69
  go_wp2_with fail
  refine (implOn_any 4294967295 s _ hs (by omega)).mono ?_
  rintro e w1 ⟨rfl, hb1⟩
  have hlt := con_lt s.data.toList 4294967295 (by omega)
  go_wp2
  go_ret
  refine ⟨?_, hb1⟩
  show Ending.returned (Value.int IntKind.u32 (bits BinOp.xor IntKind.u32 IntKind.u32.max _)) = _
  rw [not_val _ hlt]; rfl
end Go.Proofs.YtenbdjlhcadhaaaGreat
