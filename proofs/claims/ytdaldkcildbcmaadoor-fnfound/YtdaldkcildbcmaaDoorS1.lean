/-
  impl.SumOn, impl.SumOf.
-/
import Derived.Test.YtdaldkcildbcmaaDoorLToQ
namespace Go.Proofs.YtdaldkcildbcmaaDoor
open Go.RowKit
set_option linter.unusedVariables false

theorem u8_xor_val (s c : Nat) (hc : c < 256) : bits BinOp.xor IntKind.u8 ((s : Int) % 256) (c : Int) = (((s % 256) ^^^ c : Nat) : Int) := by
  have := u8_xor_nat (s % 256) c (by omega) hc
  rw [← this]; congr 1
theorem step_val (s c : Nat) (hs : s < 4294967296) (hc : c < 256) : bits BinOp.xor IntKind.u32 ((ct ((s % 256) ^^^ c) : Nat) : Int) ((s : Int) / 256) = ((cstep s c : Nat) : Int) := by
  have := u32_xor_nat (ct ((s % 256) ^^^ c)) (s / 256) (ct_lt _ (Nat.xor_lt_two_pow (n := 8) (by omega) (by omega))) (by omega)
  unfold cstep
  rw [← this]; congr 1

theorem nat_not (x : Nat) (h : x < 4294967296) : 4294967295 ^^^ x = 4294967295 - x := by
  apply Nat.eq_of_testBit_eq
  intro i
  have e1 := Nat.testBit_two_pow_sub_succ (x := x) (n := 32) (by simpa using h) i
  have e2 : (4294967295 : Nat).testBit i = decide (i < 32) := by
    have := Nat.testBit_two_pow_sub_one 32 i
    simpa using this
  rw [show 4294967295 - x = 2 ^ 32 - (x + 1) from by omega, e1, Nat.testBit_xor, e2]
  by_cases hi : i < 32
  · simp [hi]
  · have : x.testBit i = false := Nat.testBit_lt_two_pow (Nat.lt_of_lt_of_le h (by
      have : 2 ^ 32 ≤ 2 ^ i := Nat.pow_le_pow_right (by omega) (by omega)
      simpa using this))
    simp [hi, this]
theorem not_val (x : Nat) (h : x < 4294967296) : bits BinOp.xor IntKind.u32 IntKind.u32.max (x : Int) = ((4294967295 - x : Nat) : Int) := by
  have := u32_xor_nat 4294967295 x (by omega) h
  rw [nat_not x h] at this
  rw [← this]; congr 1

set_option maxRecDepth 100000 in
set_option maxHeartbeats 4000000 in
theorem implOn_any (sum : Nat) (s : ByteArray) (w : World) (hs : s.size ≤ 1048576) (h0 : sum < 4294967296) :
    Calls Tryd.prog 91 #[.int .u32 sum, .string s] w fun e w' => e = .returned (.int .u32 ((con sum s.data.toList : Nat) : Int)) ∧ Below w.heap.size w w' := by
  go_enter Tryd.func91, Tryd.ntmps91
  go_wp2
  refine wp_scope_jumps2 0 (fun a' w' => ∃ (j m b : Nat) (x y : Int) (u7 u8 u9 u10 u11 u12 u13 u14 u15 u16 u17 u18 u19 u20 u21 u22 u23 u24 : Value), a' = { tmps := #[.int .u32 x, .string s, undef, undef, .int .u32 0, .pointer (some ⟨b, 0, none⟩), .int .i64 y, u7, u8, u9, u10, u11, u12, u13, u14, u15, u16, u17, u18, u19, u20, u21, u22, u23, u24, undef], defers := [] } ∧ x = m ∧ y = j ∧ j ≤ s.size ∧ m < 4294967296 ∧ con sum s.data.toList = con m (s.data.toList.drop j) ∧ w'.heap[b]? = some (.cells tblA 127) ∧ Below w.heap.size w w') (fun a' _ => s.size - (intOf (a'.tmps.getD 6 undef)).toNat) rfl ?_ ?_
  · rintro a' wr ⟨j, m, b, x, y, u7, u8, u9, u10, u11, u12, u13, u14, u15, u16, u17, u18, u19, u20, u21, u22, u23, u24, rfl, rfl, rfl, hj, hm, ht, htb, hb⟩
    have HT : Hid (con sum s.data.toList = con m (s.data.toList.drop j)) := ht
    have HC : Hid (wr.heap[b]? = some (.cells tblA 127)) := htb
    clear ht htb
    by_cases hjl : j < s.size
    · have hLl : j < s.data.toList.length := by simpa using hjl
      have hL : s.data.toList[j] = s[j] := by simp; rfl
      have hc := s[j].toNat_lt
      obtain ⟨c, hce⟩ : ∃ c, c = s[j].toNat := ⟨_, rfl⟩
      have hx := u8_xor_val m s[j].toNat hc
      have hi : (m % 256) ^^^ s[j].toNat < 256 := Nat.xor_lt_two_pow (n := 8) (by omega) (by omega)
      have hcell : wr.cell? ⟨b, (m % 256) ^^^ s[j].toNat, none⟩ = some (.int .u32 ((ct ((m % 256) ^^^ s[j].toNat) : Nat) : Int)) := by
        rw [cell_of_row _ _ _ _ _ _ HC.out]; exact tblA_at _ hi
      have hst := step_val m s[j].toNat hm hc
      have HN : Hid (con sum s.data.toList = con (cstep m s[j].toNat) (s.data.toList.drop (j + 1))) := by
        show _ = _
        rw [HT.out, List.drop_eq_getElem_cons hLl, hL]; rfl
      have hlt := cstep_lt m s[j].toNat hm hc
      go_wp2
      go_step3
      refine ⟨rfl, ⟨j + 1, cstep m s[j].toNat, b, _, _, _, _, _, _, _, _, _, _, _, _, _, _, _, _, _, _, _, _, rfl, rfl, by simp, by omega, hlt, HN.out, HC.out, hb⟩, ?_⟩
      simp [intOf]; omega
    · have HN : Hid (con sum s.data.toList = m) := by
        show _ = _
        rw [HT.out, List.drop_eq_nil_of_le (by simp; omega)]; rfl
      go_wp2
      simp only [Exit.jump]
      go_ret
      exact ⟨by rw [HN.out]; rfl, hb⟩
  · intro key
    go_wp2_with fail
    refine (sumWords_any _).mono ?_
    rintro e w1 ⟨rfl, hb1⟩
    go_wp2_with (first | (refine wpList_allocTo rfl 127 rfl zerA Tryd.zero127 ?_) | (refine wpList_store_row rfl 127 _ _ rfl w1.heap.size tblA rfl rfl 127 zerA (heap_alloc_last _ _) Tryd.size127 (by rw [tblA_size, zerA_size]) tblA_one ?_; rw [World.setRow_alloc_new]))
    go_step3
    rename_i K hK
    show K _ _
    refine hK _ _ (key _ _ ⟨0, sum, _, _, _, _, _, _, _, _, _, _, _, _, _, _, _, _, _, _, _, _, _, rfl, rfl, rfl, by omega, h0, rfl, heap_alloc_last _ _, hb1.alloc hb1.size _⟩)

set_option maxHeartbeats 1000000 in
theorem implSum_any (s : ByteArray) (w : World) (hs : s.size ≤ 1048576) :
    Calls Tryd.prog 59 #[.string s] w fun e w' => e = .returned (.int .u32 ((csum s.data.toList : Nat) : Int)) ∧ Below w.heap.size w w' := by
  go_enter Tryd.func59, Tryd.ntmps59
  go_wp2_with fail
  refine (implOn_any 4294967295 s _ hs (by omega)).mono ?_
  rintro e w1 ⟨rfl, hb1⟩
  have hlt := con_lt s.data.toList 4294967295 (by omega)
  go_wp2
  go_ret
  refine ⟨?_, hb1⟩
  show Ending.returned (Value.int IntKind.u32 (bits BinOp.xor IntKind.u32 IntKind.u32.max _)) = _
  rw [not_val _ hlt]; rfl
end Go.Proofs.YtdaldkcildbcmaaDoor
