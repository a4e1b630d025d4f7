/-
  The bytes of an item, of a place: impl.twoNumbers, bytesOfPlace, itemBytes, spec.l6Two.
-/
import Derived.Test.YtniepppbbkoanaaN1
import Derived.Test.YtniepppbbkoanaaC1
namespace Go.Proofs.Ytniepppbbkoanaa
open Go.RowKit
set_option linter.unusedVariables false
set_option maxRecDepth 100000

/-- A text out of bytes. -/
def tx (l : List UInt8) : ByteArray := ⟨l.toArray⟩
theorem tx_size (l : List UInt8) : (tx l).size = l.length := by simp [tx, ByteArray.size]
theorem tx_cat (l m : List UInt8) : tx l ++ tx m = tx (l ++ m) := by apply ByteArray.ext; simp [tx]
theorem tx_bl (b : ByteArray) : tx (bl b) = b := by apply ByteArray.ext; simp [tx, bl]
theorem bl_tx (l : List UInt8) : bl (tx l) = l := rfl
theorem bl_cat (a b : ByteArray) : bl (a ++ b) = bl a ++ bl b := by simp [bl]
theorem bl_ext (s : ByteArray) (a b : Nat) : bl (s.extract a b) = ((bl s).drop a).take (b - a) := by
  simp only [bl, ByteArray.data_extract, Array.toList_extract, List.extract_eq_take_drop]
theorem bl_from (s : ByteArray) (a : Nat) : bl (s.extract a s.size) = (bl s).drop a := by
  rw [bl_ext, List.take_of_length_le]
  rw [List.length_drop, bl_len]; exact Nat.le_refl _
theorem bl_to (s : ByteArray) (b : Nat) : bl (s.extract 0 b) = (bl s).take b := by
  rw [bl_ext]; simp

set_option maxHeartbeats 1000000 in
theorem twoNumbers_any (n t : Nat) (w : World) (h1 : n < 9223372036854775808) (h2 : t < 9223372036854775808) :
    Calls Try.prog 67 #[.int .i64 n, .int .i64 t] w fun e w' => e = .returned (.string (tx (varL n) ++ tx (varL t))) ∧ Below w.heap.size w w' := by
  have b1 : (varL n).length ≤ 9 := varL_len 8 n (by simp; omega)
  have b2 : (varL t).length ≤ 9 := varL_len 8 t (by simp; omega)
  have e1 := tx_size (varL n)
  have e2 := tx_size (varL t)
  have V1 := fun w => implVar_any (n : Int) w (by omega) (by omega)
  have V2 := fun w => implVar_any (t : Int) w (by omega) (by omega)
  rw [varT_nat, show (⟨(varL n).toArray⟩ : ByteArray) = tx (varL n) from rfl] at V1
  rw [varT_nat, show (⟨(varL t).toArray⟩ : ByteArray) = tx (varL t) from rfl] at V2
  rw [decide_eq_true (by omega)] at V1 V2
  generalize tx (varL n) = A at *
  generalize tx (varL t) = B at *
  go_enter Try.func67, Try.ntmps67
  go_wp2_with fail
  refine (V1 _).mono ?_
  rintro e w1 ⟨rfl, hb1⟩
  go_wp2_with fail
  refine (V2 _).mono ?_
  rintro e w2 ⟨rfl, hb2⟩
  go_wp2
  go_ret
  exact ⟨rfl, below_then hb1 hb2⟩

theorem twoL_at (x : Nat) : bcs (twoL x) = [.int .u8 ((x : Int) % 256), .int .u8 ((x : Int) / 256 % 256)] := by
  simp only [bcs, twoL, List.map_cons, List.map_nil, UInt8.toNat_ofNat']
  simp only [List.cons.injEq, Value.int.injEq, true_and, and_true]
  omega
theorem conv_two (x : Nat) (w : World) : (convert 22 9 (.slice (some ⟨w.heap.size, 0, none⟩) 2 2)).run Try.prog (w.alloc (.cells #[.int .u8 ((x : Int) % 256), .int .u8 ((x : Int) / 256 % 256)] 5)) = .ok (.string (tx (twoL x))) (w.alloc (.cells #[.int .u8 ((x : Int) % 256), .int .u8 ((x : Int) / 256 % 256)] 5)) := by
  have hb := twoL_at x
  have hl : (twoL x).length = 2 := rfl
  have := run_convert_bytes_back (P := Try.prog) (w.alloc (.cells #[.int .u8 ((x : Int) % 256), .int .u8 ((x : Int) / 256 % 256)] 5)) 22 9 5 ⟨w.heap.size, 0, none⟩ 2 (twoL x) Try.underlying22 Try.underlying5 Try.underlying9 (by
    intro j hj
    rw [show (⟨w.heap.size, 0, none⟩ : Addr).add j = ⟨w.heap.size, j, none⟩ from by simp [Addr.add]; omega, World.cell?_alloc_at _ _ _ _ rfl]
    have e : (bcs (twoL x))[j]? = some (.int .u8 (((twoL x)[j].toNat : Nat) : Int)) := by simp [bcs, hj]
    rw [hb] at e
    simpa using e)
  rw [hl] at this
  exact this

set_option maxHeartbeats 1000000 in
theorem placeBytes_any (x : Nat) (w : World) (hx : x < 4294967296) :
    Calls Try.prog 40 #[.int .i64 x] w fun e w' => e = .returned (.string (tx (twoL x))) ∧ Below w.heap.size w w' := by
  have hcv := conv_two x w
  go_enter Try.func40, Try.ntmps40
  go_wp2
  go_ret
  exact ⟨rfl, below_alloc _ _⟩
set_option maxHeartbeats 1000000 in
theorem l6Two_any (x : Nat) (w : World) (hx : x < 4294967296) :
    Calls Try.prog 69 #[.int .i64 x] w fun e w' => e = .returned (.string (tx (twoL x))) ∧ Below w.heap.size w w' := by
  have hcv := conv_two x w
  go_enter Try.func69, Try.ntmps69
  go_wp2
  go_ret
  exact ⟨rfl, below_alloc _ _⟩

theorem itL_tx (x : It) (c : Nat) : tx (itL x c) = tx (varL c) ++ tx (varL (x.k.size - c)) ++ (tx (varL (2 * x.n + x.d).toNat) ++ tx (varL x.v.size)) ++ x.k.extract c x.k.size ++ x.v := by
  apply bl_inj
  simp only [bl_cat, bl_tx, bl_from, itL, List.append_assoc]

end Go.Proofs.Ytniepppbbkoanaa
