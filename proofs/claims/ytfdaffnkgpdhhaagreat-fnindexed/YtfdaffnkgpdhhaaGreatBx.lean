/-
  The bytes of an item, of a place: impl.twoNumbers, bytesOfPlace, itemBytes, spec.l6Two.
  impl.itemBytes.
-/
import Derived.Test.YtfdaffnkgpdhhaaGreatN1
import Derived.Test.YtfdaffnkgpdhhaaGreatC1
namespace Go.Proofs.YtfdaffnkgpdhhaaGreat
open Go.RowKit
set_option linter.unusedVariables false
set_option maxRecDepth 100000

/-- A text out of bytes. -/
def tx (l : List UInt8) : ByteArray := ⟨l.toArray⟩
theorem tx_size (l : List UInt8) : (tx l).size = l.length := by simp [tx, ByteArray.size]
theorem tx_cat (l m : List UInt8) : tx l ++ tx m = tx (l ++ m) := by apply ByteArray.ext; simp [tx]
theorem tx_bl (b : ByteArray) : tx (bl b) = b := by apply ByteArray.ext; simp [tx, bl]
theorem bl_tx (l : List UInt8) : bl (tx l) = l := rfl
theorem bl_cat (a b : ByteArray) : bl (a ++ b) = bl a ++ bl b := by simp [bl]
theorem bl_ext (s : ByteArray) (a b : Nat) : bl (s.extract a b) = ((bl s).drop a).take (b - a) := by
  simp only [bl, ByteArray.data_extract, Array.toList_extract, List.extract_eq_take_drop]
theorem bl_from (s : ByteArray) (a : Nat) : bl (s.extract a s.size) = (bl s).drop a := by
  rw [bl_ext, List.take_of_length_le]
  rw [List.length_drop, bl_len]; exact Nat.le_refl _
theorem bl_to (s : ByteArray) (b : Nat) : bl (s.extract 0 b) = (bl s).take b := by
  rw [bl_ext]; simp

set_option maxHeartbeats 1000000 in
theorem twoNumbers_any (n t : Nat) (w : World) (h1 : n < 9223372036854775808) (h2 : t < 9223372036854775808) :
    Calls Tryz.prog 130 #[.int .i64 n, .int .i64 t] w fun e w' => e = .returned (.string (tx (varL n) ++ tx (varL t))) ∧ Below w.heap.size w w' := by
  have b1 : (varL n).length ≤ 9 := varL_len 8 n (by simp; omega)
  have b2 : (varL t).length ≤ 9 := varL_len 8 t (by simp; omega)
  have e1 := tx_size (varL n)
  have e2 := tx_size (varL t)
  have V1 := fun w => implVar_any (n : Int) w (by omega) (by omega)
  have V2 := fun w => implVar_any (t : Int) w (by omega) (by omega)
  rw [varT_nat, show (⟨(varL n).toArray⟩ : ByteArray) = tx (varL n) from rfl] at V1
  rw [varT_nat, show (⟨(varL t).toArray⟩ : ByteArray) = tx (varL t) from rfl] at V2
  rw [decide_eq_true (by omega)] at V1 V2
  generalize tx (varL n) = A at *
  generalize tx (varL t) = B at *
  go_enter Tryz.func130, Tryz.ntmps130
  go_wp2_with fail
  refine (V1 _).mono ?_
  rintro e w1 ⟨rfl, hb1⟩
  go_wp2_with fail
  refine (V2 _).mono ?_
  rintro e w2 ⟨rfl, hb2⟩
  go_wp2
  go_ret
  exact ⟨rfl, below_then hb1 hb2⟩

theorem twoL_at (x : Nat) : bcs (twoL x) = [.int .u8 ((x : Int) % 256), .int .u8 ((x : Int) / 256 % 256)] := by
  simp only [bcs, twoL, List.map_cons, List.map_nil, UInt8.toNat_ofNat']
  simp only [List.cons.injEq, Value.int.injEq, true_and, and_true]
  omega
theorem conv_two (x : Nat) (w : World) : (convert 22 9 (.slice (some ⟨w.heap.size, 0, none⟩) 2 2)).run Tryz.prog (w.alloc (.cells #[.int .u8 ((x : Int) % 256), .int .u8 ((x : Int) / 256 % 256)] 5)) = .ok (.string (tx (twoL x))) (w.alloc (.cells #[.int .u8 ((x : Int) % 256), .int .u8 ((x : Int) / 256 % 256)] 5)) := by
  have hb := twoL_at x
  have hl : (twoL x).length = 2 := rfl
  have := run_convert_bytes_back (P := Tryz.prog) (w.alloc (.cells #[.int .u8 ((x : Int) % 256), .int .u8 ((x : Int) / 256 % 256)] 5)) 22 9 5 ⟨w.heap.size, 0, none⟩ 2 (twoL x) Tryz.underlying22 Tryz.underlying5 Tryz.underlying9 (by
    intro j hj
    rw [show (⟨w.heap.size, 0, none⟩ : Addr).add j = ⟨w.heap.size, j, none⟩ from by simp [Addr.add]; omega, World.cell?_alloc_at _ _ _ _ rfl]
    have e : (bcs (twoL x))[j]? = some (.int .u8 (((twoL x)[j].toNat : Nat) : Int)) := by simp [bcs, hj]
    rw [hb] at e
    simpa using e)
  rw [hl] at this
  exact this

set_option maxHeartbeats 1000000 in
theorem placeBytes_any (x : Nat) (w : World) (hx : x < 4294967296) :
    Calls Tryz.prog 103 #[.int .i64 x] w fun e w' => e = .returned (.string (tx (twoL x))) ∧ Below w.heap.size w w' := by
  have hcv := conv_two x w
  go_enter Tryz.func103, Tryz.ntmps103
  go_wp2
  go_ret
  exact ⟨rfl, below_alloc _ _⟩
set_option maxHeartbeats 1000000 in
theorem l6Two_any (x : Nat) (w : World) (hx : x < 4294967296) :
    Calls Tryz.prog 112 #[.int .i64 x] w fun e w' => e = .returned (.string (tx (twoL x))) ∧ Below w.heap.size w w' := by
  have hcv := conv_two x w
  go_enter Tryz.func112, Tryz.ntmps112
  go_wp2
  go_ret
  exact ⟨rfl, below_alloc _ _⟩

theorem itL_tx (x : It) (c : Nat) : tx (itL x c) = tx (varL c) ++ tx (varL (x.k.size - c)) ++ (tx (varL (2 * x.n + x.d).toNat) ++ tx (varL x.v.size)) ++ x.k.extract c x.k.size ++ x.v := by
  apply bl_inj
  simp only [bl_cat, bl_tx, bl_from, itL, List.append_assoc]

end Go.Proofs.YtfdaffnkgpdhhaaGreat

namespace Go.Proofs.YtfdaffnkgpdhhaaGreat
open Go.RowKit
set_option linter.unusedVariables false
set_option maxRecDepth 100000

set_option maxHeartbeats 2000000 in
theorem itemBytes_any (k v : ByteArray) (n d : Int) (c : Nat) (w : World) (hok : okIt ⟨k, n, d, v⟩ = true) (hc : c ≤ k.size) :
    Calls Tryz.prog 105 #[.agg #[.string k, .int .i64 n, .int .i64 d, .string v], .int .i64 c] w fun e w' => e = .returned (.string (tx (itL ⟨k, n, d, v⟩ c))) ∧ Below w.heap.size w w' := by
  have hk := okIt_key hok
  have hs := okIt_seq hok
  have hd := okIt_kind hok
  dsimp only at hk hs hd
  obtain ⟨m, hm⟩ : ∃ m : Nat, (m : Int) = 2 * n + d := ⟨(2 * n + d).toNat, by omega⟩
  have hm2 : (2 * n + d).toNat = m := by omega
  have HI : Hid (tx (itL ⟨k, n, d, v⟩ c) = tx (varL c) ++ tx (varL (k.size - c)) ++ (tx (varL m) ++ tx (varL v.size)) ++ k.extract c k.size ++ v) := by rw [← hm2]; exact itL_tx _ _
  have b1 : (varL c).length ≤ 9 := varL_len 8 c (by simp; omega)
  have b2 : (varL (k.size - c)).length ≤ 9 := varL_len 8 _ (by simp; omega)
  have b3 : (varL m).length ≤ 9 := varL_len 8 _ (by simp; omega)
  have b4 : (varL v.size).length ≤ 9 := varL_len 8 _ (by simp; omega)
  have s1 : (tx (varL c) ++ tx (varL (k.size - c))).size ≤ 18 := by rw [ByteArray.size_append, tx_size, tx_size]; omega
  have s2 : (tx (varL m) ++ tx (varL v.size)).size ≤ 18 := by rw [ByteArray.size_append, tx_size, tx_size]; omega
  have K1 := fun w => twoNumbers_any c (k.size - c) w (by omega) (by omega)
  have K2 := fun w => twoNumbers_any m v.size w (by omega) (by omega)
  have e1 : ((k.size - c : Nat) : Int) = (k.size : Int) - c := by omega
  rw [e1] at K1
  rw [hm] at K2
  generalize tx (itL ⟨k, n, d, v⟩ c) = R at *
  generalize tx (varL c) ++ tx (varL (k.size - c)) = A at *
  generalize tx (varL m) ++ tx (varL v.size) = B at *
  obtain ⟨W0, hW0⟩ : ∃ W0, W0 = w.alloc (.cells #[.string k, .int .i64 n, .int .i64 d, .string v] 33) := ⟨_, rfl⟩
  have X0 : Box W0 w.heap.size [.string k, .int .i64 n, .int .i64 d, .string v] := by rw [hW0]; exact Box.new w #[.string k, .int .i64 n, .int .i64 d, .string v] 33
  have hB0 : Below w.heap.size w W0 := by rw [hW0]; exact below_alloc _ _
  have hz0 := hB0.size
  have p0 := fun x : WC W0.heap.size W0 => (X0.below x.ok).2.1 0 _ rfl
  have p1 := fun x : WC W0.heap.size W0 => (X0.below x.ok).2.1 1 _ rfl
  have p2 := fun x : WC W0.heap.size W0 => (X0.below x.ok).2.1 2 _ rfl
  have p3 := fun x : WC W0.heap.size W0 => (X0.below x.ok).2.1 3 _ rfl
  have hne : Nonempty (WC W0.heap.size W0) := ⟨⟨_, Below.refl _ _⟩⟩
  clear hm hm2 e1 b1 b2 b3 b4 hok
  go_enter Tryz.func105, Tryz.ntmps105
  go_wp2_with fail
  rw [← hW0]; clear hW0
  refine wp_region_calm (B := W0.heap.size) (W := W0) (by kernel_rfl) (by kernel_rfl) (Below.refl _ _) ?_
  repeat (go_big_quiet_step (first | (go_at_call 130; first | with_reducible exact calm_of_below (Nat.le_refl _) (K1 _) | with_reducible exact calm_of_below (Nat.le_refl _) (K2 _))))
  refine wpQuiet_nil ?_
  intro _ hw'
  obtain ⟨x, hx⟩ := hw'
  subst hx
  have hB1 := hB0.trans (x.ok.mono (by omega))
  have X1 := X0.below x.ok
  clear p0 p1 p2 p3 hne X0 hB0 K1 K2
  generalize x.w = w1 at *
  clear x
  obtain ⟨_, x0, x1, x2, x3⟩ := X1.c4
  go_wp2_with fail
  go_quiet (fail)
  go_wp2
  go_ret
  exact ⟨by rw [HI.out]; rfl, below_drewN hB1 _⟩
end Go.Proofs.YtfdaffnkgpdhhaaGreat

