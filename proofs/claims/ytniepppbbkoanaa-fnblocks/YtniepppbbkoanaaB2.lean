/-
  impl.itemBytes.
-/
import Derived.Test.YtniepppbbkoanaaB1
namespace Go.Proofs.Ytniepppbbkoanaa
open Go.RowKit
set_option linter.unusedVariables false
set_option maxRecDepth 100000

set_option maxHeartbeats 2000000 in
theorem itemBytes_any (k v : ByteArray) (n d : Int) (c : Nat) (w : World) (hok : okIt ⟨k, n, d, v⟩ = true) (hc : c ≤ k.size) :
    Calls Try.prog 41 #[.agg #[.string k, .int .i64 n, .int .i64 d, .string v], .int .i64 c] w fun e w' => e = .returned (.string (tx (itL ⟨k, n, d, v⟩ c))) ∧ Below w.heap.size w w' := by
  have hk := okIt_key hok
  have hs := okIt_seq hok
  have hd := okIt_kind hok
  dsimp only at hk hs hd
  obtain ⟨m, hm⟩ : ∃ m : Nat, (m : Int) = 2 * n + d := ⟨(2 * n + d).toNat, by omega⟩
  have hm2 : (2 * n + d).toNat = m := by omega
  have HI : Hid (tx (itL ⟨k, n, d, v⟩ c) = tx (varL c) ++ tx (varL (k.size - c)) ++ (tx (varL m) ++ tx (varL v.size)) ++ k.extract c k.size ++ v) := by rw [← hm2]; exact itL_tx _ _
  have b1 : (varL c).length ≤ 9 := varL_len 8 c (by simp; omega)
  have b2 : (varL (k.size - c)).length ≤ 9 := varL_len 8 _ (by simp; omega)
  have b3 : (varL m).length ≤ 9 := varL_len 8 _ (by simp; omega)
  have b4 : (varL v.size).length ≤ 9 := varL_len 8 _ (by simp; omega)
  have s1 : (tx (varL c) ++ tx (varL (k.size - c))).size ≤ 18 := by rw [ByteArray.size_append, tx_size, tx_size]; omega
  have s2 : (tx (varL m) ++ tx (varL v.size)).size ≤ 18 := by rw [ByteArray.size_append, tx_size, tx_size]; omega
  have K1 := fun w => twoNumbers_any c (k.size - c) w (by omega) (by omega)
  have K2 := fun w => twoNumbers_any m v.size w (by omega) (by omega)
  have e1 : ((k.size - c : Nat) : Int) = (k.size : Int) - c := by omega
  rw [e1] at K1
  rw [hm] at K2
  generalize tx (itL ⟨k, n, d, v⟩ c) = R at *
  generalize tx (varL c) ++ tx (varL (k.size - c)) = A at *
  generalize tx (varL m) ++ tx (varL v.size) = B at *
  obtain ⟨W0, hW0⟩ : ∃ W0, W0 = w.alloc (.cells #[.string k, .int .i64 n, .int .i64 d, .string v] 35) := ⟨_, rfl⟩
  have X0 : Box W0 w.heap.size [.string k, .int .i64 n, .int .i64 d, .string v] := by rw [hW0]; exact Box.new w #[.string k, .int .i64 n, .int .i64 d, .string v] 35
  have hB0 : Below w.heap.size w W0 := by rw [hW0]; exact below_alloc _ _
  have hz0 := hB0.size
  have p0 := fun x : WC W0.heap.size W0 => (X0.below x.ok).2.1 0 _ rfl
  have p1 := fun x : WC W0.heap.size W0 => (X0.below x.ok).2.1 1 _ rfl
  have p2 := fun x : WC W0.heap.size W0 => (X0.below x.ok).2.1 2 _ rfl
  have p3 := fun x : WC W0.heap.size W0 => (X0.below x.ok).2.1 3 _ rfl
  have hne : Nonempty (WC W0.heap.size W0) := ⟨⟨_, Below.refl _ _⟩⟩
  clear hm hm2 e1 b1 b2 b3 b4 hok
  go_enter Try.func41, Try.ntmps41
  go_wp2_with fail
  rw [← hW0]; clear hW0
  refine wp_region_calm (B := W0.heap.size) (W := W0) (by kernel_rfl) (by kernel_rfl) (Below.refl _ _) ?_
  repeat (go_big_quiet_step (first | (go_at_call 67; first | with_reducible exact calm_of_below (Nat.le_refl _) (K1 _) | with_reducible exact calm_of_below (Nat.le_refl _) (K2 _))))
  refine wpQuiet_nil ?_
  intro _ hw'
  obtain ⟨x, hx⟩ := hw'
  subst hx
  have hB1 := hB0.trans (x.ok.mono (by omega))
  have X1 := X0.below x.ok
  clear p0 p1 p2 p3 hne X0 hB0 K1 K2
  generalize x.w = w1 at *
  clear x
  obtain ⟨_, x0, x1, x2, x3⟩ := X1.c4
  go_wp2_with fail
  go_quiet (fail)
  go_wp2
  go_ret
  exact ⟨by rw [HI.out]; rfl, below_drewN hB1 _⟩
end Go.Proofs.Ytniepppbbkoanaa
