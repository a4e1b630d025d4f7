/-
  Numbers and texts read, plainly, and by the program.
-/
import Derived.Test.YtenbdjlhcadhaaaX9
import Derived.Test.YtenbdjlhcadhaaaAP4
import Derived.Test.YtenbdjlhcadhaaaJ
import Derived.Test.YtenbdjlhcadhaaaV2
namespace Go.Proofs.Ytenbdjlhcadhaaa
open Go.RowKit
set_option linter.unusedVariables false
set_option maxRecDepth 100000

/-- A number read, and what is left. -/
def tN (r : ByteArray) : Nat := (take r.data.toList).1
def tC (r : ByteArray) : Nat := (take r.data.toList).2
def tR (r : ByteArray) : ByteArray := r.extract (tC r) r.size
theorem tC_le (r : ByteArray) : tC r ≤ r.size := by
  have := (take_bound r.data.toList).2.2
  have h : r.data.toList.length = r.size := by simp
  rw [h] at this
  exact this
theorem tN_lt (r : ByteArray) : tN r < 9223372036854775808 := (take_bound r.data.toList).1
theorem tR_size (r : ByteArray) : (tR r).size ≤ r.size := by unfold tR; rw [ByteArray.size_extract]; omega
theorem tN_var {r : ByteArray} {n : Nat} {more : List UInt8} (h : bl r = varL n ++ more) (hn : n < 9223372036854775808) : tN r = n ∧ bl (tR r) = more ∧ tC r = (varL n).length := by
  have e : r.data.toList = varL n ++ more := h
  have ht := take_var n more hn
  have h2 : tC r = (varL n).length := by unfold tC; rw [e, ht]
  refine ⟨by unfold tN; rw [e, ht], ?_, h2⟩
  unfold tR
  rw [bl_from, h2, h]
  simp
/-- A text read. -/
def xN (r : ByteArray) : Nat := min (tN r) (tR r).size
def xT (r : ByteArray) : ByteArray := (tR r).extract 0 (xN r)
def xR (r : ByteArray) : ByteArray := (tR r).extract (xN r) (tR r).size
theorem xT_size (r : ByteArray) : (xT r).size ≤ r.size := by
  have := tR_size r
  unfold xT; rw [ByteArray.size_extract]; omega
theorem xR_size (r : ByteArray) : (xR r).size ≤ r.size := by
  have := tR_size r
  unfold xR; rw [ByteArray.size_extract]; omega
theorem xT_var {r s : ByteArray} {more : List UInt8} (h : bl r = varL s.size ++ bl s ++ more) (hs : s.size ≤ 1048576) : xT r = s ∧ bl (xR r) = more ∧ tN r = s.size ∧ s.size ≤ (tR r).size ∧ tC r = (varL s.size).length := by
  rw [List.append_assoc] at h
  obtain ⟨h1, h2, h3⟩ := tN_var h (by omega)
  have hl : (tR r).size = s.size + more.length := by rw [← bl_len, h2, List.length_append, bl_len]
  have hx : xN r = s.size := by unfold xN; rw [h1, hl]; omega
  refine ⟨?_, ?_, h1, by omega, h3⟩
  · apply bl_inj
    unfold xT
    rw [bl_to, h2, hx, ← bl_len s, List.take_left']; rfl
  · unfold xR
    rw [bl_from, h2, hx, ← bl_len s, List.drop_left']; rfl

theorem str_from (r : ByteArray) (p : Nat) (w : World) (hp : p ≤ r.size) : (Instr.sliceAt 9 (.string r) (some (.int .i64 p)) none none).run Try.prog w = .ok (.string (r.extract p r.size)) w := by
  have h2 : (0 : Int) ≤ (p : Int) := by omega
  have hA : (Instr.sliceAt 9 (.string r) (some (.int .i64 p)) none none).run Try.prog w = (Instr.slice 9 (.string r) (some (.int .i64 p)) none none).run Try.prog w := by simp [Instr.sliceAt, run_underlying Try.underlying9]
  rw [hA]
  simp [Instr.slice, Instr.sliceBounds, Instr.sliceBound, asIntOf, run_underlying Try.underlying9, hp, h2]
theorem str_to (r : ByteArray) (p : Nat) (w : World) (hp : p ≤ r.size) : (Instr.sliceAt 9 (.string r) none (some (.int .i64 p)) none).run Try.prog w = .ok (.string (r.extract 0 p)) w := by
  have h2 : (0 : Int) ≤ (p : Int) := by omega
  have hA : (Instr.sliceAt 9 (.string r) none (some (.int .i64 p)) none).run Try.prog w = (Instr.slice 9 (.string r) none (some (.int .i64 p)) none).run Try.prog w := by simp [Instr.sliceAt, run_underlying Try.underlying9]
  rw [hA]
  simp [Instr.slice, Instr.sliceBounds, Instr.sliceBound, asIntOf, run_underlying Try.underlying9, hp, h2]
theorem Box.c1 {w : World} {b : Nat} {v : Value} (h : Box w b [v]) : b < w.heap.size ∧ w.cell? ⟨b, 0, none⟩ = some v ∧ w.frozen? ⟨b, 0, none⟩ = false := ⟨h.1, h.2.1 0 _ rfl, h.2.2 0⟩
theorem set1 {w : World} {b : Nat} {v : Value} (h : Box w b [v]) (u : Value) : Box (w.setCell ⟨b, 0, none⟩ u) b [u] ∧ Chg (· = b) w (w.setCell ⟨b, 0, none⟩ u) :=
  ⟨h.set 0 u (by simp), Chg.setCell (S := fun k => k = b) (p := ⟨b, 0, none⟩) (Chg.refl _ _) rfl _⟩

set_option maxHeartbeats 2000000 in
theorem number_any (b : Nat) (r : ByteArray) (W : World) (hb : Box W b [.string r]) (hs : r.size ≤ 1048576) :
    Calls Try.prog 89 #[.pointer (some ⟨b, 0, none⟩)] W fun e w' => e = .returned (.int .i64 (tN r : Nat)) ∧ Box w' b [.string (tR r)] ∧ Chg (· = b) W w' := by
  obtain ⟨hl, c0, f0⟩ := hb.c1
  have SL := fun w => str_from r (tC r) w (tC_le r)
  have TA : ∀ w, Calls Try.prog 118 #[.string r] w fun e w' => e = .returned (.tuple #[.int .i64 (tN r : Nat), .int .i64 (tC r : Nat)]) ∧ w' = w := fun w => implTake_any r w hs
  have HZ := set1 hb (.string (tR r))
  have HT : r.extract (tC r) r.size = tR r := rfl
  rw [HT] at SL
  generalize tC r = p at *
  generalize tN r = n at *
  generalize tR r = r2 at *
  clear HT hb
  go_enter Try.func89, Try.ntmps89
  go_wp2_with fail
  refine (TA _).mono ?_
  rintro e w1 ⟨rfl, rfl⟩
  go_wp2_with (refine wpList_sliceOp _ rfl 9 _ _ _ _ rfl _ (SL _) ?_; simp only [Act.put, List.setIfInBounds_toArray, List.set_cons_zero, List.set_cons_succ])
  go_ret
  exact ⟨rfl, HZ.1, HZ.2⟩

set_option maxHeartbeats 2000000 in
theorem text_any (b : Nat) (r : ByteArray) (W : World) (hb : Box W b [.string r]) (hs : r.size ≤ 1048576) :
    Calls Try.prog 119 #[.pointer (some ⟨b, 0, none⟩)] W fun e w' => e = .returned (.string (xT r)) ∧ Box w' b [.string (xR r)] ∧ Chg (· = b) W w' := by
  have NA := number_any b r W hb hs
  have hle : xN r ≤ (tR r).size := by unfold xN; omega
  have SF := fun w => str_from (tR r) (xN r) w hle
  have ST := fun w => str_to (tR r) (xN r) w hle
  have HT : (tR r).extract 0 (xN r) = xT r := rfl
  have HR : (tR r).extract (xN r) (tR r).size = xR r := rfl
  rw [HT] at ST
  rw [HR] at SF
  have HN : Hid (xN r = min (tN r) (tR r).size) := rfl
  clear HT HR hb
  generalize xN r = p at *
  generalize tN r = n at *
  generalize tR r = r2 at *
  generalize xT r = t at *
  generalize xR r = r3 at *
  go_enter Try.func119, Try.ntmps119
  go_wp2_with fail
  refine NA.mono ?_
  rintro e w1 ⟨rfl, hb1, hC⟩
  obtain ⟨hl, c0, f0⟩ := hb1.c1
  have HZ := set1 hb1 (.string r3)
  have hCC := hC.trans HZ.2
  by_cases hm : n ≤ r2.size
  · obtain rfl : p = n := by rw [HN.out]; omega
    clear HN
    have hmi : min (p : Int) (r2.size : Int) = (p : Int) := by omega
    go_wp2_with (first | (refine wpList_sliceOp _ rfl 9 _ _ _ _ rfl _ (ST _) ?_; simp only [Act.put, List.setIfInBounds_toArray, List.set_cons_zero, List.set_cons_succ]) | (refine wpList_sliceOp _ rfl 9 _ _ _ _ rfl _ (SF _) ?_; simp only [Act.put, List.setIfInBounds_toArray, List.set_cons_zero, List.set_cons_succ]))
    go_ret
    exact ⟨rfl, HZ.1, hCC⟩
  · obtain rfl : p = r2.size := by rw [HN.out]; omega
    clear HN
    have hmi : min (n : Int) (r2.size : Int) = (r2.size : Int) := by omega
    go_wp2_with (first | (refine wpList_sliceOp _ rfl 9 _ _ _ _ rfl _ (ST _) ?_; simp only [Act.put, List.setIfInBounds_toArray, List.set_cons_zero, List.set_cons_succ]) | (refine wpList_sliceOp _ rfl 9 _ _ _ _ rfl _ (SF _) ?_; simp only [Act.put, List.setIfInBounds_toArray, List.set_cons_zero, List.set_cons_succ]))
    go_ret
    exact ⟨rfl, HZ.1, hCC⟩
end Go.Proofs.Ytenbdjlhcadhaaa
