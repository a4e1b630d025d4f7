/-
  The items one by one: impl.itemsFrom and its closure, for every loop body.
-/
import Derived.Test.YtniepppbbkoanaaY0
import Derived.RangeFuncBound
import Derived.RangeFuncCalls
import Derived.RangeFuncLeaves
import Derived.Shelf.Abstract
import Derived.Shelf.RegionOpen
import Derived.OwnWalkIn
import Derived.TacticsInMore
import Derived.LoopNIn
import Derived.LoopIn
namespace Go.Proofs.Ytniepppbbkoanaa
open Go.RowKit Go.Shelf Go.Lib
set_option linter.unusedVariables false
set_option maxRecDepth 100000
attribute [local go_sem] Oper.semAt_some

def encIt (x : It) : Value := .agg #[.string x.k, .int .i64 x.n, .int .i64 x.d, .string x.v]
def strLen : Value → Nat
  | .string r => r.size
  | _ => 0
theorem below_grown {w w' : World} (h : Below w.heap.size w w') : w.grownBy w' none := ⟨h.os, h.tape, h.output, h.size, fun k hk _ => h.block k hk⟩
theorem abide {J : List It → World → Prop} {B : Nat} (hJ : AbidesFrom B J) {pre : List It} {w w' : World} (h : J pre w) (hb : Below w.heap.size w w') : J pre w' :=
  hJ pre w w' none h (below_grown hb) (fun r e => by cases e)
theorem rowOf_below {w w' : World} {B : Nat} (hb : Below w.heap.size w w') (hB : B < w.heap.size) : rowOf w' B = rowOf w B := by
  unfold rowOf; rw [hb.cell (p := ⟨B, 0, none⟩) hB]

set_option maxHeartbeats 4000000 in
theorem items1_in (n : Nat) (hn : 1 ≤ n) (l Bn B : Nat) (s : ByteArray) (hs : s.size ≤ 1048576) (J Jx : List It → World → Prop) (W : World) (hJ : AbidesFrom W.heap.size J) (hBlt : B < W.heap.size) (hsane : ∀ g, rowOf W B = some g → g < W.heap.size)
    (hY : ∀ pre x W1, J pre W1 → pre.length < (itsOf (bl s) []).length → YieldAt Fence.wide (n - 1) Try.prog l #[encIt x] W1 fun e W' =>
      (e = .returned (.bool true) ∧ J (pre ++ [x]) W' ∧ Kept B W1 W') ∨ (e = .returned (.bool false) ∧ Jx (pre ++ [x]) W'))
    (hBn : W.cell? ⟨Bn, 0, none⟩ = some (.string s)) (h0 : J [] W) :
    CallsIn Fence.wide n Try.prog 73 #[.func (.yield l) #[] #[], .pointer (some ⟨Bn, 0, none⟩)] W fun e W' => (∃ v, e = .returned v) ∧
      ((∃ ys, ys = itsOf (bl s) [] ∧ J ys W') ∨ (∃ pre, True ∧ Jx pre W')) := by
  refine callsIn_of_wp Try.func73 rfl trivial ?_ rfl
  simp only [Try.ntmps73, List.size_toArray, List.length_cons, List.length_nil, Nat.reduceAdd, Nat.reduceSub, Array.replicate_succ, Array.replicate_zero, List.push_toArray, List.append_toArray, List.nil_append, List.cons_append]
  gi_wp2
  gi_loopw [3, 4] (fun kv rv wr => ∃ (pre : List It) (key : List UInt8) (r : ByteArray), rv = .string r ∧ KY wr kv key ∧ itsOf (bl s) [] = pre ++ itsOf (bl r) key ∧ key.length + r.size ≤ s.size ∧ J pre wr ∧ W.heap.size ≤ wr.heap.size ∧ ∀ g, rowOf wr B = some g → g < wr.heap.size) (fun _ rv _ => strLen rv)
  case atStart => exact ⟨[], [], s, rfl, KY_nil _, by simp, by simp, h0, Nat.le_refl _, hsane⟩
  case round =>
    clear hBn h0 hsane
    obtain ⟨pre, key, r, rfl, hKY, hits, hsz, hJs, hzW, hsane⟩ := hrel
    have HI : Hid (itsOf (bl s) [] = pre ++ itsOf (bl r) key) := hits
    clear hits
    by_cases hr0 : r.size = 0
    · obtain rfl := empty_of_size hr0
      have hend : itsOf (bl s) [] = pre := by rw [HI.out, show bl (⟨#[]⟩ : ByteArray) = [] from rfl, itsOf_nil, List.append_nil]
      clear hY hKY HI
      gi_wp2
      go_end0
      exact ⟨⟨_, rfl⟩, .inl ⟨pre, hend.symm, hJs⟩⟩
    · have hz' : r.toList.isEmpty = false := by rw [isEmpty_eq]; simp [hr0]
      have hne : bl r ≠ [] := fun e => hr0 (by rw [← bl_len, e]; rfl)
      cases hok : rdOk (bl r) key with
      | false =>
        have hend : itsOf (bl s) [] = pre := by rw [HI.out, itsOf_stop hok, List.append_nil]
        have K := takeItem_no r _ key wr hKY (by omega) (by omega) hok
        clear hY HI
        gi_wp2_with fail
        refine ⟨trivial, ?_⟩
        refine (callsIn_wide.2 K).mono ?_
        rintro e w1 ⟨rfl, hb1⟩
        have hJ1 := abide hJ hJs hb1
        have hJ2 := abide hJ hJ1 (below_alloc w1 (.cells #[.string ⟨#[]⟩, .int .i64 0, .int .i64 0, .string ⟨#[]⟩] 35))
        clear hJs hJ1 K hKY
        gi_wp2
        refine ⟨fun _ h => (by cases h), ?_⟩
        gi_wp2
        refine bodyPost_ret (results_none rfl _ _ _) rfl ?_
        exact ⟨⟨_, rfl⟩, .inl ⟨pre, hend.symm, hJ2⟩⟩
      | true =>
        have HI2 : Hid (itsOf (bl s) [] = (pre ++ [rdIt (bl r) key]) ++ itsOf (bl (r.extract (rdN (bl r)) r.size)) (bl (rdIt (bl r) key).k)) := by
          show _ = _
          rw [HI.out, itsOf_step hne hok, bl_from]; simp
        have hlen : pre.length < (itsOf (bl s) []).length := by rw [HI2.out]; simp
        have hst := step_size hok
        have hN := rdN_pos hok
        rw [bl_len] at hN hst
        have K := takeItem_yes r _ key wr hKY (by omega) (by omega) hok
        have hsz2 : (bl (rdIt (bl r) key).k).length + (r.extract (rdN (bl r)) r.size).size ≤ s.size := by
          rw [ByteArray.size_extract]
          rw [List.length_drop, bl_len] at hst
          rw [bl_len]; omega
        have hms : (r.extract (rdN (bl r)) r.size).size < r.size := by rw [ByteArray.size_extract]; omega
        clear hst hN HI hok hne
        generalize rdIt (bl r) key = x at *
        generalize r.extract (rdN (bl r)) r.size = R at *
        obtain ⟨xk, xn, xd, xv⟩ := x
        dsimp only at K hsz2 HI2
        gi_wp2_with fail
        refine ⟨trivial, ?_⟩
        refine (callsIn_wide.2 K).mono ?_
        rintro e w1 ⟨rfl, hb1⟩
        obtain ⟨W2, hW2⟩ : ∃ W2, W2 = w1.alloc (.cells #[.string xk, .int .i64 xn, .int .i64 xd, .string xv] 35) := ⟨_, rfl⟩
        have hb2 : Below w1.heap.size w1 W2 := by rw [hW2]; exact below_alloc _ _
        have X2 : Box W2 w1.heap.size [.string xk, .int .i64 xn, .int .i64 xd, .string xv] := by rw [hW2]; exact Box.new w1 #[.string xk, .int .i64 xn, .int .i64 xd, .string xv] 35
        have hJ2 := abide hJ (abide hJ hJs hb1) hb2
        have hz1 := hb1.size
        have hz2 := hb2.size
        have hrw1 : rowOf w1 B = rowOf wr B := rowOf_below hb1 (by omega)
        have hrw2 : rowOf W2 B = rowOf w1 B := rowOf_below hb2 (by omega)
        have hne2 : rowOf W2 B ≠ some w1.heap.size := fun e => by rw [hrw2, hrw1] at e; have := hsane _ e; omega
        have hsn2 : ∀ g, rowOf W2 B = some g → g < W2.heap.size := fun g e => by rw [hrw2, hrw1] at e; have := hsane _ e; omega
        have hzW2 : W.heap.size ≤ W2.heap.size := by omega
        have hbB : w1.heap.size ≠ B := by omega
        obtain ⟨fn, tmps, assign, body, hy, hR⟩ := hY pre ⟨xk, xn, xd, xv⟩ W2 hJ2 hlen
        obtain ⟨_, x0, x1, x2, x3⟩ := X2.c4
        clear hY K hKY hJs hJ2 hb1 hb2 hrw1 hrw2 hsane hlen
        unfold encIt at hy
        dsimp only at hy
        rw [hW2] at hy x0 x1 x2 x3
        gi_wp2_with fail
        rw [← hW2]
        refine hR.mono ?_
        rintro e W3 (⟨rfl, hJ3, hk3⟩ | ⟨rfl, hJx3⟩)
        · have X3 := hk3.box X2 hbB hne2 (by simp)
          have hsn3 := hk3.sane hsn2
          have hz3 := hk3.size
          obtain ⟨kv2, W4, hcv, hKY4, hb4⟩ := KY_bytes xk W3
          have hJ4 := abide hJ hJ3 hb4
          have hz4 := hb4.size
          have hrw4 : rowOf W4 B = rowOf W3 B := rowOf_below hb4 (by omega)
          obtain ⟨_, y0, y1, y2, y3⟩ := X3.c4
          clear hy hR x0 x1 x2 x3 X2 hJ3 hW2 X3
          gi_wp2
          go_roundw
          case rel => exact ⟨pre ++ [⟨xk, xn, xd, xv⟩], bl xk, R, rfl, hKY4, HI2.out, hsz2, hJ4, by omega, fun g e => by rw [hrw4] at e; have := hsn3 g e; omega⟩
          case measure => exact hms
        · clear hy hR x0 x1 x2 x3 X2 hW2
          gi_wp2
          refine bodyPost_ret (results_none rfl _ _ _) rfl ?_
          exact ⟨⟨_, rfl⟩, .inr ⟨_, trivial, hJx3⟩⟩

set_option maxHeartbeats 1000000 in
theorem itemsFrom_any (s : ByteArray) (w : World) :
    Calls Try.prog 46 #[.string s] w fun e w' => e = .returned (.func (.func 73) #[] #[.pointer (some ⟨w.heap.size, 0, none⟩)]) ∧ w' = w.alloc (.cells #[.string s] 9) := by
  go_enter Try.func46, Try.ntmps46
  go_wp2
  go_ret
  exact ⟨rfl, rfl⟩
/-- The closure that itemsFrom hands out. -/
theorem items_stops (n : Nat) (hn : 1 ≤ n) (Bn B : Nat) (s : ByteArray) (hs : s.size ≤ 1048576) (w : World) (hBn : Bn < w.heap.size) (hB : B < w.heap.size) (hc : w.cell? ⟨Bn, 0, none⟩ = some (.string s)) (hsane : ∀ g, rowOf w B = some g → g < w.heap.size) :
    SeqStopsK Fence.wide n Try.prog 73 #[.pointer (some ⟨Bn, 0, none⟩)] (fun x : It => #[encIt x]) (Kept B) (fun ys => ys = itsOf (bl s) []) (fun _ => True) (itsOf (bl s) []).length w := fun l J Jx W hW hJ _ hY h0 =>
  items1_in n hn l Bn B s hs J Jx W hJ (Nat.lt_of_lt_of_le hB hW.size) (fun g e => by rw [rowOf_below hW hB] at e; exact Nat.lt_of_lt_of_le (hsane g e) hW.size) hY ((hW.cell (p := ⟨Bn, 0, none⟩) hBn).trans hc) h0
end Go.Proofs.Ytniepppbbkoanaa
