/-
  Items eight by eight: slices.Chunk and its closure, for every loop body.
-/
import Derived.Test.YtfdaffnkgpdhhaaGreatB7
import Derived.Test.YtfdaffnkgpdhhaaGreatYz
namespace Go.Proofs.YtfdaffnkgpdhhaaGreat
open Go.RowKit Go.Shelf Go.Lib
set_option linter.unusedVariables false
set_option maxRecDepth 100000
attribute [local go_sem] Oper.semAt_some

/-- The slice of the block at i. -/
def chV (b off : Nat) (l : List It) (i : Nat) : Value := .slice (some ⟨b, off + 8 * i * 4, none⟩) (min 8 (l.length - 8 * i)) (min 8 (l.length - 8 * i))
/-- What a round keeps: the two variables of the closure. -/
structure KeepT (Bn Bm : Nat) (W W' : World) : Prop where
  size : W.heap.size ≤ W'.heap.size
  n : W'.heap[Bn]? = W.heap[Bn]?
  m : W'.heap[Bm]? = W.heap[Bm]?
theorem KeepT.trans {Bn Bm : Nat} {X Y Z : World} (h : KeepT Bn Bm X Y) (k : KeepT Bn Bm Y Z) : KeepT Bn Bm X Z := ⟨Nat.le_trans h.size k.size, k.n.trans h.n, k.m.trans h.m⟩
theorem KeepT.put {Bn Bm : Nat} {w : World} (hn : Bn < w.heap.size) (hm : Bm < w.heap.size) (W : World) (l : Nat) (o o' : Obj) (hl : w.heap.size ≤ l) (_ : W.heap[l]? = some o) (_ : o.isCells = false) (_ : o.isWalk = false) : KeepT Bn Bm W (W.putObj l o') :=
  ⟨(grownBy_putObj' W l o').size, World.putObj_heap_other (by omega), World.putObj_heap_other (by omega)⟩

theorem abideG {α : Type} {J : List α → World → Prop} {B : Nat} (hJ : AbidesFrom B J) {pre : List α} {w w' : World} (h : J pre w) (hb : Below w.heap.size w w') : J pre w' :=
  hJ pre w w' none h (below_grown hb) (fun r e => by cases e)
set_option maxHeartbeats 4000000 in
theorem chunk1_in (n : Nat) (hn : 1 ≤ n) (y Bn Bm b off cap : Nat) (l : List It) (hl : 1 ≤ l.length) (hl2 : l.length ≤ 120) (hcap : l.length ≤ cap) (J Jx : List (Fin (nb l)) → World → Prop) (W : World) (hJ : AbidesFrom W.heap.size J)
    (hY : ∀ pre x W1, J pre W1 → pre.length < nb l → YieldAt Fence.wide (n - 1) Tryz.prog y #[chV b off l x.val] W1 fun e W' =>
      (e = .returned (.bool true) ∧ J (pre ++ [x]) W' ∧ KeepT Bn Bm W1 W') ∨ (e = .returned (.bool false) ∧ Jx (pre ++ [x]) W'))
    (hBn : Boxed W Bn 23 (.slice (some ⟨b, off, none⟩) l.length cap)) (hBm : Boxed W Bm 3 (.int .i64 8)) (h0 : J [] W) :
    CallsIn Fence.wide n Tryz.prog 102 #[.func (.yield y) #[] #[], .pointer (some ⟨Bn, 0, none⟩), .pointer (some ⟨Bm, 0, none⟩)] W fun e W' => (∃ v, e = .returned v) ∧
      ((∃ ys, ys.map Fin.val = List.range (nb l) ∧ J ys W') ∨ (∃ pre, True ∧ Jx pre W')) := by
  refine callsIn_of_wp Tryz.func102 rfl trivial ?_ rfl
  simp only [Tryz.ntmps102, List.size_toArray, List.length_cons, List.length_nil, Nat.reduceAdd, Nat.reduceSub, Array.replicate_succ, Array.replicate_zero, List.push_toArray, List.append_toArray, List.nil_append, List.cons_append]
  gi_wp2
  gi_loopw [4] (fun iv wr => ∃ (k : Nat) (pre : List (Fin (nb l))), k ≤ nb l ∧ iv = .int .i64 (8 * k : Nat) ∧ pre.map Fin.val = List.range k ∧ J pre wr ∧ Boxed wr Bn 23 (.slice (some ⟨b, off, none⟩) l.length cap) ∧ Boxed wr Bm 3 (.int .i64 8)) (fun iv _ => l.length + 8 - (RowKit.intOf iv).toNat)
  case atStart => exact ⟨0, [], Nat.zero_le _, rfl, rfl, h0, hBn, hBm⟩
  case round =>
    clear hBn h0 hBm
    obtain ⟨k, pre, hk, rfl, hpre, hJs, hBn, hBm⟩ := hrel
    have c1 := hBn.cell
    have c2 := hBm.cell
    have hnb : nb l = (l.length + 7) / 8 := rfl
    by_cases hlt : k < nb l
    · have hlt8 : 8 * k < l.length := nb_lt hlt
      obtain ⟨m, hm⟩ : ∃ m : Nat, min 8 (l.length - 8 * k) = m := ⟨_, rfl⟩
      have hm1 : 1 ≤ m ∧ m ≤ 8 ∧ 8 * k + m ≤ l.length := by omega
      have hplen : pre.length = k := by have := congrArg List.length hpre; simpa using this
      have hk2 : ((8 * k : Nat) : Int) < (l.length : Int) := by omega
      have hmI : min (8 : Int) ((l.length - 8 * k : Nat) : Int) = (m : Int) := by omega
      gi_wp2_with fail
      gi_quiet (fail)
      obtain ⟨W2, hW2⟩ : ∃ W2, W2 = wr.drewN nq := ⟨_, rfl⟩
      have hJ2 : J pre W2 := by rw [hW2]; exact abideG hJ hJs (below_dn (Below.refl _ _) _)
      have hBn2 : Boxed W2 Bn 23 (.slice (some ⟨b, off, none⟩) l.length cap) := by rw [hW2]; exact hBn
      have hBm2 : Boxed W2 Bm 3 (.int .i64 8) := by rw [hW2]; exact hBm
      rw [← hW2]
      clear hW2 hJs hBn hBm c1 c2
      have c1 := hBn2.cell
      have c2 := hBm2.cell
      obtain ⟨fn, tmps, assign, body, hy, hR⟩ := hY pre ⟨k, hlt⟩ W2 hJ2 (by omega)
      unfold chV at hy
      dsimp only at hy
      rw [hm] at hy
      have hpre2 : Hid ((pre ++ [(⟨k, hlt⟩ : Fin (nb l))]).map Fin.val = List.range (k + 1)) := by
        show _ = _
        rw [List.map_append, hpre, List.range_succ]; rfl
      clear hmI hpre hJ2 hY
      gi_wp2_with fail
      refine hR.mono ?_
      rintro e W3 (⟨rfl, hJ3, hk3⟩ | ⟨rfl, hJx3⟩)
      · have hBn3 : Boxed W3 Bn 23 (.slice (some ⟨b, off, none⟩) l.length cap) := hk3.n.trans hBn2
        have hBm3 : Boxed W3 Bm 3 (.int .i64 8) := hk3.m.trans hBm2
        have d1 := hBn3.cell
        have d2 := hBm3.cell
        clear hy hR c1 c2 hBn2 hBm2 hk3
        gi_wp2
        go_roundw
        case rel => exact ⟨k + 1, pre ++ [⟨k, hlt⟩], by omega, by go_num, hpre2.out, hJ3, hBn3, hBm3⟩
        case measure => simp [RowKit.intOf]; omega
      · clear hy hR c1 c2 hBn2 hBm2
        gi_wp2
        refine bodyPost_ret (results_none rfl _ _ _) rfl ?_
        exact ⟨⟨_, rfl⟩, .inr ⟨_, trivial, hJx3⟩⟩
    · obtain rfl : k = nb l := by omega
      have hg : decide (((8 * nb l : Nat) : Int) < (l.length : Int)) = false := by simp; omega
      clear hY
      gi_wp2
      go_end0
      exact ⟨⟨_, rfl⟩, .inl ⟨pre, hpre, hJs⟩⟩

set_option maxHeartbeats 1000000 in
theorem chunk_any (a : Option Addr) (n cap : Nat) (w : World) :
    Calls Tryz.prog 66 #[.slice a n cap, .int .i64 8] w fun e w' => e = .returned (.func (.func 102) #[] #[.pointer (some ⟨w.heap.size, 0, none⟩), .pointer (some ⟨w.heap.size + 1, 0, none⟩)]) ∧ w' = (w.alloc (.cells #[.slice a n cap] 23)).alloc (.cells #[.int .i64 8] 3) := by
  go_enter Tryz.func66, Tryz.ntmps66
  go_wp2
  go_ret
  exact ⟨rfl, rfl⟩
/-- The closure that Chunk hands out. -/
theorem chunk_stops (n : Nat) (hn : 1 ≤ n) (Bn Bm b off cap : Nat) (l : List It) (hl : 1 ≤ l.length) (hl2 : l.length ≤ 120) (hcap : l.length ≤ cap) (w : World)
    (hBn : Boxed w Bn 23 (.slice (some ⟨b, off, none⟩) l.length cap)) (hBm : Boxed w Bm 3 (.int .i64 8)) :
    SeqStopsK Fence.wide n Tryz.prog 102 #[.pointer (some ⟨Bn, 0, none⟩), .pointer (some ⟨Bm, 0, none⟩)] (fun x : Fin (nb l) => #[chV b off l x.val]) (KeepT Bn Bm) (fun ys => ys.map Fin.val = List.range (nb l)) (fun _ => True) (nb l) w := fun y J Jx W hW hJ _ hY h0 =>
  chunk1_in n hn y Bn Bm b off cap l hl hl2 hcap J Jx W hJ hY ((hW.block Bn hBn.lt).trans hBn) ((hW.block Bm hBm.lt).trans hBm) h0
end Go.Proofs.YtfdaffnkgpdhhaaGreat
