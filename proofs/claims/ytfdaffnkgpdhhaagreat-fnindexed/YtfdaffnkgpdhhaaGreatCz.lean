/-
  Items eight by eight: slices.Chunk and its closure, for every loop body.
  The unlike keys of a run: impl.keysOf.
-/
import Derived.Test.YtfdaffnkgpdhhaaGreatHz
import Derived.Test.YtfdaffnkgpdhhaaGreatYw
import Derived.Test.YtfdaffnkgpdhhaaGreatLz
namespace Go.Proofs.YtfdaffnkgpdhhaaGreat
open Go.RowKit Go.Shelf Go.Lib
set_option linter.unusedVariables false
set_option maxRecDepth 100000
attribute [local go_sem] Oper.semAt_some

/-- The slice of the block at i. -/
def chV (b off : Nat) (l : List It) (i : Nat) : Value := .slice (some ⟨b, off + 8 * i * 4, none⟩) (min 8 (l.length - 8 * i)) (min 8 (l.length - 8 * i))
/-- What a round keeps: the two variables of the closure. -/
structure KeepT (Bn Bm : Nat) (W W' : World) : Prop where
  size : W.heap.size ≤ W'.heap.size
  n : W'.heap[Bn]? = W.heap[Bn]?
  m : W'.heap[Bm]? = W.heap[Bm]?
theorem KeepT.trans {Bn Bm : Nat} {X Y Z : World} (h : KeepT Bn Bm X Y) (k : KeepT Bn Bm Y Z) : KeepT Bn Bm X Z := ⟨Nat.le_trans h.size k.size, k.n.trans h.n, k.m.trans h.m⟩
theorem KeepT.put {Bn Bm : Nat} {w : World} (hn : Bn < w.heap.size) (hm : Bm < w.heap.size) (W : World) (l : Nat) (o o' : Obj) (hl : w.heap.size ≤ l) (_ : W.heap[l]? = some o) (_ : o.isCells = false) (_ : o.isWalk = false) : KeepT Bn Bm W (W.putObj l o') :=
  ⟨(grownBy_putObj' W l o').size, World.putObj_heap_other (by omega), World.putObj_heap_other (by omega)⟩

theorem abideG {α : Type} {J : List α → World → Prop} {B : Nat} (hJ : AbidesFrom B J) {pre : List α} {w w' : World} (h : J pre w) (hb : Below w.heap.size w w') : J pre w' :=
  hJ pre w w' none h (below_grown hb) (fun r e => by cases e)
set_option maxHeartbeats 4000000 in
theorem chunk1_in (n : Nat) (hn : 1 ≤ n) (y Bn Bm b off cap : Nat) (l : List It) (hl : 1 ≤ l.length) (hl2 : l.length ≤ 120) (hcap : l.length ≤ cap) (J Jx : List (Fin (nb l)) → World → Prop) (W : World) (hJ : AbidesFrom W.heap.size J)
    (hY : ∀ pre x W1, J pre W1 → pre.length < nb l → YieldAt Fence.wide (n - 1) Tryz.prog y #[chV b off l x.val] W1 fun e W' =>
      (e = .returned (.bool true) ∧ J (pre ++ [x]) W' ∧ KeepT Bn Bm W1 W') ∨ (e = .returned (.bool false) ∧ Jx (pre ++ [x]) W'))
    (hBn : Boxed W Bn 23 (.slice (some ⟨b, off, none⟩) l.length cap)) (hBm : Boxed W Bm 3 (.int .i64 8)) (h0 : J [] W) :
    CallsIn Fence.wide n Tryz.prog 102 #[.func (.yield y) #[] #[], .pointer (some ⟨Bn, 0, none⟩), .pointer (some ⟨Bm, 0, none⟩)] W fun e W' => (∃ v, e = .returned v) ∧
      ((∃ ys, ys.map Fin.val = List.range (nb l) ∧ J ys W') ∨ (∃ pre, True ∧ Jx pre W')) := by
  refine callsIn_of_wp Tryz.func102 rfl trivial ?_ rfl
  simp only [Tryz.ntmps102, List.size_toArray, List.length_cons, List.length_nil, Nat.reduceAdd, Nat.reduceSub, Array.replicate_succ, Array.replicate_zero, List.push_toArray, List.append_toArray, List.nil_append, List.cons_append]
  gi_wp2
  gi_loopw [4] (fun iv wr => ∃ (k : Nat) (pre : List (Fin (nb l))), k ≤ nb l ∧ iv = .int .i64 (8 * k : Nat) ∧ pre.map Fin.val = List.range k ∧ J pre wr ∧ Boxed wr Bn 23 (.slice (some ⟨b, off, none⟩) l.length cap) ∧ Boxed wr Bm 3 (.int .i64 8)) (fun iv _ => l.length + 8 - (RowKit.intOf iv).toNat)
  case atStart => exact ⟨0, [], Nat.zero_le _, rfl, rfl, h0, hBn, hBm⟩
  case round =>
    clear hBn h0 hBm
    obtain ⟨k, pre, hk, rfl, hpre, hJs, hBn, hBm⟩ := hrel
    have c1 := hBn.cell
    have c2 := hBm.cell
    have hnb : nb l = (l.length + 7) / 8 := rfl
    by_cases hlt : k < nb l
    · have hlt8 : 8 * k < l.length := nb_lt hlt
      obtain ⟨m, hm⟩ : ∃ m : Nat, min 8 (l.length - 8 * k) = m := ⟨_, rfl⟩
      have hm1 : 1 ≤ m ∧ m ≤ 8 ∧ 8 * k + m ≤ l.length := by omega
      have hplen : pre.length = k := by have := congrArg List.length hpre; simpa using this
      have hk2 : ((8 * k : Nat) : Int) < (l.length : Int) := by omega
      have hmI : min (8 : Int) ((l.length - 8 * k : Nat) : Int) = (m : Int) := by omega
      gi_wp2_with fail
      gi_quiet (fail)
      obtain ⟨W2, hW2⟩ : ∃ W2, W2 = wr.drewN nq := ⟨_, rfl⟩
      have hJ2 : J pre W2 := by rw [hW2]; exact abideG hJ hJs (below_dn (Below.refl _ _) _)
      have hBn2 : Boxed W2 Bn 23 (.slice (some ⟨b, off, none⟩) l.length cap) := by rw [hW2]; exact hBn
      have hBm2 : Boxed W2 Bm 3 (.int .i64 8) := by rw [hW2]; exact hBm
      rw [← hW2]
      clear hW2 hJs hBn hBm c1 c2
      have c1 := hBn2.cell
      have c2 := hBm2.cell
      obtain ⟨fn, tmps, assign, body, hy, hR⟩ := hY pre ⟨k, hlt⟩ W2 hJ2 (by omega)
      unfold chV at hy
      dsimp only at hy
      rw [hm] at hy
      have hpre2 : Hid ((pre ++ [(⟨k, hlt⟩ : Fin (nb l))]).map Fin.val = List.range (k + 1)) := by
        show _ = _
        rw [List.map_append, hpre, List.range_succ]; rfl
      clear hmI hpre hJ2 hY
      gi_wp2_with fail
      refine hR.mono ?_
      rintro e W3 (⟨rfl, hJ3, hk3⟩ | ⟨rfl, hJx3⟩)
      · have hBn3 : Boxed W3 Bn 23 (.slice (some ⟨b, off, none⟩) l.length cap) := hk3.n.trans hBn2
        have hBm3 : Boxed W3 Bm 3 (.int .i64 8) := hk3.m.trans hBm2
        have d1 := hBn3.cell
        have d2 := hBm3.cell
        clear hy hR c1 c2 hBn2 hBm2 hk3
        gi_wp2
        go_roundw
        case rel => exact ⟨k + 1, pre ++ [⟨k, hlt⟩], by omega, by go_num, hpre2.out, hJ3, hBn3, hBm3⟩
        case measure => simp [RowKit.intOf]; omega
      · clear hy hR c1 c2 hBn2 hBm2
        gi_wp2
        refine bodyPost_ret (results_none rfl _ _ _) rfl ?_
        exact ⟨⟨_, rfl⟩, .inr ⟨_, trivial, hJx3⟩⟩
    · obtain rfl : k = nb l := by omega
      have hg : decide (((8 * nb l : Nat) : Int) < (l.length : Int)) = false := by simp; omega
      clear hY
      gi_wp2
      go_end0
      exact ⟨⟨_, rfl⟩, .inl ⟨pre, hpre, hJs⟩⟩

set_option maxHeartbeats 1000000 in
theorem chunk_any (a : Option Addr) (n cap : Nat) (w : World) :
    Calls Tryz.prog 66 #[.slice a n cap, .int .i64 8] w fun e w' => e = .returned (.func (.func 102) #[] #[.pointer (some ⟨w.heap.size, 0, none⟩), .pointer (some ⟨w.heap.size + 1, 0, none⟩)]) ∧ w' = (w.alloc (.cells #[.slice a n cap] 23)).alloc (.cells #[.int .i64 8] 3) := by
  go_enter Tryz.func66, Tryz.ntmps66
  go_wp2
  go_ret
  exact ⟨rfl, rfl⟩
/-- The closure that Chunk hands out. -/
theorem chunk_stops (n : Nat) (hn : 1 ≤ n) (Bn Bm b off cap : Nat) (l : List It) (hl : 1 ≤ l.length) (hl2 : l.length ≤ 120) (hcap : l.length ≤ cap) (w : World)
    (hBn : Boxed w Bn 23 (.slice (some ⟨b, off, none⟩) l.length cap)) (hBm : Boxed w Bm 3 (.int .i64 8)) :
    SeqStopsK Fence.wide n Tryz.prog 102 #[.pointer (some ⟨Bn, 0, none⟩), .pointer (some ⟨Bm, 0, none⟩)] (fun x : Fin (nb l) => #[chV b off l x.val]) (KeepT Bn Bm) (fun ys => ys.map Fin.val = List.range (nb l)) (fun _ => True) (nb l) w := fun y J Jx W hW hJ _ hY h0 =>
  chunk1_in n hn y Bn Bm b off cap l hl hl2 hcap J Jx W hJ hY ((hW.block Bn hBn.lt).trans hBn) ((hW.block Bm hBm.lt).trans hBm) h0
end Go.Proofs.YtfdaffnkgpdhhaaGreat

namespace Go.Proofs.YtfdaffnkgpdhhaaGreat
open Go.RowKit
set_option linter.unusedVariables false
set_option maxRecDepth 100000

theorem Tryz.info9 : (Tryz.prog.info? 9).map (fun i => (i.zero, i.size, i.bytes)) = some (some (.string ⟨#[]⟩), 1, 16) := by kernel_rfl
theorem ku_uniq (l : List It) : ∀ i, i ≤ l.length → uniqL (l.map It.k) i = kuL l i := by
  intro i
  induction i with
  | zero => intro _; rfl
  | succ i ih =>
    intro hi
    have g : ∀ j, j < l.length → (l.map It.k).getD j ⟨#[]⟩ = (l.getD j default).k := by
      intro j hj
      simp [List.getD_eq_getElem?_getD, hj]
    rw [uniqL, kuL, ih (by omega), g i (by omega), g (i - 1) (by omega)]
theorem cell_new1 (W : World) (x : Value) (t : TypeId) : ∀ j u, [x][j]? = some u → (W.alloc (.cells #[x] t)).cell? ((⟨W.heap.size, 0, none⟩ : Addr).add j) = some u := by
  intro j u hj
  match j, hj with
  | 0, hj =>
    simp at hj; subst hj
    rw [show (⟨W.heap.size, 0, none⟩ : Addr).add 0 = ⟨W.heap.size, 0, none⟩ from rfl]
    exact World.cell?_alloc_at _ _ _ _ rfl

set_option maxHeartbeats 2000000 in
theorem keysOf_any (v : Value) (l : List It) (w : World) (hv : IR w v l) (hn : l.length ≤ 100000) :
    Calls Tryz.prog 69 #[v] w fun e w' => ∃ v', e = .returned v' ∧ SL w' v' (kuL l l.length) ∧ Below w.heap.size w w' := by
  obtain ⟨a, cap, rfl, hc⟩ := hv
  obtain ⟨i0, hi, hz0, hzs, hzb⟩ := info_parts Tryz.info9
  go_enter Tryz.func69, Tryz.ntmps69
  go_wp2_with fail
  go_loopw [3, 8] (fun kv i wr => ∃ k : Nat, k ≤ l.length ∧ i = .int .i64 k ∧ wr.ownsRow w.heap.size 9 1 kv k (((l.take k).map It.k).map Value.string) ∧ Below w.heap.size w wr) (fun _ i _ => l.length - (intOf i).toNat)
  case atStart => exact ⟨0, Nat.zero_le _, rfl, World.ownsRow_nil _ _ _ _, Below.refl _ _⟩
  case round =>
    obtain ⟨k, hk, rfl, hown, hB⟩ := hrel
    have hzB := hB.size
    obtain ⟨ka, kcap, rfl⟩ : ∃ ka kcap, u3 = .slice ka k kcap := by
      rcases hown.2 with ⟨h, h0⟩ | ⟨g, c, cur, h, _⟩
      · exact ⟨none, 0, by rw [h, h0]⟩
      · exact ⟨_, _, h⟩
    by_cases hlt : k < l.length
    · obtain ⟨b, off, rfl, hbl, hcell⟩ := hc (by intro e; simp [e] at hlt)
      obtain ⟨c0, c1, c2, c3⟩ := hcell k hlt
      have d0 := (hB.cell (p := ⟨b, _, none⟩) hbl).trans c0
      have d1 := (hB.cell (p := ⟨b, _, none⟩) hbl).trans c1
      have d2 := (hB.cell (p := ⟨b, _, none⟩) hbl).trans c2
      have d3 := (hB.cell (p := ⟨b, _, none⟩) hbl).trans c3
      have HS : Hid (((l.take (k + 1)).map It.k).map Value.string = ((l.take k).map It.k).map Value.string ++ [.string l[k].k]) := by
        show _ = _
        rw [List.take_succ_eq_append_getElem hlt, List.map_append, List.map_append]; rfl
      generalize ((l.take k).map It.k).map Value.string = L at *
      clear hcell c0 c1 c2 c3 hc
      obtain ⟨p, hp⟩ : ∃ p, p = l[k] := ⟨_, rfl⟩
      rw [← hp] at HS d0 d1 d2 d3
      clear hp
      obtain ⟨pk, pn, pd, pv⟩ := p
      dsimp only at d0 d1 d2 d3 HS
      obtain ⟨W0, hW0⟩ : ∃ W0, W0 = wr.alloc (.cells #[.string pk, .int .i64 pn, .int .i64 pd, .string pv] 33) := ⟨_, rfl⟩
      have hB0 : Below w.heap.size w W0 := by rw [hW0]; exact hB.alloc hB.size _
      have hown0 : W0.ownsRow w.heap.size 9 1 (.slice ka k kcap) k L := by rw [hW0]; exact hown.alloc _
      have hown1 := hown0.alloc (.cells #[.string pk] 9)
      have hcn := cell_new1 W0 (.string pk) 9
      have hz0w := hB0.size
      have hsz0 : W0.heap.size = wr.heap.size + 1 := by rw [hW0]; simp
      rw [hW0] at hcn hown1
      simp only [World.size_alloc] at hcn
      clear hown hB
      go_wp2_with (at_builtin; refine wpList_append_own _ rfl _ _ 94 rfl w.heap.size 9 i0 (.string ⟨#[]⟩) 1 16 Tryz.underlying94 hi hz0 hzs hzb rfl (by decide) _ k L rfl hown1 ⟨wr.heap.size + 1, 0, none⟩ 1 1 [.string pk] rfl rfl hcn (by intro u hu; simp at hu; subst hu; rfl) (by unfold maxLen; omega) (by omega) (by simp; omega) ?_; intro v' w3 hown3 hgrow3 _)
      go_roundw
      case rel =>
        refine ⟨k + 1, by omega, by go_num, ?_, ?_⟩
        · rw [HS.out]; exact hown3
        · rw [← hW0] at hgrow3
          exact (hB0.alloc (by omega) _).grown hgrow3 (by simp; omega) (fun j hj => (hown0.lt j hj).1)
      case measure => simp [intOf]; omega
    · obtain rfl : k = l.length := by omega
      have KC := fun w1 v => compact_any w.heap.size v (l.map It.k) w1
      rw [List.length_map] at KC
      rw [List.take_length] at hown
      have hku := ku_uniq l l.length (Nat.le_refl _)
      rw [hku] at KC
      clear hc hku
      go_wp2_with fail
      refine (KC _ _ hown (by omega)).mono ?_
      rintro e w2 ⟨v2, rfl, hsl, hb2⟩
      have hB2 := hB.trans hb2
      clear KC hown hB hb2
      obtain ⟨sa, scap, rfl, hsc⟩ := hsl
      have hsl : SL w2 (.slice sa (kuL l l.length).length scap) (kuL l l.length) := ⟨sa, scap, rfl, hsc⟩
      clear hsc
      generalize (kuL l l.length).length = q at *
      go_wp2
      go_ret
      exact ⟨_, rfl, hsl, hB2⟩
end Go.Proofs.YtfdaffnkgpdhhaaGreat

