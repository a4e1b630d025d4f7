/-
  The parts of a run's table: impl.partsOf.
  The parts of a run's table: impl.partsOf, walked.
  The bytes of a run's table: impl.TableBytes.
-/
import Derived.Test.YtfdaffnkgpdhhaaGreatCz
import Derived.Test.YtfdaffnkgpdhhaaGreatYw
import Derived.Test.YtfdaffnkgpdhhaaGreatWu
namespace Go.Proofs.YtfdaffnkgpdhhaaGreat
open Go.RowKit Go.Shelf Go.Lib
set_option linter.unusedVariables false
set_option maxRecDepth 100000
attribute [local go_sem] Oper.semAt_some

/-- How many bytes some blocks have; their places. -/
def atP (l : List It) (pre : List Nat) : Nat := (pre.map fun i => (blkL (chk l i)).length).sum
theorem atP_snoc (l : List It) (pre : List Nat) (x : Nat) : atP l (pre ++ [x]) = atP l pre + (blkL (chk l x)).length := by simp [atP]
def plG (l : List It) : Nat → List Nat → List Pl
  | _, [] => []
  | a, i :: r => ⟨(lastI l i).k, (lastI l i).n, (a : Nat), ((blkL (chk l i)).length : Nat)⟩ :: plG l (a + (blkL (chk l i)).length) r
theorem plG_snoc (l : List It) (x : Nat) : ∀ (pre : List Nat) (a : Nat), plG l a (pre ++ [x]) = plG l a pre ++ [⟨(lastI l x).k, (lastI l x).n, ((a + atP l pre : Nat) : Int), ((blkL (chk l x)).length : Nat)⟩] := by
  intro pre
  induction pre with
  | nil => intro a; simp [plG, atP]
  | cons i r ih =>
    intro a
    rw [List.cons_append, plG, ih, plG]
    simp only [List.cons_append, atP, List.map_cons, List.sum_cons]
    rw [show a + (blkL (chk l i)).length + (r.map fun i => (blkL (chk l i)).length).sum = a + ((blkL (chk l i)).length + (r.map fun i => (blkL (chk l i)).length).sum) from by omega]
theorem atP_range (l : List It) (n : Nat) : atP l (List.range n) = (bsL l n).length := by
  induction n with
  | zero => rfl
  | succ n ih => rw [List.range_succ, atP_snoc, ih]; simp [bsL]
theorem plG_range (l : List It) (n : Nat) : plG l 0 (List.range n) = plsL l n := by
  induction n with
  | zero => rfl
  | succ n ih => rw [List.range_succ, plG_snoc, ih, atP_range, plsL_succ, Nat.zero_add]; rfl
theorem plG_len (l : List It) : ∀ (pre : List Nat) (a : Nat), (plG l a pre).length = pre.length := by
  intro pre
  induction pre with
  | nil => intro a; rfl
  | cons i r ih => intro a; simp [plG, ih]
theorem atP_le {l : List It} (h : goodR l = true) (pre : List Nat) : atP l pre ≤ 546 * pre.length := by
  induction pre with
  | nil => simp [atP]
  | cons i r ih =>
    have := chk_small h i
    simp only [atP, List.map_cons, List.sum_cons, List.length_cons] at ih ⊢
    omega
/-- The part of the block at i. -/
def blkP (b off : Nat) (l : List It) (i : Nat) : Part := .blk (chV b off l i) (chk l i) (tx (blkL (chk l i)))
theorem IR_chunk {w : World} {b off cap : Nat} {l : List It} (hv : IR w (.slice (some ⟨b, off, none⟩) l.length cap) l) {i : Nat} (hi : i < nb l) : IR w (chV b off l i) (chk l i) := by
  obtain ⟨a, c, h, hc⟩ := hv
  cases h
  have h8 := nb_lt hi
  obtain ⟨b', off', h', hlt, hcell⟩ := hc (by intro e; rw [e] at h8; simp at h8)
  cases h'
  refine ⟨some ⟨b, off + 8 * i * 4, none⟩, min 8 (l.length - 8 * i), by rw [chk_len]; rfl, fun _ => ⟨b, off + 8 * i * 4, rfl, hlt, fun j hj => ?_⟩⟩
  have hj' := hj
  rw [chk_len] at hj'
  obtain ⟨c0, c1, c2, c3⟩ := hcell (8 * i + j) (by omega)
  have hg : (chk l i)[j] = l[8 * i + j]'(by omega) := by simp [chk]
  rw [hg]
  refine ⟨?_, ?_, ?_, ?_⟩
  · rw [← c0]; congr 2; omega
  · rw [← c1]; congr 2; omega
  · rw [← c2]; congr 2; omega
  · rw [← c3]; congr 2; omega

/-- What partsOf answers of a good run. -/
def partsL (b off : Nat) (l : List It) (vi : Value) (m : Int) : List Part := (List.range (nb l)).map (blkP b off l) ++ [.idx vi (plsL l (nb l)), .flt 4 (fbT l) m, .fin (bsL l (nb l)).length]
theorem Tryz.info111 : (Tryz.prog.info? 111).map (fun i => (i.zero, i.size, i.bytes)) = some (some .nilIface, 1, 16) := by kernel_rfl
theorem Tryz.info50 : (Tryz.prog.info? 50).map (fun i => (i.zero, i.size, i.bytes)) = some (some (.agg #[.string ⟨#[]⟩, .int .i64 0, .int .i64 0, .int .i64 0]), 4, 40) := by kernel_rfl

/-- A slice in a variable of its own, something appended to it and stored there. -/
theorem box_app {P : Program} {W : World} {H B : Nat} {t e : TypeId} {i0 : TypeInfo} {z : Value} {size bytes : Nat} {v : Value} {k : Nat} {xs : List Value} (tmp : Obj) (news : List Value)
    (ht : P.underlying t = some (.slice e)) (hi : P.info? e = some i0) (hz0 : i0.zero = some z) (hzs : i0.size = size) (hzb : i0.bytes = bytes) (hzc : z.cells.size = size) (hsz : 0 < size)
    (hv : Boxed W B t v) (hrow : W.ownsRow H e size v k xs) (hBH : B < H) (hHW : H ≤ W.heap.size)
    (hl : news.length = 1 * size) (hnews : ∀ j u, news[j]? = some u → (W.alloc tmp).cell? ((⟨W.heap.size, 0, none⟩ : Addr).add j) = some u) (h1 : ∀ u ∈ news, u.oneCell' = true)
    (hk : k + 1 ≤ 1000) (hby : bytes ≤ 1000) :
    ∃ g cap w2, (Builtin.append_ #[t, t] t #[v, .slice (some ⟨W.heap.size, 0, none⟩) 1 1]).run P (W.alloc tmp) = .ok (.slice (some ⟨g, 0, none⟩) (k + 1) cap) w2 ∧ w2.cell? ⟨B, 0, none⟩ = some v ∧ w2.frozen? ⟨B, 0, none⟩ = false ∧
      ∃ W', W' = w2.setCell ⟨B, 0, none⟩ (.slice (some ⟨g, 0, none⟩) (k + 1) cap) ∧ Boxed W' B t (.slice (some ⟨g, 0, none⟩) (k + 1) cap) ∧ W'.ownsRow H e size (.slice (some ⟨g, 0, none⟩) (k + 1) cap) (k + 1) (xs ++ news) ∧
      KeepsOthers W W' ∧ Chg (fun j => j = B ∨ v.ownBlock = some j) W W' := by
  obtain ⟨g, cap, w2, hrun, hown', hgrow, hl2, hg2⟩ := run_append_lies (P := P) (W.alloc tmp) t t H e i0 z size bytes ht hi hz0 hzs hzb hzc hsz v k xs (hrow.alloc _) ⟨W.heap.size, 0, none⟩ 1 1 news hl hnews h1 (by omega) (by unfold maxLen; omega) (by
    have : (k + 1) * bytes ≤ 1000 * 1000 := Nat.mul_le_mul hk hby
    omega) (by simp; omega) _ rfl
  have hBl := hv.lt
  have hnB : ∀ j, v.ownBlock = some j → H ≤ j := fun j hj => (hrow.lt j hj).1
  have hv1 : Boxed w2 B t v := (hv.alloc tmp).kept hgrow (fun e => by have := hnB B e.symm; omega)
  refine ⟨g, cap, w2, hrun, hv1.cell, hv1.frozen, _, rfl, hv1.set _, ?_, ?_, ?_⟩
  · have hgB : g ≠ B := by
      have := (hown'.lt g rfl).1
      omega
    exact hown'.kept (grownBy_setCell' w2 B _) (.inr (fun e => hgB (by simpa [Value.ownBlock] using e)))
  · refine ((KeepsOthers.alloc W tmp).trans (KeepsOthers.of_grownBy hgrow fun j o ej hj => ?_)).trans (KeepsOthers.setCell _ _ _)
    rcases (hrow.alloc tmp).2 with ⟨rfl, _⟩ | ⟨g, cap, cur, rfl, _, hgb, _⟩
    · simp [Value.ownBlock] at ej
    · obtain rfl : g = j := by simpa [Value.ownBlock] using ej
      rw [hgb] at hj; cases hj; rfl
  · have hb := below_alloc W tmp
    have h0 : Chg (fun j => j = B ∨ v.ownBlock = some j) W w2 := ⟨hgrow.os.trans hb.os, hgrow.tape.trans hb.tape, hgrow.output.trans hb.output, Nat.le_trans hb.size hgrow.size, fun j hj hs => by
      rw [hgrow.block j (Nat.lt_of_lt_of_le hj hb.size) (fun e => hs (.inr e.symm)), hb.block j hj]⟩
    exact h0.setCell (p := ⟨B, 0, none⟩) (.inl rfl) _
end Go.Proofs.YtfdaffnkgpdhhaaGreat

namespace Go.Proofs.YtfdaffnkgpdhhaaGreat
open Go.RowKit Go.Shelf Go.Lib
set_option linter.unusedVariables false
set_option maxRecDepth 100000
attribute [local go_sem] Oper.semAt_some

theorem owns_lower {w : World} {B B' : Nat} {e : TypeId} {size : Nat} {v : Value} {n : Nat} {xs : List Value} (h : w.ownsRow B e size v n xs) (hB : B' ≤ B) : w.ownsRow B' e size v n xs :=
  ⟨h.1, h.2.imp id (fun ⟨g, cap, cur, hv, hb, r⟩ => ⟨g, cap, cur, hv, Nat.le_trans hB hb, r⟩)⟩
theorem rows_ne {W : World} {H e e' s s' n n' : Nat} {v v' : Value} {xs xs' : List Value} (h : W.ownsRow H e s v n xs) (h' : W.ownsRow H e' s' v' n' xs') (he : e ≠ e') {g : Nat} (hg : v.ownBlock = some g) (hg' : v'.ownBlock = some g) : False := by
  rcases h.2 with ⟨rfl, _⟩ | ⟨g1, c1, r1, rfl, _, h1, _⟩
  · simp [Value.ownBlock] at hg
  · rcases h'.2 with ⟨rfl, _⟩ | ⟨g2, c2, r2, rfl, _, h2, _⟩
    · simp [Value.ownBlock] at hg'
    · simp only [Value.ownBlock, Option.some.injEq] at hg hg'
      subst hg
      subst hg'
      rw [h1] at h2
      cases h2
      exact he rfl
theorem cells_newP (W : World) (x : Pl) : ∀ j u, [Value.string x.k, .int .i64 x.n, .int .i64 x.a, .int .i64 x.z][j]? = some u → (W.alloc (.cells #[.string x.k, .int .i64 x.n, .int .i64 x.a, .int .i64 x.z] 50)).cell? ((⟨W.heap.size, 0, none⟩ : Addr).add j) = some u := by
  intro j u hj
  have hb := Box.new W #[.string x.k, .int .i64 x.n, .int .i64 x.a, .int .i64 x.z] 50
  rw [show (⟨W.heap.size, 0, none⟩ : Addr).add j = ⟨W.heap.size, j, none⟩ from by simp [Addr.add]; omega]
  exact hb.2.1 j u hj
theorem KeepsOthers.of_below {W W' : World} (h : Below W.heap.size W W') : KeepsOthers W W' := ⟨h.size, fun k o hk _ => (h.block k (Array.getElem?_eq_some_iff.1 hk).1).trans hk⟩
set_option maxHeartbeats 8000000 in
theorem partsOf_in (a : Option Addr) (cap : Nat) (l : List It) (w : World) (hv : IR w (.slice a l.length cap) l) (hcap : l.length ≤ cap) (hn : l.length ≤ 1048576) (hs : ∀ i (h : i < l.length), l[i].k.size ≤ 1048576 ∧ l[i].v.size ≤ 1048576) :
    CallsIn Fence.wide 9 Tryz.prog 33 #[.slice a l.length cap] w fun e w' => (okT l = false ∧ e = .returned (.tuple #[.slice none 0 0, .bool false]) ∧ Below w.heap.size w w') ∨
      (okT l = true ∧ ∃ b off pv vi m, a = some ⟨b, off, none⟩ ∧ e = .returned (.tuple #[pv, .bool true]) ∧ QR w' pv (partsL b off l vi m) ∧ w'.ownsRow w.heap.size 50 4 vi (nb l) (flatP (plsL l (nb l))) ∧ filF 4 (kuL l l.length) = (4, fbT l, m, true) ∧ Below w.heap.size w w') := by
  have KG := fun w h => implRun_any (.slice a l.length cap) l w h (by omega) hs
  have HO : Hid (okT l = (goodR l && decide (1 ≤ l.length) && decide (l.length ≤ 120))) := rfl
  refine callsIn_of_wp_marks Tryz.func33 rfl trivial ?_ rfl
  simp only [Tryz.ntmps33, List.size_toArray, List.length_cons, List.length_nil, Nat.reduceAdd, Nat.reduceSub, Array.replicate_succ, Array.replicate_zero, List.push_toArray, List.append_toArray, List.nil_append, List.cons_append]
  by_cases h0 : l.length = 0
  · have hk : okT l = false := by rw [HO.out, h0]; simp
    have g1 : ((l.length : Int) == 0) = true := by rw [h0]; rfl
    clear HO KG hs hv
    gi_wp2
    refine ⟨by intros; trivial, ?_⟩
    gi_wp2
    exact ⟨.tuple #[.slice none 0 0, .bool false], by simp [results, Tryz.results33, go_sem], .inl ⟨hk, rfl, Below.refl _ _⟩⟩
  · have g1 : ((l.length : Int) == 0) = false := by rw [beq_eq_false_iff_ne]; omega
    by_cases h1 : 120 < l.length
    · have hk : okT l = false := by rw [HO.out, decide_eq_false (show ¬ l.length ≤ 120 by omega)]; simp
      have g2 : decide (120 < (l.length : Int)) = true := by simp; omega
      clear HO KG hs hv
      gi_wp2
      refine ⟨by intros; trivial, ?_⟩
      gi_wp2
      exact ⟨.tuple #[.slice none 0 0, .bool false], by simp [results, Tryz.results33, go_sem], .inl ⟨hk, rfl, Below.refl _ _⟩⟩
    · have g2 : decide (120 < (l.length : Int)) = false := by simp; omega
      cases hg : goodR l with
      | false =>
        have hk : okT l = false := by rw [HO.out, hg]; rfl
        have hir := hv
        rw [hg] at KG
        clear HO hs hv
        gi_wp2_with fail
        refine ⟨trivial, ?_⟩
        refine (callsIn_wide.2 (KG _ hir)).mono ?_
        rintro e w1 ⟨rfl, hb1⟩
        clear KG
        gi_wp2
        exact ⟨.tuple #[.slice none 0 0, .bool false], by simp [results, Tryz.results33, go_sem], .inl ⟨hk, rfl, hb1⟩⟩
      | true =>
        have hk : okT l = true := by rw [HO.out, hg, decide_eq_true (show 1 ≤ l.length by omega), decide_eq_true (show l.length ≤ 120 by omega)]; rfl
        have hl1 : 1 ≤ l.length := by omega
        have hl2 : l.length ≤ 120 := by omega
        have hnb := nb_le hk
        obtain ⟨b, off, rfl⟩ : ∃ b off, a = some ⟨b, off, none⟩ := by
          obtain ⟨a', c', h, hc⟩ := hv
          cases h
          obtain ⟨b, off, h, _⟩ := hc (by intro e; rw [e] at hl1; simp at hl1)
          exact ⟨b, off, h⟩
        rw [hg] at KG
        have hir := hv
        clear HO
        gi_wp2_with fail
        refine ⟨trivial, ?_⟩
        refine (callsIn_wide.2 (KG _ hir)).mono ?_
        rintro e w1 ⟨rfl, hb1⟩
        clear KG hir
        have KI := fun w => chunk_any (some ⟨b, off, none⟩) l.length cap w
        gi_wp2_with fail
        refine ⟨trivial, ?_⟩
        refine (callsIn_wide.2 (KI _)).mono ?_
        rintro e w2 ⟨rfl, rfl⟩
        clear KI
        gi_wp2_with fail
        have bP : Boxed (((((w1.alloc (.cells #[.slice none 0 0] 66)).alloc (.cells #[.slice none 0 0] 99)).alloc (.cells #[.int .i64 0] 3)).alloc (.cells #[.slice (some ⟨b, off, none⟩) l.length cap] 23)).alloc (.cells #[.int .i64 8] 3)) w1.heap.size 66 (.slice none 0 0) := ((((Boxed.new w1 66 (.slice none 0 0)).alloc _).alloc _).alloc _).alloc _
        have bI : Boxed (((((w1.alloc (.cells #[.slice none 0 0] 66)).alloc (.cells #[.slice none 0 0] 99)).alloc (.cells #[.int .i64 0] 3)).alloc (.cells #[.slice (some ⟨b, off, none⟩) l.length cap] 23)).alloc (.cells #[.int .i64 8] 3)) (w1.heap.size + 1) 99 (.slice none 0 0) := by
          have := Boxed.new (w1.alloc (.cells #[.slice none 0 0] 66)) 99 (.slice none 0 0)
          simp only [World.size_alloc] at this
          exact ((this.alloc _).alloc _).alloc _
        have bA : Boxed (((((w1.alloc (.cells #[.slice none 0 0] 66)).alloc (.cells #[.slice none 0 0] 99)).alloc (.cells #[.int .i64 0] 3)).alloc (.cells #[.slice (some ⟨b, off, none⟩) l.length cap] 23)).alloc (.cells #[.int .i64 8] 3)) (w1.heap.size + 1 + 1) 3 (.int .i64 0) := by
          have := Boxed.new ((w1.alloc (.cells #[.slice none 0 0] 66)).alloc (.cells #[.slice none 0 0] 99)) 3 (.int .i64 0)
          simp only [World.size_alloc] at this
          exact (this.alloc _).alloc _
        have bN : Boxed (((((w1.alloc (.cells #[.slice none 0 0] 66)).alloc (.cells #[.slice none 0 0] 99)).alloc (.cells #[.int .i64 0] 3)).alloc (.cells #[.slice (some ⟨b, off, none⟩) l.length cap] 23)).alloc (.cells #[.int .i64 8] 3)) (w1.heap.size + 1 + 1 + 1) 23 (.slice (some ⟨b, off, none⟩) l.length cap) := by
          have := Boxed.new (((w1.alloc (.cells #[.slice none 0 0] 66)).alloc (.cells #[.slice none 0 0] 99)).alloc (.cells #[.int .i64 0] 3)) 23 (.slice (some ⟨b, off, none⟩) l.length cap)
          simp only [World.size_alloc] at this
          exact this.alloc _
        have bM : Boxed (((((w1.alloc (.cells #[.slice none 0 0] 66)).alloc (.cells #[.slice none 0 0] 99)).alloc (.cells #[.int .i64 0] 3)).alloc (.cells #[.slice (some ⟨b, off, none⟩) l.length cap] 23)).alloc (.cells #[.int .i64 8] 3)) (w1.heap.size + 1 + 1 + 1 + 1) 3 (.int .i64 8) := by
          have := Boxed.new ((((w1.alloc (.cells #[.slice none 0 0] 66)).alloc (.cells #[.slice none 0 0] 99)).alloc (.cells #[.int .i64 0] 3)).alloc (.cells #[.slice (some ⟨b, off, none⟩) l.length cap] 23)) 3 (.int .i64 8)
          simp only [World.size_alloc] at this
          exact this
        have hz1w := hb1.size
        have hB0 : Below w.heap.size w (((((w1.alloc (.cells #[.slice none 0 0] 66)).alloc (.cells #[.slice none 0 0] 99)).alloc (.cells #[.int .i64 0] 3)).alloc (.cells #[.slice (some ⟨b, off, none⟩) l.length cap] 23)).alloc (.cells #[.int .i64 8] 3)) := ((((hb1.alloc hz1w _).alloc (by simp; omega) _).alloc (by simp; omega) _).alloc (by simp; omega) _).alloc (by simp; omega) _
        have hsz : (((((w1.alloc (.cells #[.slice none 0 0] 66)).alloc (.cells #[.slice none 0 0] 99)).alloc (.cells #[.int .i64 0] 3)).alloc (.cells #[.slice (some ⟨b, off, none⟩) l.length cap] 23)).alloc (.cells #[.int .i64 8] 3)).heap.size = w1.heap.size + 5 := by simp
        obtain ⟨W0, hW0⟩ : ∃ W0, (((((w1.alloc (.cells #[.slice none 0 0] 66)).alloc (.cells #[.slice none 0 0] 99)).alloc (.cells #[.int .i64 0] 3)).alloc (.cells #[.slice (some ⟨b, off, none⟩) l.length cap] 23)).alloc (.cells #[.int .i64 8] 3)) = W0 := ⟨_, rfl⟩
        rw [hW0] at bP bI bA bN bM hB0 hsz ⊢
        clear hW0
        have KS := chunk_stops 8 (by omega) (w1.heap.size + 1 + 1 + 1) (w1.heap.size + 1 + 1 + 1 + 1) b off cap l hl1 hl2 hcap W0 bN bM
        refine wpIn_rangeFunc_ownH rfl (by omega) (gf := 102) (lb := #[.pointer (some ⟨w1.heap.size + 1 + 1 + 1, 0, none⟩), .pointer (some ⟨w1.heap.size + 1 + 1 + 1 + 1, 0, none⟩)]) rfl trivial (enters_of Tryz.func102 (by kernel_rfl) rfl)
          KS (fun h k => h.trans k) (KeepT.put (by omega) (by omega)) (Below.refl _ _) (fun _ => rfl)
          (fun (pre : List (Fin (nb l))) W => (∃ v, Boxed W w1.heap.size 66 v ∧ W.ownsRow W0.heap.size 111 1 v pre.length ((pre.map fun x : Fin (nb l) => blkP b off l x.val).map encP) ∧ True) ∧
            (∃ v, Boxed W (w1.heap.size + 1) 99 v ∧ W.ownsRow W0.heap.size 50 4 v pre.length (flatP (plG l 0 (pre.map Fin.val))) ∧ True) ∧ Boxed W (w1.heap.size + 1 + 1) 3 (.int .i64 (atP l (pre.map Fin.val) : Nat)) ∧ Below w.heap.size w W ∧ W0.heap.size ≤ W.heap.size)
          (fun _ _ _ => False)
          (OwnFrom.and (Own.from (holdsRow_own W0.heap.size w1.heap.size 66 111 1 (fun pre : List (Fin (nb l)) => pre.length) (fun pre : List (Fin (nb l)) => ((pre.map fun x : Fin (nb l) => blkP b off l x.val).map encP)) (fun _ _ => True)) _)
            (OwnFrom.and (Own.from (holdsRow_own W0.heap.size (w1.heap.size + 1) 99 50 4 (fun pre : List (Fin (nb l)) => pre.length) (fun pre : List (Fin (nb l)) => flatP (plG l 0 (pre.map Fin.val))) (fun _ _ => True)) _)
              (OwnFrom.and (I := fun (pre : List (Fin (nb l))) W => Boxed W (w1.heap.size + 1 + 1) 3 (.int .i64 (atP l (pre.map Fin.val) : Nat))) (fun s X Y row hs' hg' hr' => hs'.kept hg' (fun e => by have := (hr' _ e.symm).1; omega)) (OwnFrom.and (ownFrom_below (Nat.le_refl _) (by omega)) (I' := fun _ W => W0.heap.size ≤ W.heap.size) (fun _ X Y row h hg' _ => Nat.le_trans h hg'.size)))))
          (fun _ _ _ _ _ hs _ _ => hs)
          ⟨⟨_, bP, World.ownsRow_nil _ _ _ _, trivial⟩, ⟨_, bI, World.ownsRow_nil _ _ _ _, trivial⟩, bA, hB0, Nat.le_refl _⟩
          (fun (x : Fin (nb l)) a' W => a' = { tmps := #[.slice (some ⟨b, off, none⟩) l.length cap, undef, .slice none 0 0, .bool false, .pointer (some ⟨w1.heap.size, 0, none⟩), .pointer (some ⟨w1.heap.size + 1, 0, none⟩), .pointer (some ⟨w1.heap.size + 1 + 1, 0, none⟩), chV b off l x.val, undef, undef, undef, undef, undef, .slice (some ⟨b, off, none⟩) l.length cap, .int .i64 l.length, .bool false, .bool false, .slice (some ⟨b, off, none⟩) l.length cap, .int .i64 l.length, .bool false, .bool false, .bool false, .slice (some ⟨b, off, none⟩) l.length cap, .bool true, .bool false, .bool false, .slice (some ⟨b, off, none⟩) l.length cap, .func (.func 102) #[] #[.pointer (some ⟨w1.heap.size + 1 + 1 + 1, 0, none⟩), .pointer (some ⟨w1.heap.size + 1 + 1 + 1 + 1, 0, none⟩)], chV b off l x.val, undef, undef, undef, undef, undef, undef, undef, undef, undef, undef, undef, undef, undef, undef, undef, undef, undef, undef, undef, undef, undef, undef, undef, undef, undef, undef, undef, undef, undef, undef, undef, undef, undef, undef, undef, undef, undef, undef, undef, undef, undef, undef, undef, undef, undef, undef, undef, undef], defers := [] })
          (fun x a' _ X Y row hs hg hr => hs)
          ?assign ?body ?done ?stop
        case assign =>
          rintro y pre x W K hI hK
          unfold chV at hK ⊢
          gi_wp2
          exact hK _ _ ((KeepsOthers.refl _).from _) ⟨Nat.le_refl _, rfl, rfl⟩ hI rfl
        case body =>
          rintro y pre x a' W hy ⟨r, hr⟩ ⟨⟨vp, hvp, hrp, _⟩, ⟨vi, hvi, hri, _⟩, hva, hB, hzW⟩ rfl hlt
          clear hy hr KS bP bI bA bN bM
          obtain ⟨x, hx⟩ := x
          have hirx := IR_chunk (hv.below hB) hx
          have hok : okBlk (chk l x) = true := by unfold okBlk; rw [chk_good hg, decide_eq_true (by rw [chk_len]; omega)]; rfl
          have hT : blkF (chk l x) = tx (blkL (chk l x)) := by unfold blkF; rw [if_pos hok]
          have hcl := chk_len l x
          have h8 := nb_lt hx
          obtain ⟨m, hm⟩ : ∃ m : Nat, min 8 (l.length - 8 * x) = m := ⟨_, rfl⟩
          have hm1 : 1 ≤ m ∧ m ≤ 8 := by omega
          have hlen : (chk l x).length = m := by rw [hcl, hm]
          have KB := fun w h => implBlk_any (chV b off l x) (chk l x) w h (by omega) (fun i h => by
            have hi : (chk l x)[i] = l[8 * x + i]'(by omega) := by simp [chk]
            rw [hi]; exact hs _ _)
          rw [hT, hok] at KB
          have hTs := chk_small hg x
          have hTz : (tx (blkL (chk l x))).size = (blkL (chk l x)).length := tx_size _
          have hA := atP_le hg (pre.map Fin.val)
          rw [List.length_map] at hA
          have hlastE : (chk l x)[m - 1]'(by omega) = lastI l x := by
            unfold lastI
            have e1 : (chk l x).length - 1 = m - 1 := by omega
            rw [e1, List.getD_eq_getElem?_getD, List.getElem?_eq_getElem (by omega)]; rfl
          have hcells : b < W.heap.size ∧ W.cell? ⟨b, off + 8 * x * 4 + (m - 1) * 4, none⟩ = some (.string (lastI l x).k) ∧ W.cell? ⟨b, off + 8 * x * 4 + (m - 1) * 4 + 1, none⟩ = some (.int .i64 (lastI l x).n) ∧ W.cell? ⟨b, off + 8 * x * 4 + (m - 1) * 4 + 2, none⟩ = some (.int .i64 (lastI l x).d) ∧ W.cell? ⟨b, off + 8 * x * 4 + (m - 1) * 4 + 3, none⟩ = some (.string (lastI l x).v) := by
            obtain ⟨a'', c'', he, hc⟩ := hirx
            unfold chV at he
            injection he with e1 e2 e3
            subst e1
            obtain ⟨b', off', he', hbl, hcell⟩ := hc (by intro e; rw [e] at hlen; simp at hlen; omega)
            cases he'
            rw [← hlastE]
            exact ⟨hbl, hcell (m - 1) (by omega)⟩
          obtain ⟨hbl, hl0, hl1', hl2', hl3⟩ := hcells
          have HE : Hid (((pre ++ [(⟨x, hx⟩ : Fin (nb l))]).map fun x : Fin (nb l) => blkP b off l x.val).map encP = (pre.map fun x : Fin (nb l) => blkP b off l x.val).map encP ++ [.iface 104 (.agg #[chV b off l x, .string (tx (blkL (chk l x)))])]) := by
            show _ = _
            rw [List.map_append, List.map_append]; rfl
          have HG : Hid (flatP (plG l 0 ((pre ++ [(⟨x, hx⟩ : Fin (nb l))]).map Fin.val)) = flatP (plG l 0 (pre.map Fin.val)) ++ [.string (lastI l x).k, .int .i64 (lastI l x).n, .int .i64 (atP l (pre.map Fin.val) : Nat), .int .i64 ((blkL (chk l x)).length : Nat)]) := by
            show _ = _
            rw [List.map_append, show List.map Fin.val [(⟨x, hx⟩ : Fin (nb l))] = [x] from rfl, plG_snoc, flatP_append, Nat.zero_add]; rfl
          have HA : Hid (atP l ((pre ++ [(⟨x, hx⟩ : Fin (nb l))]).map Fin.val) = atP l (pre.map Fin.val) + (blkL (chk l x)).length) := by
            show _ = _
            rw [List.map_append, show List.map Fin.val [(⟨x, hx⟩ : Fin (nb l))] = [x] from rfl, atP_snoc]
          have hplen : (pre ++ [(⟨x, hx⟩ : Fin (nb l))]).length = pre.length + 1 := by simp
          generalize (pre ++ [(⟨x, hx⟩ : Fin (nb l))]) = pre2 at *
          generalize hPL2 : ((pre2.map fun x : Fin (nb l) => blkP b off l x.val).map encP) = PL2 at *
          have HPL2 : Hid (((pre2.map fun x : Fin (nb l) => blkP b off l x.val).map encP) = PL2) := hPL2
          clear hPL2
          generalize ((pre.map fun x : Fin (nb l) => blkP b off l x.val).map encP) = PL1 at *
          generalize hGL2 : flatP (plG l 0 (pre2.map Fin.val)) = GL2 at *
          have HGL2 : Hid (flatP (plG l 0 (pre2.map Fin.val)) = GL2) := hGL2
          clear hGL2
          generalize flatP (plG l 0 (pre.map Fin.val)) = GL1 at *
          generalize hA2e : atP l (pre2.map Fin.val) = A2 at *
          have HA2e : Hid (atP l (pre2.map Fin.val) = A2) := hA2e
          clear hA2e
          generalize atP l (pre.map Fin.val) = A1 at *
          have hplt : pre.length < 15 := by omega
          clear hlastE hlen hcl hok hT h8
          unfold chV at KB hirx HE ⊢
          rw [hm] at KB hirx HE ⊢
          generalize hq : lastI l x = q at *
          obtain ⟨qk, qn, qd, qv⟩ := q
          dsimp only at hl0 hl1' hl2' hl3 HG
          have hoff : ∀ j, off + 8 * x * 4 + j = off + 8 * x * 4 + j := fun _ => rfl
          generalize hX : off + 8 * x * 4 = X at *
          generalize (blkL (chk l x)).length = Z at *
          generalize tx (blkL (chk l x)) = T at *
          clear hoff
          gi_wp2_with fail
          refine ⟨trivial, ?_⟩
          refine (callsIn_wide.2 (KB _ hirx)).mono ?_
          rintro e Wb ⟨rfl, hbb⟩
          have hvp1 : Boxed Wb w1.heap.size 66 vp := (hbb.block _ hvp.lt).trans hvp
          have hvi1 : Boxed Wb (w1.heap.size + 1) 99 vi := (hbb.block _ hvi.lt).trans hvi
          have hva1 : Boxed Wb (w1.heap.size + 1 + 1) 3 (.int .i64 (A1 : Nat)) := (hbb.block _ hva.lt).trans hva
          have hrp1 := owns_below hrp hbb
          have hri1 := owns_below hri hbb
          have hBb := below_then hB hbb
          have hcW : ∀ j u, W.cell? ⟨b, j, none⟩ = some u → Wb.cell? ⟨b, j, none⟩ = some u := fun j u h => (hbb.cell (p := ⟨b, j, none⟩) hbl).trans h
          have hblw : b < w.heap.size := by
            obtain ⟨a'', c'', he, hc⟩ := hv
            injection he with e1 e2 e3
            subst e1
            obtain ⟨b', off', he', hbl', _⟩ := hc (by intro e; rw [e] at hl1; simp at hl1)
            cases he'
            exact hbl'
          have hzb := hbb.size
          obtain ⟨i1, hi1, hi1a, hi1b, hi1c⟩ := info_parts Tryz.info111
          obtain ⟨i5, hi5, hi5a, hi5b, hi5c⟩ := info_parts Tryz.info50
          obtain ⟨g1, cp1, w3, hrun1, hc1, hf1, W3, hW3, hvp3, hrp3, hk3, hch3⟩ := box_app (P := Tryz.prog) (.cells #[.iface 104 (.agg #[.slice (some ⟨b, X, none⟩) m m, .string T])] 111) [.iface 104 (.agg #[.slice (some ⟨b, X, none⟩) m m, .string T])] Tryz.underlying66 hi1 hi1a hi1b hi1c rfl (by decide) hvp1 hrp1 (by omega) (by omega) rfl (cell_new1 _ _ _) (by intro u hu; simp at hu; subst hu; rfl) (by omega) (by omega)
          have hnS : ∀ j, j < W0.heap.size → j ≠ w1.heap.size → ¬ (j = w1.heap.size ∨ vp.ownBlock = some j) := fun j h1 h2 h3 => by
            rcases h3 with h3 | h3
            · exact h2 h3
            · have := (hrp1.lt j h3).1; omega
          have hvi3 : Boxed W3 (w1.heap.size + 1) 99 vi := (hch3.block _ hvi1.lt (hnS _ (by omega) (by omega))).trans hvi1
          have hva3 : Boxed W3 (w1.heap.size + 1 + 1) 3 (.int .i64 (A1 : Nat)) := (hch3.block _ hva1.lt (hnS _ (by omega) (by omega))).trans hva1
          have hri3 := hch3.owns hri1 (fun g hg h3 => by
            rcases h3 with h3 | h3
            · have := (hri1.lt g hg).1; omega
            · exact rows_ne hrp1 hri1 (by decide) h3 hg)
          have hB3 : Below w.heap.size w W3 := hBb.trans (hch3.below hBb.size (fun k hk => by
            rcases hk with hk | hk
            · omega
            · have := (hrp1.lt k hk).1; omega))
          have hcW3 : ∀ j u, W.cell? ⟨b, j, none⟩ = some u → W3.cell? ⟨b, j, none⟩ = some u := fun j u h => (hB3.cell (p := ⟨b, j, none⟩) hblw).trans ((hB.cell (p := ⟨b, j, none⟩) hblw).symm.trans h)
          have hz3 := hch3.size
          have e0 := hcW3 _ _ hl0
          have e1 := hcW3 _ _ hl1'
          have e2 := hcW3 _ _ hl2'
          have e3 := hcW3 _ _ hl3
          have hsz3 : W3.heap.size = w3.heap.size := by rw [hW3]; simp
          obtain ⟨W4, hW4⟩ : ∃ W4, W4 = W3.alloc (.cells #[.string qk, .int .i64 qn, .int .i64 qd, .string qv] 33) := ⟨_, rfl⟩
          have hvi4 : Boxed W4 (w1.heap.size + 1) 99 vi := by rw [hW4]; exact hvi3.alloc _
          have hva4 : Boxed W4 (w1.heap.size + 1 + 1) 3 (.int .i64 (A1 : Nat)) := by rw [hW4]; exact hva3.alloc _
          have hvp4 : Boxed W4 w1.heap.size 66 (.slice (some ⟨g1, 0, none⟩) (pre.length + 1) cp1) := by rw [hW4]; exact hvp3.alloc _
          have hri4 : W4.ownsRow W0.heap.size 50 4 vi pre.length GL1 := by rw [hW4]; exact hri3.alloc _
          have hrp4 := hrp3.alloc (.cells #[.string qk, .int .i64 qn, .int .i64 qd, .string qv] 33)
          rw [← hW4] at hrp4
          have hB4 : Below w.heap.size w W4 := by rw [hW4]; exact hB3.alloc hB3.size _
          have hz4 : W4.heap.size = W3.heap.size + 1 := by rw [hW4]; simp
          have hk4 : KeepsOthers W W4 := by
            rw [hW4]
            exact ((KeepsOthers.of_below hbb).trans hk3).trans (KeepsOthers.alloc _ _)
          have hKT4 : ∀ j, j < W0.heap.size → j ≠ w1.heap.size → W4.heap[j]? = W.heap[j]? := fun j h1 h2 => by
            rw [hW4, (below_alloc W3 _).block j (by omega), hch3.block j (by omega) (hnS j h1 h2), hbb.block j (by omega)]
          have hnew := cells_newP W4 ⟨qk, qn, (A1 : Nat), (Z : Nat)⟩
          obtain ⟨g2, cp2, w5, hrun2, hc2, hf2, W5, hW5, hvi5, hri5, hk5, hch5⟩ := box_app (P := Tryz.prog) (.cells #[.string qk, .int .i64 qn, .int .i64 (A1 : Nat), .int .i64 (Z : Nat)] 50) [.string qk, .int .i64 qn, .int .i64 (A1 : Nat), .int .i64 (Z : Nat)] Tryz.underlying99 hi5 hi5a hi5b hi5c rfl (by decide) hvi4 hri4 (by omega) (by omega) rfl hnew (by intro u hu; simp at hu; rcases hu with rfl | rfl | rfl | rfl <;> rfl) (by omega) (by omega)
          have hnS5 : ∀ j, j < W0.heap.size → j ≠ w1.heap.size + 1 → ¬ (j = w1.heap.size + 1 ∨ vi.ownBlock = some j) := fun j h1 h2 h3 => by
            rcases h3 with h3 | h3
            · exact h2 h3
            · have := (hri4.lt j h3).1; omega
          have hvp5 : Boxed W5 w1.heap.size 66 (.slice (some ⟨g1, 0, none⟩) (pre.length + 1) cp1) := (hch5.block _ hvp4.lt (hnS5 _ (by omega) (by omega))).trans hvp4
          have hva5 : Boxed W5 (w1.heap.size + 1 + 1) 3 (.int .i64 (A1 : Nat)) := (hch5.block _ hva4.lt (hnS5 _ (by omega) (by omega))).trans hva4
          have hrp5 := hch5.owns hrp4 (fun g hg h3 => by
            rcases h3 with h3 | h3
            · have := (hrp4.lt g hg).1; omega
            · exact rows_ne hrp4 hri4 (by decide) hg h3)
          have hB5 : Below w.heap.size w W5 := hB4.trans (hch5.below hB4.size (fun k hk => by
            rcases hk with hk | hk
            · omega
            · have := (hri4.lt k hk).1; omega))
          have hz5 := hch5.size
          have hva6 := hva5.set (.int .i64 (A2 : Nat))
          have hch6 : Chg (· = w1.heap.size + 1 + 1) W5 (W5.setCell ⟨w1.heap.size + 1 + 1, 0, none⟩ (.int .i64 (A2 : Nat))) := Chg.setCell (S := fun x => x = w1.heap.size + 1 + 1) (Chg.refl _ _) (p := ⟨w1.heap.size + 1 + 1, 0, none⟩) rfl _
          have hvp6 : Boxed (W5.setCell ⟨w1.heap.size + 1 + 1, 0, none⟩ (.int .i64 (A2 : Nat))) w1.heap.size 66 (.slice (some ⟨g1, 0, none⟩) (pre.length + 1) cp1) := (hch6.block _ hvp5.lt (by omega)).trans hvp5
          have hvi6 : Boxed (W5.setCell ⟨w1.heap.size + 1 + 1, 0, none⟩ (.int .i64 (A2 : Nat))) (w1.heap.size + 1) 99 (.slice (some ⟨g2, 0, none⟩) (pre.length + 1) cp2) := (hch6.block _ hvi5.lt (by omega)).trans hvi5
          have hrp6 := hch6.owns hrp5 (fun g hg => by have := (hrp5.lt g hg).1; omega)
          have hri6 := hch6.owns hri5 (fun g hg => by have := (hri5.lt g hg).1; omega)
          have hB6 : Below w.heap.size w (W5.setCell ⟨w1.heap.size + 1 + 1, 0, none⟩ (.int .i64 (A2 : Nat))) := hB5.setCell (p := ⟨w1.heap.size + 1 + 1, 0, none⟩) (by show w.heap.size ≤ w1.heap.size + 1 + 1; omega) _
          have hk6 : KeepsOthers W (W5.setCell ⟨w1.heap.size + 1 + 1, 0, none⟩ (.int .i64 (A2 : Nat))) := (hk4.trans hk5).trans (KeepsOthers.setCell _ _ _)
          have hz6 : W0.heap.size ≤ (W5.setCell ⟨w1.heap.size + 1 + 1, 0, none⟩ (.int .i64 (A2 : Nat))).heap.size := Nat.le_trans (by omega) hch6.size
          have hKT6 : ∀ j, j < W0.heap.size → w1.heap.size + 1 + 1 < j → (W5.setCell ⟨w1.heap.size + 1 + 1, 0, none⟩ (.int .i64 (A2 : Nat))).heap[j]? = W.heap[j]? := fun j h1 h2 => by
            rw [hch6.block j (by omega) (by omega), hch5.block j (by omega) (hnS5 j h1 (by omega)), hKT4 j h1 (by omega)]
          have hKp : KeepT (w1.heap.size + 1 + 1 + 1) (w1.heap.size + 1 + 1 + 1 + 1) W (W5.setCell ⟨w1.heap.size + 1 + 1, 0, none⟩ (.int .i64 (A2 : Nat))) := ⟨hk6.size, hKT6 _ (by omega) (by omega), hKT6 _ (by omega) (by omega)⟩
          rw [← HE.out] at hrp6
          rw [← HG.out] at hri6
          have f0 := hvp1.cell
          have f1 := hvi4.cell
          have f2 := hva4.cell
          have f3 := hva5.cell
          have f4 := hva5.frozen
          have hcast : ((A2 : Nat) : Int) = (A1 : Int) + (Z : Int) := by have := HA.out; omega
          have hmx : ((m : Int) - 1).toNat = m - 1 := by omega
          rw [hz4, hsz3] at hrun2
          rw [hW4, hW3] at f1 f2 hrun2
          rw [hW3] at e0 e1 e2 e3
          rw [hW5] at f3 f4
          clear hvp hvi hva hrp hri hvp1 hvi1 hva1 hrp1 hri1 hvi3 hva3 hri3 hvp3 hrp3 hvi4 hva4 hvp4 hri4 hrp4 hvi5 hri5 hvp5 hva5 hrp5 hB3 hB4 hB5 hch3 hch5 hch6 hk3 hk4 hk5 hnS hnS5 hcW hcW3 hKT4 hKT6 hnew hl0 hl1' hl2' hl3 hbb hBb hirx KB HE HG hi1 hi1a hi1b hi1c hi5 hi5a hi5b hi5c hW3 hW4 hz3 hz4 hz5 hsz3 hB0 hsz hs hn hcap HA
          gi_wp2_with (gi_at_builtin; first | (refine append_ran _ rfl _ _ 66 rfl _ _ rfl rfl _ _ hrun1 ?_) | (refine append_ran _ rfl _ _ 99 rfl _ _ rfl rfl _ _ hrun2 ?_))
          rw [← hcast, ← hW5]
          exact ⟨hk6.from _, hKp, ⟨_, hvp6, by rw [HPL2.out, hplen]; exact hrp6, trivial⟩, ⟨_, hvi6, by rw [HGL2.out, hplen]; exact hri6, trivial⟩, by rw [HA2e.out]; exact hva6, hB6, hz6⟩
        case done =>
          rintro D ys W hD hys ⟨⟨vp, hvp, hrp, _⟩, ⟨vi, hvi, hri, _⟩, hva, hB, hzW⟩ hK
          clear KS bP bI bA bN bM hB0
          have hyl : ys.length = nb l := by have := congrArg List.length hys; simpa using this
          have hP1 : (ys.map fun x : Fin (nb l) => blkP b off l x.val) = (List.range (nb l)).map (blkP b off l) := by rw [← hys, List.map_map]; rfl
          rw [hP1, hyl] at hrp
          rw [hys, plG_range, hyl] at hri
          rw [hys, atP_range] at hva
          obtain ⟨fm, hfm, hfg, hfs⟩ := filF_run hk
          have HFM : Hid (filF 4 (kuL l l.length) = (4, fbT l, fm, true)) := hfm
          have KK := fun w h => keysOf_any (.slice (some ⟨b, off, none⟩) l.length cap) l w h (by omega)
          have KF := fun v w h => implFil_good 4 v (kuL l l.length) w h (by have := kuL_len l l.length; omega) (by decide)
          rw [hfm] at KF
          dsimp only at KF
          have hirW := hv.below hB
          clear hP1 hyl hys
          have HPE : Hid ((partsL b off l vi fm).map encP = ((List.range (nb l)).map (blkP b off l)).map encP ++ [.iface 99 vi, .iface 105 (.agg #[.int .i64 4, .string (fbT l), .int .i64 fm]), .iface 106 (.int .i64 ((bsL l (nb l)).length : Nat))]) := by
            show _ = _
            unfold partsL
            rw [List.map_append]; rfl
          have hpl : (partsL b off l vi fm).length = nb l + 3 := by simp [partsL]
          generalize hPSe : partsL b off l vi fm = PS at *
          have HhPSe : Hid (partsL b off l vi fm = PS) := hPSe
          clear hPSe
          generalize ((List.range (nb l)).map (blkP b off l)).map encP = PL at *
          generalize hGLe : flatP (plsL l (nb l)) = GL at *
          have HhGLe : Hid (flatP (plsL l (nb l)) = GL) := hGLe
          clear hGLe
          generalize (bsL l (nb l)).length = NB at *
          generalize hFBe : fbT l = FB at *
          have HhFBe : Hid (fbT l = FB) := hFBe
          clear hFBe
          have hK2 : ∀ w5, Below W.heap.size W w5 → w5.heap[D]? = some (.deferred (some [])) := fun w5 h => (h.block D (Array.getElem?_eq_some_iff.1 hK).1).trans hK
          gi_wp2_with fail
          refine ⟨trivial, ?_⟩
          refine (callsIn_wide.2 (KK _ hirW)).mono ?_
          rintro e Wk ⟨kv, rfl, hsl, hbk⟩
          gi_wp2_with fail
          refine ⟨trivial, ?_⟩
          refine (callsIn_wide.2 (KF _ _ hsl)).mono ?_
          rintro e Wf ⟨rfl, hbf⟩
          have hbWf := below_then hbk hbf
          have hvp1 : Boxed Wf w1.heap.size 66 vp := (hbWf.block _ hvp.lt).trans hvp
          have hvi1 : Boxed Wf (w1.heap.size + 1) 99 vi := (hbWf.block _ hvi.lt).trans hvi
          have hva1 : Boxed Wf (w1.heap.size + 1 + 1) 3 (.int .i64 (NB : Nat)) := (hbWf.block _ hva.lt).trans hva
          have hrp1 := owns_below hrp hbWf
          have hri1 := owns_below hri hbWf
          have hB1 := below_then hB hbWf
          have hKf := hK2 _ hbWf
          have hzf := hbWf.size
          clear hvp hvi hva hrp hri hbk hbf hbWf hsl KK KF hirW hK2 hK
          obtain ⟨i1, hi1, hi1a, hi1b, hi1c⟩ := info_parts Tryz.info111
          have hnew : ∀ j u, [Value.iface 99 vi, .iface 105 (.agg #[.int .i64 4, .string FB, .int .i64 fm]), .iface 106 (.int .i64 (NB : Nat))][j]? = some u → ((Wf.alloc (.cells #[.int .i64 4, .string FB, .int .i64 fm] 46)).alloc (.cells #[.iface 99 vi, .iface 105 (.agg #[.int .i64 4, .string FB, .int .i64 fm]), .iface 106 (.int .i64 (NB : Nat))] 111)).cell? ((⟨Wf.heap.size + 1, 0, none⟩ : Addr).add j) = some u := by
            intro j u hj
            have hb := Box.new (Wf.alloc (.cells #[.int .i64 4, .string FB, .int .i64 fm] 46)) #[.iface 99 vi, .iface 105 (.agg #[.int .i64 4, .string FB, .int .i64 fm]), .iface 106 (.int .i64 (NB : Nat))] 111
            simp only [World.size_alloc] at hb
            rw [show (⟨Wf.heap.size + 1, 0, none⟩ : Addr).add j = ⟨Wf.heap.size + 1, j, none⟩ from by simp [Addr.add]; omega]
            exact hb.2.1 j u hj
          obtain ⟨g, cp, w6, hrun, hown, hgrow, hlie, hg6⟩ := run_append_lies (P := Tryz.prog) ((Wf.alloc (.cells #[.int .i64 4, .string FB, .int .i64 fm] 46)).alloc (.cells #[.iface 99 vi, .iface 105 (.agg #[.int .i64 4, .string FB, .int .i64 fm]), .iface 106 (.int .i64 (NB : Nat))] 111)) 66 66 W0.heap.size 111 i1 .nilIface 1 16 Tryz.underlying66 hi1 hi1a hi1b hi1c rfl (by decide) vp (nb l) PL ((hrp1.alloc _).alloc _) ⟨Wf.heap.size + 1, 0, none⟩ 3 3 [.iface 99 vi, .iface 105 (.agg #[.int .i64 4, .string FB, .int .i64 fm]), .iface 106 (.int .i64 (NB : Nat))] rfl hnew (by intro u hu; simp at hu; rcases hu with rfl | rfl | rfl <;> rfl) (by omega) (by unfold maxLen; omega) (by omega) (by simp; omega) _ rfl
          rw [← HPE.out] at hown
          have hDD : w6.heap[D]? = some (.deferred (some [])) := by
            have hDl := (Array.getElem?_eq_some_iff.1 hKf).1
            rw [hgrow.block D (by simp; omega) (fun e => ?_), (below_alloc _ _).block D (by simp; omega), (below_alloc _ _).block D hDl]
            · exact hKf
            · rcases hrp1.2 with ⟨rfl, _⟩ | ⟨g', c', cur', rfl, _, hgb, _⟩
              · simp [Value.ownBlock] at e
              · obtain rfl : D = g' := by simpa [Value.ownBlock] using e
                rw [hKf] at hgb; cases hgb
          have hri6 : w6.ownsRow W0.heap.size 50 4 vi (nb l) GL := ((hri1.alloc _).alloc _).kept hgrow (by
            by_cases h : vi.ownBlock = none
            · exact .inl h
            · refine .inr fun e => ?_
              obtain ⟨q, hq⟩ : ∃ q, vi.ownBlock = some q := Option.ne_none_iff_exists'.1 h
              exact rows_ne hrp1 hri1 (by decide) (by rw [← e]; exact hq) hq)
          have hB6 : Below w.heap.size w w6 := ((hB1.alloc hB1.size _).alloc (by have := hB1.size; simp; omega) _).grown hgrow (by have := hB1.size; simp; omega) (fun k hk => by have := (hrp1.lt k hk).1; omega)
          have hfin : ∀ o', QR (w6.putObj D o') (.slice (some ⟨g, 0, none⟩) (nb l + 3) cp) PS ∧ (w6.putObj D o').ownsRow w.heap.size 50 4 vi (nb l) GL ∧ Below w.heap.size w (w6.putObj D o') := fun o' =>
            ⟨QR_of_owns (ownsRow_putObj hown _ hDD rfl) hpl.symm, ownsRow_putObj (owns_lower hri6 (by omega)) _ hDD rfl, hB6.trans (belowK_b (w := w) (Nat.le_refl _) w6 D _ o' (by omega) hDD rfl rfl)⟩
          have f0 := (hvp1.alloc (.cells #[.int .i64 4, .string FB, .int .i64 fm] 46)).cell
          have f1 := (hvi1.alloc (.cells #[.int .i64 4, .string FB, .int .i64 fm] 46)).cell
          have f2 := (hva1.alloc (.cells #[.int .i64 4, .string FB, .int .i64 fm] 46)).cell
          clear hown hgrow hlie hg6 hri6 hB6 hnew hi1 hi1a hi1b hi1c hvp1 hvi1 hva1 hrp1 hri1 hB1 hKf HPE hfm hfg hfs hs
          gi_wp2_with (gi_at_builtin; refine append_ran _ rfl _ _ 66 rfl _ _ rfl rfl _ _ hrun ?_)
          refine ⟨by simp, .inl ⟨_, _, rfl, run_takeDeferred hDD, ?_⟩⟩
          have y1 := HhPSe.out
          have y2 := HhGLe.out
          have y3 := HhFBe.out
          subst y1 y2 y3
          exact ⟨.tuple #[.slice (some ⟨g, 0, none⟩) (nb l + 3) cp, .bool true], by simp [results, Tryz.results33, go_sem], .inr ⟨hk, b, off, _, vi, fm, rfl, rfl, (hfin _).1, (hfin _).2.1, HFM.out, (hfin _).2.2⟩⟩
        case stop =>
          rintro D c pre W _ _ h _
          exact h.elim
end Go.Proofs.YtfdaffnkgpdhhaaGreat

namespace Go.Proofs.YtfdaffnkgpdhhaaGreat
open Go.RowKit
set_option linter.unusedVariables false
set_option maxRecDepth 100000

theorem catT_flat (l : List Part) : ∀ i, i ≤ l.length → catT l i = ((l.take i).map (fun p => bl (txP p))).flatten := by
  intro i
  induction i with
  | zero => intro _; simp [catT]
  | succ i ih =>
    intro hi
    rw [catT, ih (by omega), List.take_succ_eq_append_getElem (by omega), List.map_append, List.flatten_append]
    simp [List.getD_eq_getElem?_getD, List.getElem?_eq_getElem (show i < l.length by omega)]
theorem blks_flat (b off : Nat) (l : List It) (n : Nat) : (((List.range n).map (blkP b off l)).map (fun p => bl (txP p))).flatten = bsL l n := by
  induction n with
  | zero => rfl
  | succ n ih =>
    rw [List.range_succ, List.map_append, List.map_append, List.flatten_append, ih, bsL]
    simp [blkP, txP, bl_tx]
theorem frameT_bl (s : ByteArray) (h : s.size ≤ 1000) : bl (frameT s) = frameL (bl s) := by unfold frameT; rw [if_pos h]; rfl
theorem parts_cat {l : List It} (hk : okT l = true) (b off : Nat) (vi : Value) (m : Int) : catT (partsL b off l vi m) (partsL b off l vi m).length = tbL l := by
  rw [catT_flat _ _ (Nat.le_refl _), List.take_length]
  have hp := okT_parts hk
  have hn := nb_le hk
  have hx := ixL_len hk (Nat.le_refl _)
  obtain ⟨m', _, _, hfs⟩ := filF_run hk
  have hc : catP (plsL l (nb l)) (plsL l (nb l)).length = ixL l (nb l) := by rw [plsL_len]; exact catP_pls l _ _ (Nat.le_refl _)
  unfold partsL
  rw [List.map_append, List.flatten_append, blks_flat]
  simp only [List.map_cons, List.map_nil, List.flatten_cons, List.flatten_nil, List.append_nil, txP, hc]
  rw [frameT_bl _ (by rw [tx_size]; omega), frameT_bl _ (by omega), bl_tx, bl_tx]
  simp [tbL]
theorem okPl_plc {l : List It} (hk : okT l = true) {i : Nat} (hi : i < nb l) : okPl (plc l i) := by
  have hp := okT_parts hk
  have hn := nb_le hk
  have h1 := lastI_ok hp.1 hi
  have h2 := okIt_key h1
  have h3 := okIt_seq h1
  have h4 := bsL_len hp.1 i
  have h5 := chk_small hp.1 i
  refine ⟨h2.2, h3.1, h3.2, ?_, ?_, ?_, ?_⟩ <;> show _ ≤ _ <;> simp only [plc] <;> omega
theorem pls_getD (l : List It) (n i : Nat) (hi : i < n) : (plsL l n).getD i default = plc l i := by
  simp [plsL, List.getD_eq_getElem?_getD, List.getElem?_map, List.getElem?_range hi]
theorem parts_ok {w : World} {b off cap : Nat} {l : List It} {vi : Value} {m : Int} (hk : okT l = true) (hir : IR w (.slice (some ⟨b, off, none⟩) l.length cap) l) (hpr : PR w vi (plsL l (nb l))) :
    ∀ p ∈ partsL b off l vi m, okP w p := by
  have hp := okT_parts hk
  have hn := nb_le hk
  intro p hm
  unfold partsL at hm
  rw [List.mem_append] at hm
  rcases hm with hm | hm
  · obtain ⟨i, hi, rfl⟩ := List.mem_map.1 hm
    have hi' := List.mem_range.1 hi
    exact ⟨IR_chunk hir hi', by rw [tx_size]; have := chk_small hp.1 i; omega⟩
  · simp only [List.mem_cons, List.not_mem_nil, or_false] at hm
    rcases hm with rfl | rfl | rfl
    · refine ⟨hpr, by rw [plsL_len]; omega, fun i hi => ?_⟩
      rw [plsL_len] at hi
      rw [pls_getD l _ i hi]
      exact okPl_plc hk hi
    · obtain ⟨m', _, _, hfs⟩ := filF_run hk
      show (fbT l).size ≤ 1000
      omega
    · have := bsL_len hp.1 (nb l)
      show _ < _
      omega
theorem ok_getD {w : World} {l : List Part} (h : ∀ p ∈ l, okP w p) : ∀ i, i < l.length → okP w (l.getD i (.fin 0)) := by
  intro i hi
  rw [List.getD_eq_getElem?_getD, List.getElem?_eq_getElem hi]
  exact h _ (List.getElem_mem hi)
theorem parts_len {l : List It} (hk : okT l = true) (b off : Nat) (vi : Value) (m : Int) : (partsL b off l vi m).length ≤ 100 := by
  have hn := nb_le hk
  simp [partsL]; omega
/-- What TableBytes answers. -/
def tabF (l : List It) : ByteArray := if okT l then tb l else ⟨#[]⟩

set_option maxHeartbeats 1000000 in
theorem implTab_any (a : Option Addr) (cap : Nat) (l : List It) (w : World) (hv : IR w (.slice a l.length cap) l) (hcap : l.length ≤ cap) (hn : l.length ≤ 1048576) (hs : ∀ i (h : i < l.length), l[i].k.size ≤ 1048576 ∧ l[i].v.size ≤ 1048576) :
    Calls Tryz.prog 9 #[.slice a l.length cap] w fun e w' => e = .returned (.tuple #[.string (tabF l), .bool (okT l)]) ∧ Below w.heap.size w w' := by
  have KP := callsIn_wide.1 (partsOf_in a cap l w hv hcap hn hs)
  go_enter Tryz.func9, Tryz.ntmps9
  go_wp2_with fail
  refine KP.mono ?_
  rintro e w1 (⟨hk, rfl, hb1⟩ | ⟨hk, b, off, pv, vi, m, rfl, rfl, hq, hown, hf, hb1⟩)
  · have KB := fun w => bytesOf_any (.slice none 0 0) [] w (QR_nil w) (by simp) (by simp)
    have HT : Hid (tabF l = tx (catT [] ([] : List Part).length)) := by show _ = _; unfold tabF; rw [if_neg (by rw [hk]; simp)]; rfl
    have HK : Hid (okT l = false) := hk
    generalize tx (catT [] ([] : List Part).length) = T at *
    clear hv KP hs hk
    go_wp2_with fail
    refine (KB _).mono ?_
    rintro e w2 ⟨rfl, hb2⟩
    have hB := below_then hb1 hb2
    go_wp2
    go_ret2
    exact ⟨by rw [HT.out, HK.out]; rfl, hB⟩
  · have hpr := PR_of_owns hown (by rw [plsL_len])
    have KB := bytesOf_any pv (partsL b off l vi m) w1 hq (parts_len hk _ _ _ _) (ok_getD (parts_ok hk (hv.below hb1) hpr))
    rw [parts_cat hk] at KB
    have HT : Hid (tabF l = tx (tbL l)) := by show _ = _; unfold tabF; rw [if_pos hk]; rfl
    have HK : Hid (okT l = true) := hk
    generalize tx (tbL l) = T at *
    obtain ⟨pa, pc, rfl, hcq⟩ := hq
    clear hcq hv KP hs hk hpr hown hf
    generalize (partsL b off l vi m).length = q at *
    go_wp2_with fail
    refine KB.mono ?_
    rintro e w2 ⟨rfl, hb2⟩
    have hB := below_then hb1 hb2
    go_wp2
    go_ret2
    exact ⟨by rw [HT.out, HK.out]; rfl, hB⟩
end Go.Proofs.YtfdaffnkgpdhhaaGreat

