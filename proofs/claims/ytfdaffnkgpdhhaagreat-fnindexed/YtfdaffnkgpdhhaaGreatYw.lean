/-
  All items that can be read, plainly; what a round of a loop keeps that puts behind a slice.
  The items one by one: impl.itemsFrom and its closure, for every loop body.
  What is read of a block: impl.ReadBlock.
-/
import Derived.Test.YtfdaffnkgpdhhaaGreatRy
import Derived.RangeFuncNested
import Derived.RangeFuncBound
import Derived.RangeFuncCalls
import Derived.RangeFuncLeaves
import Derived.Shelf.Abstract
import Derived.Shelf.RegionOpen
import Derived.OwnWalkIn
import Derived.TacticsInMore
import Derived.LoopNIn
import Derived.LoopIn
import Derived.Test.YtfdaffnkgpdhhaaGreatRz
import Derived.Test.YtfdaffnkgpdhhaaGreatBz
import Derived.Deep.AppendLies
namespace Go.Proofs.YtfdaffnkgpdhhaaGreat
open Go.RowKit Go.Lib
set_option linter.unusedVariables false
set_option maxRecDepth 100000

/-- All items, as far as they can be read. -/
def rdL : Nat → List UInt8 → List UInt8 → List It
  | 0, _, _ => []
  | f + 1, s, key => if s = [] then [] else if rdOk s key then rdIt s key :: rdL f (s.drop (rdN s)) (bl (rdIt s key).k) else []
theorem rd_a (s : List UInt8) (h : (rd s).ok = true) : 4 ≤ (rd s).a := by
  unfold rd at h ⊢
  simp only [Bool.and_eq_true, decide_eq_true_eq] at h ⊢
  omega
theorem rdN_pos {s key : List UInt8} (h : rdOk s key = true) : 4 ≤ rdN s ∧ rdN s ≤ s.length := by
  unfold rdOk at h
  simp only [Bool.and_eq_true, decide_eq_true_eq] at h
  have := rd_a s h.1.1
  unfold rdN
  omega
theorem rdL_fuel : ∀ (f g : Nat) (s key : List UInt8), s.length < f → s.length < g → rdL f s key = rdL g s key := by
  intro f
  induction f with
  | zero => intro g s key h; omega
  | succ f ih =>
    intro g s key h1 h2
    obtain ⟨g, rfl⟩ : ∃ g', g = g' + 1 := ⟨g - 1, by omega⟩
    unfold rdL
    by_cases hs : s = []
    · rw [if_pos hs, if_pos hs]
    · rw [if_neg hs, if_neg hs]
      cases hk : rdOk s key with
      | false => rfl
      | true =>
        have := rdN_pos hk
        have hl : 0 < s.length := List.length_pos_iff.2 hs
        simp only [if_true]
        rw [ih g _ _ (by rw [List.length_drop]; omega) (by rw [List.length_drop]; omega)]
def itsOf (s key : List UInt8) : List It := rdL (s.length + 1) s key
theorem itsOf_nil (key : List UInt8) : itsOf [] key = [] := by simp [itsOf, rdL]
theorem itsOf_stop {s key : List UInt8} (h : rdOk s key = false) : itsOf s key = [] := by
  unfold itsOf rdL
  split
  · rfl
  · rw [if_neg (by rw [h]; simp)]
theorem itsOf_step {s key : List UInt8} (hs : s ≠ []) (h : rdOk s key = true) : itsOf s key = rdIt s key :: itsOf (s.drop (rdN s)) (bl (rdIt s key).k) := by
  have := rdN_pos h
  have hl : 0 < s.length := List.length_pos_iff.2 hs
  unfold itsOf
  rw [rdL, if_neg hs, if_pos h, rdL_fuel _ ((s.drop (rdN s)).length + 1) _ _ (by rw [List.length_drop]; omega) (by omega)]
theorem rdIt_size {s key : List UInt8} (h : rdOk s key = true) : (rdIt s key).k.size ≤ key.length + (rd s).r ∧ (rdIt s key).v.size ≤ s.length := by
  unfold rdIt
  constructor
  · show (tx _).size ≤ _
    rw [tx_size, List.length_append, List.length_take, List.length_take]; omega
  · show (tx _).size ≤ _
    rw [tx_size, List.length_take, List.length_drop]; omega
theorem step_size {s key : List UInt8} (h : rdOk s key = true) : (bl (rdIt s key).k).length + (s.drop (rdN s)).length + 4 ≤ key.length + s.length := by
  have h1 := (rdIt_size h).1
  have h2 := rdN_pos h
  rw [bl_len, List.length_drop]
  unfold rdOk at h
  simp only [Bool.and_eq_true, decide_eq_true_eq] at h
  have := rd_a s h.1.1
  have : rdN s = (rd s).a + (rd s).r + (rd s).z := rfl
  omega
theorem itsOf_sizes : ∀ (n : Nat) (s key : List UInt8), s.length ≤ n → ∀ x ∈ itsOf s key, x.k.size ≤ key.length + s.length ∧ x.v.size ≤ s.length := by
  intro n
  induction n with
  | zero =>
    intro s key hn x hx
    obtain rfl : s = [] := List.eq_nil_of_length_eq_zero (by omega)
    rw [itsOf_nil] at hx; simp at hx
  | succ n ih =>
    intro s key hn x hx
    by_cases hs : s = []
    · subst hs; rw [itsOf_nil] at hx; simp at hx
    · cases hk : rdOk s key with
      | false => rw [itsOf_stop hk] at hx; simp at hx
      | true =>
        rw [itsOf_step hs hk, List.mem_cons] at hx
        have h1 := rdIt_size hk
        have h2 := step_size hk
        have h3 := rdN_pos hk
        rcases hx with rfl | hx
        · refine ⟨?_, h1.2⟩
          rw [bl_len] at h2; omega
        · have := ih _ _ (by rw [List.length_drop]; omega) x hx
          rw [List.length_drop] at this h2
          omega
theorem itsOf_len : ∀ (n : Nat) (s key : List UInt8), s.length ≤ n → (itsOf s key).length * 4 ≤ s.length := by
  intro n
  induction n with
  | zero =>
    intro s key hn
    obtain rfl : s = [] := List.eq_nil_of_length_eq_zero (by omega)
    rw [itsOf_nil]; simp
  | succ n ih =>
    intro s key hn
    by_cases hs : s = []
    · subst hs; rw [itsOf_nil]; simp
    · cases hk : rdOk s key with
      | false => rw [itsOf_stop hk]; simp
      | true =>
        have h3 := rdN_pos hk
        have := ih (s.drop (rdN s)) (bl (rdIt s key).k) (by rw [List.length_drop]; omega)
        rw [itsOf_step hs hk, List.length_cons]
        rw [List.length_drop] at this
        omega
/-- A run's items are read back. -/
theorem itsOf_rest {l : List It} (h : goodR l = true) : ∀ (k i : Nat), i + k = l.length → itsOf (restL l i) (ahead l i) = l.drop i := by
  intro k
  induction k with
  | zero =>
    intro i hi
    obtain rfl : i = l.length := by omega
    rw [rest_end, itsOf_nil]; simp
  | succ k ih =>
    intro i hi
    have h1 : i < l.length := by omega
    have hne : restL l i ≠ [] := fun e => by have := rest_nil (by omega) e; omega
    obtain ⟨b1, b2, b3, _⟩ := rd_back (goodR_at h h1) (restL l (i + 1))
    rw [← rest_step l i h1] at b1 b2 b3
    have e : (restL l i).drop (itL (l.getD i default) (cm l i)).length = restL l (i + 1) := by rw [rest_step l i h1, List.drop_left]
    rw [itsOf_step hne b1, b2, b3, e, ← ahead_succ, ih (i + 1) (by omega), List.drop_eq_getElem_cons h1]
    simp [List.getD_eq_getElem?_getD, List.getElem?_eq_getElem h1]
theorem itsOf_run {l : List It} (h : goodR l = true) : itsOf (itsL l l.length) [] = l := by
  have := itsOf_rest h l.length 0 (by omega)
  rw [rest_zero] at this
  simpa [ahead] using this

/-- The block of the row that the variable in block B names. -/
def rowOf (W : World) (B : Nat) : Option Nat := (W.cell? ⟨B, 0, none⟩).bind Value.ownBlock
/-- What a round keeps that writes the variable in block B and the row that it names. -/
structure Kept (B : Nat) (W W' : World) : Prop where
  size : W.heap.size ≤ W'.heap.size
  keep : ∀ k o, W.heap[k]? = some o → o.isCells = true → k ≠ B → rowOf W B ≠ some k → W'.heap[k]? = some o
  row : rowOf W' B = rowOf W B ∨ ∀ g, rowOf W' B = some g → W.heap.size ≤ g
  sane : (∀ g, rowOf W B = some g → g < W.heap.size) → ∀ g, rowOf W' B = some g → g < W'.heap.size
theorem Kept.trans {B : Nat} {X Y Z : World} (h : Kept B X Y) (k : Kept B Y Z) : Kept B X Z where
  size := Nat.le_trans h.size k.size
  keep j o ho hc hB hr := k.keep j o (h.keep j o ho hc hB hr) hc hB (fun e => by
    rcases h.row with h1 | h1
    · rw [h1] at e; exact hr e
    · have h2 := h1 j e
      have h3 := (Array.getElem?_eq_some_iff.1 ho).1
      omega)
  row := by
    rcases k.row with h1 | h1
    · rcases h.row with h2 | h2
      · exact .inl (h1.trans h2)
      · exact .inr fun g hg => h2 g (by rw [← h1]; exact hg)
    · exact .inr fun g hg => Nat.le_trans h.size (h1 g hg)
  sane hs := k.sane (h.sane hs)
theorem Kept.put {B : Nat} {w : World} (hB : B < w.heap.size) (W : World) (l : Nat) (o o' : Obj) (hl : w.heap.size ≤ l) (h : W.heap[l]? = some o) (hc : o.isCells = false) (_ : o.isWalk = false) : Kept B W (W.putObj l o') := by
  have hne : ∀ k, k ≠ l → (W.putObj l o').heap[k]? = W.heap[k]? := fun k hk => World.putObj_heap_other hk
  have hr : rowOf (W.putObj l o') B = rowOf W B := by
    unfold rowOf World.cell?
    rw [hne B (by omega)]
  have hg := (grownBy_putObj' W l o').size
  refine ⟨hg, fun k u hu hcu hkB _ => ?_, .inl hr, fun hs g e => ?_⟩
  · rw [hne k (fun e => by subst e; rw [h] at hu; cases hu; rw [hc] at hcu; cases hcu)]; exact hu
  · rw [hr] at e; exact Nat.lt_of_lt_of_le (hs g e) hg
theorem Kept.box {B : Nat} {W W' : World} (h : Kept B W W') {b : Nat} {vs : List Value} (hx : Box W b vs) (hb : b ≠ B) (hr : rowOf W B ≠ some b) (hv : vs ≠ []) : Box W' b vs := by
  obtain ⟨h1, h2, h3⟩ := hx
  have hlt : b < W.heap.size := h1
  obtain ⟨v, r, rfl⟩ : ∃ v r, vs = v :: r := by cases vs with | nil => exact absurd rfl hv | cons v r => exact ⟨v, r, rfl⟩
  obtain ⟨o, ho, hoc⟩ := cells_of_cell (h2 0 v rfl)
  have hk := h.keep b o ho hoc hb hr
  have he : W'.heap[b]? = W.heap[b]? := by rw [hk]; exact ho.symm
  refine ⟨Nat.lt_of_lt_of_le h1 h.size, fun j u hu => ?_, fun j => ?_⟩
  · rw [← h2 j u hu]; simp [World.cell?, he]
  · rw [← h3 j]; simp [World.frozen?, he]
end Go.Proofs.YtfdaffnkgpdhhaaGreat

namespace Go.Proofs.YtfdaffnkgpdhhaaGreat
open Go.RowKit Go.Shelf Go.Lib
set_option linter.unusedVariables false
set_option maxRecDepth 100000
attribute [local go_sem] Oper.semAt_some

def encIt (x : It) : Value := .agg #[.string x.k, .int .i64 x.n, .int .i64 x.d, .string x.v]
def strLen : Value → Nat
  | .string r => r.size
  | _ => 0
theorem below_grown {w w' : World} (h : Below w.heap.size w w') : w.grownBy w' none := ⟨h.os, h.tape, h.output, h.size, fun k hk _ => h.block k hk⟩
theorem abide {J : List It → World → Prop} {B : Nat} (hJ : AbidesFrom B J) {pre : List It} {w w' : World} (h : J pre w) (hb : Below w.heap.size w w') : J pre w' :=
  hJ pre w w' none h (below_grown hb) (fun r e => by cases e)
theorem rowOf_below {w w' : World} {B : Nat} (hb : Below w.heap.size w w') (hB : B < w.heap.size) : rowOf w' B = rowOf w B := by
  unfold rowOf; rw [hb.cell (p := ⟨B, 0, none⟩) hB]

set_option maxHeartbeats 4000000 in
theorem items1_in (n : Nat) (hn : 1 ≤ n) (l Bn B : Nat) (s : ByteArray) (hs : s.size ≤ 1048576) (J Jx : List It → World → Prop) (W : World) (hJ : AbidesFrom W.heap.size J) (hBlt : B < W.heap.size) (hsane : ∀ g, rowOf W B = some g → g < W.heap.size)
    (hY : ∀ pre x W1, J pre W1 → pre.length < (itsOf (bl s) []).length → YieldAt Fence.wide (n - 1) Tryz.prog l #[encIt x] W1 fun e W' =>
      (e = .returned (.bool true) ∧ J (pre ++ [x]) W' ∧ Kept B W1 W') ∨ (e = .returned (.bool false) ∧ Jx (pre ++ [x]) W'))
    (hBn : W.cell? ⟨Bn, 0, none⟩ = some (.string s)) (h0 : J [] W) :
    CallsIn Fence.wide n Tryz.prog 120 #[.func (.yield l) #[] #[], .pointer (some ⟨Bn, 0, none⟩)] W fun e W' => (∃ v, e = .returned v) ∧
      ((∃ ys, ys = itsOf (bl s) [] ∧ J ys W') ∨ (∃ pre, True ∧ Jx pre W')) := by
  refine callsIn_of_wp Tryz.func120 rfl trivial ?_ rfl
  simp only [Tryz.ntmps120, List.size_toArray, List.length_cons, List.length_nil, Nat.reduceAdd, Nat.reduceSub, Array.replicate_succ, Array.replicate_zero, List.push_toArray, List.append_toArray, List.nil_append, List.cons_append]
  gi_wp2
  gi_loopw [3, 4] (fun kv rv wr => ∃ (pre : List It) (key : List UInt8) (r : ByteArray), rv = .string r ∧ KY wr kv key ∧ itsOf (bl s) [] = pre ++ itsOf (bl r) key ∧ key.length + r.size ≤ s.size ∧ J pre wr ∧ W.heap.size ≤ wr.heap.size ∧ ∀ g, rowOf wr B = some g → g < wr.heap.size) (fun _ rv _ => strLen rv)
  case atStart => exact ⟨[], [], s, rfl, KY_nil _, by simp, by simp, h0, Nat.le_refl _, hsane⟩
  case round =>
    clear hBn h0 hsane
    obtain ⟨pre, key, r, rfl, hKY, hits, hsz, hJs, hzW, hsane⟩ := hrel
    have HI : Hid (itsOf (bl s) [] = pre ++ itsOf (bl r) key) := hits
    clear hits
    by_cases hr0 : r.size = 0
    · obtain rfl := empty_of_size hr0
      have hend : itsOf (bl s) [] = pre := by rw [HI.out, show bl (⟨#[]⟩ : ByteArray) = [] from rfl, itsOf_nil, List.append_nil]
      clear hY hKY HI
      gi_wp2
      go_end0
      exact ⟨⟨_, rfl⟩, .inl ⟨pre, hend.symm, hJs⟩⟩
    · have hz' : r.toList.isEmpty = false := by rw [isEmpty_eq]; simp [hr0]
      have hne : bl r ≠ [] := fun e => hr0 (by rw [← bl_len, e]; rfl)
      cases hok : rdOk (bl r) key with
      | false =>
        have hend : itsOf (bl s) [] = pre := by rw [HI.out, itsOf_stop hok, List.append_nil]
        have K := takeItem_no r _ key wr hKY (by omega) (by omega) hok
        clear hY HI
        gi_wp2_with fail
        refine ⟨trivial, ?_⟩
        refine (callsIn_wide.2 K).mono ?_
        rintro e w1 ⟨rfl, hb1⟩
        have hJ1 := abide hJ hJs hb1
        have hJ2 := abide hJ hJ1 (below_alloc w1 (.cells #[.string ⟨#[]⟩, .int .i64 0, .int .i64 0, .string ⟨#[]⟩] 33))
        clear hJs hJ1 K hKY
        gi_wp2
        refine ⟨fun _ h => (by cases h), ?_⟩
        gi_wp2
        refine bodyPost_ret (results_none rfl _ _ _) rfl ?_
        exact ⟨⟨_, rfl⟩, .inl ⟨pre, hend.symm, hJ2⟩⟩
      | true =>
        have HI2 : Hid (itsOf (bl s) [] = (pre ++ [rdIt (bl r) key]) ++ itsOf (bl (r.extract (rdN (bl r)) r.size)) (bl (rdIt (bl r) key).k)) := by
          show _ = _
          rw [HI.out, itsOf_step hne hok, bl_from]; simp
        have hlen : pre.length < (itsOf (bl s) []).length := by rw [HI2.out]; simp
        have hst := step_size hok
        have hN := rdN_pos hok
        rw [bl_len] at hN hst
        have K := takeItem_yes r _ key wr hKY (by omega) (by omega) hok
        have hsz2 : (bl (rdIt (bl r) key).k).length + (r.extract (rdN (bl r)) r.size).size ≤ s.size := by
          rw [ByteArray.size_extract]
          rw [List.length_drop, bl_len] at hst
          rw [bl_len]; omega
        have hms : (r.extract (rdN (bl r)) r.size).size < r.size := by rw [ByteArray.size_extract]; omega
        clear hst hN HI hok hne
        generalize rdIt (bl r) key = x at *
        generalize r.extract (rdN (bl r)) r.size = R at *
        obtain ⟨xk, xn, xd, xv⟩ := x
        dsimp only at K hsz2 HI2
        gi_wp2_with fail
        refine ⟨trivial, ?_⟩
        refine (callsIn_wide.2 K).mono ?_
        rintro e w1 ⟨rfl, hb1⟩
        obtain ⟨W2, hW2⟩ : ∃ W2, W2 = w1.alloc (.cells #[.string xk, .int .i64 xn, .int .i64 xd, .string xv] 33) := ⟨_, rfl⟩
        have hb2 : Below w1.heap.size w1 W2 := by rw [hW2]; exact below_alloc _ _
        have X2 : Box W2 w1.heap.size [.string xk, .int .i64 xn, .int .i64 xd, .string xv] := by rw [hW2]; exact Box.new w1 #[.string xk, .int .i64 xn, .int .i64 xd, .string xv] 33
        have hJ2 := abide hJ (abide hJ hJs hb1) hb2
        have hz1 := hb1.size
        have hz2 := hb2.size
        have hrw1 : rowOf w1 B = rowOf wr B := rowOf_below hb1 (by omega)
        have hrw2 : rowOf W2 B = rowOf w1 B := rowOf_below hb2 (by omega)
        have hne2 : rowOf W2 B ≠ some w1.heap.size := fun e => by rw [hrw2, hrw1] at e; have := hsane _ e; omega
        have hsn2 : ∀ g, rowOf W2 B = some g → g < W2.heap.size := fun g e => by rw [hrw2, hrw1] at e; have := hsane _ e; omega
        have hzW2 : W.heap.size ≤ W2.heap.size := by omega
        have hbB : w1.heap.size ≠ B := by omega
        obtain ⟨fn, tmps, assign, body, hy, hR⟩ := hY pre ⟨xk, xn, xd, xv⟩ W2 hJ2 hlen
        obtain ⟨_, x0, x1, x2, x3⟩ := X2.c4
        clear hY K hKY hJs hJ2 hb1 hb2 hrw1 hrw2 hsane hlen
        unfold encIt at hy
        dsimp only at hy
        rw [hW2] at hy x0 x1 x2 x3
        gi_wp2_with fail
        rw [← hW2]
        refine hR.mono ?_
        rintro e W3 (⟨rfl, hJ3, hk3⟩ | ⟨rfl, hJx3⟩)
        · have X3 := hk3.box X2 hbB hne2 (by simp)
          have hsn3 := hk3.sane hsn2
          have hz3 := hk3.size
          obtain ⟨kv2, W4, hcv, hKY4, hb4⟩ := KY_bytes xk W3
          have hJ4 := abide hJ hJ3 hb4
          have hz4 := hb4.size
          have hrw4 : rowOf W4 B = rowOf W3 B := rowOf_below hb4 (by omega)
          obtain ⟨_, y0, y1, y2, y3⟩ := X3.c4
          clear hy hR x0 x1 x2 x3 X2 hJ3 hW2 X3
          gi_wp2
          go_roundw
          case rel => exact ⟨pre ++ [⟨xk, xn, xd, xv⟩], bl xk, R, rfl, hKY4, HI2.out, hsz2, hJ4, by omega, fun g e => by rw [hrw4] at e; have := hsn3 g e; omega⟩
          case measure => exact hms
        · clear hy hR x0 x1 x2 x3 X2 hW2
          gi_wp2
          refine bodyPost_ret (results_none rfl _ _ _) rfl ?_
          exact ⟨⟨_, rfl⟩, .inr ⟨_, trivial, hJx3⟩⟩

set_option maxHeartbeats 1000000 in
theorem itemsFrom_any (s : ByteArray) (w : World) :
    Calls Tryz.prog 87 #[.string s] w fun e w' => e = .returned (.func (.func 120) #[] #[.pointer (some ⟨w.heap.size, 0, none⟩)]) ∧ w' = w.alloc (.cells #[.string s] 9) := by
  go_enter Tryz.func87, Tryz.ntmps87
  go_wp2
  go_ret
  exact ⟨rfl, rfl⟩
/-- The closure that itemsFrom hands out. -/
theorem items_stops (n : Nat) (hn : 1 ≤ n) (Bn B : Nat) (s : ByteArray) (hs : s.size ≤ 1048576) (w : World) (hBn : Bn < w.heap.size) (hB : B < w.heap.size) (hc : w.cell? ⟨Bn, 0, none⟩ = some (.string s)) (hsane : ∀ g, rowOf w B = some g → g < w.heap.size) :
    SeqStopsK Fence.wide n Tryz.prog 120 #[.pointer (some ⟨Bn, 0, none⟩)] (fun x : It => #[encIt x]) (Kept B) (fun ys => ys = itsOf (bl s) []) (fun _ => True) (itsOf (bl s) []).length w := fun l J Jx W hW hJ _ hY h0 =>
  items1_in n hn l Bn B s hs J Jx W hJ (Nat.lt_of_lt_of_le hB hW.size) (fun g e => by rw [rowOf_below hW hB] at e; exact Nat.lt_of_lt_of_le (hsane g e) hW.size) hY ((hW.cell (p := ⟨Bn, 0, none⟩) hBn).trans hc) h0
end Go.Proofs.YtfdaffnkgpdhhaaGreat

namespace Go.Proofs.YtfdaffnkgpdhhaaGreat
open Go.RowKit Go.Shelf Go.Lib
set_option linter.unusedVariables false
set_option maxRecDepth 100000
attribute [local go_sem] Oper.semAt_some

theorem append_ran {F : Fence} {n : Nat} {P : Program} (w : World) {ops : Array Oper} {rest : List Oper} {o : Oper} {a : Act} {Q : Exit → Act → World → Prop} (hg : o.guard = none) (s x : Operand) (t : TypeId)
    (hop : o.op = Op.call { callee := Callee.builtin Builtin.append, args := #[s, x], argTypes := #[t, t] }) (vs vx : Value) (hs : a.eval s = vs) (hx : a.eval x = vx) (v' : Value) (w' : World)
    (hrun : (Builtin.append_ #[t, t] o.type #[vs, vx]).run P w = .ok v' w') (h : wpListIn F n P ops Q rest (a.put o.dst v') w') : wpListIn F n P ops Q (o :: rest) a w := by
  refine wpListIn_plain hg fun K hK' => ?_
  unfold Oper.wpIn
  refine ⟨by simp [Oper.about, hop, resolve, Target.leads, Sem.run_pure], ?_⟩
  rw [Oper.semAt_plain F _ _ (by rw [hop]; intro c hc'; cases hc')]
  simp [execOp, hop, resolve, invoke, builtin, hs, hx, hrun, Result.andThen]
  exact hK' _ _ h
theorem cells_new4 (W : World) (x : It) : ∀ j u, (flat4 [x])[j]? = some u → (W.alloc (.cells #[.string x.k, .int .i64 x.n, .int .i64 x.d, .string x.v] 33)).cell? ((⟨W.heap.size, 0, none⟩ : Addr).add j) = some u := by
  intro j u hj
  have hb := Box.new W #[.string x.k, .int .i64 x.n, .int .i64 x.d, .string x.v] 33
  rw [show (⟨W.heap.size, 0, none⟩ : Addr).add j = ⟨W.heap.size, j, none⟩ from by simp [Addr.add]; omega]
  exact hb.2.1 j u hj
theorem one4 (x : It) : ∀ u ∈ flat4 [x], u.oneCell' = true := by
  intro u hu
  simp only [flat4, List.mem_cons, List.not_mem_nil, or_false] at hu
  rcases hu with rfl | rfl | rfl | rfl <;> rfl
theorem Kept.alloc (B : Nat) (W : World) (o : Obj) (hB : B < W.heap.size) : Kept B W (W.alloc o) := by
  have hb := below_alloc W o
  have hr := rowOf_below hb hB
  refine ⟨hb.size, fun k u hu _ _ _ => ?_, .inl hr, fun hs g e => ?_⟩
  · rw [hb.block k (Array.getElem?_eq_some_iff.1 hu).1]; exact hu
  · rw [hr] at e; exact Nat.lt_of_lt_of_le (hs g e) hb.size
/-- A round's append, and the store behind it. -/
theorem Kept.appended {W w1 : World} {B g cap m : Nat} {v : Value} {tmp : Obj} (hv : Boxed W B 23 v) (hv1 : Boxed w1 B 23 v) (hgrow : (W.alloc tmp).grownBy w1 v.ownBlock) (hl : v.ownBlock = some g ∨ g = (W.alloc tmp).heap.size) (hg : g < w1.heap.size) :
    Kept B W (w1.setCell ⟨B, 0, none⟩ (.slice (some ⟨g, 0, none⟩) m cap)) := by
  have hb := below_alloc W tmp
  have hrW : rowOf W B = v.ownBlock := by unfold rowOf; rw [hv.cell]; rfl
  have hrN : rowOf (w1.setCell ⟨B, 0, none⟩ (.slice (some ⟨g, 0, none⟩) m cap)) B = some g := by unfold rowOf; rw [(hv1.set (.slice (some ⟨g, 0, none⟩) m cap)).cell]; rfl
  have hsz : W.heap.size ≤ w1.heap.size := Nat.le_trans hb.size hgrow.size
  have hsz1 : (W.alloc tmp).heap.size = W.heap.size + 1 := by simp
  refine ⟨by simpa using hsz, fun k o ho hc hkB hr => ?_, ?_, fun hs g' e => ?_⟩
  · have hk := (Array.getElem?_eq_some_iff.1 ho).1
    rw [(grownBy_setCell' w1 B (.slice (some ⟨g, 0, none⟩) m cap)).block k (by omega) (fun e => hkB (by cases e; rfl))]
    rw [hgrow.block k (by omega) (fun e => hr (by rw [hrW, ← e]))]
    rw [hb.block k hk]; exact ho
  · rw [hrW, hrN]
    rcases hl with h | h
    · exact .inl h.symm
    · exact .inr fun g' e => by cases e; omega
  · rw [hrN] at e; cases e; simpa using hg
theorem box_owned {X Y : World} {row : Option Nat} {b : Nat} {v : Value} {r : List Value} (h : Box X b (v :: r)) (hg : X.grownBy Y row) (hr : ∀ q, row = some q → ∃ o : Obj, X.heap[q]? = some o ∧ o.isCells = false) : Box Y b (v :: r) := by
  obtain ⟨h1, h2, h3⟩ := h
  obtain ⟨o, ho, hoc⟩ := cells_of_cell (h2 0 v rfl)
  have he : Y.heap[b]? = X.heap[b]? := hg.block b h1 (fun e => by
    obtain ⟨o', ho', hc'⟩ := hr b e.symm
    have : X.heap[b]? = some o := ho
    rw [this] at ho'; cases ho'; rw [hoc] at hc'; cases hc')
  refine ⟨Nat.lt_of_lt_of_le h1 hg.size, fun j u hu => ?_, fun j => ?_⟩
  · rw [← h2 j u hu]; simp [World.cell?, he]
  · rw [← h3 j]; simp [World.frozen?, he]
/-- What ReadBlock answers, in the words of what it reads. -/
def rbOk (s : ByteArray) : Bool := parts (bl s) && (okBlk (itsOf (bl (paA s)) []) && decide (blkF (itsOf (bl (paA s)) []) = s))
def rbL (s : ByteArray) : List It := if rbOk s then itsOf (bl (paA s)) [] else []
theorem rb_res (s : ByteArray) : RdRes (bl s) (rbL s) (rbOk s) := by
  cases h : rbOk s with
  | true =>
    refine .inl ⟨rfl, ?_⟩
    unfold rbL
    rw [if_pos h]
    unfold rbOk okBlk at h
    simp only [Bool.and_eq_true, decide_eq_true_eq] at h
    obtain ⟨h1, ⟨h2, h3⟩, h4⟩ := h
    refine ⟨h2, h3, ?_⟩
    refine Eq.trans ?_ (congrArg bl h4)
    unfold blkF okBlk
    rw [if_pos (by rw [h2, decide_eq_true h3]; rfl), bl_tx]
  | false =>
    refine .inr ⟨rfl, by unfold rbL; rw [if_neg (by rw [h]; simp)], ?_⟩
    intro m hm hl e
    have hp := blk_parts (l := m) (by omega)
    rw [e] at hp
    have hA : paA s = tx (itsL m m.length) := by
      unfold paA
      rw [if_pos hp.1, hp.2]
      apply bl_inj
      rw [bl_to, bl_tx, ← e, blk_items]
    have hI : itsOf (bl (paA s)) [] = m := by rw [hA, bl_tx, itsOf_run hm]
    have hB : okBlk m = true := by unfold okBlk; rw [hm, decide_eq_true hl]; rfl
    have hF : blkF m = s := by
      unfold blkF
      rw [if_pos hB]
      apply bl_inj
      rw [bl_tx]; exact e
    unfold rbOk at h
    rw [hp.1, hI, hB, decide_eq_true hF] at h
    cases h

set_option maxHeartbeats 8000000 in
theorem implRead_in (s : ByteArray) (hs : s.size ≤ 1048576) (w : World) :
    CallsIn Fence.wide 9 Tryz.prog 43 #[.string s] w fun e w' => ∃ v, e = .returned (.tuple #[v, .bool (rbOk s)]) ∧ w'.ownsRow w.heap.size 33 4 v (rbL s).length (flat4 (rbL s)) ∧ Below w.heap.size w w' := by
  obtain ⟨i0, hi, hz0, hz1, hz2⟩ := info_parts Tryz.info33
  have HRB : Hid (rbOk s = (parts (bl s) && (okBlk (itsOf (bl (paA s)) []) && decide (blkF (itsOf (bl (paA s)) []) = s)))) := rfl
  have HRL : Hid (rbL s = if rbOk s then itsOf (bl (paA s)) [] else []) := rfl
  generalize rbOk s = RO at *
  generalize rbL s = RL at *
  have hpa : (paA s).size ≤ s.size := by
    unfold paA
    split
    · rw [ByteArray.size_extract]; omega
    · exact Nat.zero_le _
  have hIs := itsOf_sizes (bl (paA s)).length (bl (paA s)) [] (Nat.le_refl _)
  have hIl := itsOf_len (bl (paA s)).length (bl (paA s)) [] (Nat.le_refl _)
  rw [bl_len] at hIs hIl
  have hIs2 : ∀ i (h : i < (itsOf (bl (paA s)) []).length), (itsOf (bl (paA s)) [])[i].k.size ≤ 1048576 ∧ (itsOf (bl (paA s)) [])[i].v.size ≤ 1048576 := fun i h => by
    have := hIs _ (List.getElem_mem h)
    simp only [List.length_nil] at this
    omega
  have KB := fun v w h => implBlk_any v (itsOf (bl (paA s)) []) w h (by omega) hIs2
  have KP := fun w => blockParts_any s w hs
  have KI := fun w => itemsFrom_any (paA s) w
  have KS := fun Bn B w a b c d => items_stops 8 (by omega) Bn B (paA s) (by omega) w a b c d
  clear hIs hIs2
  generalize itsOf (bl (paA s)) [] = L at *
  generalize paA s = PA at *
  generalize paB s = PB at *
  refine callsIn_of_wp_marks Tryz.func43 rfl trivial ?_ rfl
  simp only [Tryz.ntmps43, List.size_toArray, List.length_cons, List.length_nil, Nat.reduceAdd, Nat.reduceSub, Array.replicate_succ, Array.replicate_zero, List.push_toArray, List.append_toArray, List.nil_append, List.cons_append]
  cases hp : parts (bl s) with
  | false =>
    rw [hp] at HRB KP
    obtain rfl : RO = false := HRB.out
    obtain rfl : RL = [] := HRL.out
    clear HRB HRL KB KI KS
    gi_wp2_with fail
    refine ⟨trivial, ?_⟩
    refine (callsIn_wide.2 (KP _)).mono ?_
    rintro e w1 ⟨rfl, hb1⟩
    clear KP
    gi_wp2
    exact ⟨.tuple #[.slice none 0 0, .bool false], by simp [results, Tryz.results43, go_sem], .slice none 0 0, rfl, World.ownsRow_nil _ _ _ _, hb1⟩
  | true =>
    rw [hp] at HRB KP
    gi_wp2_with fail
    refine ⟨trivial, ?_⟩
    refine (callsIn_wide.2 (KP _)).mono ?_
    rintro e w1 ⟨rfl, hb1⟩
    clear KP
    gi_wp2_with fail
    refine ⟨trivial, ?_⟩
    refine (callsIn_wide.2 (KI _)).mono ?_
    rintro e w2 ⟨rfl, rfl⟩
    clear KI
    have bL := (Boxed.new w1 23 (.slice none 0 0)).alloc (.cells #[.string PA] 9)
    have bS := Boxed.new (w1.alloc (.cells #[.slice none 0 0] 23)) 9 (.string PA)
    simp only [World.size_alloc] at bS
    have hz1w := hb1.size
    have hB0 : Below w.heap.size w ((w1.alloc (.cells #[.slice none 0 0] 23)).alloc (.cells #[.string PA] 9)) := (hb1.alloc hz1w _).alloc (by simp; omega) _
    have hsz : ((w1.alloc (.cells #[.slice none 0 0] 23)).alloc (.cells #[.string PA] 9)).heap.size = w1.heap.size + 2 := by simp
    gi_wp2_with fail
    obtain ⟨W0, hW0⟩ : ∃ W0, (w1.alloc (.cells #[.slice none 0 0] 23)).alloc (.cells #[.string PA] 9) = W0 := ⟨_, rfl⟩
    rw [hW0] at bL bS hB0 hsz ⊢
    clear hW0
    have hrow0 : rowOf W0 w1.heap.size = none := by unfold rowOf; rw [bL.cell]; rfl
    refine wpIn_rangeFunc_ownH rfl (by omega) (gf := 120) (lb := #[.pointer (some ⟨w1.heap.size + 1, 0, none⟩)]) rfl trivial (enters_of Tryz.func120 (by kernel_rfl) rfl)
      (KS (w1.heap.size + 1) w1.heap.size W0 (by omega) (by omega) bS.cell (fun g e => by rw [hrow0] at e; cases e)) (fun h k => h.trans k) (Kept.put (by omega)) (Below.refl _ _) (fun _ => rfl)
      (fun pre W => (∃ v, Boxed W w1.heap.size 23 v ∧ W.ownsRow w.heap.size 33 4 v pre.length (flat4 pre) ∧ True) ∧ Below w.heap.size w W)
      (fun _ _ _ => False)
      (OwnFrom.and (Own.from (holdsRow_own w.heap.size w1.heap.size 23 33 4 (fun pre => pre.length) (fun pre => flat4 pre) (fun _ _ => True)) _) (ownFrom_below (Nat.le_refl _) (by omega)))
      (fun _ _ _ _ _ hs _ _ => hs)
      ⟨⟨_, bL, World.ownsRow_nil _ _ _ _, trivial⟩, hB0⟩
      (fun x a' W => ∃ Bx, w1.heap.size < Bx ∧ Box W Bx [.string x.k, .int .i64 x.n, .int .i64 x.d, .string x.v] ∧ a' = { tmps := #[.string s, undef, .slice none 0 0, .bool false, .string PA, .string PB, .bool true, .pointer (some ⟨w1.heap.size, 0, none⟩), .pointer (some ⟨Bx, 0, none⟩), undef, undef, .tuple #[.string PA, .string PB, .bool true], .string s, .tuple #[.string PA, .string PB, .bool true], .string PA, .string PB, .bool true, .bool true, .bool false, .string PA, .func (.func 120) #[] #[.pointer (some ⟨w1.heap.size + 1, 0, none⟩)], (.agg #[.string x.k, .int .i64 x.n, .int .i64 x.d, .string x.v]), undef, undef, undef, undef, undef, undef, undef, undef, undef, undef, undef, undef, undef, undef, undef, undef, undef], defers := [] })
      (fun x a' _ X Y row hs hg hr => by obtain ⟨Bx, h1, h2, h3⟩ := hs; exact ⟨Bx, h1, box_owned h2 hg (fun r e => (hr r e).2), h3⟩)
      ?assign ?body ?done ?stop
    case assign =>
      rintro l pre x W K ⟨⟨v, hv, hrow, _⟩, hB⟩ hK
      have hlt := hv.lt
      obtain ⟨xk, xn, xd, xv⟩ := x
      simp only [encIt]
      gi_wp2
      exact hK _ _ ((KeepsOthers.alloc _ _).from _) (Kept.alloc _ W _ hlt) ⟨⟨v, hv.alloc _, hrow.alloc _, trivial⟩, hB.alloc hB.size _⟩ ⟨W.heap.size, hlt, Box.new W #[.string xk, .int .i64 xn, .int .i64 xd, .string xv] 33, rfl⟩
    case body =>
      rintro l pre x a' W hl ⟨r, hr⟩ ⟨⟨v, hv, hrow, _⟩, hB⟩ ⟨Bx, hBx, X, rfl⟩ hlt
      have hc := hv.cell
      have hpl : pre.length + 1 ≤ 1048576 := by omega
      obtain ⟨_, x0, x1, x2, x3⟩ := X.c4
      obtain ⟨g, cap, w2, hrun, hown', hgrow, hl2, hg2⟩ := run_append_lies (P := Tryz.prog) (W.alloc (.cells #[.string x.k, .int .i64 x.n, .int .i64 x.d, .string x.v] 33)) 23 23 w.heap.size 33 i0 (.agg #[.string ⟨#[]⟩, .int .i64 0, .int .i64 0, .string ⟨#[]⟩]) 4 48 Tryz.underlying23 hi hz0 hz1 hz2 rfl (by decide) v pre.length (flat4 pre) (hrow.alloc _) ⟨W.heap.size, 0, none⟩ 1 1 (flat4 [x]) rfl (cells_new4 W x) (one4 x) (by omega) (by unfold maxLen; omega) (by omega) (by have := hB.size; simp; omega) _ rfl
      obtain ⟨hv1, hv2, hr2, hk2, hb2⟩ := hv.appended (by decide) hrow hB.size (by omega) hown' hgrow
      have hc1 := hv1.cell
      have hf1 := hv1.frozen
      have hKp := Kept.appended (cap := cap) (m := pre.length + 1) hv hv1 hgrow hl2 hg2
      rw [← flat4_append] at hr2
      have hr3 : (w2.setCell ⟨w1.heap.size, 0, none⟩ (.slice (some ⟨g, 0, none⟩) (pre.length + 1) cap)).ownsRow w.heap.size 33 4 (.slice (some ⟨g, 0, none⟩) (pre.length + 1) cap) (pre ++ [x]).length (flat4 (pre ++ [x])) := by rw [List.length_append]; exact hr2
      clear hgrow hl2 hg2 hown' hl hr hr2
      obtain ⟨xk, xn, xd, xv⟩ := x
      dsimp only at x0 x1 x2 x3 hrun
      gi_wp2_with (gi_at_builtin; refine append_ran _ rfl _ _ 23 rfl _ _ rfl rfl _ _ hrun ?_)
      exact ⟨hk2.from _, hKp, ⟨_, hv2, hr3⟩, hB.trans hb2⟩
    case done =>
      rintro D ys W hD rfl ⟨⟨v, hv, hrow, _⟩, hB⟩ hK
      have hc := hv.cell
      have hir := IR_of_owns hrow rfl
      have hK2 : ∀ w5, Below W.heap.size W w5 → w5.heap[D]? = some (.deferred (some [])) := fun w5 h => (h.block D (Array.getElem?_eq_some_iff.1 hK).1).trans hK
      gi_wp2_with fail
      refine ⟨trivial, ?_⟩
      refine (callsIn_wide.2 (KB _ _ hir)).mono ?_
      rintro e w5 ⟨rfl, hb5⟩
      have hK5 := hK2 w5 hb5
      have hrow5 := owns_below hrow hb5
      have hB5 := below_then hB hb5
      have hv5 : Boxed w5 w1.heap.size 23 v := (hb5.block _ hv.lt).trans hv
      have hc5 := hv5.cell
      clear KB KS hc hir hK2 hrow hB hK hv hb5
      have HB6 : ∀ o', Below w.heap.size w (w5.putObj D o') := fun o' => hB5.trans (belowK_b (w := w) (Nat.le_refl _) w5 D _ o' (by omega) hK5 rfl rfl)
      cases hok : okBlk ys with
      | false =>
        rw [hok] at HRB
        obtain rfl : RO = false := HRB.out
        obtain rfl : RL = [] := HRL.out
        gi_wp2
        refine ⟨by simp, .inl ⟨_, _, rfl, run_takeDeferred hK5, ?_⟩⟩
        exact ⟨.tuple #[.slice none 0 0, .bool false], by simp [results, Tryz.results43, go_sem], .slice none 0 0, rfl, World.ownsRow_nil _ _ _ _, HB6 _⟩
      | true =>
        by_cases hT : blkF ys = s
        · rw [hok, decide_eq_true hT] at HRB
          obtain rfl : RO = true := HRB.out
          obtain rfl : RL = ys := HRL.out
          rw [hT]
          gi_wp2
          refine ⟨by simp, .inl ⟨_, _, rfl, run_takeDeferred hK5, ?_⟩⟩
          exact ⟨.tuple #[v, .bool true], by simp [results, Tryz.results43, go_sem], v, rfl, ownsRow_putObj hrow5 _ hK5 rfl, HB6 _⟩
        · rw [hok, decide_eq_false hT] at HRB
          obtain rfl : RO = false := HRB.out
          obtain rfl : RL = [] := HRL.out
          have hT2 : ((blkF ys).toList == s.toList) = false := by
            rw [Bool.eq_false_iff]
            intro h
            apply hT
            have := eq_of_beq h
            rw [ByteArray.toList_eq, ByteArray.toList_eq] at this
            exact bl_inj this
          generalize blkF ys = T at *
          gi_wp2
          refine ⟨by simp, .inl ⟨_, _, rfl, run_takeDeferred hK5, ?_⟩⟩
          exact ⟨.tuple #[.slice none 0 0, .bool false], by simp [results, Tryz.results43, go_sem], .slice none 0 0, rfl, World.ownsRow_nil _ _ _ _, HB6 _⟩
    case stop =>
      rintro D c pre W _ _ h _
      exact h.elim
end Go.Proofs.YtfdaffnkgpdhhaaGreat

