/-
  All items in order: impl's rising and its closure, and their Collect.
-/
import Derived.Test.YtcjkdkaahkphfaaL9
import Derived.Test.YtcjkdkaahkphfaaW9
namespace Go.Proofs.Ytcjkdkaahkphfaa
open Go.RowKit Go.Shelf Go.Lib
set_option linter.unusedVariables false
set_option maxRecDepth 100000
attribute [local go_sem] Oper.semAt_some

/-- The cells of w0 lie in X as they lay. -/
def Lies (w0 X : World) : Prop := w0.heap.size ≤ X.heap.size ∧ ∀ (k : Nat) (o : Obj), w0.heap[k]? = some o → o.isCells = true → X.heap[k]? = some o
theorem Lies.cell {w0 X : World} (h : Lies w0 X) {b o : Nat} {v : Value} (hc : w0.cell? ⟨b, o, none⟩ = some v) : X.cell? ⟨b, o, none⟩ = some v := by
  obtain ⟨ob, ho, hoc⟩ := cells_of_cell hc
  have he : X.heap[b]? = w0.heap[b]? := by rw [h.2 b ob ho hoc, ho]
  rw [← hc]; simp [World.cell?, he]
theorem Lies.ir {w0 X : World} (h : Lies w0 X) {v : Value} {l : List It} (hi : IR w0 v l) : IR X v l := by
  obtain ⟨a, cap, hv, hc⟩ := hi
  refine ⟨a, cap, hv, fun hl => ?_⟩
  obtain ⟨b, off, ha, hbl, hcell⟩ := hc hl
  refine ⟨b, off, ha, Nat.lt_of_lt_of_le hbl h.1, fun i hi => ?_⟩
  obtain ⟨c0, c1, c2, c3⟩ := hcell i hi
  exact ⟨h.cell c0, h.cell c1, h.cell c2, h.cell c3⟩
theorem Lies.rl {w0 X : World} (h : Lies w0 X) {v : Value} {R : List (List It)} (hr : RL w0 v R) : RL X v R := by
  obtain ⟨a, cap, hv, hc⟩ := hr
  refine ⟨a, cap, hv, fun hl => ?_⟩
  obtain ⟨b, off, ha, hbl, hcell⟩ := hc hl
  refine ⟨b, off, ha, Nat.lt_of_lt_of_le hbl h.1, fun i hi => ?_⟩
  obtain ⟨u, hu, hir⟩ := hcell i hi
  exact ⟨u, h.cell hu, h.ir hir⟩
theorem Lies.below {w0 X Y : World} (h : Lies w0 X) (hb : Below X.heap.size X Y) : Lies w0 Y :=
  ⟨Nat.le_trans h.1 hb.size, fun k o ho hc => by have h1 := h.2 k o ho hc; exact (hb.block k (Array.getElem?_eq_some_iff.1 h1).1).trans h1⟩
theorem Lies.set {w0 X : World} (h : Lies w0 X) (p : Addr) (u : Value) (hp : w0.heap.size ≤ p.block) : Lies w0 (X.setCell p u) :=
  ⟨by simpa using h.1, fun k o ho hc => by
    have h1 := h.2 k o ho hc
    have hk := (Array.getElem?_eq_some_iff.1 ho).1
    exact (((Chg.refl (fun j => j = p.block) X).setCell (p := p) rfl u).block k (Array.getElem?_eq_some_iff.1 h1).1 (by omega)).trans h1⟩
theorem Kept.same {B : Nat} {X Y : World} (h : Kept B X Y) {M k : Nat} (hr : ∀ g, rowOf X B = some g → M ≤ g) (hk : k < M) (hB : k ≠ B) {o : Obj} (ho : X.heap[k]? = some o) (hc : o.isCells = true) : Y.heap[k]? = some o :=
  h.keep k o ho hc hB (fun e => by have := hr k e; omega)
theorem Lies.kept {w0 X Y : World} {B : Nat} (h : Lies w0 X) (hk : Kept B X Y) {M : Nat} (hr : ∀ g, rowOf X B = some g → M ≤ g) (hM : w0.heap.size ≤ M) (hB : w0.heap.size ≤ B) : Lies w0 Y :=
  ⟨Nat.le_trans h.1 hk.size, fun k o ho hc => by
    have h1 := h.2 k o ho hc
    have hkl := (Array.getElem?_eq_some_iff.1 ho).1
    exact hk.same hr (by omega) (by omega) h1 hc⟩
theorem AT.kept {X Y : World} {B gb : Nat} {at_ : List Nat} (h : AT X gb at_) (hk : Kept B X Y) {M : Nat} (hr : ∀ g, rowOf X B = some g → M ≤ g) (hM : gb < M) (hB : gb ≠ B) (ob : Obj) (ho : X.heap[gb]? = some ob) (hoc : ob.isCells = true) : AT Y gb at_ ∧ Y.heap[gb]? = some ob := by
  have e := hk.same hr hM hB ho hoc
  refine ⟨⟨Nat.lt_of_lt_of_le h.1 hk.size, fun i hi => ?_⟩, e⟩
  rw [← h.2 i hi]
  have : Y.heap[gb]? = X.heap[gb]? := by rw [e, ho]
  simp [World.cell?, this]
theorem frozen_heap {X Y : World} {b : Nat} (h : Y.heap[b]? = X.heap[b]?) (i : Nat) : Y.frozen? ⟨b, i, none⟩ = X.frozen? ⟨b, i, none⟩ := by simp [World.frozen?, h]

/-- Where the items are read: the runs, the numbers in block gb, the struct in block Bm. -/
structure Stands (w0 : World) (v : Value) (R : List (List It)) (gb cp Bm B M : Nat) (at_ : List Nat) (X : World) : Prop where
  lies : Lies w0 X
  num : AT X gb at_
  len : at_.length = R.length
  le : ∀ i (h : i < at_.length), at_[i] ≤ 400
  cel : ∃ ob, X.heap[gb]? = some ob ∧ ob.isCells = true
  fz : ∀ i, X.frozen? ⟨gb, i, none⟩ = false
  b0 : X.cell? ⟨Bm, 0, none⟩ = some v
  b1 : X.cell? ⟨Bm, 1, none⟩ = some (.slice (some ⟨gb, 0, none⟩) R.length cp)
  big : M ≤ X.heap.size
  row : ∀ g, rowOf X B = some g → M ≤ g ∧ g < X.heap.size
theorem Stands.below {w0 : World} {v : Value} {R : List (List It)} {gb cp Bm B M : Nat} {at_ : List Nat} {X Y : World} (h : Stands w0 v R gb cp Bm B M at_ X) (hb : Below X.heap.size X Y) (hBm : Bm < M) (hB : B < M) : Stands w0 v R gb cp Bm B M at_ Y where
  lies := h.lies.below hb
  num := h.num.below hb
  len := h.len
  le := h.le
  cel := by obtain ⟨ob, h1, h2⟩ := h.cel; exact ⟨ob, (hb.block _ h.num.1).trans h1, h2⟩
  fz i := (hb.frozen (p := ⟨gb, i, none⟩) h.num.1).trans (h.fz i)
  b0 := (hb.cell (p := ⟨Bm, 0, none⟩) (Nat.lt_of_lt_of_le hBm h.big)).trans h.b0
  b1 := (hb.cell (p := ⟨Bm, 1, none⟩) (Nat.lt_of_lt_of_le hBm h.big)).trans h.b1
  big := Nat.le_trans h.big hb.size
  row g e := by rw [rowOf_below hb (Nat.lt_of_lt_of_le hB h.big)] at e; have := h.row g e; exact ⟨this.1, Nat.lt_of_lt_of_le this.2 hb.size⟩
theorem Stands.kept {w0 : World} {v : Value} {R : List (List It)} {gb cp Bm B M : Nat} {at_ : List Nat} {X Y : World} (h : Stands w0 v R gb cp Bm B M at_ X) (hk : Kept B X Y) (hBm : Bm < M) (hBmB : Bm ≠ B) (hgM : gb < M) (hgB : gb ≠ B) (hw : w0.heap.size ≤ M) (hwB : w0.heap.size ≤ B) : Stands w0 v R gb cp Bm B M at_ Y := by
  have hr : ∀ g, rowOf X B = some g → M ≤ g := fun g e => (h.row g e).1
  obtain ⟨ob, h1, h2⟩ := h.cel
  obtain ⟨hA, hH⟩ := h.num.kept hk hr hgM hgB ob h1 h2
  have hcell : ∀ o u, X.cell? ⟨Bm, o, none⟩ = some u → Y.cell? ⟨Bm, o, none⟩ = some u := fun o u hc => by
    obtain ⟨ob, ho, hoc⟩ := cells_of_cell hc
    have he : Y.heap[Bm]? = X.heap[Bm]? := by rw [hk.same hr hBm hBmB ho hoc, ho]
    rw [← hc]; simp [World.cell?, he]
  refine ⟨h.lies.kept hk hr hw hwB, hA, h.len, h.le, ⟨ob, hH, h2⟩, fun i => (frozen_heap (by rw [hH, h1]) i).trans (h.fz i), hcell _ _ h.b0, hcell _ _ h.b1, Nat.le_trans h.big hk.size, fun g e => ?_⟩
  refine ⟨?_, hk.sane (fun g e => (h.row g e).2) g e⟩
  rcases hk.row with h3 | h3
  · rw [h3] at e; exact hr g e
  · have := h3 g e; have := h.big; omega
theorem Stands.set {w0 : World} {v : Value} {R : List (List It)} {gb cp Bm B M : Nat} {at_ : List Nat} {X : World} (h : Stands w0 v R gb cp Bm B M at_ X) (hBg : Bm ≠ gb) (hgB : B ≠ gb) (hw : w0.heap.size ≤ gb) (i : Nat) (hi : i < at_.length) (x : Nat) (hx : x ≤ 400) : Stands w0 v R gb cp Bm B M (at_.set i x) (X.setCell ⟨gb, i, none⟩ (.int .i64 (x : Int))) := by
  have hcell : ∀ b o, b ≠ gb → (X.setCell ⟨gb, i, none⟩ (.int .i64 (x : Int))).cell? ⟨b, o, none⟩ = X.cell? ⟨b, o, none⟩ := fun b o hb => World.cell?_setCell_other _ _ _ _ (fun e => hb (congrArg Addr.block e).symm)
  refine ⟨h.lies.set _ _ hw, h.num.set i hi x, by rw [List.length_set]; exact h.len, fun j hj => ?_, ?_, fun j => by rw [World.frozen?_setCell]; exact h.fz j, by rw [hcell _ _ hBg]; exact h.b0, by rw [hcell _ _ hBg]; exact h.b1, by simpa using h.big, fun g e => ?_⟩
  · rw [List.getElem_set]
    split
    · exact hx
    · exact h.le j (by rw [List.length_set] at hj; exact hj)
  · have hA := h.num.set i hi x
    obtain ⟨ob, ho, hoc⟩ := cells_of_cell (hA.2 i (by rw [List.length_set]; exact hi))
    exact ⟨ob, ho, hoc⟩
  · have : rowOf (X.setCell ⟨gb, i, none⟩ (.int .i64 (x : Int))) B = rowOf X B := by unfold rowOf; rw [hcell _ _ hgB]
    rw [this] at e
    have := h.row g e
    exact ⟨this.1, by simpa using this.2⟩

set_option maxHeartbeats 8000000 in
theorem rising1_in (n : Nat) (hn : 1 ≤ n) (y : Nat) (w0 : World) (v : Value) (R : List (List It)) (gb cp Bm B : Nat) (at0 : List Nat) (J : List It → World → Prop) (W : World) (hRl : R.length ≤ 1000) (hs : ∀ i (h : i < R.length), R[i].length ≤ 400) (hrl : RL w0 v R)
    (h1 : w0.heap.size ≤ gb) (h2 : w0.heap.size ≤ B) (h3 : w0.heap.size ≤ Bm) (h4 : Bm ≠ B) (h5 : gb ≠ B) (h6 : Bm ≠ gb) (h7 : Bm < W.heap.size) (h8 : B < W.heap.size) (h9 : gb < W.heap.size) (h10 : w0.heap.size ≤ W.heap.size) (hSt : Stands w0 v R gb cp Bm B W.heap.size at0 W)
    (hJ : AbidesFrom W.heap.size J) (hJW : ∀ pre X (p : Addr) u, p.block = gb → J pre X → J pre (X.setCell p u))
    (hY : ∀ pre x X, J pre X → pre.length < (mrg R at0).length → YieldAt Fence.wide (n - 1) Try.prog y #[encIt x] X fun e X' => e = .returned (.bool true) ∧ J (pre ++ [x]) X' ∧ Kept B X X') (h0 : J [] W) :
    CallsIn Fence.wide n Try.prog 74 #[.func (.yield y) #[] #[], .pointer (some ⟨Bm, 0, none⟩)] W fun e X' => (∃ v, e = .returned v) ∧ ∃ xs, xs = mrg R at0 ∧ J xs X' := by
  have hs' : ∀ i (h : i < R.length), R[i].length ≤ 1048576 := fun i h => by have := hs i h; omega
  have KL := fun at_ X (hX : Stands w0 v R gb cp Bm B W.heap.size at_ X) => least_any v R gb cp at_ X (hX.lies.rl hrl) hX.num (by omega) hX.len hs'
  have KN := fun at_ X (hX : Stands w0 v R gb cp Bm B W.heap.size at_ X) i (hi : i < R.length) (hai : at_[i]'(by have := hX.len; omega) < R[i].length) => next_it v R gb cp at_ i X (hX.lies.rl hrl) hX.num (by omega) hX.len hi hai (hs' i hi)
  obtain ⟨va, vc, hve, _⟩ := id hrl
  subst hve
  have m0 := hSt.b0
  have m1 := hSt.b1
  refine callsIn_of_wp Try.func74 rfl trivial ?_ rfl
  simp only [Try.ntmps74, List.size_toArray, List.length_cons, List.length_nil, Nat.reduceAdd, Nat.reduceSub, Array.replicate_succ, Array.replicate_zero, List.push_toArray, List.append_toArray, List.nil_append, List.cons_append]
  gi_wp2_with fail
  refine ⟨trivial, ?_⟩
  refine (callsIn_wide.2 (KL at0 W hSt)).mono ?_
  rintro e w1 ⟨rfl, hb1⟩
  have hSt1 := hSt.below hb1 h7 h8
  have hJ1 := abide hJ h0 hb1
  clear m0 m1 h0 hSt hb1
  obtain ⟨z0, HZ0⟩ : ∃ z0, Hid (lsI (lst R at0) = z0) := ⟨_, rfl⟩
  obtain ⟨y0, HY0⟩ : ∃ y0, Hid (lsB (lst R at0) = y0) := ⟨_, rfl⟩
  rw [HZ0.out, HY0.out]
  gi_wp2
  gi_loopw [3, 4] (fun i ok wr => ∃ (at_ : List Nat) (pre : List It), i = .int .i64 (lsI (lst R at_)) ∧ ok = .bool (lsB (lst R at_)) ∧ Stands w0 (.slice va R.length vc) R gb cp Bm B W.heap.size at_ wr ∧ mrg R at0 = pre ++ mrg R at_ ∧ J pre wr) (fun _ _ wr => remTo R (rdA wr gb R.length) R.length)
  case atStart => exact ⟨at0, [], by rw [HZ0.out], by rw [HY0.out], hSt1, rfl, hJ1⟩
  case round =>
    clear hSt1 hJ1
    obtain ⟨at_, pre, rfl, rfl, hS, hmg, hJp⟩ := hrel
    have HMG : Hid (mrg R at0 = pre ++ mrg R at_) := hmg
    clear hmg
    cases hls : lst R at_ with
    | none =>
      have hE : mrg R at0 = pre := by rw [HMG.out, mrg_none hls, List.append_nil]
      clear hY KL KN HMG hS hls hJW
      dsimp only [lsI, lsB, Option.isSome]
      gi_wp2
      go_end0
      exact ⟨⟨_, rfl⟩, pre, hE.symm, hJp⟩
    | some i =>
      obtain ⟨hiR, hop⟩ := lstTo_some R at_ R.length i hls
      have hia : i < at_.length := by have := hS.len; omega
      have hil : at_[i] < R[i].length := by rw [opn_in R at_ i hiR hia] at hop; exact of_decide_eq_true hop
      have hadv := rem_adv R at_ i hia hop R.length
      rw [if_pos hiR] at hadv
      have hmgE : mrg R at_ = R[i][at_[i]] :: mrg R (adv at_ i) := by rw [mrg_some hS.len hls, itAt_in R at_ i hiR hia hil]
      have HMG2 : Hid (mrg R at0 = (pre ++ [R[i][at_[i]]]) ++ mrg R (adv at_ i)) := by show _ = _; rw [HMG.out, hmgE]; simp
      have hplen : pre.length < (mrg R at0).length := by rw [HMG2.out]; simp
      have hadE : adv at_ i = at_.set i (at_[i] + 1) := by unfold adv; rw [getD_in at_ i 0 hia]
      have hsi := hs i hiR
      have m0 := hS.b0
      have m1 := hS.b1
      have HMS : Hid (remTo R (rdA wr gb R.length) R.length = remTo R at_ R.length) := by show _ = _; rw [← hS.len, rdA_eq hS.num, hS.len]
      have KX := KN at_ wr hS i hiR hil
      obtain ⟨s, hsx⟩ : ∃ s, R[i][at_[i]] = s := ⟨_, rfl⟩
      obtain ⟨ai, hax⟩ : ∃ ai, at_[i] = ai := ⟨_, rfl⟩
      rw [hsx] at KX
      have HMG3 : Hid (mrg R at0 = (pre ++ [s]) ++ mrg R (adv at_ i)) := by show _ = _; rw [HMG2.out, hsx]
      rw [hax] at hadE hil
      have hai400 : ai + 1 ≤ 400 := by omega
      have hSset : ∀ X, Stands w0 (.slice va R.length vc) R gb cp Bm B W.heap.size at_ X → Stands w0 (.slice va R.length vc) R gb cp Bm B W.heap.size (adv at_ i) (X.setCell ⟨gb, i, none⟩ (.int .i64 ((ai + 1 : Nat) : Int))) := fun X hX => by rw [hadE]; exact hX.set h6 (fun e => h5 e.symm) h1 i hia (ai + 1) hai400
      have hcel : ∀ X, Stands w0 (.slice va R.length vc) R gb cp Bm B W.heap.size at_ X → X.cell? ⟨gb, i, none⟩ = some (.int .i64 (ai : Int)) := fun X hX => by have := hX.num.2 i hia; rw [hax] at this; exact this
      have hMEA : ∀ X, Stands w0 (.slice va R.length vc) R gb cp Bm B W.heap.size (adv at_ i) X → remTo R (rdA X gb R.length) R.length < remTo R (rdA wr gb R.length) R.length := fun X hX => by
        rw [HMS.out, ← hX.len, rdA_eq hX.num, hX.len]; omega
      obtain ⟨sk, sn, sd, sv⟩ := s
      dsimp only at KX HMG3
      dsimp only [lsI, lsB, Option.isSome]
      clear HMG hls hop hmgE KN HMG2 hsx hax hadv HMS hadE
      gi_wp2_with fail
      refine ⟨trivial, ?_⟩
      refine (callsIn_wide.2 KX).mono ?_
      rintro e w2 ⟨rfl, hb2⟩
      have hS2 := hS.below hb2 h7 h8
      have hJ2 := abide hJ hJp hb2
      obtain ⟨fn, tmps, assign, body, hy, hRR⟩ := hY _ ⟨sk, sn, sd, sv⟩ w2 hJ2 hplen
      clear KX hS hJp hY m0 m1 hb2 hplen
      unfold encIt at hy
      dsimp only at hy
      gi_wp2_with fail
      refine hRR.mono ?_
      rintro e W3 ⟨rfl, hJ3, hk3⟩
      have hS3 := hS2.kept hk3 h7 h4 h9 h5 h10 h2
      have q0 := hS3.b0
      have q1 := hS3.b1
      have c3 := hcel W3 hS3
      have f3 := hS3.fz i
      have n3 := hS3.num.1
      have hS4 := hSset W3 hS3
      have hJ4 := hJW _ W3 ⟨gb, i, none⟩ (.int .i64 ((ai + 1 : Nat) : Int)) rfl hJ3
      have r0 := hS4.b0
      have r1 := hS4.b1
      have KL4 := KL (adv at_ i) _ hS4
      have hz3 := hS3.big
      clear hy hRR hS2 hJ2 hk3 hS3 hJ3 hcel hSset KL
      gi_wp2_with fail
      refine ⟨trivial, ?_⟩
      refine (callsIn_wide.2 KL4).mono ?_
      rintro e w5 ⟨rfl, hb5⟩
      have hS5 := hS4.below hb5 h7 h8
      have hJ5 := abide hJ hJ4 hb5
      have hM5 := hMEA _ hS5
      clear KL4 hS4 hJ4 hb5 hMEA r0 r1 q0 q1 c3 f3 n3
      obtain ⟨z1, HZ1⟩ : ∃ z1, Hid (lsI (lst R (adv at_ i)) = z1) := ⟨_, rfl⟩
      obtain ⟨y1, HY1⟩ : ∃ y1, Hid (lsB (lst R (adv at_ i)) = y1) := ⟨_, rfl⟩
      rw [HZ1.out, HY1.out]
      gi_wp2
      go_roundw
      case rel => exact ⟨adv at_ i, pre ++ [⟨sk, sn, sd, sv⟩], (congrArg (Value.int .i64) HZ1.out).symm, (congrArg Value.bool HY1.out).symm, hS5, HMG3.out, hJ5⟩
      case measure => exact hM5

theorem rising_any (v u : Value) (w : World) :
    Calls Try.prog 63 #[.agg #[v, u]] w fun e w' => e = .returned (.func (.func 74) #[] #[.pointer (some ⟨w.heap.size, 0, none⟩)]) ∧ w' = w.alloc (.cells #[v, u] 90) := by
  go_enter Try.func63, Try.ntmps63
  go_wp2
  go_ret
  exact ⟨rfl, rfl⟩

theorem chg_low {S : Nat → Prop} {w X Y : World} (h : Chg S w X) (hb : Below w.heap.size X Y) : Chg S w Y :=
  ⟨by rw [hb.os, h.os], by rw [hb.tape, h.tape], by rw [hb.output, h.output], Nat.le_trans h.size hb.size, fun k hk hs => by rw [hb.block k hk]; exact h.block k hk hs⟩
/-- What Collect of the items finds: the runs below w0, the numbers in gb, the struct in Bm. -/
structure Ready (w0 : World) (v : Value) (R : List (List It)) (gb cp Bm : Nat) (at_ : List Nat) (w : World) : Prop where
  lies : Lies w0 w
  num : AT w gb at_
  len : at_.length = R.length
  le : ∀ i (h : i < at_.length), at_[i] ≤ 400
  cel : ∃ ob, w.heap[gb]? = some ob ∧ ob.isCells = true
  fz : ∀ i, w.frozen? ⟨gb, i, none⟩ = false
  b0 : w.cell? ⟨Bm, 0, none⟩ = some v
  b1 : w.cell? ⟨Bm, 1, none⟩ = some (.slice (some ⟨gb, 0, none⟩) R.length cp)

set_option maxHeartbeats 8000000 in
theorem appendIt_in (w0 : World) (v : Value) (R : List (List It)) (gb cp Bm : Nat) (at0 : List Nat) (w : World) (hRl : R.length ≤ 1000) (hs : ∀ i (h : i < R.length), R[i].length ≤ 400) (hm : (mrg R at0).length ≤ 4000) (hrl : RL w0 v R)
    (h1 : w0.heap.size ≤ gb) (h3 : w0.heap.size ≤ Bm) (h6 : Bm ≠ gb) (h7 : Bm < w.heap.size) (h9 : gb < w.heap.size) (hR : Ready w0 v R gb cp Bm at0 w) :
    CallsIn Fence.wide 9 Try.prog 73 #[.slice none 0 0, .func (.func 74) #[] #[.pointer (some ⟨Bm, 0, none⟩)]] w fun e w' => ∃ u, e = .returned u ∧ w'.ownsRow w.heap.size 68 4 u (mrg R at0).length (flat4 (mrg R at0)) ∧ Chg (· = gb) w w' := by
  obtain ⟨i0, hi, hz0, hz1, hz2⟩ := info_parts Try.info68
  have hbX := below_alloc w (.cells #[.slice none 0 0] 38)
  have bL := Boxed.new w 38 (.slice none 0 0)
  have hsz : (w.alloc (.cells #[.slice none 0 0] 38)).heap.size = w.heap.size + 1 := by simp
  have hwl := hR.lies.1
  refine callsIn_of_wp_marks Try.func73 rfl trivial ?_ rfl
  simp only [Try.ntmps73, List.size_toArray, List.length_cons, List.length_nil, Nat.reduceAdd, Nat.reduceSub, Array.replicate_succ, Array.replicate_zero, List.push_toArray, List.append_toArray, List.nil_append, List.cons_append]
  gi_wp2_with fail
  obtain ⟨W0, hW0⟩ : ∃ W0, w.alloc (.cells #[.slice none 0 0] 38) = W0 := ⟨_, rfl⟩
  rw [hW0] at hbX bL hsz ⊢
  clear hW0
  have hrow0 : rowOf W0 w.heap.size = none := by unfold rowOf; rw [bL.cell]; rfl
  have hStd : Stands w0 v R gb cp Bm w.heap.size W0.heap.size at0 W0 := ⟨hR.lies.below hbX, hR.num.below hbX, hR.len, hR.le, by obtain ⟨ob, e1, e2⟩ := hR.cel; exact ⟨ob, (hbX.block _ h9).trans e1, e2⟩, fun i => (hbX.frozen (p := ⟨gb, i, none⟩) h9).trans (hR.fz i), (hbX.cell (p := ⟨Bm, 0, none⟩) h7).trans hR.b0, (hbX.cell (p := ⟨Bm, 1, none⟩) h7).trans hR.b1, Nat.le_refl _, fun g e => by rw [hrow0] at e; cases e⟩
  have hseq : SeqCounts 8 Try.prog 74 #[.pointer (some ⟨Bm, 0, none⟩)] (fun x : It => #[encIt x]) (Kept w.heap.size) (fun ys => ys = mrg R at0) (mrg R at0).length gb W0 := fun l J W hW hA hJW hY h0 => by
    have hSW := hStd.below hW (by omega) (by omega)
    have hSW2 : Stands w0 v R gb cp Bm w.heap.size W.heap.size at0 W := ⟨hSW.lies, hSW.num, hSW.len, hSW.le, hSW.cel, hSW.fz, hSW.b0, hSW.b1, Nat.le_refl _, fun g e => by rw [rowOf_below hW (by omega), hrow0] at e; cases e⟩
    have hWz := hW.size
    exact rising1_in 8 (by omega) l w0 v R gb cp Bm w.heap.size at0 J W hRl hs hrl h1 hwl h3 (by omega) (by omega) h6 (by omega) (by omega) (by omega) (by omega) hSW2 hA hJW hY h0
  refine range_counts (by omega) (gf := 74) (lb := #[.pointer (some ⟨Bm, 0, none⟩)]) rfl (enters_of Try.func74 (by kernel_rfl) rfl) hseq (by omega) (fun h k => h.trans k) (Kept.put (by omega)) (fun _ => rfl)
    (fun pre W => (∃ v, Boxed W w.heap.size 38 v ∧ W.ownsRow w.heap.size 68 4 v pre.length (flat4 pre) ∧ True) ∧ Chg (· = gb) w W)
    (OwnFrom.and (Own.from (holdsRow_own w.heap.size w.heap.size 38 68 4 (fun pre => pre.length) (fun pre => flat4 pre) (fun _ _ => True)) _) ?ownC)
    ?writes ⟨⟨_, bL, World.ownsRow_nil _ _ _ _, trivial⟩, Chg.of_below hbX⟩
    (fun x a' W => ∃ Bx, w.heap.size < Bx ∧ Box W Bx [.string x.k, .int .i64 x.n, .int .i64 x.d, .string x.v] ∧ a' = { tmps := #[.slice none 0 0, .func (.func 74) #[] #[.pointer (some ⟨Bm, 0, none⟩)], .pointer (some ⟨w.heap.size, 0, none⟩), undef, .slice none 0 0, .pointer (some ⟨Bx, 0, none⟩), .func (.func 74) #[] #[.pointer (some ⟨Bm, 0, none⟩)], .agg #[.string x.k, .int .i64 x.n, .int .i64 x.d, .string x.v], undef, undef, undef, undef, undef], defers := [] })
    (fun x a' _ X Y row hs hg hr => by obtain ⟨Bx, h1, h2, h3⟩ := hs; exact ⟨Bx, h1, box_owned h2 hg (fun r e => (hr r e).2), h3⟩)
    ?assign ?body ?done
  case ownC =>
    intro s X Y row hs hg hr
    exact ⟨hs.os.symm ▸ hg.os, by rw [hg.tape, hs.tape], by rw [hg.output, hs.output], Nat.le_trans hs.size hg.size, fun k hk hkg => by
      rw [hg.block k (Nat.lt_of_lt_of_le hk hs.size) (fun e => by have := (hr k e.symm).1; omega)]
      exact hs.block k hk hkg⟩
  case writes =>
    rintro pre X p u hp ⟨⟨v, hv, hrow, _⟩, hC⟩
    obtain ⟨pb, po, ps⟩ := p
    dsimp only at hp
    subst hp
    have c := (Chg.refl (fun k => k = pb) X).setCell (p := ⟨pb, po, ps⟩) rfl u
    exact ⟨⟨v, (c.block _ hv.lt (by omega)).trans hv, c.owns hrow (fun b hb hh => by have := owns_ge hrow b hb; omega), trivial⟩, hC.setCell rfl u⟩
  case assign =>
    rintro l pre x W K ⟨⟨v, hv, hrow, _⟩, hC⟩ hK
    have hlt := hv.lt
    obtain ⟨xk, xn, xd, xv⟩ := x
    simp only [encIt]
    gi_wp2
    exact hK _ _ ((KeepsOthers.alloc _ _).from _) (Kept.alloc _ W _ hlt) ⟨⟨v, hv.alloc _, hrow.alloc _, trivial⟩, hC.trans (Chg.of_below (below_alloc _ _))⟩ ⟨W.heap.size, hlt, Box.new W #[.string xk, .int .i64 xn, .int .i64 xd, .string xv] 68, rfl⟩
  case body =>
    rintro l pre x a' W hl2 ⟨r, hr⟩ ⟨⟨v, hv, hrow, _⟩, hC⟩ ⟨Bx, hBx, X, rfl⟩ hlt
    have hc := hv.cell
    have hpl : pre.length + 1 ≤ 4001 := by omega
    have hWz : w.heap.size ≤ W.heap.size := Nat.le_of_lt hv.lt
    obtain ⟨_, x0, x1, x2, x3⟩ := X.c4
    obtain ⟨g, cap, w2, hrun, hown', hgrow, hl3, hg2⟩ := run_append_lies (P := Try.prog) (W.alloc (.cells #[.string x.k, .int .i64 x.n, .int .i64 x.d, .string x.v] 68)) 38 38 w.heap.size 68 i0 (.agg #[.string ⟨#[]⟩, .int .i64 0, .int .i64 0, .string ⟨#[]⟩]) 4 48 Try.underlying38 hi hz0 hz1 hz2 rfl (by decide) v pre.length (flat4 pre) (hrow.alloc _) ⟨W.heap.size, 0, none⟩ 1 1 (flat4 [x]) rfl (cells_new4 W x) (one4 x) (by omega) (by unfold maxLen; omega) (by omega) (by simp; omega) _ rfl
    obtain ⟨hv1, hv2, hr2, hk2, hb2⟩ := hv.appended (by decide) hrow hWz (by omega) hown' hgrow
    have hc1 := hv1.cell
    have hf1 := hv1.frozen
    have hKp := Kept.appended (cap := cap) (m := pre.length + 1) hv hv1 hgrow hl3 hg2
    rw [← flat4_append] at hr2
    have hr3 : (w2.setCell ⟨w.heap.size, 0, none⟩ (.slice (some ⟨g, 0, none⟩) (pre.length + 1) cap)).ownsRow w.heap.size 68 4 (.slice (some ⟨g, 0, none⟩) (pre.length + 1) cap) (pre ++ [x]).length (flat4 (pre ++ [x])) := by rw [List.length_append]; exact hr2
    have hC2 : Chg (· = gb) w (w2.setCell ⟨w.heap.size, 0, none⟩ (.slice (some ⟨g, 0, none⟩) (pre.length + 1) cap)) := chg_low hC hb2
    clear hgrow hl3 hg2 hown' hl2 hr hr2 hb2 hC
    obtain ⟨xk, xn, xd, xv⟩ := x
    dsimp only at x0 x1 x2 x3 hrun
    gi_wp2_with (gi_at_builtin; refine append_ran _ rfl _ _ 38 rfl _ _ rfl rfl _ _ hrun ?_)
    exact ⟨hk2.from _, hKp, ⟨_, hv2, hr3⟩, hC2⟩
  case done =>
    rintro D ys W hD rfl ⟨⟨v, hv, hrow, _⟩, hC⟩ hK
    have hc := hv.cell
    have hCC : Chg (· = gb) w (W.putObj D (.deferred none)) := by
      have hg := grownBy_putObj' W D (.deferred none)
      exact ⟨by rw [hg.os, hC.os], by rw [hg.tape, hC.tape], by rw [hg.output, hC.output], Nat.le_trans hC.size hg.size, fun k hk hkg => by
        rw [hg.block k (Nat.lt_of_lt_of_le hk hC.size) (fun e => by cases e; omega)]
        exact hC.block k hk hkg⟩
    clear hi hz0 hz1 hz2 hseq hStd
    gi_wp2
    refine ⟨by simp, .inl ⟨_, _, rfl, run_takeDeferred hK, ?_⟩⟩
    exact ⟨v, by simp [results, Try.results73, go_sem], v, rfl, ownsRow_putObj hrow _ hK rfl, hCC⟩

set_option maxHeartbeats 2000000 in
theorem collectIt_any (w0 : World) (v : Value) (R : List (List It)) (gb cp Bm : Nat) (at0 : List Nat) (w : World) (hRl : R.length ≤ 1000) (hs : ∀ i (h : i < R.length), R[i].length ≤ 400) (hm : (mrg R at0).length ≤ 4000) (hrl : RL w0 v R)
    (h1 : w0.heap.size ≤ gb) (h3 : w0.heap.size ≤ Bm) (h6 : Bm ≠ gb) (h7 : Bm < w.heap.size) (h9 : gb < w.heap.size) (hR : Ready w0 v R gb cp Bm at0 w) :
    Calls Try.prog 62 #[.func (.func 74) #[] #[.pointer (some ⟨Bm, 0, none⟩)]] w fun e w' => ∃ u, e = .returned u ∧ w'.ownsRow w.heap.size 68 4 u (mrg R at0).length (flat4 (mrg R at0)) ∧ Chg (· = gb) w w' := by
  have K := callsIn_wide.1 (appendIt_in w0 v R gb cp Bm at0 w hRl hs hm hrl h1 h3 h6 h7 h9 hR)
  generalize mrg R at0 = Z at *
  clear hrl hR
  go_enter Try.func62, Try.ntmps62
  go_wp2_with fail
  refine K.mono ?_
  rintro e w1 ⟨u, rfl, ho, hb⟩
  clear K
  go_wp2
  go_ret
  exact ⟨_, rfl, ho, hb⟩
end Go.Proofs.Ytcjkdkaahkphfaa
