/-
  What is read of a block: impl.ReadBlock.
-/
import Derived.Test.YtfdaffnkgpdhhaaGreatYz
import Derived.Test.YtfdaffnkgpdhhaaGreatRz
import Derived.Test.YtfdaffnkgpdhhaaGreatBz
import Derived.Deep.AppendLies
namespace Go.Proofs.YtfdaffnkgpdhhaaGreat
open Go.RowKit Go.Shelf Go.Lib
set_option linter.unusedVariables false
set_option maxRecDepth 100000
attribute [local go_sem] Oper.semAt_some

theorem append_ran {F : Fence} {n : Nat} {P : Program} (w : World) {ops : Array Oper} {rest : List Oper} {o : Oper} {a : Act} {Q : Exit → Act → World → Prop} (hg : o.guard = none) (s x : Operand) (t : TypeId)
    (hop : o.op = Op.call { callee := Callee.builtin Builtin.append, args := #[s, x], argTypes := #[t, t] }) (vs vx : Value) (hs : a.eval s = vs) (hx : a.eval x = vx) (v' : Value) (w' : World)
    (hrun : (Builtin.append_ #[t, t] o.type #[vs, vx]).run P w = .ok v' w') (h : wpListIn F n P ops Q rest (a.put o.dst v') w') : wpListIn F n P ops Q (o :: rest) a w := by
  refine wpListIn_plain hg fun K hK' => ?_
  unfold Oper.wpIn
  refine ⟨by simp [Oper.about, hop, resolve, Target.leads, Sem.run_pure], ?_⟩
  rw [Oper.semAt_plain F _ _ (by rw [hop]; intro c hc'; cases hc')]
  simp [execOp, hop, resolve, invoke, builtin, hs, hx, hrun, Result.andThen]
  exact hK' _ _ h
theorem cells_new4 (W : World) (x : It) : ∀ j u, (flat4 [x])[j]? = some u → (W.alloc (.cells #[.string x.k, .int .i64 x.n, .int .i64 x.d, .string x.v] 33)).cell? ((⟨W.heap.size, 0, none⟩ : Addr).add j) = some u := by
  intro j u hj
  have hb := Box.new W #[.string x.k, .int .i64 x.n, .int .i64 x.d, .string x.v] 33
  rw [show (⟨W.heap.size, 0, none⟩ : Addr).add j = ⟨W.heap.size, j, none⟩ from by simp [Addr.add]; omega]
  exact hb.2.1 j u hj
theorem one4 (x : It) : ∀ u ∈ flat4 [x], u.oneCell' = true := by
  intro u hu
  simp only [flat4, List.mem_cons, List.not_mem_nil, or_false] at hu
  rcases hu with rfl | rfl | rfl | rfl <;> rfl
theorem Kept.alloc (B : Nat) (W : World) (o : Obj) (hB : B < W.heap.size) : Kept B W (W.alloc o) := by
  have hb := below_alloc W o
  have hr := rowOf_below hb hB
  refine ⟨hb.size, fun k u hu _ _ _ => ?_, .inl hr, fun hs g e => ?_⟩
  · rw [hb.block k (Array.getElem?_eq_some_iff.1 hu).1]; exact hu
  · rw [hr] at e; exact Nat.lt_of_lt_of_le (hs g e) hb.size
/-- A round's append, and the store behind it. -/
theorem Kept.appended {W w1 : World} {B g cap m : Nat} {v : Value} {tmp : Obj} (hv : Boxed W B 23 v) (hv1 : Boxed w1 B 23 v) (hgrow : (W.alloc tmp).grownBy w1 v.ownBlock) (hl : v.ownBlock = some g ∨ g = (W.alloc tmp).heap.size) (hg : g < w1.heap.size) :
    Kept B W (w1.setCell ⟨B, 0, none⟩ (.slice (some ⟨g, 0, none⟩) m cap)) := by
  have hb := below_alloc W tmp
  have hrW : rowOf W B = v.ownBlock := by unfold rowOf; rw [hv.cell]; rfl
  have hrN : rowOf (w1.setCell ⟨B, 0, none⟩ (.slice (some ⟨g, 0, none⟩) m cap)) B = some g := by unfold rowOf; rw [(hv1.set (.slice (some ⟨g, 0, none⟩) m cap)).cell]; rfl
  have hsz : W.heap.size ≤ w1.heap.size := Nat.le_trans hb.size hgrow.size
  have hsz1 : (W.alloc tmp).heap.size = W.heap.size + 1 := by simp
  refine ⟨by simpa using hsz, fun k o ho hc hkB hr => ?_, ?_, fun hs g' e => ?_⟩
  · have hk := (Array.getElem?_eq_some_iff.1 ho).1
    rw [(grownBy_setCell' w1 B (.slice (some ⟨g, 0, none⟩) m cap)).block k (by omega) (fun e => hkB (by cases e; rfl))]
    rw [hgrow.block k (by omega) (fun e => hr (by rw [hrW, ← e]))]
    rw [hb.block k hk]; exact ho
  · rw [hrW, hrN]
    rcases hl with h | h
    · exact .inl h.symm
    · exact .inr fun g' e => by cases e; omega
  · rw [hrN] at e; cases e; simpa using hg
theorem box_owned {X Y : World} {row : Option Nat} {b : Nat} {v : Value} {r : List Value} (h : Box X b (v :: r)) (hg : X.grownBy Y row) (hr : ∀ q, row = some q → ∃ o : Obj, X.heap[q]? = some o ∧ o.isCells = false) : Box Y b (v :: r) := by
  obtain ⟨h1, h2, h3⟩ := h
  obtain ⟨o, ho, hoc⟩ := cells_of_cell (h2 0 v rfl)
  have he : Y.heap[b]? = X.heap[b]? := hg.block b h1 (fun e => by
    obtain ⟨o', ho', hc'⟩ := hr b e.symm
    have : X.heap[b]? = some o := ho
    rw [this] at ho'; cases ho'; rw [hoc] at hc'; cases hc')
  refine ⟨Nat.lt_of_lt_of_le h1 hg.size, fun j u hu => ?_, fun j => ?_⟩
  · rw [← h2 j u hu]; simp [World.cell?, he]
  · rw [← h3 j]; simp [World.frozen?, he]
/-- What ReadBlock answers, in the words of what it reads. -/
def rbOk (s : ByteArray) : Bool := parts (bl s) && (okBlk (itsOf (bl (paA s)) []) && decide (blkF (itsOf (bl (paA s)) []) = s))
def rbL (s : ByteArray) : List It := if rbOk s then itsOf (bl (paA s)) [] else []
theorem rb_res (s : ByteArray) : RdRes (bl s) (rbL s) (rbOk s) := by
  cases h : rbOk s with
  | true =>
    refine .inl ⟨rfl, ?_⟩
    unfold rbL
    rw [if_pos h]
    unfold rbOk okBlk at h
    simp only [Bool.and_eq_true, decide_eq_true_eq] at h
    obtain ⟨h1, ⟨h2, h3⟩, h4⟩ := h
    refine ⟨h2, h3, ?_⟩
    refine Eq.trans ?_ (congrArg bl h4)
    unfold blkF okBlk
    rw [if_pos (by rw [h2, decide_eq_true h3]; rfl), bl_tx]
  | false =>
    refine .inr ⟨rfl, by unfold rbL; rw [if_neg (by rw [h]; simp)], ?_⟩
    intro m hm hl e
    have hp := blk_parts (l := m) (by omega)
    rw [e] at hp
    have hA : paA s = tx (itsL m m.length) := by
      unfold paA
      rw [if_pos hp.1, hp.2]
      apply bl_inj
      rw [bl_to, bl_tx, ← e, blk_items]
    have hI : itsOf (bl (paA s)) [] = m := by rw [hA, bl_tx, itsOf_run hm]
    have hB : okBlk m = true := by unfold okBlk; rw [hm, decide_eq_true hl]; rfl
    have hF : blkF m = s := by
      unfold blkF
      rw [if_pos hB]
      apply bl_inj
      rw [bl_tx]; exact e
    unfold rbOk at h
    rw [hp.1, hI, hB, decide_eq_true hF] at h
    cases h

set_option maxHeartbeats 8000000 in
theorem implRead_in (s : ByteArray) (hs : s.size ≤ 1048576) (w : World) :
    CallsIn Fence.wide 9 Tryz.prog 43 #[.string s] w fun e w' => ∃ v, e = .returned (.tuple #[v, .bool (rbOk s)]) ∧ w'.ownsRow w.heap.size 33 4 v (rbL s).length (flat4 (rbL s)) ∧ Below w.heap.size w w' := by
  obtain ⟨i0, hi, hz0, hz1, hz2⟩ := info_parts Tryz.info33
  have HRB : Hid (rbOk s = (parts (bl s) && (okBlk (itsOf (bl (paA s)) []) && decide (blkF (itsOf (bl (paA s)) []) = s)))) := rfl
  have HRL : Hid (rbL s = if rbOk s then itsOf (bl (paA s)) [] else []) := rfl
  generalize rbOk s = RO at *
  generalize rbL s = RL at *
  have hpa : (paA s).size ≤ s.size := by
    unfold paA
    split
    · rw [ByteArray.size_extract]; omega
    · exact Nat.zero_le _
  have hIs := itsOf_sizes (bl (paA s)).length (bl (paA s)) [] (Nat.le_refl _)
  have hIl := itsOf_len (bl (paA s)).length (bl (paA s)) [] (Nat.le_refl _)
  rw [bl_len] at hIs hIl
  have hIs2 : ∀ i (h : i < (itsOf (bl (paA s)) []).length), (itsOf (bl (paA s)) [])[i].k.size ≤ 1048576 ∧ (itsOf (bl (paA s)) [])[i].v.size ≤ 1048576 := fun i h => by
    have := hIs _ (List.getElem_mem h)
    simp only [List.length_nil] at this
    omega
  have KB := fun v w h => implBlk_any v (itsOf (bl (paA s)) []) w h (by omega) hIs2
  have KP := fun w => blockParts_any s w hs
  have KI := fun w => itemsFrom_any (paA s) w
  have KS := fun Bn B w a b c d => items_stops 8 (by omega) Bn B (paA s) (by omega) w a b c d
  clear hIs hIs2
  generalize itsOf (bl (paA s)) [] = L at *
  generalize paA s = PA at *
  generalize paB s = PB at *
  refine callsIn_of_wp_marks Tryz.func43 rfl trivial ?_ rfl
  simp only [Tryz.ntmps43, List.size_toArray, List.length_cons, List.length_nil, Nat.reduceAdd, Nat.reduceSub, Array.replicate_succ, Array.replicate_zero, List.push_toArray, List.append_toArray, List.nil_append, List.cons_append]
  cases hp : parts (bl s) with
  | false =>
    rw [hp] at HRB KP
    obtain rfl : RO = false := HRB.out
    obtain rfl : RL = [] := HRL.out
    clear HRB HRL KB KI KS
    gi_wp2_with fail
    refine ⟨trivial, ?_⟩
    refine (callsIn_wide.2 (KP _)).mono ?_
    rintro e w1 ⟨rfl, hb1⟩
    clear KP
    gi_wp2
    exact ⟨.tuple #[.slice none 0 0, .bool false], by simp [results, Tryz.results43, go_sem], .slice none 0 0, rfl, World.ownsRow_nil _ _ _ _, hb1⟩
  | true =>
    rw [hp] at HRB KP
    gi_wp2_with fail
    refine ⟨trivial, ?_⟩
    refine (callsIn_wide.2 (KP _)).mono ?_
    rintro e w1 ⟨rfl, hb1⟩
    clear KP
    gi_wp2_with fail
    refine ⟨trivial, ?_⟩
    refine (callsIn_wide.2 (KI _)).mono ?_
    rintro e w2 ⟨rfl, rfl⟩
    clear KI
    have bL := (Boxed.new w1 23 (.slice none 0 0)).alloc (.cells #[.string PA] 9)
    have bS := Boxed.new (w1.alloc (.cells #[.slice none 0 0] 23)) 9 (.string PA)
    simp only [World.size_alloc] at bS
    have hz1w := hb1.size
    have hB0 : Below w.heap.size w ((w1.alloc (.cells #[.slice none 0 0] 23)).alloc (.cells #[.string PA] 9)) := (hb1.alloc hz1w _).alloc (by simp; omega) _
    have hsz : ((w1.alloc (.cells #[.slice none 0 0] 23)).alloc (.cells #[.string PA] 9)).heap.size = w1.heap.size + 2 := by simp
    gi_wp2_with fail
    obtain ⟨W0, hW0⟩ : ∃ W0, (w1.alloc (.cells #[.slice none 0 0] 23)).alloc (.cells #[.string PA] 9) = W0 := ⟨_, rfl⟩
    rw [hW0] at bL bS hB0 hsz ⊢
    clear hW0
    have hrow0 : rowOf W0 w1.heap.size = none := by unfold rowOf; rw [bL.cell]; rfl
    refine wpIn_rangeFunc_ownH rfl (by omega) (gf := 120) (lb := #[.pointer (some ⟨w1.heap.size + 1, 0, none⟩)]) rfl trivial (enters_of Tryz.func120 (by kernel_rfl) rfl)
      (KS (w1.heap.size + 1) w1.heap.size W0 (by omega) (by omega) bS.cell (fun g e => by rw [hrow0] at e; cases e)) (fun h k => h.trans k) (Kept.put (by omega)) (Below.refl _ _) (fun _ => rfl)
      (fun pre W => (∃ v, Boxed W w1.heap.size 23 v ∧ W.ownsRow w.heap.size 33 4 v pre.length (flat4 pre) ∧ True) ∧ Below w.heap.size w W)
      (fun _ _ _ => False)
      (OwnFrom.and (Own.from (holdsRow_own w.heap.size w1.heap.size 23 33 4 (fun pre => pre.length) (fun pre => flat4 pre) (fun _ _ => True)) _) (ownFrom_below (Nat.le_refl _) (by omega)))
      (fun _ _ _ _ _ hs _ _ => hs)
      ⟨⟨_, bL, World.ownsRow_nil _ _ _ _, trivial⟩, hB0⟩
      (fun x a' W => ∃ Bx, w1.heap.size < Bx ∧ Box W Bx [.string x.k, .int .i64 x.n, .int .i64 x.d, .string x.v] ∧ a' = { tmps := #[.string s, undef, .slice none 0 0, .bool false, .string PA, .string PB, .bool true, .pointer (some ⟨w1.heap.size, 0, none⟩), .pointer (some ⟨Bx, 0, none⟩), undef, undef, .tuple #[.string PA, .string PB, .bool true], .string s, .tuple #[.string PA, .string PB, .bool true], .string PA, .string PB, .bool true, .bool true, .bool false, .string PA, .func (.func 120) #[] #[.pointer (some ⟨w1.heap.size + 1, 0, none⟩)], (.agg #[.string x.k, .int .i64 x.n, .int .i64 x.d, .string x.v]), undef, undef, undef, undef, undef, undef, undef, undef, undef, undef, undef, undef, undef, undef, undef, undef, undef], defers := [] })
      (fun x a' _ X Y row hs hg hr => by obtain ⟨Bx, h1, h2, h3⟩ := hs; exact ⟨Bx, h1, box_owned h2 hg (fun r e => (hr r e).2), h3⟩)
      ?assign ?body ?done ?stop
    case assign =>
      rintro l pre x W K ⟨⟨v, hv, hrow, _⟩, hB⟩ hK
      have hlt := hv.lt
      obtain ⟨xk, xn, xd, xv⟩ := x
      simp only [encIt]
      gi_wp2
      exact hK _ _ ((KeepsOthers.alloc _ _).from _) (Kept.alloc _ W _ hlt) ⟨⟨v, hv.alloc _, hrow.alloc _, trivial⟩, hB.alloc hB.size _⟩ ⟨W.heap.size, hlt, Box.new W #[.string xk, .int .i64 xn, .int .i64 xd, .string xv] 33, rfl⟩
    case body =>
      rintro l pre x a' W hl ⟨r, hr⟩ ⟨⟨v, hv, hrow, _⟩, hB⟩ ⟨Bx, hBx, X, rfl⟩ hlt
      have hc := hv.cell
      have hpl : pre.length + 1 ≤ 1048576 := by omega
      obtain ⟨_, x0, x1, x2, x3⟩ := X.c4
      obtain ⟨g, cap, w2, hrun, hown', hgrow, hl2, hg2⟩ := run_append_lies (P := Tryz.prog) (W.alloc (.cells #[.string x.k, .int .i64 x.n, .int .i64 x.d, .string x.v] 33)) 23 23 w.heap.size 33 i0 (.agg #[.string ⟨#[]⟩, .int .i64 0, .int .i64 0, .string ⟨#[]⟩]) 4 48 Tryz.underlying23 hi hz0 hz1 hz2 rfl (by decide) v pre.length (flat4 pre) (hrow.alloc _) ⟨W.heap.size, 0, none⟩ 1 1 (flat4 [x]) rfl (cells_new4 W x) (one4 x) (by omega) (by unfold maxLen; omega) (by omega) (by have := hB.size; simp; omega) _ rfl
      obtain ⟨hv1, hv2, hr2, hk2, hb2⟩ := hv.appended (by decide) hrow hB.size (by omega) hown' hgrow
      have hc1 := hv1.cell
      have hf1 := hv1.frozen
      have hKp := Kept.appended (cap := cap) (m := pre.length + 1) hv hv1 hgrow hl2 hg2
      rw [← flat4_append] at hr2
      have hr3 : (w2.setCell ⟨w1.heap.size, 0, none⟩ (.slice (some ⟨g, 0, none⟩) (pre.length + 1) cap)).ownsRow w.heap.size 33 4 (.slice (some ⟨g, 0, none⟩) (pre.length + 1) cap) (pre ++ [x]).length (flat4 (pre ++ [x])) := by rw [List.length_append]; exact hr2
      clear hgrow hl2 hg2 hown' hl hr hr2
      obtain ⟨xk, xn, xd, xv⟩ := x
      dsimp only at x0 x1 x2 x3 hrun
      gi_wp2_with (gi_at_builtin; refine append_ran _ rfl _ _ 23 rfl _ _ rfl rfl _ _ hrun ?_)
      exact ⟨hk2.from _, hKp, ⟨_, hv2, hr3⟩, hB.trans hb2⟩
    case done =>
      rintro D ys W hD rfl ⟨⟨v, hv, hrow, _⟩, hB⟩ hK
      have hc := hv.cell
      have hir := IR_of_owns hrow rfl
      have hK2 : ∀ w5, Below W.heap.size W w5 → w5.heap[D]? = some (.deferred (some [])) := fun w5 h => (h.block D (Array.getElem?_eq_some_iff.1 hK).1).trans hK
      gi_wp2_with fail
      refine ⟨trivial, ?_⟩
      refine (callsIn_wide.2 (KB _ _ hir)).mono ?_
      rintro e w5 ⟨rfl, hb5⟩
      have hK5 := hK2 w5 hb5
      have hrow5 := owns_below hrow hb5
      have hB5 := below_then hB hb5
      have hv5 : Boxed w5 w1.heap.size 23 v := (hb5.block _ hv.lt).trans hv
      have hc5 := hv5.cell
      clear KB KS hc hir hK2 hrow hB hK hv hb5
      have HB6 : ∀ o', Below w.heap.size w (w5.putObj D o') := fun o' => hB5.trans (belowK_b (w := w) (Nat.le_refl _) w5 D _ o' (by omega) hK5 rfl rfl)
      cases hok : okBlk ys with
      | false =>
        rw [hok] at HRB
        obtain rfl : RO = false := HRB.out
        obtain rfl : RL = [] := HRL.out
        gi_wp2
        refine ⟨by simp, .inl ⟨_, _, rfl, run_takeDeferred hK5, ?_⟩⟩
        exact ⟨.tuple #[.slice none 0 0, .bool false], by simp [results, Tryz.results43, go_sem], .slice none 0 0, rfl, World.ownsRow_nil _ _ _ _, HB6 _⟩
      | true =>
        by_cases hT : blkF ys = s
        · rw [hok, decide_eq_true hT] at HRB
          obtain rfl : RO = true := HRB.out
          obtain rfl : RL = ys := HRL.out
          rw [hT]
          gi_wp2
          refine ⟨by simp, .inl ⟨_, _, rfl, run_takeDeferred hK5, ?_⟩⟩
          exact ⟨.tuple #[v, .bool true], by simp [results, Tryz.results43, go_sem], v, rfl, ownsRow_putObj hrow5 _ hK5 rfl, HB6 _⟩
        · rw [hok, decide_eq_false hT] at HRB
          obtain rfl : RO = false := HRB.out
          obtain rfl : RL = [] := HRL.out
          have hT2 : ((blkF ys).toList == s.toList) = false := by
            rw [Bool.eq_false_iff]
            intro h
            apply hT
            have := eq_of_beq h
            rw [ByteArray.toList_eq, ByteArray.toList_eq] at this
            exact bl_inj this
          generalize blkF ys = T at *
          gi_wp2
          refine ⟨by simp, .inl ⟨_, _, rfl, run_takeDeferred hK5, ?_⟩⟩
          exact ⟨.tuple #[.slice none 0 0, .bool false], by simp [results, Tryz.results43, go_sem], .slice none 0 0, rfl, World.ownsRow_nil _ _ _ _, HB6 _⟩
    case stop =>
      rintro D c pre W _ _ h _
      exact h.elim
end Go.Proofs.YtfdaffnkgpdhhaaGreat
