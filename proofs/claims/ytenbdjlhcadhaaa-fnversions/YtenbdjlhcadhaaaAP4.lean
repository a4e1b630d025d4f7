/-
  Rows put together of parts: slices, and rows appended to rows, nil or not.
-/
import Derived.Test.YtenbdjlhcadhaaaAP3
namespace Go
theorem wpList_sliceOp {P : Program} (w : World) {ops : Array Oper} {rest : List Oper} {o : Oper} {a : Act} {Q : Exit → Act → World → Prop} (hgd : o.guard = none) (t : TypeId) (x : Operand) (lo hi mx : Option Operand)
    (ho : o.op = .slice t x lo hi mx) (v : Value) (hrun : (Instr.sliceAt t (a.eval x) (lo.map a.eval) (hi.map a.eval) (mx.map a.eval)).run P w = .ok v w)
    (h : wpList P ops Q rest (a.put o.dst v) w) : wpList P ops Q (o :: rest) a w := by
  refine wpList_plain hgd fun K hK' => ?_
  unfold Oper.wp
  simp [execOp, ho, hrun]
  exact hK' _ _ h
end Go
namespace Go.Proofs.Ytenbdjlhcadhaaa
open Go.RowKit Go.Maps
set_option linter.unusedVariables false
set_option maxRecDepth 100000

theorem sl_to (a : Option Addr) (n cap p : Nat) (w : World) (hp : p ≤ cap) : (Instr.sliceAt 23 (.slice a n cap) none (some (.int .i64 p)) none).run Try.prog w = .ok (.slice a p cap) w := by
  have h1 : (p : Int) ≤ (cap : Int) := by omega
  have h2 : (0 : Int) ≤ (p : Int) := by omega
  have e : a.map (fun x => x.add (0 * 4)) = a := by cases a <;> simp [Addr.add]
  have hA : (Instr.sliceAt 23 (.slice a n cap) none (some (.int .i64 p)) none).run Try.prog w = (Instr.slice 23 (.slice a n cap) none (some (.int .i64 p)) none).run Try.prog w := by simp [Instr.sliceAt, run_underlying Try.underlying23]
  rw [hA]
  simp [Instr.slice, Instr.sliceBounds, Instr.sliceBound, asIntOf, run_underlying Try.underlying23, hp, h2, Try.sizeOf82]
  cases a <;> simp [Addr.add]
theorem sl_from (w : World) (a : Option Addr) (cap p : Nat) (zs : List Mt) (h : IR w (.slice a zs.length cap) zs) (hc : zs.length ≤ cap) (hp : p ≤ zs.length) : ∃ a2, (∀ w, (Instr.sliceAt 23 (.slice a zs.length cap) (some (.int .i64 p)) none none).run Try.prog w = .ok (.slice a2 (zs.length - p) (cap - p)) w) ∧ IR w (.slice a2 (zs.length - p) (cap - p)) (zs.drop p) := by
  refine ⟨if cap = p then a else a.map (fun x => x.add (p * 4)), fun w => ?_, ?_⟩
  · have h1 : (p : Int) ≤ (zs.length : Int) := by omega
    have h2 : (0 : Int) ≤ (p : Int) := by omega
    have hA : (Instr.sliceAt 23 (.slice a zs.length cap) (some (.int .i64 p)) none none).run Try.prog w = (Instr.slice 23 (.slice a zs.length cap) (some (.int .i64 p)) none none).run Try.prog w := by simp [Instr.sliceAt, run_underlying Try.underlying23]
    rw [hA]
    simp [Instr.slice, Instr.sliceBounds, Instr.sliceBound, asIntOf, run_underlying Try.underlying23, hp, h2, Try.sizeOf82]
  · obtain ⟨a', c', he, hcc⟩ := h
    simp only [Value.slice.injEq, true_and] at he
    obtain ⟨rfl, rfl⟩ := he
    refine ⟨_, _, by rw [List.length_drop], fun hne => ?_⟩
    have hlt : p < zs.length := by
      rcases Nat.lt_or_ge p zs.length with h | h
      · exact h
      · exact absurd (List.drop_eq_nil_of_le h) hne
    obtain ⟨b, off, rfl, hb, hcell⟩ := hcc (by intro e; rw [e] at hlt; simp at hlt)
    rw [if_neg (by omega)]
    refine ⟨b, off + p * 4, by simp [Addr.add], hb, fun i hi => ?_⟩
    rw [List.getElem_drop]
    rw [List.length_drop] at hi
    have hq := hcell (p + i) (by omega)
    rw [show off + (p + i) * 4 = off + p * 4 + i * 4 from by omega] at hq
    exact hq
theorem IR_to {w : World} {a : Option Addr} {cap p : Nat} {zs : List Mt} (h : IR w (.slice a zs.length cap) zs) (hp : p ≤ zs.length) : IR w (.slice a p cap) (zs.take p) := by
  obtain ⟨a', c', he, hc⟩ := h
  simp only [Value.slice.injEq, true_and] at he
  obtain ⟨rfl, rfl⟩ := he
  have hlen : (zs.take p).length = p := by simp; omega
  refine ⟨a, cap, by rw [hlen], fun hne => ?_⟩
  obtain ⟨b, off, rfl, hb, hcell⟩ := hc (by intro e; rw [e] at hne; simp at hne)
  refine ⟨b, off, rfl, hb, fun i hi => ?_⟩
  rw [List.getElem_take]
  exact hcell i (by omega)
theorem run_append_nothing {w : World} {base n : Nat} {v : Value} {xs : List Value} (c : Nat) (h : w.ownsRow base 82 4 v n xs) : (Builtin.append_ #[23, 23] 23 #[v, .slice none 0 c]).run Try.prog w = .ok v w := by
  rcases h.2 with ⟨rfl, h0⟩ | ⟨g, cap, cur, rfl, hbase, hb, h1, h2, h3, h4⟩
  · simp [Builtin.append_, run_underlying Try.underlying23, Builtin.lenOf, Builtin.firstCells, Try.sizeOf82]
  · simp [Builtin.append_, run_underlying Try.underlying23, Builtin.lenOf, Builtin.firstCells, Try.sizeOf82, h1, storeCells]
/-- A row appended to a row of one's own: nil or not. -/
theorem wpList_append_row (w : World) {ops : Array Oper} {rest : List Oper} {o : Oper} {a : Act} {Q : Exit → Act → World → Prop} (hgd : o.guard = none) (s x : Operand)
    (ho : o.op = .call { callee := .builtin .append, args := #[s, x], argTypes := #[23, 23] }) (hty : o.type = 23)
    (base : Nat) (v : Value) (n : Nat) (zs : List Mt) (hs : a.eval s = v) (hown : w.ownsRow base 82 4 v n (flat4 zs))
    (xv : Value) (ys : List Mt) (hx : a.eval x = xv) (hI : IR w xv ys) (hn : n + ys.length ≤ 100000) (hbase : base ≤ w.heap.size)
    (h : ∀ v' w', w'.ownsRow base 82 4 v' (n + ys.length) (flat4 (zs ++ ys)) → w.grownBy w' v.ownBlock → wpList Try.prog ops Q rest (a.put o.dst v') w') : wpList Try.prog ops Q (o :: rest) a w := by
  obtain ⟨i0, hi, hz0, hzs, hzb⟩ := info_parts Try.info82
  obtain ⟨xa, xc, rfl, hc⟩ := hI
  cases xa with
  | none =>
    have hy : ys = [] := by
      by_cases e : ys = []
      · exact e
      · obtain ⟨b, off, h, _⟩ := hc e; cases h
    subst hy
    refine wpList_plain hgd fun K hK' => ?_
    have hrun := run_append_nothing xc hown
    unfold Oper.wp
    simp [execOp, ho, resolve, invoke, builtin, hs, hx, hty, hrun, Result.andThen]
    exact hK' _ _ (h v w (by simpa using hown) ⟨rfl, rfl, rfl, Nat.le_refl _, fun _ _ _ => rfl⟩)
  | some ad =>
    refine wpList_append_own _ hgd s x 23 ho base 82 i0 (.agg #[.int .i64 0, .int .i64 0, .string ⟨#[]⟩, .string ⟨#[]⟩]) 4 48 Try.underlying23 hi hz0 hzs hzb rfl (by decide) v n (flat4 zs) hs hown ad ys.length xc (flat4 ys) hx (flat4_length ys) ?_ ?_ (by unfold maxLen; omega) (by omega) hbase fun v' w' h1 h2 _ => h v' w' (by rw [flat4_append]; exact h1) h2
    · intro j u hj
      have hj4 : j < ys.length * 4 := by rw [← flat4_length ys]; exact (List.getElem?_eq_some_iff.1 hj).1
      obtain ⟨b, off, he, hb, hcell⟩ := hc (by intro e; rw [e] at hj4; simp at hj4)
      injection he with he
      subst he
      have ea : ∀ j, (⟨b, off, none⟩ : Addr).add j = ⟨b, off + j, none⟩ := fun j => by simp [Addr.add]
      obtain ⟨c0, c1, c2, c3⟩ := hcell (j / 4) (by omega)
      obtain ⟨g0, g1, g2, g3⟩ := flat4_get ys (j / 4) (by omega)
      obtain hm | hm | hm | hm : j % 4 = 0 ∨ j % 4 = 1 ∨ j % 4 = 2 ∨ j % 4 = 3 := by omega
      · have e : j = j / 4 * 4 := by omega
        rw [← e] at g0 c0; rw [g0] at hj; injection hj with hj; rw [← hj, ea]; exact c0
      · have e : j = j / 4 * 4 + 1 := by omega
        rw [← e] at g1; rw [g1] at hj; injection hj with hj; rw [← hj, ea, show off + j = off + j / 4 * 4 + 1 from by omega]; exact c1
      · have e : j = j / 4 * 4 + 2 := by omega
        rw [← e] at g2; rw [g2] at hj; injection hj with hj; rw [← hj, ea, show off + j = off + j / 4 * 4 + 2 from by omega]; exact c2
      · have e : j = j / 4 * 4 + 3 := by omega
        rw [← e] at g3; rw [g3] at hj; injection hj with hj; rw [← hj, ea, show off + j = off + j / 4 * 4 + 3 from by omega]; exact c3
    · intro u hu
      obtain ⟨j, hj, e⟩ := List.getElem_of_mem hu
      rw [flat4_length] at hj
      have hj' : (flat4 ys)[j]? = some u := List.getElem?_eq_some_iff.2 ⟨by rw [flat4_length]; exact hj, e⟩
      obtain ⟨g0, g1, g2, g3⟩ := flat4_get ys (j / 4) (by omega)
      obtain hm | hm | hm | hm : j % 4 = 0 ∨ j % 4 = 1 ∨ j % 4 = 2 ∨ j % 4 = 3 := by omega
      · rw [show j = j / 4 * 4 from by omega, g0] at hj'; injection hj' with hj'; rw [← hj']; rfl
      · rw [show j = j / 4 * 4 + 1 from by omega, g1] at hj'; injection hj' with hj'; rw [← hj']; rfl
      · rw [show j = j / 4 * 4 + 2 from by omega, g2] at hj'; injection hj' with hj'; rw [← hj']; rfl
      · rw [show j = j / 4 * 4 + 3 from by omega, g3] at hj'; injection hj' with hj'; rw [← hj']; rfl
end Go.Proofs.Ytenbdjlhcadhaaa
