/-
  Rows appended to rows of one's own, slices of rows, slices.Clone: of what is wanted, and of chunks.
-/
import Derived.Test.YtocaigffikdlhaaTK
import Derived.Maps.AppendAt
import Derived.Laws.OwnMore
namespace Go
theorem wpList_sliceOp {P : Program} (w : World) {ops : Array Oper} {rest : List Oper} {o : Oper} {a : Act} {Q : Exit → Act → World → Prop} (hgd : o.guard = none) (t : TypeId) (x : Operand) (lo hi mx : Option Operand)
    (ho : o.op = .slice t x lo hi mx) (v : Value) (hrun : (Instr.sliceAt t (a.eval x) (lo.map a.eval) (hi.map a.eval) (mx.map a.eval)).run P w = .ok v w)
    (h : wpList P ops Q rest (a.put o.dst v) w) : wpList P ops Q (o :: rest) a w := by
  refine wpList_plain hgd fun K hK' => ?_
  unfold Oper.wp
  simp [execOp, ho, hrun]
  exact hK' _ _ h
end Go
namespace Go.Proofs.Ytocaigffikdlhaa
open Go.RowKit Go.Maps
set_option linter.unusedVariables false
set_option maxRecDepth 100000

def StopA (p : Prop) : Prop := p
theorem StopA.go {p : Prop} (h : StopA p) : p := h
/-- A slice without an array has no room. -/
def Nn (v : Value) : Prop := ∀ n c, v = .slice none n c → n = 0 ∧ c = 0
theorem Nn.own {w : World} {base : Nat} {e : TypeId} {size : Nat} {v : Value} {n : Nat} {xs : List Value} (h : w.ownsRow base e size v n xs) : Nn v := by
  intro m c hv
  rcases h.2 with ⟨h1, _⟩ | ⟨g, cap, cur, h1, _⟩
  · rw [h1] at hv; simp at hv; omega
  · rw [h1] at hv; simp at hv
theorem grown_below {w W w' : World} {B g : Nat} (hb : Below B W w) (hg : w.grownBy w' (some g)) (hB : B ≤ w.heap.size) (h : B ≤ g) : Below B W w' := hb.grown hg hB (fun k hk => by cases hk; exact h)

theorem slw_to (a : Option Addr) (n cap p : Nat) (w : World) (hp : p ≤ cap) : (Instr.sliceAt 39 (.slice a n cap) none (some (.int .i64 p)) none).run Try.prog w = .ok (.slice a p cap) w := by
  have h1 : (p : Int) ≤ (cap : Int) := by omega
  have h2 : (0 : Int) ≤ (p : Int) := by omega
  have e : a.map (fun x => x.add (0 * 2)) = a := by cases a <;> simp [Addr.add]
  have hA : (Instr.sliceAt 39 (.slice a n cap) none (some (.int .i64 p)) none).run Try.prog w = (Instr.slice 39 (.slice a n cap) none (some (.int .i64 p)) none).run Try.prog w := by simp [Instr.sliceAt, run_underlying Try.underlying39]
  rw [hA]
  simp [Instr.slice, Instr.sliceBounds, Instr.sliceBound, asIntOf, run_underlying Try.underlying39, hp, h2, Try.sizeOf54]
  cases a <;> simp [Addr.add]
theorem slw_from (w : World) (a : Option Addr) (cap p : Nat) (zs : List Wt) (h : WR w (.slice a zs.length cap) zs) (hc : zs.length ≤ cap) (hp : p ≤ zs.length) : ∃ a2, (∀ w, (Instr.sliceAt 39 (.slice a zs.length cap) (some (.int .i64 p)) none none).run Try.prog w = .ok (.slice a2 (zs.length - p) (cap - p)) w) ∧ WR w (.slice a2 (zs.length - p) (cap - p)) (zs.drop p) := by
  refine ⟨if cap = p then a else a.map (fun x => x.add (p * 2)), fun w => ?_, ?_⟩
  · have h1 : (p : Int) ≤ (zs.length : Int) := by omega
    have h2 : (0 : Int) ≤ (p : Int) := by omega
    have hA : (Instr.sliceAt 39 (.slice a zs.length cap) (some (.int .i64 p)) none none).run Try.prog w = (Instr.slice 39 (.slice a zs.length cap) (some (.int .i64 p)) none none).run Try.prog w := by simp [Instr.sliceAt, run_underlying Try.underlying39]
    rw [hA]
    simp [Instr.slice, Instr.sliceBounds, Instr.sliceBound, asIntOf, run_underlying Try.underlying39, hp, h2, Try.sizeOf54]
  · obtain ⟨a', c', he, hcc⟩ := h
    simp only [Value.slice.injEq, true_and] at he
    obtain ⟨rfl, rfl⟩ := he
    refine ⟨_, _, by rw [List.length_drop], fun hne => ?_⟩
    have hlt : p < zs.length := by
      rcases Nat.lt_or_ge p zs.length with h | h
      · exact h
      · exact absurd (List.drop_eq_nil_of_le h) hne
    obtain ⟨b, off, rfl, hb, hcell⟩ := hcc (by intro e; rw [e] at hlt; simp at hlt)
    rw [if_neg (by omega)]
    refine ⟨b, off + p * 2, by simp [Addr.add], hb, fun i hi => ?_⟩
    rw [List.getElem_drop]
    rw [List.length_drop] at hi
    have hq := hcell (p + i) (by omega)
    rw [show off + (p + i) * 2 = off + p * 2 + i * 2 from by omega] at hq
    exact hq
theorem WR_to {w : World} {a : Option Addr} {cap p : Nat} {zs : List Wt} (h : WR w (.slice a zs.length cap) zs) (hp : p ≤ zs.length) : WR w (.slice a p cap) (zs.take p) := by
  obtain ⟨a', c', he, hc⟩ := h
  simp only [Value.slice.injEq, true_and] at he
  obtain ⟨rfl, rfl⟩ := he
  have hlen : (zs.take p).length = p := by simp; omega
  refine ⟨a, cap, by rw [hlen], fun hne => ?_⟩
  obtain ⟨b, off, rfl, hb, hcell⟩ := hc (by intro e; rw [e] at hne; simp at hne)
  refine ⟨b, off, rfl, hb, fun i hi => ?_⟩
  rw [List.getElem_take]
  exact hcell i (by omega)
theorem run_nothing_wts {w : World} {base n : Nat} {v : Value} {xs : List Value} (c : Nat) (h : w.ownsRow base 54 2 v n xs) : (Builtin.append_ #[39, 39] 39 #[v, .slice none 0 c]).run Try.prog w = .ok v w := by
  rcases h.2 with ⟨rfl, h0⟩ | ⟨g, cap, cur, rfl, hbase, hb, h1, h2, h3, h4⟩
  · simp [Builtin.append_, run_underlying Try.underlying39, Builtin.lenOf, Builtin.firstCells, Try.sizeOf54]
  · simp [Builtin.append_, run_underlying Try.underlying39, Builtin.lenOf, Builtin.firstCells, Try.sizeOf54, h1, storeCells]
/-- A row appended to a row of one's own: nil or not. -/
theorem wpList_append_wts (w : World) {ops : Array Oper} {rest : List Oper} {o : Oper} {a : Act} {Q : Exit → Act → World → Prop} (hgd : o.guard = none) (s x : Operand)
    (ho : o.op = .call { callee := .builtin .append, args := #[s, x], argTypes := #[39, 39] }) (hty : o.type = 39)
    (base : Nat) (v : Value) (n : Nat) (zs : List Wt) (hs : a.eval s = v) (hown : w.ownsRow base 54 2 v n (flat2 zs))
    (xv : Value) (ys : List Wt) (hx : a.eval x = xv) (hI : WR w xv ys) (hn : n + ys.length ≤ 2000000) (hbase : base ≤ w.heap.size)
    (h : ∀ v' w', w'.ownsRow base 54 2 v' (n + ys.length) (flat2 (zs ++ ys)) → w.grownBy w' v.ownBlock → wpList Try.prog ops Q rest (a.put o.dst v') w') : wpList Try.prog ops Q (o :: rest) a w := by
  obtain ⟨i0, hi, hz0, hzs, hzb⟩ := info_parts Try.info54
  obtain ⟨xa, xc, rfl, hc⟩ := hI
  cases xa with
  | none =>
    have hy : ys = [] := by
      by_cases e : ys = []
      · exact e
      · obtain ⟨b, off, h, _⟩ := hc e; cases h
    subst hy
    refine wpList_plain hgd fun K hK' => ?_
    have hrun := run_nothing_wts xc hown
    unfold Oper.wp
    simp [execOp, ho, resolve, invoke, builtin, hs, hx, hty, hrun, Result.andThen]
    exact hK' _ _ (h v w (by simpa using hown) ⟨rfl, rfl, rfl, Nat.le_refl _, fun _ _ _ => rfl⟩)
  | some ad =>
    refine wpList_append_own _ hgd s x 39 ho base 54 i0 (.agg #[.int .i64 0, .int .u32 0]) 2 16 Try.underlying39 hi hz0 hzs hzb rfl (by decide) v n (flat2 zs) hs hown ad ys.length xc (flat2 ys) hx (flat2_length ys) ?_ ?_ (by unfold maxLen; omega) (by omega) hbase fun v' w' h1 h2 _ => h v' w' (by rw [flat2_append]; exact h1) h2
    · intro j u hj
      have hj4 : j < ys.length * 2 := by rw [← flat2_length ys]; exact (List.getElem?_eq_some_iff.1 hj).1
      obtain ⟨b, off, he, hb, hcell⟩ := hc (by intro e; rw [e] at hj4; simp at hj4)
      injection he with he
      subst he
      have ea : ∀ j, (⟨b, off, none⟩ : Addr).add j = ⟨b, off + j, none⟩ := fun j => by simp [Addr.add]
      obtain ⟨c0, c1⟩ := hcell (j / 2) (by omega)
      obtain ⟨g0, g1⟩ := flat2_get ys (j / 2) (by omega)
      obtain hm | hm : j % 2 = 0 ∨ j % 2 = 1 := by omega
      · have e : j = j / 2 * 2 := by omega
        rw [← e] at g0 c0; rw [g0] at hj; injection hj with hj; rw [← hj, ea]; exact c0
      · have e : j = j / 2 * 2 + 1 := by omega
        rw [← e] at g1; rw [g1] at hj; injection hj with hj; rw [← hj, ea, show off + j = off + j / 2 * 2 + 1 from by omega]; exact c1
    · intro u hu
      obtain ⟨j, hj, e⟩ := List.getElem_of_mem hu
      rw [flat2_length] at hj
      have hj' : (flat2 ys)[j]? = some u := List.getElem?_eq_some_iff.2 ⟨by rw [flat2_length]; exact hj, e⟩
      obtain ⟨g0, g1⟩ := flat2_get ys (j / 2) (by omega)
      obtain hm | hm : j % 2 = 0 ∨ j % 2 = 1 := by omega
      · rw [show j = j / 2 * 2 from by omega, g0] at hj'; injection hj' with hj'; rw [← hj']; rfl
      · rw [show j = j / 2 * 2 + 1 from by omega, g1] at hj'; injection hj' with hj'; rw [← hj']; rfl
theorem slc_to (a : Option Addr) (n cap p : Nat) (w : World) (hp : p ≤ cap) : (Instr.sliceAt 30 (.slice a n cap) none (some (.int .i64 p)) none).run Try.prog w = .ok (.slice a p cap) w := by
  have h1 : (p : Int) ≤ (cap : Int) := by omega
  have h2 : (0 : Int) ≤ (p : Int) := by omega
  have e : a.map (fun x => x.add (0 * 4)) = a := by cases a <;> simp [Addr.add]
  have hA : (Instr.sliceAt 30 (.slice a n cap) none (some (.int .i64 p)) none).run Try.prog w = (Instr.slice 30 (.slice a n cap) none (some (.int .i64 p)) none).run Try.prog w := by simp [Instr.sliceAt, run_underlying Try.underlying30]
  rw [hA]
  simp [Instr.slice, Instr.sliceBounds, Instr.sliceBound, asIntOf, run_underlying Try.underlying30, hp, h2, Try.sizeOf37]
  cases a <;> simp [Addr.add]
theorem slc_from (w : World) (a : Option Addr) (cap p : Nat) (zs : List Ck) (h : IR w (.slice a zs.length cap) zs) (hc : zs.length ≤ cap) (hp : p ≤ zs.length) : ∃ a2, (∀ w, (Instr.sliceAt 30 (.slice a zs.length cap) (some (.int .i64 p)) none none).run Try.prog w = .ok (.slice a2 (zs.length - p) (cap - p)) w) ∧ IR w (.slice a2 (zs.length - p) (cap - p)) (zs.drop p) := by
  refine ⟨if cap = p then a else a.map (fun x => x.add (p * 4)), fun w => ?_, ?_⟩
  · have h1 : (p : Int) ≤ (zs.length : Int) := by omega
    have h2 : (0 : Int) ≤ (p : Int) := by omega
    have hA : (Instr.sliceAt 30 (.slice a zs.length cap) (some (.int .i64 p)) none none).run Try.prog w = (Instr.slice 30 (.slice a zs.length cap) (some (.int .i64 p)) none none).run Try.prog w := by simp [Instr.sliceAt, run_underlying Try.underlying30]
    rw [hA]
    simp [Instr.slice, Instr.sliceBounds, Instr.sliceBound, asIntOf, run_underlying Try.underlying30, hp, h2, Try.sizeOf37]
  · obtain ⟨a', c', he, hcc⟩ := h
    simp only [Value.slice.injEq, true_and] at he
    obtain ⟨rfl, rfl⟩ := he
    refine ⟨_, _, by rw [List.length_drop], fun hne => ?_⟩
    have hlt : p < zs.length := by
      rcases Nat.lt_or_ge p zs.length with h | h
      · exact h
      · exact absurd (List.drop_eq_nil_of_le h) hne
    obtain ⟨b, off, rfl, hb, hcell⟩ := hcc (by intro e; rw [e] at hlt; simp at hlt)
    rw [if_neg (by omega)]
    refine ⟨b, off + p * 4, by simp [Addr.add], hb, fun i hi => ?_⟩
    rw [List.getElem_drop]
    rw [List.length_drop] at hi
    have hq := hcell (p + i) (by omega)
    rw [show off + (p + i) * 4 = off + p * 4 + i * 4 from by omega] at hq
    exact hq
theorem IR_to {w : World} {a : Option Addr} {cap p : Nat} {zs : List Ck} (h : IR w (.slice a zs.length cap) zs) (hp : p ≤ zs.length) : IR w (.slice a p cap) (zs.take p) := by
  obtain ⟨a', c', he, hc⟩ := h
  simp only [Value.slice.injEq, true_and] at he
  obtain ⟨rfl, rfl⟩ := he
  have hlen : (zs.take p).length = p := by simp; omega
  refine ⟨a, cap, by rw [hlen], fun hne => ?_⟩
  obtain ⟨b, off, rfl, hb, hcell⟩ := hc (by intro e; rw [e] at hne; simp at hne)
  refine ⟨b, off, rfl, hb, fun i hi => ?_⟩
  rw [List.getElem_take]
  exact hcell i (by omega)
theorem run_nothing_cks {w : World} {base n : Nat} {v : Value} {xs : List Value} (c : Nat) (h : w.ownsRow base 37 4 v n xs) : (Builtin.append_ #[30, 30] 30 #[v, .slice none 0 c]).run Try.prog w = .ok v w := by
  rcases h.2 with ⟨rfl, h0⟩ | ⟨g, cap, cur, rfl, hbase, hb, h1, h2, h3, h4⟩
  · simp [Builtin.append_, run_underlying Try.underlying30, Builtin.lenOf, Builtin.firstCells, Try.sizeOf37]
  · simp [Builtin.append_, run_underlying Try.underlying30, Builtin.lenOf, Builtin.firstCells, Try.sizeOf37, h1, storeCells]
/-- A row appended to a row of one's own: nil or not. -/
theorem wpList_append_cks (w : World) {ops : Array Oper} {rest : List Oper} {o : Oper} {a : Act} {Q : Exit → Act → World → Prop} (hgd : o.guard = none) (s x : Operand)
    (ho : o.op = .call { callee := .builtin .append, args := #[s, x], argTypes := #[30, 30] }) (hty : o.type = 30)
    (base : Nat) (v : Value) (n : Nat) (zs : List Ck) (hs : a.eval s = v) (hown : w.ownsRow base 37 4 v n (flat4 zs))
    (xv : Value) (ys : List Ck) (hx : a.eval x = xv) (hI : IR w xv ys) (hn : n + ys.length ≤ 2000000) (hbase : base ≤ w.heap.size)
    (h : ∀ v' w', w'.ownsRow base 37 4 v' (n + ys.length) (flat4 (zs ++ ys)) → w.grownBy w' v.ownBlock → wpList Try.prog ops Q rest (a.put o.dst v') w') : wpList Try.prog ops Q (o :: rest) a w := by
  obtain ⟨i0, hi, hz0, hzs, hzb⟩ := info_parts Try.info37
  obtain ⟨xa, xc, rfl, hc⟩ := hI
  cases xa with
  | none =>
    have hy : ys = [] := by
      by_cases e : ys = []
      · exact e
      · obtain ⟨b, off, h, _⟩ := hc e; cases h
    subst hy
    refine wpList_plain hgd fun K hK' => ?_
    have hrun := run_nothing_cks xc hown
    unfold Oper.wp
    simp [execOp, ho, resolve, invoke, builtin, hs, hx, hty, hrun, Result.andThen]
    exact hK' _ _ (h v w (by simpa using hown) ⟨rfl, rfl, rfl, Nat.le_refl _, fun _ _ _ => rfl⟩)
  | some ad =>
    refine wpList_append_own _ hgd s x 30 ho base 37 i0 (.agg #[.int .i64 0, .int .i64 0, .string ⟨#[]⟩, .int .u32 0]) 4 40 Try.underlying30 hi hz0 hzs hzb rfl (by decide) v n (flat4 zs) hs hown ad ys.length xc (flat4 ys) hx (flat4_length ys) ?_ ?_ (by unfold maxLen; omega) (by omega) hbase fun v' w' h1 h2 _ => h v' w' (by rw [flat4_append]; exact h1) h2
    · intro j u hj
      have hj4 : j < ys.length * 4 := by rw [← flat4_length ys]; exact (List.getElem?_eq_some_iff.1 hj).1
      obtain ⟨b, off, he, hb, hcell⟩ := hc (by intro e; rw [e] at hj4; simp at hj4)
      injection he with he
      subst he
      have ea : ∀ j, (⟨b, off, none⟩ : Addr).add j = ⟨b, off + j, none⟩ := fun j => by simp [Addr.add]
      obtain ⟨c0, c1, c2, c3⟩ := hcell (j / 4) (by omega)
      obtain ⟨g0, g1, g2, g3⟩ := flat4_get ys (j / 4) (by omega)
      obtain hm | hm | hm | hm : j % 4 = 0 ∨ j % 4 = 1 ∨ j % 4 = 2 ∨ j % 4 = 3 := by omega
      · have e : j = j / 4 * 4 := by omega
        rw [← e] at g0 c0; rw [g0] at hj; injection hj with hj; rw [← hj, ea]; exact c0
      · have e : j = j / 4 * 4 + 1 := by omega
        rw [← e] at g1; rw [g1] at hj; injection hj with hj; rw [← hj, ea, show off + j = off + j / 4 * 4 + 1 from by omega]; exact c1
      · have e : j = j / 4 * 4 + 2 := by omega
        rw [← e] at g2; rw [g2] at hj; injection hj with hj; rw [← hj, ea, show off + j = off + j / 4 * 4 + 2 from by omega]; exact c2
      · have e : j = j / 4 * 4 + 3 := by omega
        rw [← e] at g3; rw [g3] at hj; injection hj with hj; rw [← hj, ea, show off + j = off + j / 4 * 4 + 3 from by omega]; exact c3
    · intro u hu
      obtain ⟨j, hj, e⟩ := List.getElem_of_mem hu
      rw [flat4_length] at hj
      have hj' : (flat4 ys)[j]? = some u := List.getElem?_eq_some_iff.2 ⟨by rw [flat4_length]; exact hj, e⟩
      obtain ⟨g0, g1, g2, g3⟩ := flat4_get ys (j / 4) (by omega)
      obtain hm | hm | hm | hm : j % 4 = 0 ∨ j % 4 = 1 ∨ j % 4 = 2 ∨ j % 4 = 3 := by omega
      · rw [show j = j / 4 * 4 from by omega, g0] at hj'; injection hj' with hj'; rw [← hj']; rfl
      · rw [show j = j / 4 * 4 + 1 from by omega, g1] at hj'; injection hj' with hj'; rw [← hj']; rfl
      · rw [show j = j / 4 * 4 + 2 from by omega, g2] at hj'; injection hj' with hj'; rw [← hj']; rfl
      · rw [show j = j / 4 * 4 + 3 from by omega, g3] at hj'; injection hj' with hj'; rw [← hj']; rfl
theorem eqnilw_0 (w : World) : (binOp .eql 39 (.slice none 0 0) (.slice none 0 0)).run Try.prog w = .ok (.bool true) w := by kernel_rfl
theorem eqnilw_1 (ad : Addr) (n c : Nat) (w : World) : (binOp .eql 39 (.slice (some ad) n c) (.slice none 0 0)).run Try.prog w = .ok (.bool false) w := by kernel_rfl
theorem eqnilc_0 (w : World) : (binOp .eql 30 (.slice none 0 0) (.slice none 0 0)).run Try.prog w = .ok (.bool true) w := by kernel_rfl
theorem eqnilc_1 (ad : Addr) (n c : Nat) (w : World) : (binOp .eql 30 (.slice (some ad) n c) (.slice none 0 0)).run Try.prog w = .ok (.bool false) w := by kernel_rfl
set_option maxHeartbeats 2000000 in
theorem cloneW_any (v : Value) (l : List Wt) (w : World) (hv : WR w v l) (hs : Nn v) (hn : l.length ≤ 1048576) :
    Calls Try.prog 89 #[v] w fun e w' => ∃ u, e = .returned u ∧ w'.ownsRow w.heap.size 54 2 u l.length (flat2 l) ∧ Below w.heap.size w w' := by
  have hv0 := hv
  obtain ⟨a, cap, rfl, hc⟩ := hv
  cases a with
  | none =>
    have hl : l = [] := by
      by_cases e : l = []
      · exact e
      · obtain ⟨b, off, h, _⟩ := hc e; cases h
    obtain ⟨_, rfl⟩ := hs _ _ rfl
    subst hl
    clear hc hv0 hs
    have EN := eqnilw_0
    go_enter Try.func89, Try.ntmps89
    go_wp2
    go_ret
    exact ⟨_, rfl, World.ownsRow_nil _ _ _ _, Below.refl _ _⟩
  | some ad =>
    have o0 : (w.alloc (.cells #[] 54)).ownsRow w.heap.size 54 2 (.slice (some ⟨w.heap.size, 0, none⟩) 0 0) 0 (flat2 []) := World.ownsRow_lit w #[] 0 (Nat.le_refl _) (by simp [maxLen]) (by simp)
    have hB := below_alloc w (.cells #[] 54)
    have h1 := hv0.below hB
    clear hc hv0 hs
    have EN := eqnilw_1 ad l.length cap
    go_enter Try.func89, Try.ntmps89
    go_wp2_with (at_builtin; refine wpList_append_wts _ rfl _ _ rfl rfl w.heap.size _ 0 [] rfl o0 _ l rfl h1 (by omega) (by simp) ?_; intro v' w' hown hgr; refine StopA.go ?_)
    have hB2 := grown_below hB hgr (by simp) (Nat.le_refl _)
    simp only [Nat.zero_add, List.nil_append] at hown
    obtain ⟨ua, uc, rfl⟩ := owns_shape hown
    clear hgr o0 h1 hB
    unfold StopA
    go_wp2
    go_ret
    exact ⟨_, rfl, hown, hB2⟩
set_option maxHeartbeats 2000000 in
theorem cloneC_any (v : Value) (l : List Ck) (w : World) (hv : IR w v l) (hs : Nn v) (hn : l.length ≤ 1048576) :
    Calls Try.prog 100 #[v] w fun e w' => ∃ u, e = .returned u ∧ w'.ownsRow w.heap.size 37 4 u l.length (flat4 l) ∧ Below w.heap.size w w' := by
  have hv0 := hv
  obtain ⟨a, cap, rfl, hc⟩ := hv
  cases a with
  | none =>
    have hl : l = [] := by
      by_cases e : l = []
      · exact e
      · obtain ⟨b, off, h, _⟩ := hc e; cases h
    obtain ⟨_, rfl⟩ := hs _ _ rfl
    subst hl
    clear hc hv0 hs
    have EN := eqnilc_0
    go_enter Try.func100, Try.ntmps100
    go_wp2
    go_ret
    exact ⟨_, rfl, World.ownsRow_nil _ _ _ _, Below.refl _ _⟩
  | some ad =>
    have o0 : (w.alloc (.cells #[] 37)).ownsRow w.heap.size 37 4 (.slice (some ⟨w.heap.size, 0, none⟩) 0 0) 0 (flat4 []) := World.ownsRow_lit w #[] 0 (Nat.le_refl _) (by simp [maxLen]) (by simp)
    have hB := below_alloc w (.cells #[] 37)
    have h1 := hv0.below hB
    clear hc hv0 hs
    have EN := eqnilc_1 ad l.length cap
    go_enter Try.func100, Try.ntmps100
    go_wp2_with (at_builtin; refine wpList_append_cks _ rfl _ _ rfl rfl w.heap.size _ 0 [] rfl o0 _ l rfl h1 (by omega) (by simp) ?_; intro v' w' hown hgr; refine StopA.go ?_)
    have hB2 := grown_below hB hgr (by simp) (Nat.le_refl _)
    simp only [Nat.zero_add, List.nil_append] at hown
    obtain ⟨ua, uc, rfl⟩ := owns_shape hown
    clear hgr o0 h1 hB
    unfold StopA
    go_wp2
    go_ret
    exact ⟨_, rfl, hown, hB2⟩
end Go.Proofs.Ytocaigffikdlhaa
