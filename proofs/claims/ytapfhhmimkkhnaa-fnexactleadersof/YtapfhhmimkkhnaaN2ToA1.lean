/-
  Nodes compared, marked and held.
  Entries and numbers appended to rows of one's own, nil or not; slices of entries.
-/
import Derived.Test.YtapfhhmimkkhnaaN1
import Derived.Maps.AppendAt
namespace Go.Proofs.Ytapfhhmimkkhnaa
open Go.RowKit
set_option linter.unusedVariables false
set_option maxRecDepth 100000

set_option maxHeartbeats 2000000 in
theorem eqNode_same (id pe te vo co ro : Int) (vl vv vm ul uv um : Value) (log : List En) (vs mt : List Int) (w : World) (hl : ER w vl log) (hv : IL w vv vs) (hm : IL w vm mt) (kl : ER w ul log) (kv : IL w uv vs) (km : IL w um mt) (nl : log.length ≤ 1048576) (nv : vs.length ≤ 1048576) (nm : mt.length ≤ 1048576) :
    Calls Try.prog 27 #[.agg #[.int .i64 id, .int .i64 pe, .int .i64 te, .int .i64 vo, vl, .int .i64 co, .int .i64 ro, vv, vm], .agg #[.int .i64 id, .int .i64 pe, .int .i64 te, .int .i64 vo, ul, .int .i64 co, .int .i64 ro, uv, um]] w fun e w' => e = .returned (.bool true) ∧ Below w.heap.size w w' := by
  obtain ⟨W0, hW0⟩ : ∃ W0, W0 = (w.alloc (.cells #[.int .i64 id, .int .i64 pe, .int .i64 te, .int .i64 vo, vl, .int .i64 co, .int .i64 ro, vv, vm] 26)).alloc (.cells #[.int .i64 id, .int .i64 pe, .int .i64 te, .int .i64 vo, ul, .int .i64 co, .int .i64 ro, uv, um] 26) := ⟨_, rfl⟩
  have hB : Below w.heap.size w W0 := by rw [hW0]; exact below2 _ _ _
  have X : Box W0 w.heap.size [.int .i64 id, .int .i64 pe, .int .i64 te, .int .i64 vo, vl, .int .i64 co, .int .i64 ro, vv, vm] := by rw [hW0]; exact (Box.new w #[.int .i64 id, .int .i64 pe, .int .i64 te, .int .i64 vo, vl, .int .i64 co, .int .i64 ro, vv, vm] 26).alloc _
  have Y : Box W0 (w.heap.size + 1) [.int .i64 id, .int .i64 pe, .int .i64 te, .int .i64 vo, ul, .int .i64 co, .int .i64 ro, uv, um] := by
    rw [hW0]
    have := Box.new (w.alloc (.cells #[.int .i64 id, .int .i64 pe, .int .i64 te, .int .i64 vo, vl, .int .i64 co, .int .i64 ro, vv, vm] 26)) #[.int .i64 id, .int .i64 pe, .int .i64 te, .int .i64 vo, ul, .int .i64 co, .int .i64 ro, uv, um] 26
    simpa using this
  have K1 := eqEntryS_same vl ul log _ (hl.below hB) (kl.below hB) nl
  have K2 := fun W (h : Below w.heap.size w W) => eqIntS_same vv uv vs W (hv.below h) (kv.below h) nv
  have K3 := fun W (h : Below w.heap.size w W) => eqIntS_same vm um mt W (hm.below h) (km.below h) nm
  obtain ⟨la, lc, rfl, _⟩ := hl
  obtain ⟨va, vc, rfl, _⟩ := hv
  obtain ⟨ma, mc, rfl, _⟩ := hm
  obtain ⟨la', lc', rfl, _⟩ := kl
  obtain ⟨va', vc', rfl, _⟩ := kv
  obtain ⟨ma', mc', rfl, _⟩ := km
  go_enter Try.func27, Try.ntmps27
  go_wp2_with fail
  rw [← hW0]; clear hW0
  refine K1.mono ?_
  rintro e w1 ⟨rfl, hb⟩
  replace hB := below_then hB hb
  replace X := X.below hb
  replace Y := Y.below hb
  clear K1 hb
  obtain ⟨hxl, x0, x1, x2, x3, x4, x5, x6, x7, x8⟩ := X.e9
  obtain ⟨hyl, y0, y1, y2, y3, y4, y5, y6, y7, y8⟩ := Y.e9
  go_wp2_with fail
  refine (K2 _ hB).mono ?_
  rintro e w2 ⟨rfl, hb⟩
  replace hB := below_then hB hb
  replace X := X.below hb
  replace Y := Y.below hb
  clear K2 hb hxl x0 x1 x2 x3 x4 x5 x6 x7 x8 hyl y0 y1 y2 y3 y4 y5 y6 y7 y8
  obtain ⟨hxl, x0, x1, x2, x3, x4, x5, x6, x7, x8⟩ := X.e9
  obtain ⟨hyl, y0, y1, y2, y3, y4, y5, y6, y7, y8⟩ := Y.e9
  go_wp2_with fail
  refine (K3 _ hB).mono ?_
  rintro e w3 ⟨rfl, hb⟩
  replace hB := below_then hB hb
  clear K3 hb hxl x0 x1 x2 x3 x4 x5 x6 x7 x8 hyl y0 y1 y2 y3 y4 y5 y6 y7 y8
  go_wp2
  go_ret
  exact ⟨rfl, hB⟩

/-- A node's slices marked from k on. -/
structure MkN (w : World) (base : Nat) (vl vv vm : Value) (nl nv nm : Nat) (k : Int) : Prop where
  l : w.ownsRow base 34 2 vl nl (flat2 (mkEs k nl))
  v : w.ownsRow base 3 1 vv nv (mkI (k + 2 * nl) nv)
  m : w.ownsRow base 3 1 vm nm (mkI (k + 2 * nl + nv) nm)
theorem MkN.below {w w' : World} {base : Nat} {vl vv vm : Value} {nl nv nm : Nat} {k : Int} (h : MkN w base vl vv vm nl nv nm k) (hb : Below w.heap.size w w') : MkN w' base vl vv vm nl nv nm k := ⟨owns_below h.l hb, owns_below h.v hb, owns_below h.m hb⟩
theorem MkN.chg {w w' : World} {S : Nat → Prop} {base : Nat} {vl vv vm : Value} {nl nv nm : Nat} {k : Int} (h : MkN w base vl vv vm nl nv nm k) (hc : Chg S w w') (hs : ∀ b, NB vl vv vm b → ¬ S b) : MkN w' base vl vv vm nl nv nm k :=
  ⟨hc.owns h.l fun g hg => hs g (.inl hg), hc.owns h.v fun g hg => hs g (.inr (.inl hg)), hc.owns h.m fun g hg => hs g (.inr (.inr hg))⟩
theorem MkN.lt {w : World} {base : Nat} {vl vv vm : Value} {nl nv nm : Nat} {k : Int} (h : MkN w base vl vv vm nl nv nm k) (b : Nat) (hb : NB vl vv vm b) : base ≤ b ∧ b < w.heap.size := by
  rcases hb with hb | hb | hb
  · exact ⟨owns_ge h.l b hb, owns_below_lt h.l b hb⟩
  · exact ⟨owns_ge h.v b hb, owns_below_lt h.v b hb⟩
  · exact ⟨owns_ge h.m b hb, owns_below_lt h.m b hb⟩
theorem OwnN.shapes {w : World} {base : Nat} {vl vv vm : Value} {log : List En} {vs mt : List Int} (h : OwnN w base vl vv vm log vs mt) : (∃ a c, vl = .slice a log.length c) ∧ (∃ a c, vv = .slice a vs.length c) ∧ ∃ a c, vm = .slice a mt.length c := ⟨owns_shape h.l, owns_shape h.v, owns_shape h.m⟩

set_option maxHeartbeats 2000000 in
theorem markNode_own (id pe te vo co ro : Int) (vl vv vm : Value) (log : List En) (vs mt : List Int) (base : Nat) (k : Int) (w : World) (ho : OwnN w base vl vv vm log vs mt) (nl : log.length ≤ 1048576) (nv : vs.length ≤ 1048576) (nm : mt.length ≤ 1048576) (h1 : 1 ≤ k) (h2 : k ≤ 40000000) :
    Calls Try.prog 29 #[.agg #[.int .i64 id, .int .i64 pe, .int .i64 te, .int .i64 vo, vl, .int .i64 co, .int .i64 ro, vv, vm], .int .i64 k] w fun e w' => e = .returned (.int .i64 (k + 2 * log.length + vs.length + mt.length)) ∧ MkN w' base vl vv vm log.length vs.length mt.length k ∧ Chg (fun b => NB vl vv vm b ∨ w.heap.size ≤ b) w w' := by
  have hB := below_alloc w (.cells #[.int .i64 id, .int .i64 pe, .int .i64 te, .int .i64 vo, vl, .int .i64 co, .int .i64 ro, vv, vm] 26)
  have X := Box.new w #[.int .i64 id, .int .i64 pe, .int .i64 te, .int .i64 vo, vl, .int .i64 co, .int .i64 ro, vv, vm] 26
  have n1 := owns_type_ne ho.l ho.v (by decide)
  have n2 := owns_type_ne ho.l ho.m (by decide)
  have n3 := ho.ne
  have hlt := fun b hb => (ho.lt b hb).2
  have K1 := markEntryS_own vl base log k _ (owns_below ho.l hB) nl h1 (by omega)
  have K2 := fun W h => markIntS_own vv base vs.length (vs.map (.int .i64)) (k + 2 * log.length) W h (by simp) nv (by omega) (by omega)
  have K3 := fun W h => markIntS_own vm base mt.length (mt.map (.int .i64)) (k + 2 * log.length + vs.length) W h (by simp) nm (by omega) (by omega)
  have ov := owns_below ho.v hB
  have om := owns_below ho.m hB
  obtain ⟨⟨la, lc, rfl⟩, ⟨va, vc, rfl⟩, ma, mc, rfl⟩ := ho.shapes
  clear ho
  obtain ⟨bl, hbl⟩ : ∃ f : Nat → Prop, f = fun b => NB (.slice la log.length lc) (.slice va vs.length vc) (.slice ma mt.length mc) b ∨ w.heap.size ≤ b := ⟨_, rfl⟩
  have i1 : ∀ b, (Value.slice la log.length lc).ownBlock = some b → bl b := fun b h => by rw [hbl]; exact .inl (.inl h)
  have i2 : ∀ b, (Value.slice va vs.length vc).ownBlock = some b → bl b := fun b h => by rw [hbl]; exact .inl (.inr (.inl h))
  have i3 : ∀ b, (Value.slice ma mt.length mc).ownBlock = some b → bl b := fun b h => by rw [hbl]; exact .inl (.inr (.inr h))
  rw [← hbl]
  have hC : Chg bl w _ := Chg.of_below hB
  have j1 : ∀ b, (Value.slice la log.length lc).ownBlock = some b → b < w.heap.size := fun b h => hlt b (.inl h)
  have j2 : ∀ b, (Value.slice va vs.length vc).ownBlock = some b → b < w.heap.size := fun b h => hlt b (.inr (.inl h))
  clear hbl hlt
  go_enter Try.func29, Try.ntmps29
  go_wp2_with fail
  refine K1.mono ?_
  rintro e w1 ⟨rfl, o1, hc⟩
  replace hC := hC.trans (hc.mono i1)
  replace ov := hc.owns ov (fun g hg hh => n1 g hh hg)
  replace om := hc.owns om (fun g hg hh => n2 g hh hg)
  replace X := hc.box X (fun h => by have := j1 _ h; omega)
  clear K1 hc
  obtain ⟨hxl, x0, x1, x2, x3, x4, x5, x6, x7, x8⟩ := X.e9
  go_wp2_with fail
  refine (K2 _ ov).mono ?_
  rintro e w2 ⟨rfl, o2, hc⟩
  replace hC := hC.trans (hc.mono i2)
  replace o1 := hc.owns o1 (fun g hg hh => n1 g hg hh)
  replace om := hc.owns om (fun g hg hh => n3 g hh hg)
  replace X := hc.box X (fun h => by have := j2 _ h; omega)
  clear K2 hc hxl x0 x1 x2 x3 x4 x5 x6 x7 x8
  obtain ⟨hxl, x0, x1, x2, x3, x4, x5, x6, x7, x8⟩ := X.e9
  go_wp2_with fail
  refine (K3 _ om).mono ?_
  rintro e w3 ⟨rfl, o3, hc⟩
  replace hC := hC.trans (hc.mono i3)
  replace o1 := hc.owns o1 (fun g hg hh => n2 g hg hh)
  replace o2 := hc.owns o2 (fun g hg hh => n3 g hg hh)
  clear K3 hc hxl x0 x1 x2 x3 x4 x5 x6 x7 x8
  go_wp2
  go_ret
  exact ⟨rfl, ⟨o1, o2, o3⟩, hC⟩
set_option maxHeartbeats 2000000 in
theorem heldNode_own (id pe te vo co ro : Int) (vl vv vm : Value) (al av am : Nat) (base : Nat) (k : Int) (w : World) (ho : MkN w base vl vv vm al av am k) (nl : al ≤ 1048576) (nv : av ≤ 1048576) (nm : am ≤ 1048576) (h1 : 1 ≤ k) (h2 : k ≤ 40000000) :
    Calls Try.prog 31 #[.agg #[.int .i64 id, .int .i64 pe, .int .i64 te, .int .i64 vo, vl, .int .i64 co, .int .i64 ro, vv, vm], .int .i64 k] w fun e w' => e = .returned (.int .i64 (k + 2 * al + av + am)) ∧ Below w.heap.size w w' := by
  have hB := below_alloc w (.cells #[.int .i64 id, .int .i64 pe, .int .i64 te, .int .i64 vo, vl, .int .i64 co, .int .i64 ro, vv, vm] 26)
  have X := Box.new w #[.int .i64 id, .int .i64 pe, .int .i64 te, .int .i64 vo, vl, .int .i64 co, .int .i64 ro, vv, vm] 26
  have K1 := heldEntryS_at vl al k _ (ER_of_owns (owns_below ho.l hB) (mkEs_length _ _).symm) nl h1 (by omega)
  have K2 := fun W (h : Below w.heap.size w W) => heldIntS_own vv base av (k + 2 * al) W (owns_below ho.v h) nv (by omega) (by omega)
  have K3 := fun W (h : Below w.heap.size w W) => heldIntS_own vm base am (k + 2 * al + av) W (owns_below ho.m h) nm (by omega) (by omega)
  obtain ⟨la, lc, rfl⟩ := owns_shape ho.l
  obtain ⟨va, vc, rfl⟩ := owns_shape ho.v
  obtain ⟨ma, mc, rfl⟩ := owns_shape ho.m
  clear ho
  have q1 : ¬ k + 2 * (al : Int) < 0 := by omega
  have q2 : ¬ k + 2 * (al : Int) + av < 0 := by omega
  have q3 : ¬ k + 2 * (al : Int) + av + am < 0 := by omega
  go_enter Try.func31, Try.ntmps31
  go_wp2_with fail
  refine K1.mono ?_
  rintro e w1 ⟨rfl, hb⟩
  replace hB := below_then hB hb
  replace X := X.below hb
  clear K1 hb
  obtain ⟨hxl, x0, x1, x2, x3, x4, x5, x6, x7, x8⟩ := X.e9
  go_wp2_with fail
  refine (K2 _ hB).mono ?_
  rintro e w2 ⟨rfl, hw⟩
  subst hw
  clear K2
  go_wp2_with fail
  refine (K3 _ hB).mono ?_
  rintro e w3 ⟨rfl, hw⟩
  subst hw
  clear K3
  go_wp2
  go_ret
  exact ⟨rfl, hB⟩
end Go.Proofs.Ytapfhhmimkkhnaa

namespace Go
theorem wpList_sliceOp {P : Program} (w : World) {ops : Array Oper} {rest : List Oper} {o : Oper} {a : Act} {Q : Exit → Act → World → Prop} (hgd : o.guard = none) (t : TypeId) (x : Operand) (lo hi mx : Option Operand)
    (ho : o.op = .slice t x lo hi mx) (v : Value) (hrun : (Instr.sliceAt t (a.eval x) (lo.map a.eval) (hi.map a.eval) (mx.map a.eval)).run P w = .ok v w)
    (h : wpList P ops Q rest (a.put o.dst v) w) : wpList P ops Q (o :: rest) a w := by
  refine wpList_plain hgd fun K hK' => ?_
  unfold Oper.wp
  simp [execOp, ho, hrun]
  exact hK' _ _ h
end Go
namespace Go.Proofs.Ytapfhhmimkkhnaa
open Go.RowKit Go.Maps
set_option linter.unusedVariables false
set_option maxRecDepth 100000

theorem sl_to (a : Option Addr) (n cap p : Nat) (w : World) (hp : p ≤ cap) : (Instr.sliceAt 23 (.slice a n cap) none (some (.int .i64 p)) none).run Try.prog w = .ok (.slice a p cap) w := by
  have h1 : (p : Int) ≤ (cap : Int) := by omega
  have h2 : (0 : Int) ≤ (p : Int) := by omega
  have e : a.map (fun x => x.add (0 * 2)) = a := by cases a <;> simp [Addr.add]
  have hA : (Instr.sliceAt 23 (.slice a n cap) none (some (.int .i64 p)) none).run Try.prog w = (Instr.slice 23 (.slice a n cap) none (some (.int .i64 p)) none).run Try.prog w := by simp [Instr.sliceAt, run_underlying Try.underlying23]
  rw [hA]
  simp [Instr.slice, Instr.sliceBounds, Instr.sliceBound, asIntOf, run_underlying Try.underlying23, hp, h2, Try.sizeOf34]
  cases a <;> simp [Addr.add]
theorem sl_from (w : World) (a : Option Addr) (cap p : Nat) (zs : List En) (h : ER w (.slice a zs.length cap) zs) (hc : zs.length ≤ cap) (hp : p ≤ zs.length) : ∃ a2, (∀ w, (Instr.sliceAt 23 (.slice a zs.length cap) (some (.int .i64 p)) none none).run Try.prog w = .ok (.slice a2 (zs.length - p) (cap - p)) w) ∧ ER w (.slice a2 (zs.length - p) (cap - p)) (zs.drop p) := by
  refine ⟨if cap = p then a else a.map (fun x => x.add (p * 2)), fun w => ?_, ?_⟩
  · have h1 : (p : Int) ≤ (zs.length : Int) := by omega
    have h2 : (0 : Int) ≤ (p : Int) := by omega
    have hA : (Instr.sliceAt 23 (.slice a zs.length cap) (some (.int .i64 p)) none none).run Try.prog w = (Instr.slice 23 (.slice a zs.length cap) (some (.int .i64 p)) none none).run Try.prog w := by simp [Instr.sliceAt, run_underlying Try.underlying23]
    rw [hA]
    simp [Instr.slice, Instr.sliceBounds, Instr.sliceBound, asIntOf, run_underlying Try.underlying23, hp, h2, Try.sizeOf34]
  · obtain ⟨a', c', he, hcc⟩ := h
    simp only [Value.slice.injEq, true_and] at he
    obtain ⟨rfl, rfl⟩ := he
    refine ⟨_, _, by rw [List.length_drop], fun hne => ?_⟩
    have hlt : p < zs.length := by
      rcases Nat.lt_or_ge p zs.length with h | h
      · exact h
      · exact absurd (List.drop_eq_nil_of_le h) hne
    obtain ⟨b, off, rfl, hb, hcell⟩ := hcc (by intro e; rw [e] at hlt; simp at hlt)
    rw [if_neg (by omega)]
    refine ⟨b, off + p * 2, by simp [Addr.add], hb, fun i hi => ?_⟩
    rw [List.getElem_drop]
    rw [List.length_drop] at hi
    have hq := hcell (p + i) (by omega)
    rw [show off + (p + i) * 2 = off + p * 2 + i * 2 from by omega] at hq
    exact hq
theorem ER_to {w : World} {a : Option Addr} {cap p : Nat} {zs : List En} (h : ER w (.slice a zs.length cap) zs) (hp : p ≤ zs.length) : ER w (.slice a p cap) (zs.take p) := by
  obtain ⟨a', c', he, hc⟩ := h
  simp only [Value.slice.injEq, true_and] at he
  obtain ⟨rfl, rfl⟩ := he
  have hlen : (zs.take p).length = p := by simp; omega
  refine ⟨a, cap, by rw [hlen], fun hne => ?_⟩
  obtain ⟨b, off, rfl, hb, hcell⟩ := hc (by intro e; rw [e] at hne; simp at hne)
  refine ⟨b, off, rfl, hb, fun i hi => ?_⟩
  rw [List.getElem_take]
  exact hcell i (by omega)
theorem run_nothing_ent {w : World} {base n : Nat} {v : Value} {xs : List Value} (c : Nat) (h : w.ownsRow base 34 2 v n xs) : (Builtin.append_ #[23, 23] 23 #[v, .slice none 0 c]).run Try.prog w = .ok v w := by
  rcases h.2 with ⟨rfl, h0⟩ | ⟨g, cap, cur, rfl, hbase, hb, h1, h2, h3, h4⟩
  · simp [Builtin.append_, run_underlying Try.underlying23, Builtin.lenOf, Builtin.firstCells, Try.sizeOf34]
  · simp [Builtin.append_, run_underlying Try.underlying23, Builtin.lenOf, Builtin.firstCells, Try.sizeOf34, h1, storeCells]
/-- A row appended to a row of one's own: nil or not. -/
theorem wpList_append_ent (w : World) {ops : Array Oper} {rest : List Oper} {o : Oper} {a : Act} {Q : Exit → Act → World → Prop} (hgd : o.guard = none) (s x : Operand)
    (ho : o.op = .call { callee := .builtin .append, args := #[s, x], argTypes := #[23, 23] }) (hty : o.type = 23)
    (base : Nat) (v : Value) (n : Nat) (zs : List En) (hs : a.eval s = v) (hown : w.ownsRow base 34 2 v n (flat2 zs))
    (xv : Value) (ys : List En) (hx : a.eval x = xv) (hI : ER w xv ys) (hn : n + ys.length ≤ 2000000) (hbase : base ≤ w.heap.size)
    (h : ∀ v' w', w'.ownsRow base 34 2 v' (n + ys.length) (flat2 (zs ++ ys)) → w.grownBy w' v.ownBlock → wpList Try.prog ops Q rest (a.put o.dst v') w') : wpList Try.prog ops Q (o :: rest) a w := by
  obtain ⟨i0, hi, hz0, hzs, hzb⟩ := info_parts Try.info34
  obtain ⟨xa, xc, rfl, hc⟩ := hI
  cases xa with
  | none =>
    have hy : ys = [] := by
      by_cases e : ys = []
      · exact e
      · obtain ⟨b, off, h, _⟩ := hc e; cases h
    subst hy
    refine wpList_plain hgd fun K hK' => ?_
    have hrun := run_nothing_ent xc hown
    unfold Oper.wp
    simp [execOp, ho, resolve, invoke, builtin, hs, hx, hty, hrun, Result.andThen]
    exact hK' _ _ (h v w (by simpa using hown) ⟨rfl, rfl, rfl, Nat.le_refl _, fun _ _ _ => rfl⟩)
  | some ad =>
    refine wpList_append_own _ hgd s x 23 ho base 34 i0 (.agg #[.int .i64 0, .string ⟨#[]⟩]) 2 24 Try.underlying23 hi hz0 hzs hzb rfl (by decide) v n (flat2 zs) hs hown ad ys.length xc (flat2 ys) hx (flat2_length ys) ?_ ?_ (by unfold maxLen; omega) (by omega) hbase fun v' w' h1 h2 _ => h v' w' (by rw [flat2_append]; exact h1) h2
    · intro j u hj
      have hj4 : j < ys.length * 2 := by rw [← flat2_length ys]; exact (List.getElem?_eq_some_iff.1 hj).1
      obtain ⟨b, off, he, hb, hcell⟩ := hc (by intro e; rw [e] at hj4; simp at hj4)
      injection he with he
      subst he
      have ea : ∀ j, (⟨b, off, none⟩ : Addr).add j = ⟨b, off + j, none⟩ := fun j => by simp [Addr.add]
      obtain ⟨c0, c1⟩ := hcell (j / 2) (by omega)
      obtain ⟨g0, g1⟩ := flat2_get ys (j / 2) (by omega)
      obtain hm | hm : j % 2 = 0 ∨ j % 2 = 1 := by omega
      · have e : j = j / 2 * 2 := by omega
        rw [← e] at g0 c0; rw [g0] at hj; injection hj with hj; rw [← hj, ea]; exact c0
      · have e : j = j / 2 * 2 + 1 := by omega
        rw [← e] at g1; rw [g1] at hj; injection hj with hj; rw [← hj, ea, show off + j = off + j / 2 * 2 + 1 from by omega]; exact c1
    · intro u hu
      obtain ⟨j, hj, e⟩ := List.getElem_of_mem hu
      rw [flat2_length] at hj
      have hj' : (flat2 ys)[j]? = some u := List.getElem?_eq_some_iff.2 ⟨by rw [flat2_length]; exact hj, e⟩
      obtain ⟨g0, g1⟩ := flat2_get ys (j / 2) (by omega)
      obtain hm | hm : j % 2 = 0 ∨ j % 2 = 1 := by omega
      · rw [show j = j / 2 * 2 from by omega, g0] at hj'; injection hj' with hj'; rw [← hj']; rfl
      · rw [show j = j / 2 * 2 + 1 from by omega, g1] at hj'; injection hj' with hj'; rw [← hj']; rfl
theorem run_nothing_int {w : World} {base n : Nat} {v : Value} {xs : List Value} (c : Nat) (h : w.ownsRow base 3 1 v n xs) : (Builtin.append_ #[24, 24] 24 #[v, .slice none 0 c]).run Try.prog w = .ok v w := by
  rcases h.2 with ⟨rfl, h0⟩ | ⟨g, cap, cur, rfl, hbase, hb, h1, h2, h3, h4⟩
  · simp [Builtin.append_, run_underlying Try.underlying24, Builtin.lenOf, Builtin.firstCells, Try.sizeOf3]
  · simp [Builtin.append_, run_underlying Try.underlying24, Builtin.lenOf, Builtin.firstCells, Try.sizeOf3, h1, storeCells]
/-- A row appended to a row of one's own: nil or not. -/
theorem wpList_append_int (w : World) {ops : Array Oper} {rest : List Oper} {o : Oper} {a : Act} {Q : Exit → Act → World → Prop} (hgd : o.guard = none) (s x : Operand)
    (ho : o.op = .call { callee := .builtin .append, args := #[s, x], argTypes := #[24, 24] }) (hty : o.type = 24)
    (base : Nat) (v : Value) (n : Nat) (zs : List Int) (hs : a.eval s = v) (hown : w.ownsRow base 3 1 v n (zs.map (.int .i64)))
    (xv : Value) (ys : List Int) (hx : a.eval x = xv) (hI : IL w xv ys) (hn : n + ys.length ≤ 2000000) (hbase : base ≤ w.heap.size)
    (h : ∀ v' w', w'.ownsRow base 3 1 v' (n + ys.length) ((zs ++ ys).map (.int .i64)) → w.grownBy w' v.ownBlock → wpList Try.prog ops Q rest (a.put o.dst v') w') : wpList Try.prog ops Q (o :: rest) a w := by
  obtain ⟨i0, hi, hz0, hzs, hzb⟩ := info_parts Try.info3
  obtain ⟨xa, xc, rfl, hc⟩ := hI
  cases xa with
  | none =>
    have hy : ys = [] := by
      by_cases e : ys = []
      · exact e
      · obtain ⟨b, off, h, _⟩ := hc e; cases h
    subst hy
    refine wpList_plain hgd fun K hK' => ?_
    have hrun := run_nothing_int xc hown
    unfold Oper.wp
    simp [execOp, ho, resolve, invoke, builtin, hs, hx, hty, hrun, Result.andThen]
    exact hK' _ _ (h v w (by simpa using hown) ⟨rfl, rfl, rfl, Nat.le_refl _, fun _ _ _ => rfl⟩)
  | some ad =>
    refine wpList_append_own _ hgd s x 24 ho base 3 i0 (.int .i64 0) 1 8 Try.underlying24 hi hz0 hzs hzb rfl (by decide) v n (zs.map (.int .i64)) hs hown ad ys.length xc (ys.map (.int .i64)) hx (by simp) ?_ ?_ (by unfold maxLen; omega) (by omega) hbase fun v' w' h1 h2 _ => h v' w' (by rw [List.map_append]; exact h1) h2
    · intro j u hj
      have hj4 : j < ys.length := by simpa using (List.getElem?_eq_some_iff.1 hj).1
      obtain ⟨b, off, he, hb, hcell⟩ := hc (by intro e; rw [e] at hj4; simp at hj4)
      injection he with he
      subst he
      have ea : ∀ j, (⟨b, off, none⟩ : Addr).add j = ⟨b, off + j, none⟩ := fun j => by simp [Addr.add]
      have c0 := hcell j hj4
      have g0 : (ys.map (Value.int .i64))[j]? = some (.int .i64 ys[j]) := by simp [hj4]
      rw [g0] at hj; injection hj with hj; rw [← hj, ea]; exact c0
    · intro u hu
      simp only [List.mem_map] at hu
      obtain ⟨z, _, rfl⟩ := hu
      rfl
end Go.Proofs.Ytapfhhmimkkhnaa
