/-
  Nodes compared, marked and held.
-/
import Derived.Test.YtapfhhmimkkhnaaN1
namespace Go.Proofs.Ytapfhhmimkkhnaa
open Go.RowKit
set_option linter.unusedVariables false
set_option maxRecDepth 100000

set_option maxHeartbeats 2000000 in
theorem eqNode_same (id pe te vo co ro : Int) (vl vv vm ul uv um : Value) (log : List En) (vs mt : List Int) (w : World) (hl : ER w vl log) (hv : IL w vv vs) (hm : IL w vm mt) (kl : ER w ul log) (kv : IL w uv vs) (km : IL w um mt) (nl : log.length ≤ 1048576) (nv : vs.length ≤ 1048576) (nm : mt.length ≤ 1048576) :
    Calls Try.prog 27 #[.agg #[.int .i64 id, .int .i64 pe, .int .i64 te, .int .i64 vo, vl, .int .i64 co, .int .i64 ro, vv, vm], .agg #[.int .i64 id, .int .i64 pe, .int .i64 te, .int .i64 vo, ul, .int .i64 co, .int .i64 ro, uv, um]] w fun e w' => e = .returned (.bool true) ∧ Below w.heap.size w w' := by
  obtain ⟨W0, hW0⟩ : ∃ W0, W0 = (w.alloc (.cells #[.int .i64 id, .int .i64 pe, .int .i64 te, .int .i64 vo, vl, .int .i64 co, .int .i64 ro, vv, vm] 26)).alloc (.cells #[.int .i64 id, .int .i64 pe, .int .i64 te, .int .i64 vo, ul, .int .i64 co, .int .i64 ro, uv, um] 26) := ⟨_, rfl⟩
  have hB : Below w.heap.size w W0 := by rw [hW0]; exact below2 _ _ _
  have X : Box W0 w.heap.size [.int .i64 id, .int .i64 pe, .int .i64 te, .int .i64 vo, vl, .int .i64 co, .int .i64 ro, vv, vm] := by rw [hW0]; exact (Box.new w #[.int .i64 id, .int .i64 pe, .int .i64 te, .int .i64 vo, vl, .int .i64 co, .int .i64 ro, vv, vm] 26).alloc _
  have Y : Box W0 (w.heap.size + 1) [.int .i64 id, .int .i64 pe, .int .i64 te, .int .i64 vo, ul, .int .i64 co, .int .i64 ro, uv, um] := by
    rw [hW0]
    have := Box.new (w.alloc (.cells #[.int .i64 id, .int .i64 pe, .int .i64 te, .int .i64 vo, vl, .int .i64 co, .int .i64 ro, vv, vm] 26)) #[.int .i64 id, .int .i64 pe, .int .i64 te, .int .i64 vo, ul, .int .i64 co, .int .i64 ro, uv, um] 26
    simpa using this
  have K1 := eqEntryS_same vl ul log _ (hl.below hB) (kl.below hB) nl
  have K2 := fun W (h : Below w.heap.size w W) => eqIntS_same vv uv vs W (hv.below h) (kv.below h) nv
  have K3 := fun W (h : Below w.heap.size w W) => eqIntS_same vm um mt W (hm.below h) (km.below h) nm
  obtain ⟨la, lc, rfl, _⟩ := hl
  obtain ⟨va, vc, rfl, _⟩ := hv
  obtain ⟨ma, mc, rfl, _⟩ := hm
  obtain ⟨la', lc', rfl, _⟩ := kl
  obtain ⟨va', vc', rfl, _⟩ := kv
  obtain ⟨ma', mc', rfl, _⟩ := km
  go_enter Try.func27, Try.ntmps27
  go_wp2_with fail
  rw [← hW0]; clear hW0
  refine K1.mono ?_
  rintro e w1 ⟨rfl, hb⟩
  replace hB := below_then hB hb
  replace X := X.below hb
  replace Y := Y.below hb
  clear K1 hb
  obtain ⟨hxl, x0, x1, x2, x3, x4, x5, x6, x7, x8⟩ := X.e9
  obtain ⟨hyl, y0, y1, y2, y3, y4, y5, y6, y7, y8⟩ := Y.e9
  go_wp2_with fail
  refine (K2 _ hB).mono ?_
  rintro e w2 ⟨rfl, hb⟩
  replace hB := below_then hB hb
  replace X := X.below hb
  replace Y := Y.below hb
  clear K2 hb hxl x0 x1 x2 x3 x4 x5 x6 x7 x8 hyl y0 y1 y2 y3 y4 y5 y6 y7 y8
  obtain ⟨hxl, x0, x1, x2, x3, x4, x5, x6, x7, x8⟩ := X.e9
  obtain ⟨hyl, y0, y1, y2, y3, y4, y5, y6, y7, y8⟩ := Y.e9
  go_wp2_with fail
  refine (K3 _ hB).mono ?_
  rintro e w3 ⟨rfl, hb⟩
  replace hB := below_then hB hb
  clear K3 hb hxl x0 x1 x2 x3 x4 x5 x6 x7 x8 hyl y0 y1 y2 y3 y4 y5 y6 y7 y8
  go_wp2
  go_ret
  exact ⟨rfl, hB⟩

/-- A node's slices marked from k on. -/
structure MkN (w : World) (base : Nat) (vl vv vm : Value) (nl nv nm : Nat) (k : Int) : Prop where
  l : w.ownsRow base 34 2 vl nl (flat2 (mkEs k nl))
  v : w.ownsRow base 3 1 vv nv (mkI (k + 2 * nl) nv)
  m : w.ownsRow base 3 1 vm nm (mkI (k + 2 * nl + nv) nm)
theorem MkN.below {w w' : World} {base : Nat} {vl vv vm : Value} {nl nv nm : Nat} {k : Int} (h : MkN w base vl vv vm nl nv nm k) (hb : Below w.heap.size w w') : MkN w' base vl vv vm nl nv nm k := ⟨owns_below h.l hb, owns_below h.v hb, owns_below h.m hb⟩
theorem MkN.chg {w w' : World} {S : Nat → Prop} {base : Nat} {vl vv vm : Value} {nl nv nm : Nat} {k : Int} (h : MkN w base vl vv vm nl nv nm k) (hc : Chg S w w') (hs : ∀ b, NB vl vv vm b → ¬ S b) : MkN w' base vl vv vm nl nv nm k :=
  ⟨hc.owns h.l fun g hg => hs g (.inl hg), hc.owns h.v fun g hg => hs g (.inr (.inl hg)), hc.owns h.m fun g hg => hs g (.inr (.inr hg))⟩
theorem MkN.lt {w : World} {base : Nat} {vl vv vm : Value} {nl nv nm : Nat} {k : Int} (h : MkN w base vl vv vm nl nv nm k) (b : Nat) (hb : NB vl vv vm b) : base ≤ b ∧ b < w.heap.size := by
  rcases hb with hb | hb | hb
  · exact ⟨owns_ge h.l b hb, owns_below_lt h.l b hb⟩
  · exact ⟨owns_ge h.v b hb, owns_below_lt h.v b hb⟩
  · exact ⟨owns_ge h.m b hb, owns_below_lt h.m b hb⟩
theorem OwnN.shapes {w : World} {base : Nat} {vl vv vm : Value} {log : List En} {vs mt : List Int} (h : OwnN w base vl vv vm log vs mt) : (∃ a c, vl = .slice a log.length c) ∧ (∃ a c, vv = .slice a vs.length c) ∧ ∃ a c, vm = .slice a mt.length c := ⟨owns_shape h.l, owns_shape h.v, owns_shape h.m⟩

set_option maxHeartbeats 2000000 in
theorem markNode_own (id pe te vo co ro : Int) (vl vv vm : Value) (log : List En) (vs mt : List Int) (base : Nat) (k : Int) (w : World) (ho : OwnN w base vl vv vm log vs mt) (nl : log.length ≤ 1048576) (nv : vs.length ≤ 1048576) (nm : mt.length ≤ 1048576) (h1 : 1 ≤ k) (h2 : k ≤ 40000000) :
    Calls Try.prog 29 #[.agg #[.int .i64 id, .int .i64 pe, .int .i64 te, .int .i64 vo, vl, .int .i64 co, .int .i64 ro, vv, vm], .int .i64 k] w fun e w' => e = .returned (.int .i64 (k + 2 * log.length + vs.length + mt.length)) ∧ MkN w' base vl vv vm log.length vs.length mt.length k ∧ Chg (fun b => NB vl vv vm b ∨ w.heap.size ≤ b) w w' := by
  have hB := below_alloc w (.cells #[.int .i64 id, .int .i64 pe, .int .i64 te, .int .i64 vo, vl, .int .i64 co, .int .i64 ro, vv, vm] 26)
  have X := Box.new w #[.int .i64 id, .int .i64 pe, .int .i64 te, .int .i64 vo, vl, .int .i64 co, .int .i64 ro, vv, vm] 26
  have n1 := owns_type_ne ho.l ho.v (by decide)
  have n2 := owns_type_ne ho.l ho.m (by decide)
  have n3 := ho.ne
  have hlt := fun b hb => (ho.lt b hb).2
  have K1 := markEntryS_own vl base log k _ (owns_below ho.l hB) nl h1 (by omega)
  have K2 := fun W h => markIntS_own vv base vs.length (vs.map (.int .i64)) (k + 2 * log.length) W h (by simp) nv (by omega) (by omega)
  have K3 := fun W h => markIntS_own vm base mt.length (mt.map (.int .i64)) (k + 2 * log.length + vs.length) W h (by simp) nm (by omega) (by omega)
  have ov := owns_below ho.v hB
  have om := owns_below ho.m hB
  obtain ⟨⟨la, lc, rfl⟩, ⟨va, vc, rfl⟩, ma, mc, rfl⟩ := ho.shapes
  clear ho
  obtain ⟨bl, hbl⟩ : ∃ f : Nat → Prop, f = fun b => NB (.slice la log.length lc) (.slice va vs.length vc) (.slice ma mt.length mc) b ∨ w.heap.size ≤ b := ⟨_, rfl⟩
  have i1 : ∀ b, (Value.slice la log.length lc).ownBlock = some b → bl b := fun b h => by rw [hbl]; exact .inl (.inl h)
  have i2 : ∀ b, (Value.slice va vs.length vc).ownBlock = some b → bl b := fun b h => by rw [hbl]; exact .inl (.inr (.inl h))
  have i3 : ∀ b, (Value.slice ma mt.length mc).ownBlock = some b → bl b := fun b h => by rw [hbl]; exact .inl (.inr (.inr h))
  rw [← hbl]
  have hC : Chg bl w _ := Chg.of_below hB
  have j1 : ∀ b, (Value.slice la log.length lc).ownBlock = some b → b < w.heap.size := fun b h => hlt b (.inl h)
  have j2 : ∀ b, (Value.slice va vs.length vc).ownBlock = some b → b < w.heap.size := fun b h => hlt b (.inr (.inl h))
  clear hbl hlt
  go_enter Try.func29, Try.ntmps29
  go_wp2_with fail
  refine K1.mono ?_
  rintro e w1 ⟨rfl, o1, hc⟩
  replace hC := hC.trans (hc.mono i1)
  replace ov := hc.owns ov (fun g hg hh => n1 g hh hg)
  replace om := hc.owns om (fun g hg hh => n2 g hh hg)
  replace X := hc.box X (fun h => by have := j1 _ h; omega)
  clear K1 hc
  obtain ⟨hxl, x0, x1, x2, x3, x4, x5, x6, x7, x8⟩ := X.e9
  go_wp2_with fail
  refine (K2 _ ov).mono ?_
  rintro e w2 ⟨rfl, o2, hc⟩
  replace hC := hC.trans (hc.mono i2)
  replace o1 := hc.owns o1 (fun g hg hh => n1 g hg hh)
  replace om := hc.owns om (fun g hg hh => n3 g hh hg)
  replace X := hc.box X (fun h => by have := j2 _ h; omega)
  clear K2 hc hxl x0 x1 x2 x3 x4 x5 x6 x7 x8
  obtain ⟨hxl, x0, x1, x2, x3, x4, x5, x6, x7, x8⟩ := X.e9
  go_wp2_with fail
  refine (K3 _ om).mono ?_
  rintro e w3 ⟨rfl, o3, hc⟩
  replace hC := hC.trans (hc.mono i3)
  replace o1 := hc.owns o1 (fun g hg hh => n2 g hg hh)
  replace o2 := hc.owns o2 (fun g hg hh => n3 g hg hh)
  clear K3 hc hxl x0 x1 x2 x3 x4 x5 x6 x7 x8
  go_wp2
  go_ret
  exact ⟨rfl, ⟨o1, o2, o3⟩, hC⟩
set_option maxHeartbeats 2000000 in
theorem heldNode_own (id pe te vo co ro : Int) (vl vv vm : Value) (al av am : Nat) (base : Nat) (k : Int) (w : World) (ho : MkN w base vl vv vm al av am k) (nl : al ≤ 1048576) (nv : av ≤ 1048576) (nm : am ≤ 1048576) (h1 : 1 ≤ k) (h2 : k ≤ 40000000) :
    Calls Try.prog 31 #[.agg #[.int .i64 id, .int .i64 pe, .int .i64 te, .int .i64 vo, vl, .int .i64 co, .int .i64 ro, vv, vm], .int .i64 k] w fun e w' => e = .returned (.int .i64 (k + 2 * al + av + am)) ∧ Below w.heap.size w w' := by
  have hB := below_alloc w (.cells #[.int .i64 id, .int .i64 pe, .int .i64 te, .int .i64 vo, vl, .int .i64 co, .int .i64 ro, vv, vm] 26)
  have X := Box.new w #[.int .i64 id, .int .i64 pe, .int .i64 te, .int .i64 vo, vl, .int .i64 co, .int .i64 ro, vv, vm] 26
  have K1 := heldEntryS_at vl al k _ (ER_of_owns (owns_below ho.l hB) (mkEs_length _ _).symm) nl h1 (by omega)
  have K2 := fun W (h : Below w.heap.size w W) => heldIntS_own vv base av (k + 2 * al) W (owns_below ho.v h) nv (by omega) (by omega)
  have K3 := fun W (h : Below w.heap.size w W) => heldIntS_own vm base am (k + 2 * al + av) W (owns_below ho.m h) nm (by omega) (by omega)
  obtain ⟨la, lc, rfl⟩ := owns_shape ho.l
  obtain ⟨va, vc, rfl⟩ := owns_shape ho.v
  obtain ⟨ma, mc, rfl⟩ := owns_shape ho.m
  clear ho
  have q1 : ¬ k + 2 * (al : Int) < 0 := by omega
  have q2 : ¬ k + 2 * (al : Int) + av < 0 := by omega
  have q3 : ¬ k + 2 * (al : Int) + av + am < 0 := by omega
  go_enter Try.func31, Try.ntmps31
  go_wp2_with fail
  refine K1.mono ?_
  rintro e w1 ⟨rfl, hb⟩
  replace hB := below_then hB hb
  replace X := X.below hb
  clear K1 hb
  obtain ⟨hxl, x0, x1, x2, x3, x4, x5, x6, x7, x8⟩ := X.e9
  go_wp2_with fail
  refine (K2 _ hB).mono ?_
  rintro e w2 ⟨rfl, hw⟩
  subst hw
  clear K2
  go_wp2_with fail
  refine (K3 _ hB).mono ?_
  rintro e w3 ⟨rfl, hw⟩
  subst hw
  clear K3
  go_wp2
  go_ret
  exact ⟨rfl, hB⟩
end Go.Proofs.Ytapfhhmimkkhnaa
