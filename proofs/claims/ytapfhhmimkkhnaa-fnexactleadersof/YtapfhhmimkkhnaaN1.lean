/-
  A node as a struct: the law's own szRaftNode, toRaftNode, eqRaftNode, markRaftNode, heldRaftNode.
-/
import Derived.Test.YtapfhhmimkkhnaaP6
namespace Go.Proofs.Ytapfhhmimkkhnaa
open Go.RowKit
set_option linter.unusedVariables false
set_option maxRecDepth 100000

def put9 (w : World) (b : Nat) (v0 v1 v2 v3 v4 v5 v6 v7 v8 : Value) : World := ((((((((w.setCell ⟨b, 0, none⟩ v0).setCell ⟨b, 1, none⟩ v1).setCell ⟨b, 2, none⟩ v2).setCell ⟨b, 3, none⟩ v3).setCell ⟨b, 4, none⟩ v4).setCell ⟨b, 5, none⟩ v5).setCell ⟨b, 6, none⟩ v6).setCell ⟨b, 7, none⟩ v7).setCell ⟨b, 8, none⟩ v8
theorem put9_chg (w : World) (b : Nat) (v0 v1 v2 v3 v4 v5 v6 v7 v8 : Value) : Chg (· = b) w (put9 w b v0 v1 v2 v3 v4 v5 v6 v7 v8) := by
  unfold put9
  iterate 9 (refine Chg.setCell (S := fun k => k = b) ?_ rfl _)
  exact Chg.refl _ _
theorem put9_box {w : World} {b : Nat} {u0 u1 u2 u3 u4 u5 u6 u7 u8 : Value} (h : Box w b [u0, u1, u2, u3, u4, u5, u6, u7, u8]) (v0 v1 v2 v3 v4 v5 v6 v7 v8 : Value) : Box (put9 w b v0 v1 v2 v3 v4 v5 v6 v7 v8) b [v0, v1, v2, v3, v4, v5, v6, v7, v8] :=
  ((((((((h.set 0 v0 (by simp)).set 1 v1 (by simp)).set 2 v2 (by simp)).set 3 v3 (by simp)).set 4 v4 (by simp)).set 5 v5 (by simp)).set 6 v6 (by simp)).set 7 v7 (by simp)).set 8 v8 (by simp)
theorem Box.f9 {w : World} {b : Nat} {v0 v1 v2 v3 v4 v5 v6 v7 v8 : Value} (h : Box w b [v0, v1, v2, v3, v4, v5, v6, v7, v8]) : w.frozen? ⟨b, 0, none⟩ = false ∧ w.frozen? ⟨b, 1, none⟩ = false ∧ w.frozen? ⟨b, 2, none⟩ = false ∧ w.frozen? ⟨b, 3, none⟩ = false ∧ w.frozen? ⟨b, 4, none⟩ = false ∧ w.frozen? ⟨b, 5, none⟩ = false ∧ w.frozen? ⟨b, 6, none⟩ = false ∧ w.frozen? ⟨b, 7, none⟩ = false ∧ w.frozen? ⟨b, 8, none⟩ = false :=
  ⟨h.2.2 0, h.2.2 1, h.2.2 2, h.2.2 3, h.2.2 4, h.2.2 5, h.2.2 6, h.2.2 7, h.2.2 8⟩

/-- A node's slices, rows of one's own from base on, the votes and the match apart. -/
structure OwnN (w : World) (base : Nat) (vl vv vm : Value) (log : List En) (vs mt : List Int) : Prop where
  l : w.ownsRow base 34 2 vl log.length (flat2 log)
  v : w.ownsRow base 3 1 vv vs.length (vs.map (.int .i64))
  m : w.ownsRow base 3 1 vm mt.length (mt.map (.int .i64))
  ne : ∀ g, vv.ownBlock = some g → vm.ownBlock ≠ some g
/-- The blocks of a node's slices. -/
def NB (vl vv vm : Value) (b : Nat) : Prop := vl.ownBlock = some b ∨ vv.ownBlock = some b ∨ vm.ownBlock = some b
theorem OwnN.below {w w' : World} {base : Nat} {vl vv vm : Value} {log : List En} {vs mt : List Int} (h : OwnN w base vl vv vm log vs mt) (hb : Below w.heap.size w w') : OwnN w' base vl vv vm log vs mt := ⟨owns_below h.l hb, owns_below h.v hb, owns_below h.m hb, h.ne⟩
theorem OwnN.chg {w w' : World} {S : Nat → Prop} {base : Nat} {vl vv vm : Value} {log : List En} {vs mt : List Int} (h : OwnN w base vl vv vm log vs mt) (hc : Chg S w w') (hs : ∀ b, NB vl vv vm b → ¬ S b) : OwnN w' base vl vv vm log vs mt :=
  ⟨hc.owns h.l fun g hg => hs g (.inl hg), hc.owns h.v fun g hg => hs g (.inr (.inl hg)), hc.owns h.m fun g hg => hs g (.inr (.inr hg)), h.ne⟩
theorem OwnN.mono {w : World} {base base' : Nat} {vl vv vm : Value} {log : List En} {vs mt : List Int} (h : OwnN w base vl vv vm log vs mt) (hb : base' ≤ base) : OwnN w base' vl vv vm log vs mt := ⟨owns_mono' h.l hb, owns_mono' h.v hb, owns_mono' h.m hb, h.ne⟩
theorem OwnN.lt {w : World} {base : Nat} {vl vv vm : Value} {log : List En} {vs mt : List Int} (h : OwnN w base vl vv vm log vs mt) (b : Nat) (hb : NB vl vv vm b) : base ≤ b ∧ b < w.heap.size := by
  rcases hb with hb | hb | hb
  · exact ⟨owns_ge h.l b hb, owns_below_lt h.l b hb⟩
  · exact ⟨owns_ge h.v b hb, owns_below_lt h.v b hb⟩
  · exact ⟨owns_ge h.m b hb, owns_below_lt h.m b hb⟩
theorem OwnN.er {w : World} {base : Nat} {vl vv vm : Value} {log : List En} {vs mt : List Int} (h : OwnN w base vl vv vm log vs mt) : ER w vl log := ER_of_owns h.l rfl
theorem OwnN.iv {w : World} {base : Nat} {vl vv vm : Value} {log : List En} {vs mt : List Int} (h : OwnN w base vl vv vm log vs mt) : IL w vv vs := IL_of_owns h.v rfl
theorem OwnN.im {w : World} {base : Nat} {vl vv vm : Value} {log : List En} {vs mt : List Int} (h : OwnN w base vl vv vm log vs mt) : IL w vm mt := IL_of_owns h.m rfl
theorem OwnN.nil (w : World) (base : Nat) : OwnN w base (.slice none 0 0) (.slice none 0 0) (.slice none 0 0) [] [] [] := ⟨World.ownsRow_nil _ _ _ _, World.ownsRow_nil _ _ _ _, World.ownsRow_nil _ _ _ _, fun g hg => by simp [Value.ownBlock] at hg⟩

set_option maxHeartbeats 2000000 in
theorem szNode_any (id pe te vo co ro : Int) (vl vv vm : Value) (log : List En) (vs mt : List Int) (w : World) (hl : ER w vl log) (hv : IL w vv vs) (hm : IL w vm mt) (nl : log.length ≤ maxLen) (nv : vs.length ≤ maxLen) (nm : mt.length ≤ maxLen) (ns : ∀ i (h : i < log.length), log[i].d.size ≤ maxLen) :
    Calls Try.prog 23 #[.agg #[.int .i64 id, .int .i64 pe, .int .i64 te, .int .i64 vo, vl, .int .i64 co, .int .i64 ro, vv, vm], .int .i64 1048576] w fun e w' => (∃ r : Int, e = .returned (.int .i64 r) ∧ (r = -1 ∨ (0 ≤ r ∧ (tot2 log : Int) + log.length + vs.length + mt.length + r = 1048576))) ∧ Below w.heap.size w w' := by
  have hB := below_alloc w (.cells #[.int .i64 id, .int .i64 pe, .int .i64 te, .int .i64 vo, vl, .int .i64 co, .int .i64 ro, vv, vm] 49)
  have X := Box.new w #[.int .i64 id, .int .i64 pe, .int .i64 te, .int .i64 vo, vl, .int .i64 co, .int .i64 ro, vv, vm] 49
  have K1 := szEntryS_any vl log 1048576 _ (hl.below hB) (by omega) (by omega) nl ns
  have K2 := fun left W (h : Below w.heap.size w W) h0 h1 => szIntS_any vv vs left W (hv.below h) h0 h1 nv
  have K3 := fun left W (h : Below w.heap.size w W) h0 h1 => szIntS_any vm mt left W (hm.below h) h0 h1 nm
  obtain ⟨la, lc, rfl, hlc⟩ := hl
  obtain ⟨va, vc, rfl, hvc⟩ := hv
  obtain ⟨ma, mc, rfl, hmc⟩ := hm
  clear hlc hvc hmc ns
  go_enter Try.func23, Try.ntmps23
  go_wp2_with fail
  refine K1.mono ?_
  rintro e w1 ⟨⟨r, rfl, hr⟩, hb⟩
  replace hB := below_then hB hb
  replace X := X.below hb
  clear hb K1
  obtain ⟨hxl, x0, x1, x2, x3, x4, x5, x6, x7, x8⟩ := X.e9
  rcases hr with rfl | ⟨hr0, hr1⟩
  · clear K2 K3
    go_wp2
    go_ret
    exact ⟨⟨-1, rfl, .inl rfl⟩, hB⟩
  have L1 := K2 r _ hB hr0 (by omega)
  have HE : Hid ((tot2 log : Int) + log.length + r = 1048576) := hr1
  have hr2 : ¬ r < 0 := by omega
  have hr3 : r ≤ 1048576 := by omega
  clear hr1 K2
  go_wp2_with fail
  refine L1.mono ?_
  rintro e w2 ⟨rfl, hw⟩
  subst hw
  clear L1
  by_cases c1 : (vs.length : Int) ≤ r
  rotate_left
  · rw [if_neg c1]
    clear K3
    go_wp2
    go_ret
    exact ⟨⟨-1, rfl, .inl rfl⟩, hB⟩
  rw [if_pos c1]
  have L2 := K3 (r - vs.length) _ hB (by omega) (by omega)
  obtain ⟨r2, hr4⟩ : ∃ r2, r2 = r - (vs.length : Int) := ⟨_, rfl⟩
  rw [← hr4] at L2 ⊢
  have HE2 : Hid (r2 = r - (vs.length : Int)) := hr4
  have hr5 : ¬ r2 < 0 := by omega
  clear hr4 K3
  go_wp2_with fail
  refine L2.mono ?_
  rintro e w3 ⟨rfl, hw⟩
  subst hw
  clear L2
  by_cases c2 : (mt.length : Int) ≤ r2
  · rw [if_pos c2]
    have hr6 : ¬ r2 - (mt.length : Int) < 0 := by omega
    go_wp2
    go_ret
    exact ⟨⟨_, rfl, .inr ⟨by omega, by have := HE.out; have := HE2.out; omega⟩⟩, hB⟩
  · rw [if_neg c2]
    go_wp2
    go_ret
    exact ⟨⟨-1, rfl, .inl rfl⟩, hB⟩

set_option maxHeartbeats 4000000 in
theorem toNode_any (id pe te vo co ro : Int) (vl vv vm : Value) (log : List En) (vs mt : List Int) (w : World) (hl : ER w vl log) (hv : IL w vv vs) (hm : IL w vm mt) (nl : log.length ≤ 1048576) (nv : vs.length ≤ 1048576) (nm : mt.length ≤ 1048576) :
    Calls Try.prog 25 #[.agg #[.int .i64 id, .int .i64 pe, .int .i64 te, .int .i64 vo, vl, .int .i64 co, .int .i64 ro, vv, vm]] w fun e w' => ∃ g1 g2 g3, e = .returned (.agg #[.int .i64 id, .int .i64 pe, .int .i64 te, .int .i64 vo, .slice (some ⟨g1, 0, none⟩) log.length log.length, .int .i64 co, .int .i64 ro, .slice (some ⟨g2, 0, none⟩) vs.length vs.length, .slice (some ⟨g3, 0, none⟩) mt.length mt.length]) ∧ OwnN w' w.heap.size (.slice (some ⟨g1, 0, none⟩) log.length log.length) (.slice (some ⟨g2, 0, none⟩) vs.length vs.length) (.slice (some ⟨g3, 0, none⟩) mt.length mt.length) log vs mt ∧ Below w.heap.size w w' := by
  obtain ⟨W0, hW0⟩ : ∃ W0, W0 = ((w.alloc (.cells #[.int .i64 id, .int .i64 pe, .int .i64 te, .int .i64 vo, vl, .int .i64 co, .int .i64 ro, vv, vm] 49)).alloc (.cells #[.int .i64 0, .int .i64 0, .int .i64 0, .int .i64 0, .slice none 0 0, .int .i64 0, .int .i64 0, .slice none 0 0, .slice none 0 0] 26)).alloc (.cells #[.int .i64 id, .int .i64 pe, .int .i64 te, .int .i64 vo, .slice none 0 0, .int .i64 0, .int .i64 0, .slice none 0 0, .slice none 0 0] 26) := ⟨_, rfl⟩
  have hB : Below w.heap.size w W0 := by rw [hW0]; exact below3 _ _ _ _
  have K1 := toEntryS_any vl log _ (hl.below hB) nl
  have K2 := fun W (h : Below w.heap.size w W) => toIntS_any vv vs W (hv.below h) nv
  have K3 := fun W (h : Below w.heap.size w W) => toIntS_any vm mt W (hm.below h) nm
  obtain ⟨la, lc, rfl, hlc⟩ := hl
  obtain ⟨va, vc, rfl, hvc⟩ := hv
  obtain ⟨ma, mc, rfl, hmc⟩ := hm
  clear hlc hvc hmc
  have X0 : Box W0 w.heap.size [.int .i64 id, .int .i64 pe, .int .i64 te, .int .i64 vo, .slice la log.length lc, .int .i64 co, .int .i64 ro, .slice va vs.length vc, .slice ma mt.length mc] := by
    rw [hW0]
    exact ((Box.new w #[.int .i64 id, .int .i64 pe, .int .i64 te, .int .i64 vo, .slice la log.length lc, .int .i64 co, .int .i64 ro, .slice va vs.length vc, .slice ma mt.length mc] 49).alloc _).alloc _
  have X1 : Box W0 (w.heap.size + 1) [.int .i64 0, .int .i64 0, .int .i64 0, .int .i64 0, .slice none 0 0, .int .i64 0, .int .i64 0, .slice none 0 0, .slice none 0 0] := by
    rw [hW0]
    have := (Box.new (w.alloc (.cells #[.int .i64 id, .int .i64 pe, .int .i64 te, .int .i64 vo, .slice la log.length lc, .int .i64 co, .int .i64 ro, .slice va vs.length vc, .slice ma mt.length mc] 49)) #[.int .i64 0, .int .i64 0, .int .i64 0, .int .i64 0, .slice none 0 0, .int .i64 0, .int .i64 0, .slice none 0 0, .slice none 0 0] 26).alloc (.cells #[.int .i64 id, .int .i64 pe, .int .i64 te, .int .i64 vo, .slice none 0 0, .int .i64 0, .int .i64 0, .slice none 0 0, .slice none 0 0] 26)
    simpa using this
  have X2 : Box W0 (w.heap.size + 1 + 1) [.int .i64 id, .int .i64 pe, .int .i64 te, .int .i64 vo, .slice none 0 0, .int .i64 0, .int .i64 0, .slice none 0 0, .slice none 0 0] := by
    rw [hW0]
    have := Box.new ((w.alloc (.cells #[.int .i64 id, .int .i64 pe, .int .i64 te, .int .i64 vo, .slice la log.length lc, .int .i64 co, .int .i64 ro, .slice va vs.length vc, .slice ma mt.length mc] 49)).alloc (.cells #[.int .i64 0, .int .i64 0, .int .i64 0, .int .i64 0, .slice none 0 0, .int .i64 0, .int .i64 0, .slice none 0 0, .slice none 0 0] 26)) #[.int .i64 id, .int .i64 pe, .int .i64 te, .int .i64 vo, .slice none 0 0, .int .i64 0, .int .i64 0, .slice none 0 0, .slice none 0 0] 26
    simpa using this
  have hz0 : W0.heap.size = w.heap.size + 1 + 1 + 1 := by rw [hW0]; simp
  rw [hz0] at K1
  go_enter Try.func25, Try.ntmps25
  go_wp2_with fail
  rw [← hW0]
  refine K1.mono ?_
  rintro e w1 ⟨rfl, o1, hb⟩
  rw [← hz0] at hb
  replace X0 := X0.below hb
  replace X1 := X1.below hb
  replace X2 := X2.below hb
  have hB1 := below_then hB hb
  clear hb hB K1 hz0 hW0 W0
  obtain ⟨G1, hG1⟩ : ∃ G1, G1 = w.heap.size + 1 + 1 + 1 := ⟨_, rfl⟩
  rw [← hG1] at o1 ⊢
  have hG1a : w.heap.size + 1 + 1 + 1 ≤ G1 := by omega
  have hg1 := owns_lt o1
  clear hG1
  have hz1 := hB1.size
  obtain ⟨hxl, x0, x1, x2, x3, x4, x5, x6, x7, x8⟩ := X0.e9
  obtain ⟨hyl, y0, y1, y2, y3, y4, y5, y6, y7, y8⟩ := X2.e9
  obtain ⟨f0, f1, f2, f3, f4, f5, f6, f7, f8⟩ := X2.f9
  obtain ⟨S1, hS1⟩ : ∃ S1, S1 = Value.slice (some ⟨G1, 0, none⟩) log.length log.length := ⟨_, rfl⟩
  obtain ⟨W1, hW1⟩ : ∃ W1, W1 = ((w1.setCell ⟨w.heap.size + 1 + 1, 4, none⟩ S1).setCell ⟨w.heap.size + 1 + 1, 5, none⟩ (.int .i64 co)).setCell ⟨w.heap.size + 1 + 1, 6, none⟩ (.int .i64 ro) := ⟨_, rfl⟩
  have hC1 : Chg (fun k => k = w.heap.size + 1 + 1) w1 W1 := by
    rw [hW1]
    iterate 3 (refine Chg.setCell (S := fun k => k = w.heap.size + 1 + 1) ?_ rfl _)
    exact Chg.refl _ _
  have hBs : Below w.heap.size w W1 := hB1.trans (hC1.below (B := w.heap.size) hz1 (fun k hk => by omega))
  have hzS : W1.heap.size = w1.heap.size := by rw [hW1]; simp
  have K := K2 W1 hBs
  rw [hzS] at K
  have X0s := hC1.box X0 (by omega)
  have X1s := hC1.box X1 (by omega)
  have X2s : Box W1 (w.heap.size + 1 + 1) [.int .i64 id, .int .i64 pe, .int .i64 te, .int .i64 vo, S1, .int .i64 co, .int .i64 ro, .slice none 0 0, .slice none 0 0] := by rw [hW1]; exact ((X2.set 4 S1 (by simp)).set 5 (.int .i64 co) (by simp)).set 6 (.int .i64 ro) (by simp)
  have o1s : W1.ownsRow (w.heap.size + 1 + 1 + 1) 34 2 S1 log.length (flat2 log) := by
    rw [hS1]
    refine hC1.owns (owns_mono' o1 (by omega)) fun b hb hh => ?_
    have : b = G1 := by simpa [Value.ownBlock] using hb.symm
    omega
  clear K2 o1 hB1 hC1
  rw [hS1] at hW1
  go_wp2_with fail
  rw [← hW1]
  refine K.mono ?_
  rintro e w2 ⟨rfl, o2, hb2⟩
  rw [← hzS] at hb2
  replace X0 := X0s.below hb2
  replace X1 := X1s.below hb2
  replace X2 := X2s.below hb2
  replace o1s := owns_below o1s hb2
  have hB2 := below_then hBs hb2
  have hg2 := owns_lt o2
  clear K hb2 hBs X0s X1s X2s hW1 hzS x0 x1 x2 x3 x4 x5 x6 x7 x8 hxl y0 y1 y2 y3 y4 y5 y6 y7 y8 hyl f0 f1 f2 f3 f4 f5 f6 f7 f8
  clear W1
  obtain ⟨G2, hG2⟩ : ∃ G2, G2 = w1.heap.size := ⟨_, rfl⟩
  rw [← hG2] at o2 hg2 ⊢
  have hG2a : w1.heap.size ≤ G2 := by omega
  clear hG2
  have hz2 := hB2.size
  obtain ⟨hxl, x0, x1, x2, x3, x4, x5, x6, x7, x8⟩ := X0.e9
  obtain ⟨hyl, y0, y1, y2, y3, y4, y5, y6, y7, y8⟩ := X2.e9
  obtain ⟨f0, f1, f2, f3, f4, f5, f6, f7, f8⟩ := X2.f9
  obtain ⟨S2, hS2⟩ : ∃ S2, S2 = Value.slice (some ⟨G2, 0, none⟩) vs.length vs.length := ⟨_, rfl⟩
  obtain ⟨W2, hW2⟩ : ∃ W2, W2 = w2.setCell ⟨w.heap.size + 1 + 1, 7, none⟩ S2 := ⟨_, rfl⟩
  have hC2 : Chg (fun k => k = w.heap.size + 1 + 1) w2 W2 := by rw [hW2]; exact Chg.setCell (S := fun k => k = w.heap.size + 1 + 1) (Chg.refl _ _) rfl _
  have hBs : Below w.heap.size w W2 := hB2.trans (hC2.below (B := w.heap.size) hz2 (fun k hk => by omega))
  have hzS : W2.heap.size = w2.heap.size := by rw [hW2]; simp
  have K := K3 W2 hBs
  rw [hzS] at K
  have X0s := hC2.box X0 (by omega)
  have X1s := hC2.box X1 (by omega)
  have X2s : Box W2 (w.heap.size + 1 + 1) [.int .i64 id, .int .i64 pe, .int .i64 te, .int .i64 vo, S1, .int .i64 co, .int .i64 ro, S2, .slice none 0 0] := by rw [hW2]; exact X2.set 7 S2 (by simp)
  have o1t : W2.ownsRow (w.heap.size + 1 + 1 + 1) 34 2 S1 log.length (flat2 log) := by
    refine hC2.owns o1s fun b hb hh => ?_
    have : b = G1 := by rw [hS1] at hb; simpa [Value.ownBlock] using hb.symm
    omega
  have o2s : W2.ownsRow (w.heap.size + 1 + 1 + 1) 3 1 S2 vs.length (vs.map (.int .i64)) := by
    rw [hS2]
    refine hC2.owns (owns_mono' o2 (by omega)) fun b hb hh => ?_
    have : b = G2 := by simpa [Value.ownBlock] using hb.symm
    omega
  clear K3 o1s o2 hB2 hC2
  rw [hS2] at hW2
  go_wp2_with fail
  rw [← hW2]
  refine K.mono ?_
  rintro e w3 ⟨rfl, o3, hb3⟩
  rw [← hzS] at hb3
  replace X1 := X1s.below hb3
  replace X2 := X2s.below hb3
  replace o1t := owns_below o1t hb3
  replace o2s := owns_below o2s hb3
  have hB3 := below_then hBs hb3
  have hg3 := owns_lt o3
  clear K hb3 hBs X0s X1s X2s hW2 hzS x0 x1 x2 x3 x4 x5 x6 x7 x8 hxl y0 y1 y2 y3 y4 y5 y6 y7 y8 hyl f0 f1 f2 f3 f4 f5 f6 f7 f8 X0
  clear W2
  obtain ⟨G3, hG3⟩ : ∃ G3, G3 = w2.heap.size := ⟨_, rfl⟩
  rw [← hG3] at o3 hg3 ⊢
  have hG3a : w2.heap.size ≤ G3 := by omega
  clear hG3
  have hz3 := hB3.size
  obtain ⟨hyl, y0, y1, y2, y3, y4, y5, y6, y7, y8⟩ := X2.e9
  obtain ⟨f0, f1, f2, f3, f4, f5, f6, f7, f8⟩ := X2.f9
  obtain ⟨hrl, q0, q1, q2, q3, q4, q5, q6, q7, q8⟩ := X1.e9
  obtain ⟨h0, h1, h2, h3, h4, h5, h6, h7, h8⟩ := X1.f9
  obtain ⟨S3, hS3⟩ : ∃ S3, S3 = Value.slice (some ⟨G3, 0, none⟩) mt.length mt.length := ⟨_, rfl⟩
  have hCa : Chg (fun k => k = w.heap.size + 1 + 1) w3 (w3.setCell ⟨w.heap.size + 1 + 1, 8, none⟩ S3) := Chg.setCell (S := fun k => k = w.heap.size + 1 + 1) (Chg.refl _ _) rfl _
  have hCb := put9_chg (w3.setCell ⟨w.heap.size + 1 + 1, 8, none⟩ S3) (w.heap.size + 1) (.int .i64 id) (.int .i64 pe) (.int .i64 te) (.int .i64 vo) S1 (.int .i64 co) (.int .i64 ro) S2 S3
  have Z := put9_box (hCa.box X1 (by omega)) (.int .i64 id) (.int .i64 pe) (.int .i64 te) (.int .i64 vo) S1 (.int .i64 co) (.int .i64 ro) S2 S3
  have hC : Chg (fun k => k = w.heap.size + 1 + 1 ∨ k = w.heap.size + 1) w3 _ := (hCa.mono fun k hk => Or.inl hk).trans (hCb.mono fun k hk => Or.inr hk)
  have O : OwnN w3 w.heap.size S1 S2 S3 log vs mt := by
    refine ⟨owns_mono' o1t (by omega), owns_mono' o2s (by omega), ?_, ?_⟩
    · rw [hS3]; exact owns_mono' o3 (by omega)
    · intro g hg hg'
      rw [hS2] at hg
      rw [hS3] at hg'
      simp only [Value.ownBlock, Option.some.injEq] at hg hg'
      omega
  have O' := O.chg hC (by
    intro b hb hh
    rw [hS1, hS2, hS3] at hb
    simp only [NB, Value.ownBlock, Option.some.injEq] at hb
    omega)
  have hBE := hB3.trans (hC.below (B := w.heap.size) hz3 (fun k hk => by omega))
  clear hCa hCb hC O o1t o2s o3 hB3 X1 X2
  subst hS1 hS2 hS3
  obtain ⟨hzl, t0, t1, t2, t3, t4, t5, t6, t7, t8⟩ := Z.e9
  clear Z
  unfold put9 at *
  go_wp2
  exact bodyPost_ret (v := .agg #[.int .i64 id, .int .i64 pe, .int .i64 te, .int .i64 vo, .slice (some ⟨G1, 0, none⟩) log.length log.length, .int .i64 co, .int .i64 ro, .slice (some ⟨G2, 0, none⟩) vs.length vs.length, .slice (some ⟨G3, 0, none⟩) mt.length mt.length]) (by simp [results, Try.results25, go_sem, t0, t1, t2, t3, t4, t5, t6, t7, t8]) rfl ⟨_, _, _, rfl, O', hBE⟩
end Go.Proofs.Ytapfhhmimkkhnaa
