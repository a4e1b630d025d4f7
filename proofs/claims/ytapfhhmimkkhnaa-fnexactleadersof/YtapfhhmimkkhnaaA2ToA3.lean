/-
  slices.Clone of entries and of numbers; a node copied: copyNode, following, l11Own, l11Follow.
  A node copied: copyNode, following; l11Own, l11Follow.
-/
import Derived.Test.YtapfhhmimkkhnaaN2ToA1
import Derived.Laws.OwnMore
namespace Go.Proofs.Ytapfhhmimkkhnaa
open Go.RowKit Go.Maps
set_option linter.unusedVariables false
set_option maxRecDepth 100000

def StopA (p : Prop) : Prop := p
theorem StopA.go {p : Prop} (h : StopA p) : p := h
/-- A slice without an array has no room. -/
def Nn (v : Value) : Prop := ∀ n c, v = .slice none n c → n = 0 ∧ c = 0
theorem Nn.own {w : World} {base : Nat} {e : TypeId} {size : Nat} {v : Value} {n : Nat} {xs : List Value} (h : w.ownsRow base e size v n xs) : Nn v := by
  intro m c hv
  rcases h.2 with ⟨h1, _⟩ | ⟨g, cap, cur, h1, _⟩
  · rw [h1] at hv; simp at hv; omega
  · rw [h1] at hv; simp at hv
theorem grown_below {w W w' : World} {B g : Nat} (hb : Below B W w) (hg : w.grownBy w' (some g)) (hB : B ≤ w.heap.size) (h : B ≤ g) : Below B W w' := hb.grown hg hB (fun k hk => by cases hk; exact h)

theorem eqnil_0 (w : World) : (binOp .eql 23 (.slice none 0 0) (.slice none 0 0)).run Try.prog w = .ok (.bool true) w := by kernel_rfl
theorem eqnil_1 (ad : Addr) (n c : Nat) (w : World) : (binOp .eql 23 (.slice (some ad) n c) (.slice none 0 0)).run Try.prog w = .ok (.bool false) w := by kernel_rfl
theorem eqnil_2 (w : World) : (binOp .eql 24 (.slice none 0 0) (.slice none 0 0)).run Try.prog w = .ok (.bool true) w := by kernel_rfl
theorem eqnil_3 (ad : Addr) (n c : Nat) (w : World) : (binOp .eql 24 (.slice (some ad) n c) (.slice none 0 0)).run Try.prog w = .ok (.bool false) w := by kernel_rfl
set_option maxHeartbeats 2000000 in
theorem cloneE_any (v : Value) (l : List En) (w : World) (hv : ER w v l) (hs : Nn v) (hn : l.length ≤ 1048576) :
    Calls Try.prog 67 #[v] w fun e w' => ∃ u, e = .returned u ∧ w'.ownsRow w.heap.size 34 2 u l.length (flat2 l) ∧ Below w.heap.size w w' := by
  have hv0 := hv
  obtain ⟨a, cap, rfl, hc⟩ := hv
  cases a with
  | none =>
    have hl : l = [] := by
      by_cases e : l = []
      · exact e
      · obtain ⟨b, off, h, _⟩ := hc e; cases h
    obtain ⟨_, rfl⟩ := hs _ _ rfl
    subst hl
    clear hc hv0 hs
    have EN := eqnil_0
    go_enter Try.func67, Try.ntmps67
    go_wp2
    go_ret
    exact ⟨_, rfl, World.ownsRow_nil _ _ _ _, Below.refl _ _⟩
  | some ad =>
    have o0 : (w.alloc (.cells #[] 34)).ownsRow w.heap.size 34 2 (.slice (some ⟨w.heap.size, 0, none⟩) 0 0) 0 (flat2 []) := World.ownsRow_lit w #[] 0 (Nat.le_refl _) (by simp [maxLen]) (by simp)
    have hB := below_alloc w (.cells #[] 34)
    have h1 := hv0.below hB
    clear hc hv0 hs
    have EN := eqnil_1 ad l.length cap
    go_enter Try.func67, Try.ntmps67
    go_wp2_with (at_builtin; refine wpList_append_ent _ rfl _ _ rfl rfl w.heap.size _ 0 [] rfl o0 _ l rfl h1 (by omega) (by simp) ?_; intro v' w' hown hgr; refine StopA.go ?_)
    have hB2 := grown_below hB hgr (by simp) (Nat.le_refl _)
    simp only [Nat.zero_add, List.nil_append] at hown
    obtain ⟨ua, uc, rfl⟩ := owns_shape hown
    clear hgr o0 h1 hB
    unfold StopA
    go_wp2
    go_ret
    exact ⟨_, rfl, hown, hB2⟩
set_option maxHeartbeats 2000000 in
theorem cloneI_any (v : Value) (l : List Int) (w : World) (hv : IL w v l) (hs : Nn v) (hn : l.length ≤ 1048576) :
    Calls Try.prog 112 #[v] w fun e w' => ∃ u, e = .returned u ∧ w'.ownsRow w.heap.size 3 1 u l.length (l.map (.int .i64)) ∧ Below w.heap.size w w' := by
  have hv0 := hv
  obtain ⟨a, cap, rfl, hc⟩ := hv
  cases a with
  | none =>
    have hl : l = [] := by
      by_cases e : l = []
      · exact e
      · obtain ⟨b, off, h, _⟩ := hc e; cases h
    obtain ⟨_, rfl⟩ := hs _ _ rfl
    subst hl
    clear hc hv0 hs
    have EN := eqnil_2
    go_enter Try.func112, Try.ntmps112
    go_wp2
    go_ret
    exact ⟨_, rfl, World.ownsRow_nil _ _ _ _, Below.refl _ _⟩
  | some ad =>
    have o0 : (w.alloc (.cells #[] 3)).ownsRow w.heap.size 3 1 (.slice (some ⟨w.heap.size, 0, none⟩) 0 0) 0 (([] : List Int).map (.int .i64)) := World.ownsRow_lit w #[] 0 (Nat.le_refl _) (by simp [maxLen]) (by simp)
    have hB := below_alloc w (.cells #[] 3)
    have h1 := hv0.below hB
    clear hc hv0 hs
    have EN := eqnil_3 ad l.length cap
    go_enter Try.func112, Try.ntmps112
    go_wp2_with (at_builtin; refine wpList_append_int _ rfl _ _ rfl rfl w.heap.size _ 0 [] rfl o0 _ l rfl h1 (by omega) (by simp) ?_; intro v' w' hown hgr; refine StopA.go ?_)
    have hB2 := grown_below hB hgr (by simp) (Nat.le_refl _)
    simp only [Nat.zero_add, List.nil_append] at hown
    obtain ⟨ua, uc, rfl⟩ := owns_shape hown
    clear hgr o0 h1 hB
    unfold StopA
    go_wp2
    go_ret
    exact ⟨_, rfl, hown, hB2⟩
end Go.Proofs.Ytapfhhmimkkhnaa

namespace Go.Proofs.Ytapfhhmimkkhnaa
open Go.RowKit Go.Maps
set_option linter.unusedVariables false
set_option maxRecDepth 100000

set_option maxHeartbeats 4000000 in
theorem copyNode_any (id pe te vo co ro : Int) (vl vv vm : Value) (log : List En) (vs mt : List Int) (w : World) (hl : ER w vl log) (hv : IL w vv vs) (hm : IL w vm mt) (sl : Nn vl) (sv : Nn vv) (sm : Nn vm) (nl : log.length ≤ 1048576) (nv : vs.length ≤ 1048576) (nm : mt.length ≤ 1048576) :
    Calls Try.prog 57 #[.agg #[.int .i64 id, .int .i64 pe, .int .i64 te, .int .i64 vo, vl, .int .i64 co, .int .i64 ro, vv, vm]] w fun e w' => ∃ ul uv um, e = .returned (.agg #[.int .i64 id, .int .i64 pe, .int .i64 te, .int .i64 vo, ul, .int .i64 co, .int .i64 ro, uv, um]) ∧ OwnN w' w.heap.size ul uv um log vs mt ∧ Below w.heap.size w w' := by
  obtain ⟨W0, hW0⟩ : ∃ W0, W0 = (w.alloc (.cells #[.int .i64 id, .int .i64 pe, .int .i64 te, .int .i64 vo, vl, .int .i64 co, .int .i64 ro, vv, vm] 26)).alloc (.cells #[.int .i64 0, .int .i64 0, .int .i64 0, .int .i64 0, .slice none 0 0, .int .i64 0, .int .i64 0, .slice none 0 0, .slice none 0 0] 26) := ⟨_, rfl⟩
  have hB : Below w.heap.size w W0 := by rw [hW0]; exact below2 _ _ _
  have hz00 : w.heap.size + 1 + 1 ≤ W0.heap.size := by rw [hW0]; simp
  have X : Box W0 w.heap.size [.int .i64 id, .int .i64 pe, .int .i64 te, .int .i64 vo, vl, .int .i64 co, .int .i64 ro, vv, vm] := by rw [hW0]; exact (Box.new w #[.int .i64 id, .int .i64 pe, .int .i64 te, .int .i64 vo, vl, .int .i64 co, .int .i64 ro, vv, vm] 26).alloc _
  have Y : Box W0 (w.heap.size + 1) [.int .i64 0, .int .i64 0, .int .i64 0, .int .i64 0, .slice none 0 0, .int .i64 0, .int .i64 0, .slice none 0 0, .slice none 0 0] := by
    rw [hW0]
    have := Box.new (w.alloc (.cells #[.int .i64 id, .int .i64 pe, .int .i64 te, .int .i64 vo, vl, .int .i64 co, .int .i64 ro, vv, vm] 26)) #[.int .i64 0, .int .i64 0, .int .i64 0, .int .i64 0, .slice none 0 0, .int .i64 0, .int .i64 0, .slice none 0 0, .slice none 0 0] 26
    simpa using this
  have K1 := cloneE_any vl log _ (hl.below hB) sl nl
  have K2 := fun W (h : Below w.heap.size w W) => cloneI_any vv vs W (hv.below h) sv nv
  have K3 := fun W (h : Below w.heap.size w W) => cloneI_any vm mt W (hm.below h) sm nm
  obtain ⟨la, lc, rfl, hlc⟩ := hl
  obtain ⟨va, vc, rfl, hvc⟩ := hv
  obtain ⟨ma, mc, rfl, hmc⟩ := hm
  clear hlc hvc hmc sl sv sm
  obtain ⟨xl, x0, x1, x2, x3, x4, x5, x6, x7, x8⟩ := X.e9
  obtain ⟨f0, f1, f2, f3, f4, f5, f6, f7, f8⟩ := X.f9
  go_enter Try.func57, Try.ntmps57
  go_wp2_with fail
  rw [← hW0]; clear hW0
  refine K1.mono ?_
  rintro e w1 ⟨u0, rfl, o1, hb⟩
  clear K1
  have hzb := hB.size
  replace hB := below_then hB hb
  replace X := X.below hb
  replace Y := Y.below hb
  clear xl x0 x1 x2 x3 x4 x5 x6 x7 x8 f0 f1 f2 f3 f4 f5 f6 f7 f8
  have g0 := owns_ge o1
  have l0 := owns_below_lt o1
  have hz0 := hb.size
  clear hb
  obtain ⟨ua, uc, rfl⟩ := owns_shape o1
  obtain ⟨xl, x0, x1, x2, x3, x4, x5, x6, x7, x8⟩ := X.e9
  obtain ⟨f0, f1, f2, f3, f4, f5, f6, f7, f8⟩ := X.f9
  obtain ⟨W1, hW1⟩ : ∃ W, W = w1.setCell ⟨w.heap.size, 4, none⟩ (.slice ua log.length uc) := ⟨_, rfl⟩
  have hC : Chg (fun k => k = w.heap.size) w1 W1 := by rw [hW1]; exact Chg.setCell (S := fun k => k = w.heap.size) (Chg.refl _ _) rfl _
  replace hB := hB.trans (hC.below (B := w.heap.size) hB.size (fun k hk => by omega))
  have hxb := X.1
  replace Y := hC.box Y (by omega)
  replace X : Box W1 w.heap.size [.int .i64 id, .int .i64 pe, .int .i64 te, .int .i64 vo, .slice ua log.length uc, .int .i64 co, .int .i64 ro, .slice va vs.length vc, .slice ma mt.length mc] := by rw [hW1]; exact X.set 4 _ (by simp)
  replace o1 := hC.owns o1 (fun b hb hh => by have := g0 b hb; have hh : b = w.heap.size := hh; omega)
  have hzz0 : w1.heap.size ≤ W1.heap.size := by rw [hW1]; simp
  have hzy0 : W1.heap.size ≤ w1.heap.size := by rw [hW1]; simp
  clear hC hxb
  go_wp2_with fail
  rw [← hW1]; clear hW1
  refine (K2 _ hB).mono ?_
  rintro e w2 ⟨u1, rfl, o2, hb⟩
  clear K2
  have hzb := hB.size
  replace hB := below_then hB hb
  replace X := X.below hb
  replace Y := Y.below hb
  replace o1 := owns_below o1 hb
  clear xl x0 x1 x2 x3 x4 x5 x6 x7 x8 f0 f1 f2 f3 f4 f5 f6 f7 f8
  have g1 := owns_ge o2
  have l1 := owns_below_lt o2
  have hz1 := hb.size
  clear hb
  obtain ⟨xa, xc, rfl⟩ := owns_shape o2
  obtain ⟨xl, x0, x1, x2, x3, x4, x5, x6, x7, x8⟩ := X.e9
  obtain ⟨f0, f1, f2, f3, f4, f5, f6, f7, f8⟩ := X.f9
  obtain ⟨W2, hW2⟩ : ∃ W, W = w2.setCell ⟨w.heap.size, 7, none⟩ (.slice xa vs.length xc) := ⟨_, rfl⟩
  have hC : Chg (fun k => k = w.heap.size) w2 W2 := by rw [hW2]; exact Chg.setCell (S := fun k => k = w.heap.size) (Chg.refl _ _) rfl _
  replace hB := hB.trans (hC.below (B := w.heap.size) hB.size (fun k hk => by omega))
  have hxb := X.1
  replace Y := hC.box Y (by omega)
  replace X : Box W2 w.heap.size [.int .i64 id, .int .i64 pe, .int .i64 te, .int .i64 vo, .slice ua log.length uc, .int .i64 co, .int .i64 ro, .slice xa vs.length xc, .slice ma mt.length mc] := by rw [hW2]; exact X.set 7 _ (by simp)
  replace o1 := hC.owns o1 (fun b hb hh => by have := g0 b hb; have hh : b = w.heap.size := hh; omega)
  replace o2 := hC.owns o2 (fun b hb hh => by have := g1 b hb; have hh : b = w.heap.size := hh; omega)
  have hzz1 : w2.heap.size ≤ W2.heap.size := by rw [hW2]; simp
  have hzy1 : W2.heap.size ≤ w2.heap.size := by rw [hW2]; simp
  clear hC hxb
  go_wp2_with fail
  rw [← hW2]; clear hW2
  refine (K3 _ hB).mono ?_
  rintro e w3 ⟨u2, rfl, o3, hb⟩
  clear K3
  have hzb := hB.size
  replace hB := below_then hB hb
  replace X := X.below hb
  replace Y := Y.below hb
  replace o1 := owns_below o1 hb
  replace o2 := owns_below o2 hb
  clear xl x0 x1 x2 x3 x4 x5 x6 x7 x8 f0 f1 f2 f3 f4 f5 f6 f7 f8
  have g2 := owns_ge o3
  have l2 := owns_below_lt o3
  have hz2 := hb.size
  clear hb
  obtain ⟨ya, yc, rfl⟩ := owns_shape o3
  obtain ⟨xl, x0, x1, x2, x3, x4, x5, x6, x7, x8⟩ := X.e9
  obtain ⟨f0, f1, f2, f3, f4, f5, f6, f7, f8⟩ := X.f9
  have hCa : Chg (fun k => k = w.heap.size) w3 (w3.setCell ⟨w.heap.size, 8, none⟩ (.slice ya mt.length yc)) := Chg.setCell (S := fun k => k = w.heap.size) (Chg.refl _ _) rfl _
  have Ya := hCa.box Y (by omega)
  have hCb := put9_chg (w3.setCell ⟨w.heap.size, 8, none⟩ (.slice ya mt.length yc)) (w.heap.size + 1) (.int .i64 id) (.int .i64 pe) (.int .i64 te) (.int .i64 vo) (.slice ua log.length uc) (.int .i64 co) (.int .i64 ro) (.slice xa vs.length xc) (.slice ya mt.length yc)
  have Z := put9_box Ya (.int .i64 id) (.int .i64 pe) (.int .i64 te) (.int .i64 vo) (.slice ua log.length uc) (.int .i64 co) (.int .i64 ro) (.slice xa vs.length xc) (.slice ya mt.length yc)
  have hC : Chg (fun k => k = w.heap.size ∨ k = w.heap.size + 1) w3 _ := (hCa.mono fun k hk => Or.inl hk).trans (hCb.mono fun k hk => Or.inr hk)
  have O : OwnN w3 (w.heap.size + 1 + 1) (.slice ua log.length uc) (.slice xa vs.length xc) (.slice ya mt.length yc) log vs mt := ⟨owns_mono' o1 (by omega), owns_mono' o2 (by omega), owns_mono' o3 (by omega), fun g hg hg' => by have := l1 g hg; have := g2 g hg'; omega⟩
  have O' := (O.chg hC (fun b hb hh => by have := (O.lt b hb).1; have hh : b = w.heap.size ∨ b = w.heap.size + 1 := hh; omega)).mono (show w.heap.size ≤ w.heap.size + 1 + 1 from by omega)
  have hBE := hB.trans (hC.below (B := w.heap.size) hB.size (fun k hk => by omega))
  obtain ⟨ql, q0, q1, q2, q3, q4, q5, q6, q7, q8⟩ := Y.e9
  obtain ⟨h0, h1, h2, h3, h4, h5, h6, h7, h8⟩ := Y.f9
  clear hCa hCb hC O o1 o2 o3 hB X Y Ya g0 g1 g2 l0 l1 l2
  obtain ⟨hzl, t0, t1, t2, t3, t4, t5, t6, t7, t8⟩ := Z.e9
  clear Z
  unfold put9 at *
  go_wp2
  exact bodyPost_ret (v := .agg #[.int .i64 id, .int .i64 pe, .int .i64 te, .int .i64 vo, .slice ua log.length uc, .int .i64 co, .int .i64 ro, .slice xa vs.length xc, .slice ya mt.length yc]) (by simp [results, Try.results57, go_sem, t0, t1, t2, t3, t4, t5, t6, t7, t8]) rfl ⟨_, _, _, rfl, O', hBE⟩
set_option maxHeartbeats 2000000 in
theorem following_any (id pe te vo co ro : Int) (vl vv vm : Value) (la : Option Addr) (ln lc : Nat) (hvl : vl = .slice la ln lc) (w : World) (sv : ∃ a n c, vv = .slice a n c) (sm : ∃ a n c, vm = .slice a n c) :
    Calls Try.prog 80 #[.agg #[.int .i64 id, .int .i64 pe, .int .i64 te, .int .i64 vo, vl, .int .i64 co, .int .i64 ro, vv, vm]] w fun e w' => e = .returned (.agg #[.int .i64 id, .int .i64 pe, .int .i64 te, .int .i64 vo, vl, .int .i64 co, .int .i64 0, .slice none 0 0, .slice none 0 0]) ∧ Below w.heap.size w w' := by
  obtain ⟨va, vn, vc, rfl⟩ := sv
  obtain ⟨ma, mn, mc, rfl⟩ := sm
  subst hvl
  go_enter Try.func80, Try.ntmps80
  go_wp2
  exact bodyPost_ret (v := .agg #[.int .i64 id, .int .i64 pe, .int .i64 te, .int .i64 vo, .slice la ln lc, .int .i64 co, .int .i64 0, .slice none 0 0, .slice none 0 0]) (by simp [results, Try.results80, go_sem]) rfl ⟨rfl, below2 _ _ _⟩
set_option maxHeartbeats 2000000 in
theorem l11Follow_any (id pe te vo co ro : Int) (vl vv vm : Value) (la : Option Addr) (ln lc : Nat) (hvl : vl = .slice la ln lc) (w : World) (sv : ∃ a n c, vv = .slice a n c) (sm : ∃ a n c, vm = .slice a n c) :
    Calls Try.prog 172 #[.agg #[.int .i64 id, .int .i64 pe, .int .i64 te, .int .i64 vo, vl, .int .i64 co, .int .i64 ro, vv, vm]] w fun e w' => e = .returned (.agg #[.int .i64 id, .int .i64 pe, .int .i64 te, .int .i64 vo, vl, .int .i64 co, .int .i64 0, .slice none 0 0, .slice none 0 0]) ∧ Below w.heap.size w w' := by
  obtain ⟨va, vn, vc, rfl⟩ := sv
  obtain ⟨ma, mn, mc, rfl⟩ := sm
  subst hvl
  go_enter Try.func172, Try.ntmps172
  go_wp2
  exact bodyPost_ret (v := .agg #[.int .i64 id, .int .i64 pe, .int .i64 te, .int .i64 vo, .slice la ln lc, .int .i64 co, .int .i64 0, .slice none 0 0, .slice none 0 0]) (by simp [results, Try.results172, go_sem]) rfl ⟨rfl, below2 _ _ _⟩
end Go.Proofs.Ytapfhhmimkkhnaa
