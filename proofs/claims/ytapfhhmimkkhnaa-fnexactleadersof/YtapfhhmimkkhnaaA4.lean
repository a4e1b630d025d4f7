/-
  A node copied: the specification's l11Own.
-/
import Derived.Test.YtapfhhmimkkhnaaA2ToA3
namespace Go.Proofs.Ytapfhhmimkkhnaa
open Go.RowKit Go.Maps
set_option linter.unusedVariables false
set_option maxRecDepth 100000

set_option maxHeartbeats 4000000 in
theorem l11Own_any (id pe te vo co ro : Int) (vl vv vm : Value) (log : List En) (vs mt : List Int) (w : World) (hl : ER w vl log) (hv : IL w vv vs) (hm : IL w vm mt) (sl : Nn vl) (sv : Nn vv) (sm : Nn vm) (nl : log.length ≤ 1048576) (nv : vs.length ≤ 1048576) (nm : mt.length ≤ 1048576) :
    Calls Try.prog 60 #[.agg #[.int .i64 id, .int .i64 pe, .int .i64 te, .int .i64 vo, vl, .int .i64 co, .int .i64 ro, vv, vm]] w fun e w' => ∃ ul uv um, e = .returned (.agg #[.int .i64 id, .int .i64 pe, .int .i64 te, .int .i64 vo, ul, .int .i64 co, .int .i64 ro, uv, um]) ∧ OwnN w' w.heap.size ul uv um log vs mt ∧ Below w.heap.size w w' := by
  obtain ⟨W0, hW0⟩ : ∃ W0, W0 = (w.alloc (.cells #[.int .i64 id, .int .i64 pe, .int .i64 te, .int .i64 vo, vl, .int .i64 co, .int .i64 ro, vv, vm] 26)).alloc (.cells #[.int .i64 0, .int .i64 0, .int .i64 0, .int .i64 0, .slice none 0 0, .int .i64 0, .int .i64 0, .slice none 0 0, .slice none 0 0] 26) := ⟨_, rfl⟩
  have hB : Below w.heap.size w W0 := by rw [hW0]; exact below2 _ _ _
  have hz00 : w.heap.size + 1 + 1 ≤ W0.heap.size := by rw [hW0]; simp
  have X : Box W0 w.heap.size [.int .i64 id, .int .i64 pe, .int .i64 te, .int .i64 vo, vl, .int .i64 co, .int .i64 ro, vv, vm] := by rw [hW0]; exact (Box.new w #[.int .i64 id, .int .i64 pe, .int .i64 te, .int .i64 vo, vl, .int .i64 co, .int .i64 ro, vv, vm] 26).alloc _
  have Y : Box W0 (w.heap.size + 1) [.int .i64 0, .int .i64 0, .int .i64 0, .int .i64 0, .slice none 0 0, .int .i64 0, .int .i64 0, .slice none 0 0, .slice none 0 0] := by
    rw [hW0]
    have := Box.new (w.alloc (.cells #[.int .i64 id, .int .i64 pe, .int .i64 te, .int .i64 vo, vl, .int .i64 co, .int .i64 ro, vv, vm] 26)) #[.int .i64 0, .int .i64 0, .int .i64 0, .int .i64 0, .slice none 0 0, .int .i64 0, .int .i64 0, .slice none 0 0, .slice none 0 0] 26
    simpa using this
  have E1 := fun W (h : Below w.heap.size w W) => hl.below h
  have E2 := fun W (h : Below w.heap.size w W) => hv.below h
  have E3 := fun W (h : Below w.heap.size w W) => hm.below h
  obtain ⟨la, lc, rfl, hlc⟩ := hl
  obtain ⟨va, vc, rfl, hvc⟩ := hv
  obtain ⟨ma, mc, rfl, hmc⟩ := hm
  clear hlc hvc hmc sl sv sm
  obtain ⟨xl, x0, x1, x2, x3, x4, x5, x6, x7, x8⟩ := X.e9
  obtain ⟨f0, f1, f2, f3, f4, f5, f6, f7, f8⟩ := X.f9
  go_enter Try.func60, Try.ntmps60
  have hzq : W0.heap.size = w.heap.size + 1 + 1 := by rw [hW0]; simp
  have o0 : (W0.alloc (.cells #[] 34)).ownsRow (w.heap.size + 1 + 1) 34 2 (.slice (some ⟨w.heap.size + 1 + 1, 0, none⟩) 0 0) 0 (flat2 []) := by rw [← hzq]; exact World.ownsRow_lit W0 #[] 0 (Nat.le_refl _) (by simp [maxLen]) (by simp)
  have hzq1 : W0.heap.size ≤ w.heap.size + 1 + 1 := by omega
  have hzq2 : w.heap.size + 1 + 1 ≤ W0.heap.size := by omega
  clear hzq
  have hBa := below_alloc W0 (.cells #[] 34)
  have hE := E1 _ (below_then hB hBa)
  go_wp2_with (at_builtin; refine StopA.go ?_)
  rw [← hW0]
  unfold StopA
  refine wpList_append_ent _ rfl _ _ rfl rfl (w.heap.size + 1 + 1) _ 0 [] rfl o0 _ log rfl hE (by omega) (by simp; omega) ?_
  intro u0 w1 o1 hgr
  clear hW0
  simp only [Nat.zero_add, List.nil_append] at o1
  have hb := grown_below hBa hgr (by simp) (show _ ≤ w.heap.size + 1 + 1 from hzq1)
  clear hgr o0 hE E1
  have hzb := hB.size
  replace hB := below_then hB hb
  replace X := X.below hb
  replace Y := Y.below hb
  clear xl x0 x1 x2 x3 x4 x5 x6 x7 x8 f0 f1 f2 f3 f4 f5 f6 f7 f8
  have g0 := owns_ge o1
  have l0 := owns_below_lt o1
  have hz0 := hb.size
  clear hb hBa
  obtain ⟨ua, uc, rfl⟩ := owns_shape o1
  obtain ⟨xl, x0, x1, x2, x3, x4, x5, x6, x7, x8⟩ := X.e9
  obtain ⟨f0, f1, f2, f3, f4, f5, f6, f7, f8⟩ := X.f9
  obtain ⟨W1, hW1⟩ : ∃ W, W = w1.setCell ⟨w.heap.size, 4, none⟩ (.slice ua log.length uc) := ⟨_, rfl⟩
  have hC : Chg (fun k => k = w.heap.size) w1 W1 := by rw [hW1]; exact Chg.setCell (S := fun k => k = w.heap.size) (Chg.refl _ _) rfl _
  replace hB := hB.trans (hC.below (B := w.heap.size) hB.size (fun k hk => by omega))
  have hxb := X.1
  replace Y := hC.box Y (by omega)
  replace X : Box W1 w.heap.size [.int .i64 id, .int .i64 pe, .int .i64 te, .int .i64 vo, .slice ua log.length uc, .int .i64 co, .int .i64 ro, .slice va vs.length vc, .slice ma mt.length mc] := by rw [hW1]; exact X.set 4 _ (by simp)
  replace o1 := hC.owns o1 (fun b hb hh => by have := g0 b hb; have hh : b = w.heap.size := hh; omega)
  have hzz0 : w1.heap.size ≤ W1.heap.size := by rw [hW1]; simp
  have hzy0 : W1.heap.size ≤ w1.heap.size := by rw [hW1]; simp
  clear hC hxb
  obtain ⟨sl, s0, s1, s2, s3, s4, s5, s6, s7, s8⟩ := X.e9
  have hzq : W1.heap.size = w1.heap.size := by rw [hW1]; simp
  have o0 : (W1.alloc (.cells #[] 3)).ownsRow (w1.heap.size) 3 1 (.slice (some ⟨w1.heap.size, 0, none⟩) 0 0) 0 (([] : List Int).map (.int .i64)) := by rw [← hzq]; exact World.ownsRow_lit W1 #[] 0 (Nat.le_refl _) (by simp [maxLen]) (by simp)
  have hzq1 : W1.heap.size ≤ w1.heap.size := by omega
  have hzq2 : w1.heap.size ≤ W1.heap.size := by omega
  clear hzq
  have hBa := below_alloc W1 (.cells #[] 3)
  have hE := E2 _ (below_then hB hBa)
  go_wp2_with (at_builtin; refine StopA.go ?_)
  rw [← hW1]
  unfold StopA
  refine wpList_append_int _ rfl _ _ rfl rfl (w1.heap.size) _ 0 [] rfl o0 _ vs rfl hE (by omega) (by simp; omega) ?_
  intro u1 w2 o2 hgr
  clear hW1
  simp only [Nat.zero_add, List.nil_append] at o2
  have hb := grown_below hBa hgr (by simp) (show _ ≤ w1.heap.size from hzq1)
  clear hgr o0 hE E2
  have hzb := hB.size
  replace hB := below_then hB hb
  replace X := X.below hb
  replace Y := Y.below hb
  replace o1 := owns_below o1 hb
  clear xl x0 x1 x2 x3 x4 x5 x6 x7 x8 f0 f1 f2 f3 f4 f5 f6 f7 f8
  clear sl s0 s1 s2 s3 s4 s5 s6 s7 s8
  have g1 := owns_ge o2
  have l1 := owns_below_lt o2
  have hz1 := hb.size
  clear hb hBa
  obtain ⟨xa, xc, rfl⟩ := owns_shape o2
  obtain ⟨xl, x0, x1, x2, x3, x4, x5, x6, x7, x8⟩ := X.e9
  obtain ⟨f0, f1, f2, f3, f4, f5, f6, f7, f8⟩ := X.f9
  obtain ⟨W2, hW2⟩ : ∃ W, W = w2.setCell ⟨w.heap.size, 7, none⟩ (.slice xa vs.length xc) := ⟨_, rfl⟩
  have hC : Chg (fun k => k = w.heap.size) w2 W2 := by rw [hW2]; exact Chg.setCell (S := fun k => k = w.heap.size) (Chg.refl _ _) rfl _
  replace hB := hB.trans (hC.below (B := w.heap.size) hB.size (fun k hk => by omega))
  have hxb := X.1
  replace Y := hC.box Y (by omega)
  replace X : Box W2 w.heap.size [.int .i64 id, .int .i64 pe, .int .i64 te, .int .i64 vo, .slice ua log.length uc, .int .i64 co, .int .i64 ro, .slice xa vs.length xc, .slice ma mt.length mc] := by rw [hW2]; exact X.set 7 _ (by simp)
  replace o1 := hC.owns o1 (fun b hb hh => by have := g0 b hb; have hh : b = w.heap.size := hh; omega)
  replace o2 := hC.owns o2 (fun b hb hh => by have := g1 b hb; have hh : b = w.heap.size := hh; omega)
  have hzz1 : w2.heap.size ≤ W2.heap.size := by rw [hW2]; simp
  have hzy1 : W2.heap.size ≤ w2.heap.size := by rw [hW2]; simp
  clear hC hxb
  obtain ⟨sl, s0, s1, s2, s3, s4, s5, s6, s7, s8⟩ := X.e9
  have hzq : W2.heap.size = w2.heap.size := by rw [hW2]; simp
  have o0 : (W2.alloc (.cells #[] 3)).ownsRow (w2.heap.size) 3 1 (.slice (some ⟨w2.heap.size, 0, none⟩) 0 0) 0 (([] : List Int).map (.int .i64)) := by rw [← hzq]; exact World.ownsRow_lit W2 #[] 0 (Nat.le_refl _) (by simp [maxLen]) (by simp)
  have hzq1 : W2.heap.size ≤ w2.heap.size := by omega
  have hzq2 : w2.heap.size ≤ W2.heap.size := by omega
  clear hzq
  have hBa := below_alloc W2 (.cells #[] 3)
  have hE := E3 _ (below_then hB hBa)
  go_wp2_with (at_builtin; refine StopA.go ?_)
  rw [← hW2]
  unfold StopA
  refine wpList_append_int _ rfl _ _ rfl rfl (w2.heap.size) _ 0 [] rfl o0 _ mt rfl hE (by omega) (by simp; omega) ?_
  intro u2 w3 o3 hgr
  clear hW2
  simp only [Nat.zero_add, List.nil_append] at o3
  have hb := grown_below hBa hgr (by simp) (show _ ≤ w2.heap.size from hzq1)
  clear hgr o0 hE E3
  have hzb := hB.size
  replace hB := below_then hB hb
  replace X := X.below hb
  replace Y := Y.below hb
  replace o1 := owns_below o1 hb
  replace o2 := owns_below o2 hb
  clear xl x0 x1 x2 x3 x4 x5 x6 x7 x8 f0 f1 f2 f3 f4 f5 f6 f7 f8
  clear sl s0 s1 s2 s3 s4 s5 s6 s7 s8
  have g2 := owns_ge o3
  have l2 := owns_below_lt o3
  have hz2 := hb.size
  clear hb hBa
  obtain ⟨ya, yc, rfl⟩ := owns_shape o3
  obtain ⟨xl, x0, x1, x2, x3, x4, x5, x6, x7, x8⟩ := X.e9
  obtain ⟨f0, f1, f2, f3, f4, f5, f6, f7, f8⟩ := X.f9
  have hCa : Chg (fun k => k = w.heap.size) w3 (w3.setCell ⟨w.heap.size, 8, none⟩ (.slice ya mt.length yc)) := Chg.setCell (S := fun k => k = w.heap.size) (Chg.refl _ _) rfl _
  have Ya := hCa.box Y (by omega)
  have hCb := put9_chg (w3.setCell ⟨w.heap.size, 8, none⟩ (.slice ya mt.length yc)) (w.heap.size + 1) (.int .i64 id) (.int .i64 pe) (.int .i64 te) (.int .i64 vo) (.slice ua log.length uc) (.int .i64 co) (.int .i64 ro) (.slice xa vs.length xc) (.slice ya mt.length yc)
  have Z := put9_box Ya (.int .i64 id) (.int .i64 pe) (.int .i64 te) (.int .i64 vo) (.slice ua log.length uc) (.int .i64 co) (.int .i64 ro) (.slice xa vs.length xc) (.slice ya mt.length yc)
  have hC : Chg (fun k => k = w.heap.size ∨ k = w.heap.size + 1) w3 _ := (hCa.mono fun k hk => Or.inl hk).trans (hCb.mono fun k hk => Or.inr hk)
  have O : OwnN w3 (w.heap.size + 1 + 1) (.slice ua log.length uc) (.slice xa vs.length xc) (.slice ya mt.length yc) log vs mt := ⟨owns_mono' o1 (by omega), owns_mono' o2 (by omega), owns_mono' o3 (by omega), fun g hg hg' => by have := l1 g hg; have := g2 g hg'; omega⟩
  have O' := (O.chg hC (fun b hb hh => by have := (O.lt b hb).1; have hh : b = w.heap.size ∨ b = w.heap.size + 1 := hh; omega)).mono (show w.heap.size ≤ w.heap.size + 1 + 1 from by omega)
  have hBE := hB.trans (hC.below (B := w.heap.size) hB.size (fun k hk => by omega))
  obtain ⟨ql, q0, q1, q2, q3, q4, q5, q6, q7, q8⟩ := Y.e9
  obtain ⟨h0, h1, h2, h3, h4, h5, h6, h7, h8⟩ := Y.f9
  clear hCa hCb hC O o1 o2 o3 hB X Y Ya g0 g1 g2 l0 l1 l2
  obtain ⟨hzl, t0, t1, t2, t3, t4, t5, t6, t7, t8⟩ := Z.e9
  clear Z
  unfold put9 at *
  go_wp2
  exact bodyPost_ret (v := .agg #[.int .i64 id, .int .i64 pe, .int .i64 te, .int .i64 vo, .slice ua log.length uc, .int .i64 co, .int .i64 ro, .slice xa vs.length xc, .slice ya mt.length yc]) (by simp [results, Try.results60, go_sem, t0, t1, t2, t3, t4, t5, t6, t7, t8]) rfl ⟨_, _, _, rfl, O', hBE⟩
end Go.Proofs.Ytapfhhmimkkhnaa
