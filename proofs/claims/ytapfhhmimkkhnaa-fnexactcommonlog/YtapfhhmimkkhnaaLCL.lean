/-
  The walk of FnExactCommonLog.
-/
import Derived.Test.YtapfhhmimkkhnaaCPToCIm
import Derived.Test.YtapfhhmimkkhnaaCQs
import Derived.Test.YtapfhhmimkkhnaaCQi
namespace Go.Proofs.Ytapfhhmimkkhnaa
open Go.RowKit
set_option linter.unusedVariables false
set_option maxRecDepth 100000

set_option maxHeartbeats 16000000 in
theorem lawCommonLog (vn vm vl : Value) (N : List Nv) (M : List Mv) (L : List Ld) (w : World) (h : CR w vn vm vl N M L) (nn : N.length ≤ maxLen) (nm : M.length ≤ maxLen) (nl : L.length ≤ maxLen) (zn : ∀ i (h : i < N.length), NZ N[i]) (zm : ∀ i (h : i < M.length), MZ M[i]) :
    Calls Try.prog 8 #[.agg #[vn, vm, vl]] w fun e w' => e = .returned (.bool true) ∧ Below w.heap.size w w' := by
  have hB := below_alloc w (.cells #[vn, vm, vl] 70)
  have X := Box.new w #[vn, vm, vl] 70
  have SZ := szCluster_any vn vm vl N M L _ (h.below hB) nn nm nl zn zm
  have E := fun W (hb : Below w.heap.size w W) => h.below hb
  obtain ⟨⟨na, nc, hcn⟩, ⟨xa, xc, hcm⟩, ya, yc, hcl⟩ := h.shapes
  subst hcn
  subst hcm
  subst hcl
  clear h zn zm
  go_enter Try.func8, Try.ntmps8
  go_wp2_with fail
  refine SZ.mono ?_
  rintro e w1 ⟨⟨r, rfl, hr⟩, hb⟩
  replace hB := below_then hB hb
  replace X := X.below hb
  have hz1 := X.1
  clear SZ hb
  rcases hr with rfl | ⟨hr0, hr1⟩
  · clear X E
    go_wp2
    go_ret
    exact ⟨rfl, hB⟩
  have hs : CS N M L := cs_of_sum N M L (by omega)
  have hsum : sm tN N + N.length + sm tM M + M.length + L.length ≤ 1048576 := by omega
  clear hr1 nn nm nl
  have T := fun W (hb : Below w.heap.size w W) => toCluster_any _ _ _ N M L W (E W hb) hs
  have S : ∀ (un um ul : Value) (N' : List Nv) (M' : List Mv) (W : World), CR W un um ul N' M' L → N'.map Nv.n = N.map Nv.n → M'.map Mv.q = M.map Mv.q → CQ N' → Calls Try.prog 47 #[.agg #[un, um, ul]] W fun e w' => ∃ u, e = .returned (.tuple #[u, .bool (goodC (N.map Nv.n) (M.map Mv.q) L)]) ∧ w'.ownsRow W.heap.size 34 2 u (cmL (goodC (N.map Nv.n) (M.map Mv.q) L) (N.map Nv.n)).length (flat2 (cmL (goodC (N.map Nv.n) (M.map Mv.q) L) (N.map Nv.n))) ∧ Below W.heap.size W w' := fun un um ul N' M' W h hn hm hq => by
    have := specCL_any un um ul N' M' L W h (hs.same hn hm) hq
    rw [hn, hm] at this
    exact this
  have I : ∀ (un um ul : Value) (N' : List Nv) (M' : List Mv) (W : World), CR W un um ul N' M' L → N'.map Nv.n = N.map Nv.n → M'.map Mv.q = M.map Mv.q → CQ N' → Calls Try.prog 48 #[.agg #[un, um, ul]] W fun e w' => ∃ u, e = .returned (.tuple #[u, .bool (goodC (N.map Nv.n) (M.map Mv.q) L)]) ∧ w'.ownsRow W.heap.size 34 2 u (cmL (goodC (N.map Nv.n) (M.map Mv.q) L) (N.map Nv.n)).length (flat2 (cmL (goodC (N.map Nv.n) (M.map Mv.q) L) (N.map Nv.n))) ∧ Below W.heap.size W w' := fun un um ul N' M' W h hn hm hq => by
    have := implCL_any un um ul N' M' L W h (hs.same hn hm) hq
    rw [hn, hm] at this
    exact this
  have RL : (cmL (goodC (N.map Nv.n) (M.map Mv.q) L) (N.map Nv.n)).length ≤ 1048576 := cmL_len _ N fun i hi => (hs.ne i hi).1
  generalize cmL (goodC (N.map Nv.n) (M.map Mv.q) L) (N.map Nv.n) = R at *
  generalize goodC (N.map Nv.n) (M.map Mv.q) L = ok at *
  have NBo := fun W => run_neq_bool_same W ok
  clear E
  obtain ⟨xl, x0, x1, x2⟩ := X.c3
  go_wp2_with fail
  refine (T _ hB).mono ?_
  rintro e w2 ⟨u1, u2, u3, N2, M2, d2, rfl, hn2, hm2, O2, hb⟩
  replace hB := below_then hB hb
  replace X := X.below hb
  clear xl x0 x1 x2
  have hz2 := hb.size
  clear hb
  obtain ⟨⟨sna, snc, h1⟩, ⟨sxa, sxc, h2⟩, sya, syc, h3⟩ := O2.shapes
  subst h1
  subst h2
  subst h3
  go_wp2_with fail
  refine (S _ _ _ _ _ _ O2.cr hn2 hm2 O2.cq).mono ?_
  rintro e w3 ⟨U1, rfl, UW, hb⟩
  replace hB := below_then hB hb
  replace X := X.below hb
  have hz3 := hb.size
  clear hb S O2 hn2 hm2
  have gU := owns_ge UW
  have lU := owns_below_lt UW
  obtain ⟨Ua, Uc, h1⟩ := owns_shape UW
  subst h1
  obtain ⟨xl, x0, x1, x2⟩ := X.c3
  go_wp2_with fail
  refine (T _ hB).mono ?_
  rintro e w4 ⟨u4, u5, u6, N4, M4, d4, rfl, hn4, hm4, AO, hb⟩
  replace hB := below_then hB hb
  replace X := X.below hb
  replace UW := owns_below UW hb
  clear xl x0 x1 x2
  have hz4 := hb.size
  clear hb
  obtain ⟨⟨ana, anc, h1⟩, ⟨axa, axc, h2⟩, aya, ayc, h3⟩ := AO.shapes
  subst h1
  subst h2
  subst h3
  have hAl := AO.lohi
  have BX := below_alloc w4 (.cells #[.slice ana N4.length anc, .slice axa M4.length axc, .slice aya L.length ayc] 60)
  have A := Box.new w4 #[.slice ana N4.length anc, .slice axa M4.length axc, .slice aya L.length ayc] 60
  replace hB := below_then hB BX
  replace X := X.below BX
  replace UW := owns_below UW BX
  replace AO := AO.below BX
  clear BX
  obtain ⟨ql, q0, q1, q2⟩ := A.c3
  go_wp2_with fail
  refine (I _ _ _ _ _ _ AO.cr hn4 hm4 AO.cq).mono ?_
  rintro e w5 ⟨V1, rfl, VW, hb⟩
  replace hB := below_then hB hb
  replace X := X.below hb
  replace UW := owns_below UW hb
  replace AO := AO.below hb
  replace A := A.below hb
  clear ql q0 q1 q2
  have hz5 := hb.size
  simp only [World.size_alloc] at hz5
  clear hb
  have gV := owns_ge VW
  have lV := owns_below_lt VW
  simp only [World.size_alloc] at gV
  obtain ⟨Va, Vc, h1⟩ := owns_shape VW
  subst h1
  go_wp2_with fail
  refine (eqEntryS_same _ _ R _ (ER_of_owns VW rfl) (ER_of_owns UW rfl) RL).mono ?_
  rintro e w6 ⟨rfl, hb⟩
  replace hB := below_then hB hb
  replace X := X.below hb
  replace UW := owns_below UW hb
  replace AO := AO.below hb
  replace A := A.below hb
  replace VW := owns_below VW hb
  have hz6 := hb.size
  clear hb
  obtain ⟨pl, p0, p1, p2⟩ := X.c3
  obtain ⟨ql, q0, q1, q2⟩ := A.c3
  go_wp2_with fail
  go_region_held3 (fun w' => (w'.cell? ⟨w.heap.size, 0, none⟩ = some (.slice na N.length nc) ∧ w'.cell? ⟨w.heap.size, 1, none⟩ = some (.slice xa M.length xc) ∧ w'.cell? ⟨w.heap.size, 2, none⟩ = some (.slice ya L.length yc)) ∧ w'.cell? ⟨w4.heap.size, 0, none⟩ = some (.slice ana N4.length anc) ∧ w'.cell? ⟨w4.heap.size, 1, none⟩ = some (.slice axa M4.length axc) ∧ w'.cell? ⟨w4.heap.size, 2, none⟩ = some (.slice aya L.length ayc)) (go_keep) (first | (go_at_call 40; refine (T _ hB.drew).mono ?_; rintro e w7 ⟨u7, u8, u9, N7, M7, d7, rfl, hn7, hm7, O7, hb7'⟩; have hb7 := below_undrew hb7'; obtain ⟨⟨bna, bnc, h1⟩, ⟨bxa, bxc, h2⟩, bya, byc, h3⟩ := O7.shapes; subst h1; subst h2; subst h3; have p0 := (X.below hb7).2.1 0 _ rfl; have p1 := (X.below hb7).2.1 1 _ rfl; have p2 := (X.below hb7).2.1 2 _ rfl; have q0 := (A.below hb7).2.1 0 _ rfl; have q1 := (A.below hb7).2.1 1 _ rfl; have q2 := (A.below hb7).2.1 2 _ rfl) | (go_at_call 35; refine (eqCluster_same _ _ _ _ _ _ N4 N7 M4 M7 L _ (AO.cr.below hb7) O7.cr (hn4.trans hn7.symm) (hm4.trans hm7.symm) (hs.same hn4 hm4)).mono ?_; rintro e w8 ⟨rfl, hb8⟩; have p0 := (X.below (below_then hb7 hb8)).2.1 0 _ rfl; have p1 := (X.below (below_then hb7 hb8)).2.1 1 _ rfl; have p2 := (X.below (below_then hb7 hb8)).2.1 2 _ rfl; have q0 := (A.below (below_then hb7 hb8)).2.1 0 _ rfl; have q1 := (A.below (below_then hb7 hb8)).2.1 1 _ rfl; have q2 := (A.below (below_then hb7 hb8)).2.1 2 _ rfl))
  all_goals
    have hb78 := below_then hb7 hb8
    replace hB := below_then hB hb78
    replace X := X.below hb78
    replace UW := owns_below UW hb78
    replace AO := AO.below hb78
    replace A := A.below hb78
    replace VW := owns_below VW hb78
    have hzw8 := hb78.size
    clear hb7' hb7 hb8 hb78 O7 hn7 hm7
    clear pl p0 p1 p2 ql q0 q1 q2
    obtain ⟨ql, q0, q1, q2⟩ := A.c3
    have hs4 := hs.same hn4 hm4
    have hk4 := ms_same hn4 hm4 hsum
    go_wp2_with fail
    refine (markCluster_own _ _ _ N4 M4 L _ _ _ 1 _ AO hs4 (by omega) (by omega)).mono ?_
    rintro e w9 ⟨rfl, _, hc⟩
    clear ql q0 q1 q2
    replace hB := hB.trans (hc.below (B := w.heap.size) (by omega) (fun b h => by omega))
    replace X := hc.box X (fun h => by omega)
    replace UW := hc.owns UW (fun b hb h => by have := gU b hb; have := lU b hb; omega)
    replace VW := hc.owns VW (fun b hb h => by have := gV b hb; have := lV b hb; omega)
    have hzw9 := hc.size
    clear hc AO A hs4
    have hk1 : ¬ (1 : Int) + (uC N4 M4 L : Nat) < 0 := by omega
    go_wp2_with fail
    refine (eqEntryS_same _ _ R _ (ER_of_owns VW rfl) (ER_of_owns UW rfl) RL).mono ?_
    rintro e w10 ⟨rfl, hb⟩
    replace hB := below_then hB hb
    replace X := X.below hb
    replace UW := owns_below UW hb
    replace VW := owns_below VW hb
    have hz10 := hb.size
    clear hb
    go_wp2_with fail
    refine (markEntryS_own _ _ R 1 _ VW RL (by omega) (by omega)).mono ?_
    rintro e w11 ⟨rfl, VM, hc⟩
    replace hB := hB.trans (hc.below (B := w.heap.size) (by omega) (fun b h => by have := gV _ h; have := lV _ h; omega))
    replace X := hc.box X (fun h => by have := gV _ h; have := lV _ h; omega)
    replace UW := hc.owns UW (fun b hb h => by have := gU b hb; have := lU b hb; have := gV _ h; have := lV _ h; omega)
    have hzw11 := hc.size
    clear hc VW
    have hk0 : ¬ (1 : Int) + 2 * (R.length : Int) < 0 := by omega
    go_wp2_with fail
    refine (heldEntryS_at _ R.length 1 _ (ER_of_owns VM (mkEs_length _ _).symm) RL (by omega) (by omega)).mono ?_
    rintro e w12 ⟨rfl, hb⟩
    replace hB := below_then hB hb
    replace X := X.below hb
    replace UW := owns_below UW hb
    replace VM := owns_below VM hb
    clear hb
    obtain ⟨xl, x0, x1, x2⟩ := X.c3
    go_wp2_with fail
    refine (T _ hB).mono ?_
    rintro e w13 ⟨u7, u8, u9, N7, M7, d7, rfl, hn7, hm7, O3, hb⟩
    replace hB := below_then hB hb
    replace X := X.below hb
    replace UW := owns_below UW hb
    replace VM := owns_below VM hb
    clear xl x0 x1 x2
    clear hb T
    obtain ⟨⟨ena, enc, h1⟩, ⟨exa, exc, h2⟩, eya, eyc, h3⟩ := O3.shapes
    subst h1
    subst h2
    subst h3
    go_wp2_with fail
    refine (I _ _ _ _ _ _ O3.cr hn7 hm7 O3.cq).mono ?_
    rintro e w14 ⟨Y1, rfl, YW, hb⟩
    replace hB := below_then hB hb
    replace X := X.below hb
    replace UW := owns_below UW hb
    replace VM := owns_below VM hb
    clear hb I O3 hn7 hm7
    obtain ⟨Ya, Yc, h1⟩ := owns_shape YW
    subst h1
    go_wp2_with fail
    refine (eqEntryS_same _ _ R _ (ER_of_owns YW rfl) (ER_of_owns UW rfl) RL).mono ?_
    rintro e w15 ⟨rfl, hb⟩
    replace hB := below_then hB hb
    replace X := X.below hb
    replace UW := owns_below UW hb
    replace VM := owns_below VM hb
    replace YW := owns_below YW hb
    clear hb
    go_wp2_with fail
    refine (heldEntryS_at _ R.length 1 _ (ER_of_owns VM (mkEs_length _ _).symm) RL (by omega) (by omega)).mono ?_
    rintro e w16 ⟨rfl, hb⟩
    replace hB := below_then hB hb
    replace X := X.below hb
    replace UW := owns_below UW hb
    replace VM := owns_below VM hb
    replace YW := owns_below YW hb
    clear hb X UW VM YW
    go_wp2
    go_ret
    exact ⟨rfl, hB⟩
end Go.Proofs.Ytapfhhmimkkhnaa
