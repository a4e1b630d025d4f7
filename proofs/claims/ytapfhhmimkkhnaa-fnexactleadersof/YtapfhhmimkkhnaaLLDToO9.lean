/-
  The walk of FnExactLeadersOf.
  From the reading of an argument to the list of entries that the contracts speak of.
  A struct of nine fields by value, opened.
-/
import Derived.Test.YtapfhhmimkkhnaaCPToCIm
import Derived.Test.YtapfhhmimkkhnaaCN
import Derived.Test.YtapfhhmimkkhnaaLNCToCH
import Derived.Test.YtapfhhmimkkhnaaCUs
import Derived.Test.YtapfhhmimkkhnaaCUi
import Derived.Test.YtapfhhmimkkhnaaR1
import Derived.Deep.SlicePairs
import Derived.Lib.SmallJoins
import Derived.Test.YtapfhhmimkkhnaaProg
namespace Go.Proofs.Ytapfhhmimkkhnaa
open Go.RowKit
set_option linter.unusedVariables false
set_option maxRecDepth 100000

theorem ldR_len (N : List Nv) (M : List Ms) (L : List Ld) : (ldR (goodC (N.map Nv.n) M L) (N.map Nv.n)).length ≤ 7000 := by
  unfold ldR
  split
  · rename_i h
    have h7 := (goodC_ld h).2.1
    have := ldS_len (N.map Nv.n) 1000
    rw [List.length_map] at this
    omega
  · simp
set_option maxHeartbeats 16000000 in
theorem lawLeadersOf (vn vm vl : Value) (N : List Nv) (M : List Mv) (L : List Ld) (w : World) (h : CR w vn vm vl N M L) (nn : N.length ≤ maxLen) (nm : M.length ≤ maxLen) (nl : L.length ≤ maxLen) (zn : ∀ i (h : i < N.length), NZ N[i]) (zm : ∀ i (h : i < M.length), MZ M[i]) :
    Calls Try.prog 7 #[.agg #[vn, vm, vl]] w fun e w' => e = .returned (.bool true) ∧ Below w.heap.size w w' := by
  have hB := below_alloc w (.cells #[vn, vm, vl] 70)
  have X := Box.new w #[vn, vm, vl] 70
  have SZ := szCluster_any vn vm vl N M L _ (h.below hB) nn nm nl zn zm
  have E := fun W (hb : Below w.heap.size w W) => h.below hb
  obtain ⟨⟨na, nc, hcn⟩, ⟨xa, xc, hcm⟩, ya, yc, hcl⟩ := h.shapes
  subst hcn
  subst hcm
  subst hcl
  clear h zn zm
  go_enter Try.func7, Try.ntmps7
  go_wp2_with fail
  refine SZ.mono ?_
  rintro e w1 ⟨⟨r, rfl, hr⟩, hb⟩
  replace hB := below_then hB hb
  replace X := X.below hb
  have hz1 := X.1
  clear SZ hb
  rcases hr with rfl | ⟨hr0, hr1⟩
  · clear X E
    go_wp2
    go_ret
    exact ⟨rfl, hB⟩
  have hs : CS N M L := cs_of_sum N M L (by omega)
  have hsum : sm tN N + N.length + sm tM M + M.length + L.length ≤ 1048576 := by omega
  clear hr1 nn nm nl
  have T := fun W (hb : Below w.heap.size w W) => toCluster_any _ _ _ N M L W (E W hb) hs
  have S : ∀ (un um ul : Value) (N' : List Nv) (M' : List Mv) (W : World), CR W un um ul N' M' L → N'.map Nv.n = N.map Nv.n → M'.map Mv.q = M.map Mv.q → Calls Try.prog 42 #[.agg #[un, um, ul]] W fun e w' => ∃ u, e = .returned (.tuple #[u, .bool (goodC (N.map Nv.n) (M.map Mv.q) L)]) ∧ w'.ownsRow W.heap.size 116 2 u (ldR (goodC (N.map Nv.n) (M.map Mv.q) L) (N.map Nv.n)).length (flatL (ldR (goodC (N.map Nv.n) (M.map Mv.q) L) (N.map Nv.n))) ∧ Below W.heap.size W w' := fun un um ul N' M' W h hn hm => by
    have := specLd_any un um ul N' M' L W h (hs.same hn hm)
    rw [hn, hm] at this
    exact this
  have I : ∀ (un um ul : Value) (N' : List Nv) (M' : List Mv) (W : World), CR W un um ul N' M' L → N'.map Nv.n = N.map Nv.n → M'.map Mv.q = M.map Mv.q → Calls Try.prog 43 #[.agg #[un, um, ul]] W fun e w' => ∃ u, e = .returned (.tuple #[u, .bool (goodC (N.map Nv.n) (M.map Mv.q) L)]) ∧ w'.ownsRow W.heap.size 116 2 u (ldR (goodC (N.map Nv.n) (M.map Mv.q) L) (N.map Nv.n)).length (flatL (ldR (goodC (N.map Nv.n) (M.map Mv.q) L) (N.map Nv.n))) ∧ Below W.heap.size W w' := fun un um ul N' M' W h hn hm => by
    have := implLd_any un um ul N' M' L W h (hs.same hn hm)
    rw [hn, hm] at this
    exact this
  have RL : (ldR (goodC (N.map Nv.n) (M.map Mv.q) L) (N.map Nv.n)).length ≤ 1048576 := Nat.le_trans (ldR_len N _ L) (by omega)
  have RU : sm uL (ldR (goodC (N.map Nv.n) (M.map Mv.q) L) (N.map Nv.n)) ≤ 20000000 := by have := sm_const uL 2 (ldR (goodC (N.map Nv.n) (M.map Mv.q) L) (N.map Nv.n)) (fun i hi => by simp [uL]); have := ldR_len N (M.map Mv.q) L; omega
  generalize ldR (goodC (N.map Nv.n) (M.map Mv.q) L) (N.map Nv.n) = R at *
  generalize goodC (N.map Nv.n) (M.map Mv.q) L = ok at *
  have NBo := fun W => run_neq_bool_same W ok
  clear E
  obtain ⟨xl, x0, x1, x2⟩ := X.c3
  go_wp2_with fail
  refine (T _ hB).mono ?_
  rintro e w2 ⟨u1, u2, u3, N2, M2, d2, rfl, hn2, hm2, O2, hb⟩
  replace hB := below_then hB hb
  replace X := X.below hb
  clear xl x0 x1 x2
  have hz2 := hb.size
  clear hb
  obtain ⟨⟨sna, snc, h1⟩, ⟨sxa, sxc, h2⟩, sya, syc, h3⟩ := O2.shapes
  subst h1
  subst h2
  subst h3
  go_wp2_with fail
  refine (S _ _ _ _ _ _ O2.cr hn2 hm2).mono ?_
  rintro e w3 ⟨U1, rfl, UW, hb⟩
  replace hB := below_then hB hb
  replace X := X.below hb
  have hz3 := hb.size
  clear hb S O2 hn2 hm2
  have gU := owns_ge UW
  have lU := owns_below_lt UW
  obtain ⟨Ua, Uc, h1⟩ := owns_shape UW
  subst h1
  obtain ⟨xl, x0, x1, x2⟩ := X.c3
  go_wp2_with fail
  refine (T _ hB).mono ?_
  rintro e w4 ⟨u4, u5, u6, N4, M4, d4, rfl, hn4, hm4, AO, hb⟩
  replace hB := below_then hB hb
  replace X := X.below hb
  replace UW := owns_below UW hb
  clear xl x0 x1 x2
  have hz4 := hb.size
  clear hb
  obtain ⟨⟨ana, anc, h1⟩, ⟨axa, axc, h2⟩, aya, ayc, h3⟩ := AO.shapes
  subst h1
  subst h2
  subst h3
  have hAl := AO.lohi
  have BX := below_alloc w4 (.cells #[.slice ana N4.length anc, .slice axa M4.length axc, .slice aya L.length ayc] 60)
  have A := Box.new w4 #[.slice ana N4.length anc, .slice axa M4.length axc, .slice aya L.length ayc] 60
  replace hB := below_then hB BX
  replace X := X.below BX
  replace UW := owns_below UW BX
  replace AO := AO.below BX
  clear BX
  obtain ⟨ql, q0, q1, q2⟩ := A.c3
  go_wp2_with fail
  refine (I _ _ _ _ _ _ AO.cr hn4 hm4).mono ?_
  rintro e w5 ⟨V1, rfl, VW, hb⟩
  replace hB := below_then hB hb
  replace X := X.below hb
  replace UW := owns_below UW hb
  replace AO := AO.below hb
  replace A := A.below hb
  clear ql q0 q1 q2
  have hz5 := hb.size
  simp only [World.size_alloc] at hz5
  clear hb
  have gV := owns_ge VW
  have lV := owns_below_lt VW
  simp only [World.size_alloc] at gV
  obtain ⟨Va, Vc, h1⟩ := owns_shape VW
  subst h1
  go_wp2_with fail
  refine (eqLeadS_same _ _ R _ (LW_of_owns VW rfl) (LW_of_owns UW rfl) RL).mono ?_
  rintro e w6 ⟨rfl, hb⟩
  replace hB := below_then hB hb
  replace X := X.below hb
  replace UW := owns_below UW hb
  replace AO := AO.below hb
  replace A := A.below hb
  replace VW := owns_below VW hb
  have hz6 := hb.size
  clear hb
  obtain ⟨pl, p0, p1, p2⟩ := X.c3
  obtain ⟨ql, q0, q1, q2⟩ := A.c3
  go_wp2_with fail
  go_region_held3 (fun w' => (w'.cell? ⟨w.heap.size, 0, none⟩ = some (.slice na N.length nc) ∧ w'.cell? ⟨w.heap.size, 1, none⟩ = some (.slice xa M.length xc) ∧ w'.cell? ⟨w.heap.size, 2, none⟩ = some (.slice ya L.length yc)) ∧ w'.cell? ⟨w4.heap.size, 0, none⟩ = some (.slice ana N4.length anc) ∧ w'.cell? ⟨w4.heap.size, 1, none⟩ = some (.slice axa M4.length axc) ∧ w'.cell? ⟨w4.heap.size, 2, none⟩ = some (.slice aya L.length ayc)) (go_keep) (first | (go_at_call 40; refine (T _ hB.drew).mono ?_; rintro e w7 ⟨u7, u8, u9, N7, M7, d7, rfl, hn7, hm7, O7, hb7'⟩; have hb7 := below_undrew hb7'; obtain ⟨⟨bna, bnc, h1⟩, ⟨bxa, bxc, h2⟩, bya, byc, h3⟩ := O7.shapes; subst h1; subst h2; subst h3; have p0 := (X.below hb7).2.1 0 _ rfl; have p1 := (X.below hb7).2.1 1 _ rfl; have p2 := (X.below hb7).2.1 2 _ rfl; have q0 := (A.below hb7).2.1 0 _ rfl; have q1 := (A.below hb7).2.1 1 _ rfl; have q2 := (A.below hb7).2.1 2 _ rfl) | (go_at_call 35; refine (eqCluster_same _ _ _ _ _ _ N4 N7 M4 M7 L _ (AO.cr.below hb7) O7.cr (hn4.trans hn7.symm) (hm4.trans hm7.symm) (hs.same hn4 hm4)).mono ?_; rintro e w8 ⟨rfl, hb8⟩; have p0 := (X.below (below_then hb7 hb8)).2.1 0 _ rfl; have p1 := (X.below (below_then hb7 hb8)).2.1 1 _ rfl; have p2 := (X.below (below_then hb7 hb8)).2.1 2 _ rfl; have q0 := (A.below (below_then hb7 hb8)).2.1 0 _ rfl; have q1 := (A.below (below_then hb7 hb8)).2.1 1 _ rfl; have q2 := (A.below (below_then hb7 hb8)).2.1 2 _ rfl))
  all_goals
    have hb78 := below_then hb7 hb8
    replace hB := below_then hB hb78
    replace X := X.below hb78
    replace UW := owns_below UW hb78
    replace AO := AO.below hb78
    replace A := A.below hb78
    replace VW := owns_below VW hb78
    have hzw8 := hb78.size
    clear hb7' hb7 hb8 hb78 O7 hn7 hm7
    clear pl p0 p1 p2 ql q0 q1 q2
    obtain ⟨ql, q0, q1, q2⟩ := A.c3
    have hs4 := hs.same hn4 hm4
    have hk4 := ms_same hn4 hm4 hsum
    go_wp2_with fail
    refine (markCluster_own _ _ _ N4 M4 L _ _ _ 1 _ AO hs4 (by omega) (by omega)).mono ?_
    rintro e w9 ⟨rfl, _, hc⟩
    clear ql q0 q1 q2
    replace hB := hB.trans (hc.below (B := w.heap.size) (by omega) (fun b h => by omega))
    replace X := hc.box X (fun h => by omega)
    replace UW := hc.owns UW (fun b hb h => by have := gU b hb; have := lU b hb; omega)
    replace VW := hc.owns VW (fun b hb h => by have := gV b hb; have := lV b hb; omega)
    have hzw9 := hc.size
    clear hc AO A hs4
    have hk1 : ¬ (1 : Int) + (uC N4 M4 L : Nat) < 0 := by omega
    go_wp2_with fail
    refine (eqLeadS_same _ _ R _ (LW_of_owns VW rfl) (LW_of_owns UW rfl) RL).mono ?_
    rintro e w10 ⟨rfl, hb⟩
    replace hB := below_then hB hb
    replace X := X.below hb
    replace UW := owns_below UW hb
    replace VW := owns_below VW hb
    have hz10 := hb.size
    clear hb
    go_wp2_with fail
    refine (markLeadS_own _ _ R 1 _ VW RL (by omega) (by omega)).mono ?_
    rintro e w11 ⟨rfl, VM, hc⟩
    replace hB := hB.trans (hc.below (B := w.heap.size) (by omega) (fun b h => by have := gV _ h; have := lV _ h; omega))
    replace X := hc.box X (fun h => by have := gV _ h; have := lV _ h; omega)
    replace UW := hc.owns UW (fun b hb h => by have := gU b hb; have := lU b hb; have := gV _ h; have := lV _ h; omega)
    have hzw11 := hc.size
    clear hc VW
    have hk0 : ¬ (1 : Int) + (sm uL R : Nat) < 0 := by omega
    go_wp2_with fail
    refine (heldLeadS_any _ R 1 _ (LW_of_owns VM (mkL_length _ _ _ _).symm) RL (by omega) (by omega)).mono ?_
    rintro e w12 ⟨rfl, hb⟩
    replace hB := below_then hB hb
    replace X := X.below hb
    replace UW := owns_below UW hb
    replace VM := owns_below VM hb
    clear hb
    obtain ⟨xl, x0, x1, x2⟩ := X.c3
    go_wp2_with fail
    refine (T _ hB).mono ?_
    rintro e w13 ⟨u7, u8, u9, N7, M7, d7, rfl, hn7, hm7, O3, hb⟩
    replace hB := below_then hB hb
    replace X := X.below hb
    replace UW := owns_below UW hb
    replace VM := owns_below VM hb
    clear xl x0 x1 x2
    clear hb T
    obtain ⟨⟨ena, enc, h1⟩, ⟨exa, exc, h2⟩, eya, eyc, h3⟩ := O3.shapes
    subst h1
    subst h2
    subst h3
    go_wp2_with fail
    refine (I _ _ _ _ _ _ O3.cr hn7 hm7).mono ?_
    rintro e w14 ⟨Y1, rfl, YW, hb⟩
    replace hB := below_then hB hb
    replace X := X.below hb
    replace UW := owns_below UW hb
    replace VM := owns_below VM hb
    clear hb I O3 hn7 hm7
    obtain ⟨Ya, Yc, h1⟩ := owns_shape YW
    subst h1
    go_wp2_with fail
    refine (eqLeadS_same _ _ R _ (LW_of_owns YW rfl) (LW_of_owns UW rfl) RL).mono ?_
    rintro e w15 ⟨rfl, hb⟩
    replace hB := below_then hB hb
    replace X := X.below hb
    replace UW := owns_below UW hb
    replace VM := owns_below VM hb
    replace YW := owns_below YW hb
    clear hb
    go_wp2_with fail
    refine (heldLeadS_any _ R 1 _ (LW_of_owns VM (mkL_length _ _ _ _).symm) RL (by omega) (by omega)).mono ?_
    rintro e w16 ⟨rfl, hb⟩
    replace hB := below_then hB hb
    replace X := X.below hb
    replace UW := owns_below UW hb
    replace VM := owns_below VM hb
    replace YW := owns_below YW hb
    clear hb X UW VM YW
    go_wp2
    go_ret
    exact ⟨rfl, hB⟩
end Go.Proofs.Ytapfhhmimkkhnaa

namespace Go.Proofs.Ytapfhhmimkkhnaa
open Go.RowKit Go.Deep
set_option linter.unusedVariables false
set_option maxRecDepth 100000

theorem ER_of_trod {H : Type} {enc : TypeId × Value → H} {P : Program} {w : World} {base : Nat} {spare : Nat → Bool} {held : Bool} {t e : TypeId} {f0 f1 : Field} {fuel : Nat} {v : Value} {x : DataW H × List MemPlace}
    (ht : P.underlying t = some (.slice e)) (he : P.underlying e = some (.struct #[f0, f1])) (ce : P.cellsOf e = 2) (hone : oneCellFields P #[f0, f1] = true)
    (u0 : P.underlying f0.type = some (.int .i64)) (u1 : P.underlying f1.type = some .string)
    (h : DataW.trod enc P w base spare held fuel t [v] = some x) :
    ∃ l : List En, ER w v l ∧ l.length ≤ maxLen ∧ ∀ i (hi : i < l.length), l[i].d.size ≤ maxLen := by
  obtain ⟨p0, k0⟩ := hone_of hone 0 f0 rfl
  obtain ⟨p1, k1⟩ := hone_of hone 1 f1 rfl
  rcases open_slice ht h with ⟨hv, _⟩ | ⟨a, len, cap, m, n, D, Pl, hv, hb, hl, hm, hmm, hx, hel⟩
  · simp only [List.cons.injEq, and_true] at hv
    subst hv
    exact ⟨[], ⟨none, 0, rfl, fun h => absurd rfl h⟩, by simp, by simp⟩
  · simp only [List.cons.injEq, and_true] at hv
    subst hv
    have hlm : len ≤ m := by rw [hmm]; split <;> omega
    have each : ∀ i, i < len → ∃ s : En, (w.cell? ((a.add (i * 2)).add 0) = some (.int .i64 s.t) ∧ w.cell? ((a.add (i * 2)).add 1) = some (.string s.d)) ∧ s.d.size ≤ maxLen := by
      intro i hi
      obtain ⟨cs', h1, h2⟩ := hel i (by omega)
      rw [ce] at h1
      obtain ⟨_, hlen, hcell⟩ := World.cells?_some h1
      obtain ⟨xs, k, hk, hxy, _, hxl, hf⟩ := DataW.trod_struct he h2
      match xs, hxl, cs', hlen with
      | [y0, y1], _, [c0, c1], _ =>
        have g0 := hf 0 f0 rfl
        have g1 := hf 1 f1 rfl
        simp [p0, k0] at g0
        simp [p1, k1] at g1
        obtain ⟨z0, e0, _, w0⟩ := DataW.trod_int u0 g0
        obtain ⟨z1, e1, _, s1⟩ := DataW.trod_string u1 g1
        simp only [List.cons.injEq, and_true] at e0 e1
        subst e0 e1
        exact ⟨⟨z0, z1⟩, ⟨hcell 0 (by omega), hcell 1 (by omega)⟩, s1⟩
    have all : ∀ i, ∃ s : En, i < len → (w.cell? ((a.add (i * 2)).add 0) = some (.int .i64 s.t) ∧ w.cell? ((a.add (i * 2)).add 1) = some (.string s.d)) ∧ s.d.size ≤ maxLen := by
      intro i
      by_cases hi : i < len
      · obtain ⟨q, hq⟩ := each i hi
        exact ⟨q, fun _ => hq⟩
      · exact ⟨En.zero, fun h => absurd h hi⟩
    obtain ⟨F, hF⟩ := Classical.skolem.1 all
    have hlen : ((List.range len).map F).length = len := by simp
    refine ⟨(List.range len).map F, ⟨some a, cap, by rw [hlen], fun hne => ?_⟩, by rw [hlen]; omega, fun i hi => ?_⟩
    · have hpos : 0 < len := by
        rcases Nat.eq_zero_or_pos len with h0 | h0
        · subst h0; simp at hne
        · exact h0
      obtain ⟨⟨hc0, _⟩, _⟩ := hF 0 hpos
      have hsp : a.spot = none := by
        have := World.cell?_spot hc0
        simpa [Addr.add] using this
      obtain ⟨b, off, spot⟩ := a
      simp only at hsp
      subst hsp
      have hbl := World.block_lt_of_cell? _ _ hc0
      have add5 : ∀ i j : Nat, ((⟨b, off, none⟩ : Addr).add (i * 2)).add j = ⟨b, off + i * 2 + j, none⟩ := by
        intro i j
        by_cases h1 : i = 0
        · subst h1; by_cases h2 : j = 0 <;> simp [Addr.add, h2]
        · have h3 : ¬ (i * 2 = 0) := by omega
          by_cases h2 : j = 0 <;> simp [Addr.add, h2, h3]
      refine ⟨b, off, rfl, by simpa [Addr.add] using hbl, fun i hi => ?_⟩
      have hi' : i < len := by simpa using hi
      obtain ⟨⟨q0, q1⟩, _⟩ := hF i hi'
      rw [add5] at q0 q1
      have hg : ((List.range len).map F)[i] = F i := by simp
      rw [hg]
      exact ⟨q0, q1⟩
    · have hi' : i < len := by simpa using hi
      have hg : ((List.range len).map F)[i] = F i := by simp
      rw [hg]
      exact (hF i hi').2
end Go.Proofs.Ytapfhhmimkkhnaa

namespace Go.Proofs.Ytapfhhmimkkhnaa
open Go.RowKit Go.Deep Go.Joins Go.ChangeShapes Go.WideShapes Go.ChangeAt
set_option linter.unusedVariables false
set_option maxRecDepth 100000

theorem array9 {α : Type} {cs : Array α} (h : cs.size = 9) : ∃ c0 c1 c2 c3 c4 c5 c6 c7 c8, cs = #[c0, c1, c2, c3, c4, c5, c6, c7, c8] := by
  obtain ⟨l⟩ := cs
  match l, h with
  | [c0, c1, c2, c3, c4, c5, c6, c7, c8], _ => exact ⟨c0, c1, c2, c3, c4, c5, c6, c7, c8, rfl⟩
theorem open_agg9 {H : Type} {enc : TypeId × Value → H} {P : Program} {w : World} {base : Nat} {spare : Nat → Bool} {held : Bool} {r : Reach} {b0 : Nat} {t : TypeId} {f0 f1 f2 f3 f4 f5 f6 f7 f8 : Field} {v : Value} {d : DataW H} {p : List MemPlace} (hs : P.underlying t = some (.struct #[f0, f1, f2, f3, f4, f5, f6, f7, f8])) (hone : oneCellFields P #[f0, f1, f2, f3, f4, f5, f6, f7, f8] = true) (hC : P.cellsOf t = 9)
    (hv : Value.okWide P w r b0 t v) (h : DataW.Trod enc P w base spare held t v d p) :
    ∃ (v0 v1 v2 v3 v4 v5 v6 v7 v8 : Value) (y0 y1 y2 y3 y4 y5 y6 y7 y8 : DataW H × List MemPlace) (n : Nat), v = .agg #[v0, v1, v2, v3, v4, v5, v6, v7, v8] ∧ DataW.trod enc P w base spare held n f0.type [v0] = some y0 ∧ DataW.trod enc P w base spare held n f1.type [v1] = some y1 ∧ DataW.trod enc P w base spare held n f2.type [v2] = some y2 ∧ DataW.trod enc P w base spare held n f3.type [v3] = some y3 ∧ DataW.trod enc P w base spare held n f4.type [v4] = some y4 ∧ DataW.trod enc P w base spare held n f5.type [v5] = some y5 ∧ DataW.trod enc P w base spare held n f6.type [v6] = some y6 ∧ DataW.trod enc P w base spare held n f7.type [v7] = some y7 ∧ DataW.trod enc P w base spare held n f8.type [v8] = some y8 := by
  obtain ⟨cs, rfl, hsz⟩ := okWide_struct hs hv
  obtain ⟨c0, c1, c2, c3, c4, c5, c6, c7, c8, rfl⟩ := array9 (hsz.trans hC)
  obtain ⟨fuel, hf⟩ := h
  obtain ⟨xs, n, _, _, _, hlen, hf⟩ := DataW.trod_struct hs hf
  obtain ⟨o0, k0⟩ := hone_of hone 0 f0 rfl
  obtain ⟨o1, k1⟩ := hone_of hone 1 f1 rfl
  obtain ⟨o2, k2⟩ := hone_of hone 2 f2 rfl
  obtain ⟨o3, k3⟩ := hone_of hone 3 f3 rfl
  obtain ⟨o4, k4⟩ := hone_of hone 4 f4 rfl
  obtain ⟨o5, k5⟩ := hone_of hone 5 f5 rfl
  obtain ⟨o6, k6⟩ := hone_of hone 6 f6 rfl
  obtain ⟨o7, k7⟩ := hone_of hone 7 f7 rfl
  obtain ⟨o8, k8⟩ := hone_of hone 8 f8 rfl
  match xs, hlen with
  | [y0, y1, y2, y3, y4, y5, y6, y7, y8], _ =>
    have h0 := hf 0 f0 rfl
    have h1 := hf 1 f1 rfl
    have h2 := hf 2 f2 rfl
    have h3 := hf 3 f3 rfl
    have h4 := hf 4 f4 rfl
    have h5 := hf 5 f5 rfl
    have h6 := hf 6 f6 rfl
    have h7 := hf 7 f7 rfl
    have h8 := hf 8 f8 rfl
    exact ⟨c0, c1, c2, c3, c4, c5, c6, c7, c8, y0, y1, y2, y3, y4, y5, y6, y7, y8, n, rfl, by simpa [Value.cells, o0, k0] using h0, by simpa [Value.cells, o1, k1] using h1, by simpa [Value.cells, o2, k2] using h2, by simpa [Value.cells, o3, k3] using h3, by simpa [Value.cells, o4, k4] using h4, by simpa [Value.cells, o5, k5] using h5, by simpa [Value.cells, o6, k6] using h6, by simpa [Value.cells, o7, k7] using h7, by simpa [Value.cells, o8, k8] using h8⟩
end Go.Proofs.Ytapfhhmimkkhnaa
