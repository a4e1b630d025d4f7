/-
  CommonLog: the program's side.
-/
import Derived.Test.YtapfhhmimkkhnaaCPToCIm
namespace Go.Proofs.Ytapfhhmimkkhnaa
open Go.RowKit Go.Maps
set_option linter.unusedVariables false
set_option maxRecDepth 100000

set_option maxHeartbeats 32000000 in
theorem implCL_any (vn vm vl : Value) (N : List Nv) (M : List Mv) (L : List Ld) (w : World) (h : CR w vn vm vl N M L) (hs : CS N M L) (hq : CQ N) :
    Calls Try.prog 48 #[.agg #[vn, vm, vl]] w fun e w' => ∃ u, e = .returned (.tuple #[u, .bool (goodC (N.map Nv.n) (M.map Mv.q) L)]) ∧ w'.ownsRow w.heap.size 34 2 u (cmL (goodC (N.map Nv.n) (M.map Mv.q) L) (N.map Nv.n)).length (flat2 (cmL (goodC (N.map Nv.n) (M.map Mv.q) L) (N.map Nv.n))) ∧ Below w.heap.size w w' := by
  have K := implGoodC_any vn vm vl N M L _ (h.below (below_alloc w (.cells #[vn, vm, vl] 60))) hs
  obtain ⟨⟨na, nc, hcn⟩, ⟨xa, xc, hcm⟩, ya, yc, hcl⟩ := h.shapes
  subst hcn
  subst hcm
  subst hcl
  have hB := below_alloc w (.cells #[.slice na N.length nc, .slice xa M.length xc, .slice ya L.length yc] 60)
  have X := Box.new w #[.slice na N.length nc, .slice xa M.length xc, .slice ya L.length yc] 60
  have HEN := fun k (hk : k < N.length) W (hb : Below w.heap.size w W) => (h.ne k hk).below hb
  have HEM := fun k (hk : k < M.length) W (hb : Below w.heap.size w W) => (h.me k hk).below hb
  obtain ⟨a1, c1, e1, hcN⟩ := h.n
  obtain ⟨a2, c2, e2, hcM⟩ := h.m
  obtain ⟨a3, c3, e3, hcL⟩ := h.l
  simp only [Value.slice.injEq, true_and] at e1 e2 e3
  obtain ⟨rfl, rfl⟩ := e1
  obtain ⟨rfl, rfl⟩ := e2
  obtain ⟨rfl, rfl⟩ := e3
  have hNl := hs.n
  have hMl := hs.m
  have hLl := hs.l
  clear h
  have HCO : goodC (N.map Nv.n) (M.map Mv.q) L = true → 1 ≤ N.length ∧ N.length ≤ 7 ∧ ∀ i (hi : i < N.length), 0 ≤ N[i].n.co ∧ N[i].n.co ≤ (N[i].n.log.length : Int) ∧ N[i].n.log.length ≤ 60 := goodC_co
  clear hcM hcL HEM hs
  generalize goodC (N.map Nv.n) (M.map Mv.q) L = ok at *
  cases ok with
  | false =>
    clear hcN HEN HCO hq
    show Calls Try.prog 48 _ w fun e w' => ∃ u, e = .returned (.tuple #[u, .bool false]) ∧ w'.ownsRow w.heap.size 34 2 u 0 (flat2 []) ∧ Below w.heap.size w w'
    go_enter Try.func48, Try.ntmps48
    go_wp2
    go_step3
    go_wp2_with fail
    refine K.mono ?_
    rintro e w1 ⟨rfl, hb⟩
    replace hB := below_then hB hb
    clear K hb X
    go_wp2
    try rw [Exit.noGoto_ret]
    go_ret2
    exact ⟨_, rfl, World.ownsRow_nil _ _ _ _, hB⟩
  | true =>
  obtain ⟨p1, p7, HC⟩ := HCO rfl
  clear HCO
  obtain ⟨L0, HL0⟩ : ∃ L0, Hid (log0 (N.map Nv.n) = L0) := ⟨log0 (N.map Nv.n), rfl⟩
  have HN0 : Hid (N[0].n.log = L0) := by
    show _ = _
    rw [← HL0.out]
    cases N with
    | nil => simp at p1
    | cons x r => rfl
  obtain ⟨R, HR⟩ : ∃ R, Hid (cmL true (N.map Nv.n) = R) := ⟨cmL true (N.map Nv.n), rfl⟩
  rw [HR.out]
  have HRM : Hid (∀ m, IsCm L0 (N.map Nv.n) m → R = L0.take m) := fun m hm => by
    rw [← HR.out]
    simp only [cmL, if_true]
    rw [HL0.out, cmM_eq hm]
  clear HR HL0
  obtain ⟨b, off, rfl, hbl, hcell⟩ := hcN (by intro e; simp [e] at p1)
  have hco0 := HC 0 (by omega)
  have hE0 := fun W (h : Below w.heap.size w W) => (HEN 0 (by omega) W h).1
  have hq0 := hq 0 (by omega)
  have hc0 := hcell 0 (by omega)
  rw [HN0.out] at hco0 hE0 hq0 hc0
  obtain ⟨c0, hc0e⟩ := Int.eq_ofNat_of_zero_le hco0.1
  rw [hc0e] at hco0 hc0
  have HND : Hid (∀ m, m = c0 → okN L0 N[0].n m = false) := fun m hm => by unfold okN; rw [hc0e, hm]; simp
  simp only [Nat.zero_mul, Nat.add_zero] at hc0
  have hl60 : L0.length ≤ 60 := hco0.2.2
  have hc0l : c0 ≤ L0.length := by omega
  clear hco0
  have HS0e : Hid (∀ i (h : i < N.length), i = 0 → N[i].n.log = L0 ∧ N[i].n.co = c0) := fun i h e => by subst e; exact ⟨HN0.out, hc0e⟩
  clear hc0e
  generalize N[0].n.id = id0 at *
  generalize N[0].n.pe = pe0 at *
  generalize N[0].n.te = te0 at *
  generalize N[0].n.vo = vo0 at *
  generalize N[0].n.ro = ro0 at *
  generalize N[0].n.vs = vs0 at *
  generalize N[0].n.mt = mt0 at *
  generalize N[0].la = la0 at *
  generalize N[0].lc = lc0 at *
  generalize N[0].va = va0 at *
  generalize N[0].vc = vc0 at *
  generalize N[0].ma = ma0 at *
  generalize N[0].mc = mc0 at *
  obtain ⟨d0, d1, d2, d3, d4, d5, d6, d7, d8⟩ := hc0
  go_enter Try.func48, Try.ntmps48
  go_wp2
  go_step3
  go_wp2_with fail
  refine K.mono ?_
  rintro e w1 ⟨rfl, hb⟩
  replace hB := below_then hB hb
  replace X := X.below hb
  clear K hb
  replace d0 := (hB.cell (p := ⟨b, off, none⟩) hbl).trans d0
  replace d1 := (hB.cell (p := ⟨b, off + 1, none⟩) hbl).trans d1
  replace d2 := (hB.cell (p := ⟨b, off + 2, none⟩) hbl).trans d2
  replace d3 := (hB.cell (p := ⟨b, off + 3, none⟩) hbl).trans d3
  replace d4 := (hB.cell (p := ⟨b, off + 4, none⟩) hbl).trans d4
  replace d5 := (hB.cell (p := ⟨b, off + 5, none⟩) hbl).trans d5
  replace d6 := (hB.cell (p := ⟨b, off + 6, none⟩) hbl).trans d6
  replace d7 := (hB.cell (p := ⟨b, off + 7, none⟩) hbl).trans d7
  replace d8 := (hB.cell (p := ⟨b, off + 8, none⟩) hbl).trans d8
  have hz1 := hB.size
  have hbW : b < w1.heap.size := by omega
  obtain ⟨hxl, x0, x1, x2⟩ := X.c3
  have p1i : (0 : Int) < (N.length : Int) := by omega
  have BA := below_alloc w1 (.cells #[.int .i64 id0, .int .i64 pe0, .int .i64 te0, .int .i64 vo0, .slice la0 L0.length lc0, .int .i64 c0, .int .i64 ro0, .slice va0 vs0.length vc0, .slice ma0 mt0.length mc0] 26)
  have F := Box.new w1 #[.int .i64 id0, .int .i64 pe0, .int .i64 te0, .int .i64 vo0, .slice la0 L0.length lc0, .int .i64 c0, .int .i64 ro0, .slice va0 vs0.length vc0, .slice ma0 mt0.length mc0] 26
  replace X := X.below BA
  replace hB := below_then hB BA
  obtain ⟨W1, hW1⟩ : ∃ W1, W1 = w1.alloc (.cells #[.int .i64 id0, .int .i64 pe0, .int .i64 te0, .int .i64 vo0, .slice la0 L0.length lc0, .int .i64 c0, .int .i64 ro0, .slice va0 vs0.length vc0, .slice ma0 mt0.length mc0] 26) := ⟨_, rfl⟩
  rw [← hW1] at X hB F
  have hz2 := hB.size
  clear BA
  go_wp2
  go_step3
  go_wp2
  rw [← hW1]
  clear hW1 d0 d1 d2 d3 d4 d5 d6 d7 d8 hxl x0 x1 x2 p1i hbW
  go_loopw [5] (fun i wr => ∃ m : Nat, m ≤ c0 ∧ i = .int .i64 m ∧ (∀ j, j < m → ∀ i (h : i < N.length), okN L0 N[i].n j = true) ∧ Below w.heap.size w wr ∧ Box wr w.heap.size [.slice (some ⟨b, off, none⟩) N.length nc, .slice xa M.length xc, .slice ya L.length yc] ∧ Box wr w1.heap.size [.int .i64 id0, .int .i64 pe0, .int .i64 te0, .int .i64 vo0, .slice la0 L0.length lc0, .int .i64 c0, .int .i64 ro0, .slice va0 vs0.length vc0, .slice ma0 mt0.length mc0]) (fun i _ => c0 - (intOf i).toNat)
  case atStart => exact ⟨0, Nat.zero_le _, rfl, fun j h => absurd h (Nat.not_lt_zero j), hB, X, F⟩
  case round =>
    obtain ⟨m, hm, rfl, hall, hb, Xr, Fr⟩ := hrel
    clear X F hB
    by_cases hmc : m < c0
    rotate_left
    · have HM : Hid (IsCm L0 (N.map Nv.n) m) := by
        refine ⟨fun j hj i hi => ?_, 0, by simp; omega, ?_⟩
        · simp only [List.length_map] at hi
          simpa using hall j hj i hi
        · obtain ⟨e1, e2⟩ := HS0e.out 0 (by omega) rfl
          simp only [List.getElem_map]
          unfold okN
          rw [e2]
          simp; omega
      have hmc2 : ¬ (m : Int) < (c0 : Int) := by omega
      have hBz := hb
      have Fz := Fr
      obtain ⟨gl, g0, g1, g2, g3, g4, g5, g6, g7, g8⟩ := Fr.e9
      clear hall HS0e Xr hb Fr
      have HE : Hid (L0.take m = R) := (HRM.out m HM.out).symm
      have CL := cloneE_any (.slice la0 m lc0) R _ (by rw [← HE.out]; exact ER_to (hE0 _ hBz) (by omega)) (hq0.1.sl (by omega)) (by rw [← HE.out]; simp; omega)
      have HSm := fun W => sl_to la0 L0.length lc0 m W (by omega)
      clear HE HM HRM hE0 hq0 HEN hcell HC hq HND HN0
      obtain ⟨hxl, f0, f1, f2, f3, f4, f5, f6, f7, f8⟩ := Fz.e9
      have hzz := hBz.size
      go_wp2_with (first | (refine wpList_sliceOp _ rfl 23 _ _ _ _ rfl _ (HSm _) ?_; simp only [Act.put, List.setIfInBounds_toArray, List.set_cons_zero, List.set_cons_succ]))
      refine CL.mono ?_
      rintro e w9 ⟨u, rfl, O, hb9⟩
      have hB9 := hBz.trans (hb9.mono hBz.size)
      obtain ⟨ua, uc, rfl⟩ := owns_shape O
      replace O := owns_mono' O hzz
      clear CL hb9 HSm hxl f0 f1 f2 f3 f4 f5 f6 f7 f8 Fz hBz
      go_wp2
      try rw [Exit.noGoto_ret]
      go_ret2
      exact ⟨_, rfl, O, hB9⟩
    have hmci : (m : Int) < (c0 : Int) := by omega
    obtain ⟨gl, g0, g1, g2, g3, g4, g5, g6, g7, g8⟩ := Fr.e9
    obtain ⟨hxl, x0, x1, x2⟩ := Xr.c3
    go_wp2
    clear gl g0 g1 g2 g3 g4 g5 g6 g7 g8 hxl x0 x1 x2
    go_loopw [22] (fun i wr => ∃ k : Nat, k ≤ N.length ∧ i = .int .i64 k ∧ (∀ i (h : i < N.length), i < k → okN L0 N[i].n m = true) ∧ Below w.heap.size w wr ∧ Box wr w.heap.size [.slice (some ⟨b, off, none⟩) N.length nc, .slice xa M.length xc, .slice ya L.length yc] ∧ Box wr w1.heap.size [.int .i64 id0, .int .i64 pe0, .int .i64 te0, .int .i64 vo0, .slice la0 L0.length lc0, .int .i64 c0, .int .i64 ro0, .slice va0 vs0.length vc0, .slice ma0 mt0.length mc0]) (fun i _ => N.length - (intOf i).toNat)
    case atStart => exact ⟨0, Nat.zero_le _, rfl, fun i _ h => absurd h (Nat.not_lt_zero i), hb, Xr, Fr⟩
    case round =>
      obtain ⟨k, hk, rfl, hin, hbi, Xi, Fi⟩ := hrel
      clear hb Xr Fr
      by_cases hlt : k < N.length
      rotate_left
      · have HA : Hid (∀ j, j < m + 1 → ∀ i (h : i < N.length), okN L0 N[i].n j = true) := fun j hj i hi => by
          by_cases hjm : j < m
          · exact hall j hjm i hi
          · obtain rfl : j = m := by omega
            exact hin i hi (by omega)
        have hkn : ¬ (k : Int) < (N.length : Int) := by omega
        clear hall hin HS0e HRM hE0 hq0 HEN hcell HC hq HND HN0
        go_wp2
        go_roundw
        case rel => exact ⟨m + 1, by omega, by go_num, HA.out, hbi, Xi, Fi⟩
        case measure => simp [intOf]; omega
      obtain ⟨z0, z1, z2, z3, z4, z5, z6, z7, z8⟩ := hcell k hlt
      have hc0 := (hbi.cell (p := ⟨b, off + k * 9, none⟩) hbl).trans z0
      have hc1 := (hbi.cell (p := ⟨b, off + k * 9 + 1, none⟩) hbl).trans z1
      have hc2 := (hbi.cell (p := ⟨b, off + k * 9 + 2, none⟩) hbl).trans z2
      have hc3 := (hbi.cell (p := ⟨b, off + k * 9 + 3, none⟩) hbl).trans z3
      have hc4 := (hbi.cell (p := ⟨b, off + k * 9 + 4, none⟩) hbl).trans z4
      have hc5 := (hbi.cell (p := ⟨b, off + k * 9 + 5, none⟩) hbl).trans z5
      have hc6 := (hbi.cell (p := ⟨b, off + k * 9 + 6, none⟩) hbl).trans z6
      have hc7 := (hbi.cell (p := ⟨b, off + k * 9 + 7, none⟩) hbl).trans z7
      have hc8 := (hbi.cell (p := ⟨b, off + k * 9 + 8, none⟩) hbl).trans z8
      have hE := (HEN k hlt _ hbi).1
      have hEf := hE0 _ hbi
      have hCk := HC k hlt
      have HBAD : Hid (okN L0 N[k].n m = false → IsCm L0 (N.map Nv.n) m) := fun e => by
        refine ⟨fun j hj i hi => ?_, k, by simpa using hlt, by simpa using e⟩
        simp only [List.length_map] at hi
        simpa using hall j hj i hi
      have HOK : Hid (okN L0 N[k].n m = true → ∀ i (h : i < N.length), i < k + 1 → okN L0 N[i].n m = true) := fun e i hi hik => by
        by_cases hi2 : i < k
        · exact hin i hi hi2
        · obtain rfl : i = k := by omega
          exact e
      have HU : Hid (okN L0 N[k].n m = (decide ((m : Int) < N[k].n.co) && eqAt L0 N[k].n.log m)) := rfl
      have HALL : Hid (∀ j, j < m → ∀ i (h : i < N.length), okN L0 N[i].n j = true) := hall
      clear z0 z1 z2 z3 z4 z5 z6 z7 z8 hin hall HS0e
      generalize HNk : N[k] = s at *
      clear HNk
      obtain ⟨⟨id, pe, te, vo, co, ro, log, vs, mt⟩, la, lc, va, vc, ma, mc⟩ := s
      dsimp only at hc0 hc1 hc2 hc3 hc4 hc5 hc6 hc7 hc8 hE hCk HBAD HOK HU
      obtain ⟨g0, g1, g2⟩ := hCk
      obtain ⟨c, rfl⟩ := Int.eq_ofNat_of_zero_le g0
      have hz := hbi.size
      have hB0 := hbi.alloc hz (.cells #[.int .i64 id, .int .i64 pe, .int .i64 te, .int .i64 vo, .slice la log.length lc, .int .i64 c, .int .i64 ro, .slice va vs.length vc, .slice ma mt.length mc] 26)
      have X0 := Box.new wr #[.int .i64 id, .int .i64 pe, .int .i64 te, .int .i64 vo, .slice la log.length lc, .int .i64 c, .int .i64 ro, .slice va vs.length vc, .slice ma mt.length mc] 26
      have hBw := below_alloc wr (.cells #[.int .i64 id, .int .i64 pe, .int .i64 te, .int .i64 vo, .slice la log.length lc, .int .i64 c, .int .i64 ro, .slice va vs.length vc, .slice ma mt.length mc] 26)
      replace hE := hE.below hBw
      replace hEf := hEf.below hBw
      replace Xi := Xi.below hBw
      replace Fi := Fi.below hBw
      obtain ⟨hx0, v0, v1, v2, v3, v4, v5, v6, v7, v8⟩ := X0.e9
      obtain ⟨hf0, f0, f1, f2, f3, f4, f5, f6, f7, f8⟩ := Fi.e9
      clear hBw X0
      by_cases hmk : m < c
      rotate_left
      · have HM : Hid (IsCm L0 (N.map Nv.n) m) := HBAD.out (by rw [HU.out]; simp; omega)
        have hmd : decide ((m : Int) < (c : Int)) = false := decide_eq_false (by omega)
        have hmd2 : decide ((c : Int) ≤ (m : Int)) = true := decide_eq_true (by omega)
        clear HBAD HOK HU HALL hE hEf
        go_wp2_with fail
        go_quiet (fail)
        clear v0 v1 v2 v3 v4 v5 v6 v7 v8 f0 f1 f2 f3 f4 f5 f6 f7 f8 hc0 hc1 hc2 hc3 hc4 hc5 hc6 hc7 hc8
        have hBz := fun q => below_drewN hB0 q
        have Fz := fun q => Fi.below (below_drewN (Below.refl _ _) q)
        clear hB0 Fi Xi hbi
        have HE : Hid (L0.take m = R) := (HRM.out m HM.out).symm
        have CL := fun q => cloneE_any (.slice la0 m lc0) R _ (by rw [← HE.out]; exact ER_to (hE0 _ (hBz q)) (by omega)) (hq0.1.sl (by omega)) (by rw [← HE.out]; simp; omega)
        have HSm := fun W => sl_to la0 L0.length lc0 m W (by omega)
        clear HE HM HRM hE0 hq0 HEN hcell HC hq HND HN0
        have f0 := fun q => (Fz q).2.1 0 _ rfl
        have f1 := fun q => (Fz q).2.1 1 _ rfl
        have f2 := fun q => (Fz q).2.1 2 _ rfl
        have f3 := fun q => (Fz q).2.1 3 _ rfl
        have f4 := fun q => (Fz q).2.1 4 _ rfl
        have f5 := fun q => (Fz q).2.1 5 _ rfl
        have f6 := fun q => (Fz q).2.1 6 _ rfl
        have f7 := fun q => (Fz q).2.1 7 _ rfl
        have f8 := fun q => (Fz q).2.1 8 _ rfl
        have hxl := fun q => (Fz q).1
        skip
        go_wp2_with (first | (refine wpList_sliceOp _ rfl 23 _ _ _ _ rfl _ (HSm _) ?_; simp only [Act.put, List.setIfInBounds_toArray, List.set_cons_zero, List.set_cons_succ]))
        refine (CL _).mono ?_
        rintro e w9 ⟨u, rfl, O, hb9⟩
        have hB9 := (hBz _).trans (hb9.mono (hBz _).size)
        obtain ⟨ua, uc, rfl⟩ := owns_shape O
        replace O := owns_mono' O (hBz _).size
        clear CL hb9 HSm hxl f0 f1 f2 f3 f4 f5 f6 f7 f8 Fz hBz
        go_wp2
        try rw [Exit.noGoto_ret]
        go_ret2
        exact ⟨_, rfl, O, hB9⟩
      have hmd : decide ((m : Int) < (c : Int)) = true := decide_eq_true (by omega)
      have hmd2 : decide ((c : Int) ≤ (m : Int)) = false := decide_eq_false (by omega)
      have hml : m < log.length := by omega
      have hmL : m < L0.length := by omega
      have hmi : (m : Int) < (log.length : Int) := by omega
      have hmi2 : (m : Int) < (L0.length : Int) := by omega
      obtain ⟨a1, c1, e1, hce⟩ := hE
      obtain ⟨a2, c2, e2, hce2⟩ := hEf
      simp only [Value.slice.injEq, true_and] at e1 e2
      obtain ⟨rfl, rfl⟩ := e1
      obtain ⟨ea2, ec2⟩ := e2
      obtain ⟨be, oe, rfl, hbe, hcle⟩ := hce (by intro e; simp [e] at hml)
      obtain ⟨bf, of_, hae, hbf, hclf⟩ := hce2 (by intro e; simp [e] at hmL)
      rw [hae] at ea2
      obtain ⟨s0, s1⟩ := hcle m hml
      obtain ⟨r0, r1⟩ := hclf m hmL
      have EV := fun w => neqEntV log[m] L0[m] w
      have EG := eqG34
      have HQ : Hid (eqAt L0 log m = enEq log[m] L0[m]) := by show _ = _; rw [eqAt_lt hmL hml, enEq_comm]
      clear hcle hclf hce hce2 ec2 hae
      generalize log[m] = se at *
      generalize L0[m] = sf at *
      generalize enEq se sf = eb at *
      obtain ⟨st, sd⟩ := se
      obtain ⟨st', sd'⟩ := sf
      dsimp only at s0 s1 r0 r1 EV
      subst ea2
      cases eb with
      | true =>
        have HO := HOK.out (by rw [HU.out, hmd, HQ.out]; rfl)
        have HO2 : Hid _ := HO
        clear HOK HBAD HU HQ HRM hE0 hq0 HEN HC hq HND HN0 HO
        have EV2 : ∀ w, (binOp .neq 34 (.agg #[.int .i64 st, .string sd]) (.agg #[.int .i64 st', .string sd'])).run Try.prog w = .ok (.bool false) w := EV
        clear EV
        go_wp2_with fail
        go_quiet (fail)
        go_wp2
        go_roundw
        case rel => exact ⟨k + 1, by omega, by go_num, HO2.out, below_drewN hB0 _, Xi.below (below_drewN (Below.refl _ _) _), Fi.below (below_drewN (Below.refl _ _) _)⟩
        case measure => simp [intOf]; omega
      | false =>
        have HM : Hid (IsCm L0 (N.map Nv.n) m) := HBAD.out (by rw [HU.out, HQ.out]; simp)
        have EV2 : ∀ w, (binOp .neq 34 (.agg #[.int .i64 st, .string sd]) (.agg #[.int .i64 st', .string sd'])).run Try.prog w = .ok (.bool true) w := EV
        clear EV HOK HBAD HU HQ HALL
        go_wp2_with fail
        go_quiet (fail)
        clear v0 v1 v2 v3 v4 v5 v6 v7 v8 f0 f1 f2 f3 f4 f5 f6 f7 f8 hc0 hc1 hc2 hc3 hc4 hc5 hc6 hc7 hc8 s0 s1 r0 r1 EV2
        have hBz := fun q => below_drewN hB0 q
        have Fz := fun q => Fi.below (below_drewN (Below.refl _ _) q)
        clear hB0 Fi Xi hbi
        have HE : Hid (L0.take m = R) := (HRM.out m HM.out).symm
        have CL := fun q => cloneE_any (.slice (some ⟨bf, of_, none⟩) m lc0) R _ (by rw [← HE.out]; exact ER_to (hE0 _ (hBz q)) (by omega)) (hq0.1.sl (by omega)) (by rw [← HE.out]; simp; omega)
        have HSm := fun W => sl_to (some ⟨bf, of_, none⟩) L0.length lc0 m W (by omega)
        clear HE HM HRM hE0 hq0 HEN hcell HC hq HND HN0
        have f0 := fun q => (Fz q).2.1 0 _ rfl
        have f1 := fun q => (Fz q).2.1 1 _ rfl
        have f2 := fun q => (Fz q).2.1 2 _ rfl
        have f3 := fun q => (Fz q).2.1 3 _ rfl
        have f4 := fun q => (Fz q).2.1 4 _ rfl
        have f5 := fun q => (Fz q).2.1 5 _ rfl
        have f6 := fun q => (Fz q).2.1 6 _ rfl
        have f7 := fun q => (Fz q).2.1 7 _ rfl
        have f8 := fun q => (Fz q).2.1 8 _ rfl
        have hxl := fun q => (Fz q).1
        skip
        go_wp2_with (first | (refine wpList_sliceOp _ rfl 23 _ _ _ _ rfl _ (HSm _) ?_; simp only [Act.put, List.setIfInBounds_toArray, List.set_cons_zero, List.set_cons_succ]))
        refine (CL _).mono ?_
        rintro e w9 ⟨u, rfl, O, hb9⟩
        have hB9 := (hBz _).trans (hb9.mono (hBz _).size)
        obtain ⟨ua, uc, rfl⟩ := owns_shape O
        replace O := owns_mono' O (hBz _).size
        clear CL hb9 HSm hxl f0 f1 f2 f3 f4 f5 f6 f7 f8 Fz hBz
        go_wp2
        try rw [Exit.noGoto_ret]
        go_ret2
        exact ⟨_, rfl, O, hB9⟩
end Go.Proofs.Ytapfhhmimkkhnaa
