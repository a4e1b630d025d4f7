/-
  CommonLog: the specification's side.
-/
import Derived.Test.YtapfhhmimkkhnaaCPToCIm
namespace Go.Proofs.Ytapfhhmimkkhnaa
open Go.RowKit Go.Maps
set_option linter.unusedVariables false
set_option maxRecDepth 100000

set_option maxHeartbeats 32000000 in
theorem specCL_any (vn vm vl : Value) (N : List Nv) (M : List Mv) (L : List Ld) (w : World) (h : CR w vn vm vl N M L) (hs : CS N M L) (hq : CQ N) :
    Calls Try.prog 47 #[.agg #[vn, vm, vl]] w fun e w' => ∃ u, e = .returned (.tuple #[u, .bool (goodC (N.map Nv.n) (M.map Mv.q) L)]) ∧ w'.ownsRow w.heap.size 34 2 u (cmL (goodC (N.map Nv.n) (M.map Mv.q) L) (N.map Nv.n)).length (flat2 (cmL (goodC (N.map Nv.n) (M.map Mv.q) L) (N.map Nv.n))) ∧ Below w.heap.size w w' := by
  have K := specGoodC_any vn vm vl N M L _ (h.below (below_alloc w (.cells #[vn, vm, vl] 60))) hs
  obtain ⟨⟨na, nc, hcn⟩, ⟨xa, xc, hcm⟩, ya, yc, hcl⟩ := h.shapes
  subst hcn
  subst hcm
  subst hcl
  have hB := below_alloc w (.cells #[.slice na N.length nc, .slice xa M.length xc, .slice ya L.length yc] 60)
  have X := Box.new w #[.slice na N.length nc, .slice xa M.length xc, .slice ya L.length yc] 60
  have HEN := fun k (hk : k < N.length) W (hb : Below w.heap.size w W) => (h.ne k hk).below hb
  have HEM := fun k (hk : k < M.length) W (hb : Below w.heap.size w W) => (h.me k hk).below hb
  obtain ⟨a1, c1, e1, hcN⟩ := h.n
  obtain ⟨a2, c2, e2, hcM⟩ := h.m
  obtain ⟨a3, c3, e3, hcL⟩ := h.l
  simp only [Value.slice.injEq, true_and] at e1 e2 e3
  obtain ⟨rfl, rfl⟩ := e1
  obtain ⟨rfl, rfl⟩ := e2
  obtain ⟨rfl, rfl⟩ := e3
  have hNl := hs.n
  have hMl := hs.m
  have hLl := hs.l
  clear h
  have HCO : goodC (N.map Nv.n) (M.map Mv.q) L = true → 1 ≤ N.length ∧ N.length ≤ 7 ∧ ∀ i (hi : i < N.length), 0 ≤ N[i].n.co ∧ N[i].n.co ≤ (N[i].n.log.length : Int) ∧ N[i].n.log.length ≤ 60 := goodC_co
  clear hcM hcL HEM hs
  generalize goodC (N.map Nv.n) (M.map Mv.q) L = ok at *
  cases ok with
  | false =>
    clear hcN HEN HCO hq
    show Calls Try.prog 47 _ w fun e w' => ∃ u, e = .returned (.tuple #[u, .bool false]) ∧ w'.ownsRow w.heap.size 34 2 u 0 (flat2 []) ∧ Below w.heap.size w w'
    go_enter Try.func47, Try.ntmps47
    go_wp2_with fail
    refine K.mono ?_
    rintro e w1 ⟨rfl, hb⟩
    replace hB := below_then hB hb
    clear K hb X
    go_wp2
    go_ret2
    exact ⟨_, rfl, World.ownsRow_nil _ _ _ _, hB⟩
  | true =>
  obtain ⟨p1, p7, HC⟩ := HCO rfl
  clear HCO
  obtain ⟨L0, HL0⟩ : ∃ L0, Hid (log0 (N.map Nv.n) = L0) := ⟨log0 (N.map Nv.n), rfl⟩
  have HN0 : Hid (N[0].n.log = L0) := by
    show _ = _
    rw [← HL0.out]
    cases N with
    | nil => simp at p1
    | cons x r => rfl
  obtain ⟨R, HR⟩ : ∃ R, Hid (cmL true (N.map Nv.n) = R) := ⟨cmL true (N.map Nv.n), rfl⟩
  rw [HR.out]
  have HRM : Hid (∀ m, IsCm L0 (N.map Nv.n) m → R = L0.take m) := fun m hm => by
    rw [← HR.out]
    simp only [cmL, if_true]
    rw [HL0.out, cmM_eq hm]
  clear HR HL0
  obtain ⟨b, off, rfl, hbl, hcell⟩ := hcN (by intro e; simp [e] at p1)
  have hco0 := HC 0 (by omega)
  have hE0 := fun W (h : Below w.heap.size w W) => (HEN 0 (by omega) W h).1
  have hq0 := hq 0 (by omega)
  have hc0 := hcell 0 (by omega)
  rw [HN0.out] at hco0 hE0 hq0 hc0
  obtain ⟨c0, hc0e⟩ := Int.eq_ofNat_of_zero_le hco0.1
  rw [hc0e] at hco0 hc0
  have HND : Hid (∀ m, m = c0 → okN L0 N[0].n m = false) := fun m hm => by unfold okN; rw [hc0e, hm]; simp
  simp only [Nat.zero_mul, Nat.add_zero] at hc0
  have hl60 : L0.length ≤ 60 := hco0.2.2
  have hc0l : c0 ≤ L0.length := by omega
  clear hco0
  generalize N[0].la = la0 at *
  generalize N[0].lc = lc0 at *
  have HS0 := fun W => sl_to la0 L0.length lc0 c0 W (by omega)
  obtain ⟨d0, d1, d2, d3, d4, d5, d6, d7, d8⟩ := hc0
  go_enter Try.func47, Try.ntmps47
  go_wp2_with fail
  refine K.mono ?_
  rintro e w1 ⟨rfl, hb⟩
  replace hB := below_then hB hb
  replace X := X.below hb
  clear K hb
  have q4 := (hB.cell (p := ⟨b, off + 4, none⟩) hbl).trans d4
  have q5 := (hB.cell (p := ⟨b, off + 5, none⟩) hbl).trans d5
  have hz1 := hB.size
  have hbW : b < w1.heap.size := by omega
  obtain ⟨hxl, x0, x1, x2⟩ := X.c3
  clear d0 d1 d2 d3 d4 d5 d6 d7 d8
  have p1i : (0 : Int) < (N.length : Int) := by omega
  have p1d : decide ((0 : Int) < (N.length : Int)) = true := decide_eq_true p1i
  go_wp2_with fail
  go_quiet (fail)
  clear HS0 q4 q5
  go_wp2
  clear hxl x0 x1 x2 p1i p1d
  go_loopw [4, 24] (fun o i wr => ∃ (k m : Nat), k ≤ N.length ∧ i = .int .i64 k ∧ o = .slice la0 m lc0 ∧ m ≤ c0 ∧ (∀ j, j < m → ∀ i (h : i < N.length), i < k → okN L0 N[i].n j = true) ∧ (m = c0 ∨ ∃ i, ∃ h : i < N.length, okN L0 N[i].n m = false) ∧ Below w.heap.size w wr) (fun _ i _ => N.length - (intOf i).toNat)
  case atStart => exact ⟨0, c0, Nat.zero_le _, rfl, rfl, Nat.le_refl _, fun j _ i _ h => absurd h (Nat.not_lt_zero i), .inl rfl, below_drewN hB _⟩
  case round =>
    obtain ⟨k, m, hk, rfl, rfl, hm, hall, hend, hb⟩ := hrel
    clear X hB
    by_cases hlt : k < N.length
    · obtain ⟨z0, z1, z2, z3, z4, z5, z6, z7, z8⟩ := hcell k hlt
      have hc0 := (hb.cell (p := ⟨b, off + k * 9, none⟩) hbl).trans z0
      have hc1 := (hb.cell (p := ⟨b, off + k * 9 + 1, none⟩) hbl).trans z1
      have hc2 := (hb.cell (p := ⟨b, off + k * 9 + 2, none⟩) hbl).trans z2
      have hc3 := (hb.cell (p := ⟨b, off + k * 9 + 3, none⟩) hbl).trans z3
      have hc4 := (hb.cell (p := ⟨b, off + k * 9 + 4, none⟩) hbl).trans z4
      have hc5 := (hb.cell (p := ⟨b, off + k * 9 + 5, none⟩) hbl).trans z5
      have hc6 := (hb.cell (p := ⟨b, off + k * 9 + 6, none⟩) hbl).trans z6
      have hc7 := (hb.cell (p := ⟨b, off + k * 9 + 7, none⟩) hbl).trans z7
      have hc8 := (hb.cell (p := ⟨b, off + k * 9 + 8, none⟩) hbl).trans z8
      have hE := (HEN k hlt _ hb).1
      have hE0r := hE0 _ hb
      have hCk := HC k hlt
      have hqk := hq k hlt
      have HST : Hid (∀ m', m' ≤ m → (∀ j, j < m' → eqAt (L0.take m) (N[k].n.log.take N[k].n.co.toNat) j = true) → eqAt (L0.take m) (N[k].n.log.take N[k].n.co.toNat) m' = false → (∀ j, j < m' → ∀ i (h : i < N.length), i < k + 1 → okN L0 N[i].n j = true) ∧ (m' = c0 ∨ ∃ i, ∃ h : i < N.length, okN L0 N[i].n m' = false)) := fun m' hm' ha hf => by
        have ht := fun j => eqAt_take L0 N[k].n.log m N[k].n.co.toNat j (by omega) (by omega)
        refine ⟨fun j hj i hi hik => ?_, ?_⟩
        · by_cases hi2 : i < k
          · exact hall j (by omega) i hi hi2
          · obtain rfl : i = k := by omega
            have := ha j hj
            rw [ht j] at this
            simp only [Bool.and_eq_true, decide_eq_true_eq] at this
            unfold okN
            rw [this.2, decide_eq_true (show (j : Int) < N[i].n.co from by omega)]
            rfl
        · by_cases hmm : m' = m
          · subst hmm; exact hend
          · refine .inr ⟨k, hlt, ?_⟩
            rw [ht m', decide_eq_true (show m' < m from by omega)] at hf
            unfold okN
            by_cases hc : (m' : Int) < N[k].n.co
            · rw [decide_eq_true (show m' < N[k].n.co.toNat from by omega)] at hf
              simp only [Bool.true_and] at hf
              rw [hf]; simp
            · simp [hc]
      clear HEN hall hend z0 z1 z2 z3 z4 z5 z6 z7 z8 HRM HND HN0 hcell hE0 HC hq
      generalize N[k] = s at *
      obtain ⟨⟨id, pe, te, vo, co, ro, log, vs, mt⟩, la, lc, va, vc, ma, mc⟩ := s
      dsimp only at hc0 hc1 hc2 hc3 hc4 hc5 hc6 hc7 hc8 hE hCk hqk HST
      obtain ⟨g0, g1, g2⟩ := hCk
      obtain ⟨c, rfl⟩ := Int.eq_ofNat_of_zero_le g0
      rw [Int.toNat_natCast] at HST
      have hz := hb.size
      have hB0 := hb.alloc hz (.cells #[.int .i64 id, .int .i64 pe, .int .i64 te, .int .i64 vo, .slice la log.length lc, .int .i64 c, .int .i64 ro, .slice va vs.length vc, .slice ma mt.length mc] 26)
      have X0 := Box.new wr #[.int .i64 id, .int .i64 pe, .int .i64 te, .int .i64 vo, .slice la log.length lc, .int .i64 c, .int .i64 ro, .slice va vs.length vc, .slice ma mt.length mc] 26
      have hBw := below_alloc wr (.cells #[.int .i64 id, .int .i64 pe, .int .i64 te, .int .i64 vo, .slice la log.length lc, .int .i64 c, .int .i64 ro, .slice va vs.length vc, .slice ma mt.length mc] 26)
      have HS := fun W => sl_to la log.length lc c W (by omega)
      have l1 : (L0.take m).length = m := by simp; omega
      have l2 : (log.take c).length = c := by simp; omega
      have KC := l12Common_any la0 lc0 la lc (L0.take m) (log.take c) _ (by rw [l1]; exact ER_to (hE0r.below hBw) (by omega)) (by rw [l2]; exact ER_to (hE.below hBw) (by omega)) (by omega) (by omega) (by omega)
      rw [l1, l2] at KC
      clear hE hE0r l1 l2 hBw
      obtain ⟨hx0, v0, v1, v2, v3, v4, v5, v6, v7, v8⟩ := X0.e9
      obtain ⟨W0, hW0⟩ : ∃ W0, W0 = wr.alloc (.cells #[.int .i64 id, .int .i64 pe, .int .i64 te, .int .i64 vo, .slice la log.length lc, .int .i64 c, .int .i64 ro, .slice va vs.length vc, .slice ma mt.length mc] 26) := ⟨_, rfl⟩
      rw [← hW0] at KC hB0 v0 v1 v2 v3 v4 v5 v6 v7 v8 hx0
      clear X0
      go_upto_region 7 with fail
      rw [← hW0]
      clear hW0 hb hz
      go_wp2_with (first | (refine wpList_sliceOp _ rfl 23 _ _ _ _ rfl _ (HS _) ?_; simp only [Act.put, List.setIfInBounds_toArray, List.set_cons_zero, List.set_cons_succ]))
      refine KC.mono ?_
      rintro e w2 ⟨m', rfl, hm', ha, hf, hb2⟩
      obtain ⟨A1, A2⟩ := HST.out m' hm' ha hf
      have hB2 := hB0.trans (hb2.mono hB0.size)
      have hm2 : m' ≤ c0 := by omega
      clear KC HST ha hf hb2 hB0 v0 v1 v2 v3 v4 v5 v6 v7 v8 hx0 HS
      have HA1 : Hid _ := A1
      have HA2 : Hid _ := A2
      clear A1 A2
      go_wp2
      go_roundw
      case rel => exact ⟨k + 1, m', by omega, by go_num, rfl, hm2, HA1.out, HA2.out, hB2⟩
      case measure => simp [intOf]; omega
    · have HM : Hid (IsCm L0 (N.map Nv.n) m) := by
        refine ⟨fun j hj i hi => ?_, ?_⟩
        · simp only [List.length_map] at hi
          simpa using hall j hj i hi (by omega)
        · rcases hend with rfl | ⟨i, hi, e⟩
          · exact ⟨0, by simp; omega, by simpa using HND.out _ rfl⟩
          · exact ⟨i, by simpa using hi, by simpa using e⟩
      have HE : Hid (L0.take m = R) := (HRM.out m HM.out).symm
      have hE := ER_to (hE0 _ hb) (show m ≤ L0.length from by omega)
      rw [HE.out] at hE
      have hRl : R.length = m := by rw [← HE.out]; simp; omega
      obtain rfl : k = N.length := by omega
      clear HEN hall hend HRM HND HN0 hcell hE0 HC hq HM
      have o0 : (wr.alloc (.cells #[] 34)).ownsRow wr.heap.size 34 2 (.slice (some ⟨wr.heap.size, 0, none⟩) 0 0) 0 (flat2 []) := World.ownsRow_lit wr #[] 0 (Nat.le_refl _) (by simp [maxLen]) (by simp)
      have BA := below_alloc wr (.cells #[] 34)
      have hz := hb.size
      replace hE := hE.below BA
      have hB2 := hb.alloc hz (.cells #[] 34)
      have hR6 : R.length ≤ 60 := by omega
      clear BA HE
      have HRL : Hid (R.length = m) := hRl
      clear hRl
      go_wp2_with (at_builtin; refine wpList_append_ent _ rfl _ _ rfl rfl wr.heap.size _ 0 [] rfl o0 _ R rfl hE (by omega) (by simp) ?_; intro v' w' hown hgr; refine StopA.go ?_)
      replace hB2 := hB2.grown hgr (by simp; omega) (fun q hq => by have := owns_ge o0 q hq; omega)
      simp only [Nat.zero_add, List.nil_append] at hown
      obtain ⟨ua, uc, rfl⟩ := owns_shape hown
      replace hown := owns_mono' hown (show w.heap.size ≤ wr.heap.size from by omega)
      clear hgr o0 hE
      unfold StopA
      go_wp2
      go_ret2
      exact ⟨_, rfl, hown, hB2⟩
end Go.Proofs.Ytapfhhmimkkhnaa
