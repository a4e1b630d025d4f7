/-
  A chunk taken by a good taking: spec.l13Take.
-/
import Derived.Test.YtocaigffikdlhaaWI
namespace Go.Proofs.Ytocaigffikdlhaa
open Go.RowKit Go.Maps
set_option linter.unusedVariables false
set_option maxRecDepth 100000

/-- A slice is no longer than its room. -/
def Cp (v : Value) : Prop := ∀ x n c, v = .slice x n c → n ≤ c
theorem Cp.own {w : World} {base : Nat} {e : TypeId} {size : Nat} {v : Value} {n : Nat} {xs : List Value} (h : w.ownsRow base e size v n xs) : Cp v := by
  intro x m c hv
  rcases h.2 with ⟨rfl, _⟩ | ⟨g, cap, cur, rfl, _, _, h1, _⟩
  · simp at hv; omega
  · simp at hv; omega
theorem has_of_pl {G : List Ck} {y : Ck} {k : Nat} (h : IsPl G y k) (hs : Srt G) (hk : k < G.length) : hasC G y.n y.d = !ltC y G[k] := by
  rw [Bool.eq_iff_iff, h.has hs]
  have a := h.ge k hk (Nat.le_refl _)
  rw [Bool.eq_false_iff] at a
  constructor
  · rintro ⟨_, h1, h2⟩
    rw [Bool.not_eq_true', Bool.eq_false_iff]
    intro q; rw [ltC_iff] at q; omega
  · intro q
    rw [Bool.not_eq_true', Bool.eq_false_iff] at q
    refine ⟨hk, ?_⟩
    have a' : ¬ (G[k].n < y.n ∨ (G[k].n = y.n ∧ G[k].d < y.d)) := fun e => a ((ltC_iff _ _).2 e)
    have q' : ¬ (y.n < G[k].n ∨ (y.n = G[k].n ∧ y.d < G[k].d)) := fun e => q ((ltC_iff _ _).2 e)
    omega
theorem has_end {G : List Ck} {y : Ck} {k : Nat} (h : IsPl G y k) (hs : Srt G) (hk : k = G.length) : hasC G y.n y.d = false := by
  rw [Bool.eq_false_iff]
  intro q
  obtain ⟨h1, _⟩ := (h.has hs).1 q
  omega

set_option maxHeartbeats 64000000 in
theorem l13Take_any (a c : Value) (W : List Wt) (G : List Ck) (y : Ck) (w : World) (h : TR w a c W G) (hcp : Cp c) (hok : wOk W) (h200 : G.length ≤ 200) (hgc : gcB W G = true) (hy : y.k.size ≤ 1048576) :
    Calls Try.prog 66 #[.agg #[a, c], .agg #[.int .i64 y.n, .int .i64 y.d, .string y.k, .int .u32 y.v]] w fun e w' => ∃ u, e = .returned (.tuple #[.agg #[a, u], .bool (tkB W G y)]) ∧ ((u = c ∧ tkN W G y = G) ∨ w'.ownsRow w.heap.size 37 4 u (tkN W G y).length (flat4 (tkN W G y))) ∧ Below w.heap.size w w' := by
  have hsr := gcB_srt hgc
  have h12 := hok.1
  have KF := fun W' (hb : Below w.heap.size w W') => l13Good_any a c W G y W' (h.below hb) hok hy
  have HPL := plc_is hsr y
  have HTB : tkB W G y = (ftB W y && (if hasC G y.n y.d then (G.getD (plc G y) default).k.toList == y.k.toList else decide (G.length < 200))) := rfl
  have HTG : tkG G y = if hasC G y.n y.d then G else insC G (plc G y) y := rfl
  have HTN : tkN W G y = if tkB W G y then tkG G y else G := rfl
  have HFS : ∀ k (hk : k < G.length), ftB W y = true → G[k].n = y.n → G[k].d = y.d → (G[k].k.toList == y.k.toList) = ckEq G[k] y := fun k hk h1 h2 h3 => ft_same (gcB_ft hgc k hk) h1 h2 h3
  have HIR := fun W' (hb : Below w.heap.size w W') => h.2.below hb
  obtain ⟨⟨wa, wb, rfl, _⟩, ca, cb, rfl, hcc⟩ := h
  have hcap := hcp _ _ _ rfl
  have KL := fun (i : Nat) (hi : i < G.length) w => l13Less_any G[i] y w
  have KL2 := fun (i : Nat) (hi : i < G.length) w => l13Less_any y G[i] w
  have EV := fun (i : Nat) (hi : i < G.length) w => eqCkV G[i] y w
  have HHP := fun k (h : IsPl G y k) hk => has_of_pl h hsr hk
  have HHE := fun k (h : IsPl G y k) hk => has_end h hsr hk
  have HHI := fun k (h : IsPl G y k) => h.has hsr
  have HPO := fun q (h : IsPl G y q) => IsPl.one h HPL
  have HSR := fun k m (hk : k < G.length) (hm : m < G.length) (hkm : k < m) (h : ltC G[m] y = true) => ltC_trans (hsr k m hk hm hkm) h
  obtain ⟨yn, yd, yk, yv⟩ := y
  dsimp only at *
  have X := ((Box.new w #[.slice wa W.length wb, .slice ca G.length cb] 41).alloc (.cells #[.int .i64 yn, .int .i64 yd, .string yk, .int .u32 yv] 37)).alloc (.cells #[.slice none 0 0, .slice none 0 0] 41)
  have Y := (Box.new (w.alloc (.cells #[.slice wa W.length wb, .slice ca G.length cb] 41)) #[.int .i64 yn, .int .i64 yd, .string yk, .int .u32 yv] 37).alloc (.cells #[.slice none 0 0, .slice none 0 0] 41)
  have R := Box.new ((w.alloc (.cells #[.slice wa W.length wb, .slice ca G.length cb] 41)).alloc (.cells #[.int .i64 yn, .int .i64 yd, .string yk, .int .u32 yv] 37)) #[.slice none 0 0, .slice none 0 0] 41
  have hB := below3 w (.cells #[.slice wa W.length wb, .slice ca G.length cb] 41) (.cells #[.int .i64 yn, .int .i64 yd, .string yk, .int .u32 yv] 37) (.cells #[.slice none 0 0, .slice none 0 0] 41)
  simp only [World.size_alloc] at Y R
  clear hcp hok hgc
  cases hf : ftB W ⟨yn, yd, yk, yv⟩ with
  | false =>
    have e0 : tkB W G ⟨yn, yd, yk, yv⟩ = false := by rw [HTB, hf]; rfl
    have e2 : tkN W G ⟨yn, yd, yk, yv⟩ = G := by rw [HTN, e0]; rfl
    rw [e0, e2]
    rw [hf] at KF
    clear KL KL2 EV HHP HHE HHI HPO HSR HPL HTB HTG HTN hcc hsr hf e0 e2 HFS HIR
    go_enter Try.func66, Try.ntmps66
    go_wp2_with fail
    refine (KF _ hB).mono ?_
    rintro e w1 ⟨rfl, hb1⟩
    replace hB := below_then hB hb1
    replace R := R.below hb1
    replace X := X.below hb1
    obtain ⟨hvl, v0, v1, f0, f1⟩ := R.f2
    obtain ⟨hxl, x0, x1⟩ := X.c2
    clear hb1 KF X Y R
    go_wp2
    exact bodyPost_ret (v := .tuple #[.agg #[.slice wa W.length wb, .slice ca G.length cb], .bool false]) (by simp [results, Try.results66, go_sem, v0, v1]) rfl ⟨_, rfl, .inl ⟨rfl, trivial⟩, (hB.setCell (by simp; omega) _).setCell (by simp; omega) _⟩
  | true =>
  rw [hf] at KF
  rw [hf, Bool.true_and] at HTB
  replace HFS := fun k hk => HFS k hk hf
  go_enter Try.func66, Try.ntmps66
  go_wp2_with fail
  refine (KF _ hB).mono ?_
  rintro e w1 ⟨rfl, hb1⟩
  replace hB := below_then hB hb1
  replace R := R.below hb1
  replace X := X.below hb1
  replace Y := Y.below hb1
  clear hb1 KF hf
  go_wp2
  go_loopw [6] (fun i wr => ∃ k : Nat, k ≤ G.length ∧ i = .int .i64 k ∧ (∀ j (h : j < G.length), j < k → ltC G[j] ⟨yn, yd, yk, yv⟩ = true) ∧ Below w.heap.size w wr ∧ Box wr w.heap.size [.slice wa W.length wb, .slice ca G.length cb] ∧ Box wr (w.heap.size + 1) [.int .i64 yn, .int .i64 yd, .string yk, .int .u32 yv] ∧ Box wr (w.heap.size + 1 + 1) [.slice none 0 0, .slice none 0 0]) (fun i _ => G.length - (intOf i).toNat)
  case atStart => exact ⟨0, Nat.zero_le _, rfl, fun j h h2 => by omega, hB, X, Y, R⟩
  case round =>
    clear hB X Y R
    obtain ⟨k, hk, rfl, hless, hB, X, Y, R⟩ := hrel
    obtain ⟨hxl, x0, x1⟩ := X.c2
    obtain ⟨hyl, y0, y1, y2, y3⟩ := Y.c4
    have hz2 := hB.size
    have qx1 := fun x : WC wr.heap.size wr => (x.ok.cell (p := ⟨w.heap.size, 1, none⟩) hxl).trans x1
    have qy0 := fun x : WC wr.heap.size wr => (x.ok.cell (p := ⟨w.heap.size + 1, 0, none⟩) hyl).trans y0
    have qy1 := fun x : WC wr.heap.size wr => (x.ok.cell (p := ⟨w.heap.size + 1, 1, none⟩) hyl).trans y1
    have qy2 := fun x : WC wr.heap.size wr => (x.ok.cell (p := ⟨w.heap.size + 1, 2, none⟩) hyl).trans y2
    have qy3 := fun x : WC wr.heap.size wr => (x.ok.cell (p := ⟨w.heap.size + 1, 3, none⟩) hyl).trans y3
    have hne : Nonempty (WC wr.heap.size wr) := ⟨⟨_, Below.refl _ _⟩⟩
    clear hxl x0 x1 hyl y0 y1 y2 y3
    by_cases hlt : k < G.length
    · obtain ⟨bg, og, rfl, hbg, hgcell⟩ := hcc (by intro e; simp [e] at hlt)
      obtain ⟨d0, d1, d2, d3⟩ := hgcell k hlt
      have qd0 := fun x : WC wr.heap.size wr => ((below_then hB x.ok).cell (p := ⟨bg, og + k * 4, none⟩) hbg).trans d0
      have qd1 := fun x : WC wr.heap.size wr => ((below_then hB x.ok).cell (p := ⟨bg, og + k * 4 + 1, none⟩) hbg).trans d1
      have qd2 := fun x : WC wr.heap.size wr => ((below_then hB x.ok).cell (p := ⟨bg, og + k * 4 + 2, none⟩) hbg).trans d2
      have qd3 := fun x : WC wr.heap.size wr => ((below_then hB x.ok).cell (p := ⟨bg, og + k * 4 + 3, none⟩) hbg).trans d3
      have KLk := KL k hlt
      clear d0 d1 d2 d3 KL
      cases hl : ltC G[k] ⟨yn, yd, yk, yv⟩ with
      | true =>
        have HL2 : Hid (∀ j (h : j < G.length), j < k + 1 → ltC G[j] ⟨yn, yd, yk, yv⟩ = true) := by
          intro j h hj
          rcases Nat.eq_or_lt_of_le (show j ≤ k from by omega) with e | e
          · subst e; exact hl
          · exact hless j h e
        rw [hl] at KLk
        clear hless hl hgcell hcc KL2 EV HHP HHE HHI HPO HSR HPL HTB HTG HTN HFS HIR hsr
        generalize G[k] = gx at *
        go_upto_region 4 with fail
        refine wp_region_calm (B := wr.heap.size) (W := wr) (by kernel_rfl) (by kernel_rfl) (Below.refl _ _) ?_
        repeat (go_big_quiet_step (first | (go_at_call 92; with_reducible exact calm_of_below (Nat.le_refl _) (KLk _))))
        refine wpQuiet_nil ?_
        intro _ hw'
        obtain ⟨x, hx⟩ := hw'
        subst hx
        replace hB := below_then hB x.ok
        replace X := X.below x.ok
        replace Y := Y.below x.ok
        replace R := R.below x.ok
        clear qx1 qy0 qy1 qy2 qy3 qd0 qd1 qd2 qd3 hne KLk
        generalize x.w = w3 at *
        clear x
        go_wp2
        go_roundw
        case rel => exact ⟨k + 1, by omega, by go_num, HL2.out, hB, X, Y, R⟩
        case measure => simp [intOf]; omega
      | false =>
        have HP : IsPl G ⟨yn, yd, yk, yv⟩ k := ⟨hk, hless, fun j hj h1 => by
          rcases Nat.eq_or_lt_of_le h1 with e | e
          · subst e; exact hl
          · rw [Bool.eq_false_iff]; intro q; rw [HSR k j hlt hj e q] at hl; cases hl⟩
        obtain rfl : k = plc G ⟨yn, yd, yk, yv⟩ := HPO k HP
        generalize plc G ⟨yn, yd, yk, yv⟩ = k at *
        have hhas := HHP k HP hlt
        have hhi := HHI k HP
        rw [hl] at KLk
        have KL2k := KL2 k hlt
        have EVk := EV k hlt
        have hFSk := HFS k hlt
        rw [getC_at G k hlt] at HTB
        have hgl : G.length - k + k = G.length := by omega
        clear hless hl hgcell hcc KL2 EV HHP HHE HHI HPO HSR HPL HFS hsr
        go_upto_region 4 with fail
        refine wp_region_calm (B := wr.heap.size) (W := wr) (by kernel_rfl) (by kernel_rfl) (Below.refl _ _) ?_
        repeat (go_big_quiet_step (first | (go_at_call 92; with_reducible exact calm_of_below (Nat.le_refl _) (KLk _))))
        refine wpQuiet_nil ?_
        intro _ hw'
        obtain ⟨x, hx⟩ := hw'
        subst hx
        replace hB := below_then hB x.ok
        replace X := X.below x.ok
        replace Y := Y.below x.ok
        replace R := R.below x.ok
        have q6 := fun (z : WC x.w.heap.size x.w) => below_then x.ok z.ok
        have rd0 := fun (z : WC x.w.heap.size x.w) => qd0 ⟨z.w, q6 z⟩
        have rd1 := fun (z : WC x.w.heap.size x.w) => qd1 ⟨z.w, q6 z⟩
        have rd2 := fun (z : WC x.w.heap.size x.w) => qd2 ⟨z.w, q6 z⟩
        have rd3 := fun (z : WC x.w.heap.size x.w) => qd3 ⟨z.w, q6 z⟩
        dsimp only at rd0 rd1 rd2 rd3
        clear qx1 qy0 qy1 qy2 qy3 qd0 qd1 qd2 qd3 hne KLk q6
        generalize x.w = w3 at *
        clear x
        obtain ⟨hxl, x0, x1⟩ := X.c2
        obtain ⟨hyl, y0, y1, y2, y3⟩ := Y.c4
        have qx1 := fun x : WC w3.heap.size w3 => (x.ok.cell (p := ⟨w.heap.size, 1, none⟩) hxl).trans x1
        have qy0 := fun x : WC w3.heap.size w3 => (x.ok.cell (p := ⟨w.heap.size + 1, 0, none⟩) hyl).trans y0
        have qy1 := fun x : WC w3.heap.size w3 => (x.ok.cell (p := ⟨w.heap.size + 1, 1, none⟩) hyl).trans y1
        have qy2 := fun x : WC w3.heap.size w3 => (x.ok.cell (p := ⟨w.heap.size + 1, 2, none⟩) hyl).trans y2
        have qy3 := fun x : WC w3.heap.size w3 => (x.ok.cell (p := ⟨w.heap.size + 1, 3, none⟩) hyl).trans y3
        have hne : Nonempty (WC w3.heap.size w3) := ⟨⟨_, Below.refl _ _⟩⟩
        clear hxl x0 x1 hyl y0 y1 y2 y3
        have KL2k2 := KL2k
        cases hl2 : ltC ⟨yn, yd, yk, yv⟩ G[k] with
        | false =>
          rw [hl2] at KL2k2
          have hh : hasC G yn yd = true := by rw [hhas, hl2]; rfl
          obtain ⟨_, hn1, hn2⟩ := hhi.1 hh
          rw [hh, if_pos rfl] at HTB HTG
          have e0 : Hid (tkB W G ⟨yn, yd, yk, yv⟩ = ckEq G[k] ⟨yn, yd, yk, yv⟩) := by show _ = _; rw [HTB, hFSk hn1 hn2]
          have e2 : Hid (tkN W G ⟨yn, yd, yk, yv⟩ = G) := by show _ = _; rw [HTN, HTG]; split <;> rfl
          clear hhas hhi hl2 hh hn1 hn2 HTB HTG HTN hFSk KL2k HP HIR
          generalize ckEq G[k] ⟨yn, yd, yk, yv⟩ = ce at *
          generalize G[k] = gx at *
          go_upto_region 6 with fail
          refine wp_region_calm (B := w3.heap.size) (W := w3) (by kernel_rfl) (by kernel_rfl) (Below.refl _ _) ?_
          repeat (go_big_quiet_step (first | (go_at_call 92; with_reducible exact calm_of_below (Nat.le_refl _) (KL2k2 _))))
          refine wpQuiet_nil ?_
          intro _ hw'
          obtain ⟨x, hx⟩ := hw'
          subst hx
          replace hB := below_then hB x.ok
          replace X := X.below x.ok
          replace Y := Y.below x.ok
          replace R := R.below x.ok
          have t0 := rd0 x
          have t1 := rd1 x
          have t2 := rd2 x
          have t3 := rd3 x
          clear rd0 rd1 rd2 rd3 qx1 qy0 qy1 qy2 qy3 hne KL2k2
          generalize x.w = w4 at *
          clear x
          obtain ⟨hxl, x0, x1⟩ := X.c2
          obtain ⟨hyl, y0, y1, y2, y3⟩ := Y.c4
          obtain ⟨hvl, v0, v1, f0, f1⟩ := R.f2
          have hz4 := hB.size
          have hbg4 : bg < w4.heap.size := by omega
          have EG := eqG37
          have hbF := (((hB.setCell (p := ⟨w.heap.size + 1 + 1, 0, none⟩) (by simp; omega) (.slice wa W.length wb)).setCell (p := ⟨w.heap.size + 1 + 1, 1, none⟩) (by simp; omega) (.slice (some ⟨bg, og, none⟩) G.length cb))).drew
          have HBF : Hid _ := hbF
          clear X Y R hbF
          go_upto_region 7 with fail
          go_region
          go_wp2
          exact bodyPost_ret (v := .tuple #[.agg #[.slice wa W.length wb, .slice (some ⟨bg, og, none⟩) G.length cb], .bool ce]) (by simp [results, Try.results66, go_sem, v0, v1]) rfl ⟨_, by rw [e0.out], .inl ⟨rfl, e2.out⟩, HBF.out⟩
        | true =>
          rw [hl2] at KL2k2
          have hh : hasC G yn yd = false := by rw [hhas, hl2]; rfl
          rw [hh, if_neg (by simp)] at HTB HTG
          clear hhas hhi hl2 hh hFSk KL2k HP
          have EVk2 := EVk
          clear EVk
          have HGK : Hid (k < G.length) := hlt
          generalize G[k] = gx at *
          go_upto_region 6 with fail
          refine wp_region_calm (B := w3.heap.size) (W := w3) (by kernel_rfl) (by kernel_rfl) (Below.refl _ _) ?_
          repeat (go_big_quiet_step (first | (go_at_call 92; with_reducible exact calm_of_below (Nat.le_refl _) (KL2k2 _))))
          refine wpQuiet_nil ?_
          intro _ hw'
          obtain ⟨x, hx⟩ := hw'
          subst hx
          replace hB := below_then hB x.ok
          replace X := X.below x.ok
          replace Y := Y.below x.ok
          replace R := R.below x.ok
          clear rd0 rd1 rd2 rd3 qx1 qy0 qy1 qy2 qy3 hne KL2k2 EVk2
          generalize x.w = w4 at *
          clear x
          obtain ⟨hxl, x0, x1⟩ := X.c2
          obtain ⟨hvl, v0, v1, f0, f1⟩ := R.f2
          have hz4 := hB.size
          by_cases h2 : G.length = 200
          · have e0 : Hid (tkB W G ⟨yn, yd, yk, yv⟩ = false) := by show _ = _; rw [HTB, decide_eq_false (by omega)]
            have e2 : Hid (tkN W G ⟨yn, yd, yk, yv⟩ = G) := by show _ = _; rw [HTN, e0.out]; rfl
            have g2 : ((G.length : Int) == 200) = true := by rw [beq_iff_eq]; omega
            have H2 : Hid (G.length = 200) := h2
            clear h2 HTB HTG HTN X Y R HIR
            go_wp2
            exact bodyPost_ret (v := .tuple #[.agg #[.slice wa W.length wb, .slice (some ⟨bg, og, none⟩) G.length cb], .bool false]) (by simp [results, Try.results66, go_sem, v0, v1]) rfl ⟨_, by rw [e0.out], .inl ⟨rfl, e2.out⟩, (hB.setCell (by simp; omega) _).setCell (by simp; omega) _⟩
          · have e0 : Hid (tkB W G ⟨yn, yd, yk, yv⟩ = true) := by show _ = _; rw [HTB, decide_eq_true (by omega)]
            have e2 : Hid (tkN W G ⟨yn, yd, yk, yv⟩ = insC G k ⟨yn, yd, yk, yv⟩) := by show _ = _; rw [HTN, e0.out, HTG]; rfl
            have g2 : ((G.length : Int) == 200) = false := by rw [beq_eq_false_iff_ne]; omega
            have HLI : Hid ((insC G k ⟨yn, yd, yk, yv⟩).length = G.length + 1) := insC_length _ _ _ (by omega)
            have hir := HIR _ hB
            have HS1 := fun W => slc_to (some ⟨bg, og, none⟩) G.length cb k W (by omega)
            have i1 := IR_to hir (p := k) (by omega)
            have hkl : (G.take k).length = k := by rw [List.length_take]; omega
            have HT1 : Hid (insC G k ⟨yn, yd, yk, yv⟩ = (([] ++ G.take k) ++ [⟨yn, yd, yk, yv⟩]) ++ G.drop k) := rfl
            clear h2 HTB HTG HTN
            go_wp2_with (first | (refine wpList_sliceOp _ rfl 30 _ _ _ _ rfl _ (HS1 _) ?_; simp only [Act.put, List.setIfInBounds_toArray, List.set_cons_zero, List.set_cons_succ]) | (at_builtin; refine wpList_append_cks _ rfl _ _ rfl rfl w4.heap.size _ 0 [] rfl (World.ownsRow_nil _ _ _ _) _ (G.take k) rfl i1 (by omega) (Nat.le_refl _) ?_; intro v5 w5 O5 hg5; refine StopA.go ?_))
            simp only [Nat.zero_add, List.nil_append, hkl] at O5
            have B5 : Below w4.heap.size w4 w5 := (Below.refl _ _).grown hg5 (Nat.le_refl _) (fun k hk => by cases hk)
            have Y5 := Y.below B5
            have X5 := X.below B5
            have R5 := R.below B5
            have hB5 := below_then hB B5
            have hB5a := hB
            have hz5 := B5.size
            obtain ⟨va5, vb5, rfl⟩ := owns_shape O5
            have hge5 := owns_ge O5
            obtain ⟨hyl, y0, y1, y2, y3⟩ := Y5.c4
            clear hg5 x0 x1 v0 v1 f0 f1 X Y R hB hir i1
            unfold StopA
            go_wp2_with (at_builtin; refine wpList_append_ck _ rfl _ _ rfl rfl w4.heap.size _ k (G.take k) rfl (owns_below O5 (below_alloc _ _)) w5.heap.size ⟨yn, yd, yk, yv⟩ rfl (Box.new w5 #[.int .i64 yn, .int .i64 yd, .string yk, .int .u32 yv] 37) (by omega) (by simp; omega) ?_; intro v6 w6 O6 hg6; refine StopA.go ?_)
            have BA := below_alloc w5 (.cells #[.int .i64 yn, .int .i64 yd, .string yk, .int .u32 yv] 37)
            have B6 : Below w4.heap.size w4 w6 := (B5.alloc hz5 _).grown hg6 (by simp; omega) hge5
            have B56 : Below w4.heap.size w5 w6 := ((Below.refl _ _).alloc hz5 _).grown hg6 (by simp; omega) hge5
            have X6 := X5.under B56 (by omega)
            have R6 := R5.under B56 (by omega)
            obtain ⟨va6, vb6, rfl⟩ := owns_shape O6
            have hB6 := below_then hB5a B6
            obtain ⟨a2, HS2, i2⟩ := slc_from w6 (some ⟨bg, og, none⟩) cb k G (HIR _ hB6) hcap (by omega)
            have hz6 := B6.size
            have hge6 := owns_ge O6
            obtain ⟨hx6, x0, x1, xf0, xf1⟩ := X6.f2
            clear hg6 hyl y0 y1 y2 y3 Y5 X5 R5 B56 BA O5 hge5 B5 HIR HS1
            unfold StopA
            go_wp2_with (first | (refine wpList_sliceOp _ rfl 30 _ _ _ _ rfl _ (HS2 _) ?_; simp only [Act.put, List.setIfInBounds_toArray, List.set_cons_zero, List.set_cons_succ]) | (at_builtin; refine wpList_append_cks _ rfl _ _ rfl rfl w4.heap.size (.slice va6 (k + 1) vb6) (k + 1) (G.take k ++ [⟨yn, yd, yk, yv⟩]) rfl O6 (.slice a2 (G.length - k) (cb - k)) (G.drop k) rfl i2 (by rw [List.length_drop]; omega) (by omega) ?_; intro v7 w7 O7 hg7; refine StopA.go ?_))
            have B67 : Below w4.heap.size w6 w7 := (Below.refl _ _).grown hg7 hz6 hge6
            have X7 := X6.under B67 (by omega)
            have R7 := R6.under B67 (by omega)
            have hB7 := hB6.trans (B67.mono (by omega))
            have hdl : k + 1 + (G.drop k).length = G.length + 1 := by rw [List.length_drop]; omega
            rw [hdl] at O7
            obtain ⟨va7, vb7, rfl⟩ := owns_shape O7
            obtain ⟨hx7, x0, x1, xf0, xf1⟩ := X7.f2
            obtain ⟨hr7, r0, r1, rf0, rf1⟩ := R7.f2
            have O8 := ownsRow_setCell_below (ownsRow_setCell_below (ownsRow_setCell_below O7 (a := ⟨w.heap.size, 1, none⟩) (by simp; omega) (.slice va7 (G.length + 1) vb7)) (a := ⟨w.heap.size + 1 + 1, 0, none⟩) (by simp; omega) (.slice wa W.length wb)) (a := ⟨w.heap.size + 1 + 1, 1, none⟩) (by simp; omega) (.slice va7 (G.length + 1) vb7)
            have HO8 : Hid _ := O8
            have hB8 := ((hB7.setCell (p := ⟨w.heap.size, 1, none⟩) (Nat.le_refl _) (.slice va7 (G.length + 1) vb7)).setCell (p := ⟨w.heap.size + 1 + 1, 0, none⟩) (by simp; omega) (.slice wa W.length wb)).setCell (p := ⟨w.heap.size + 1 + 1, 1, none⟩) (by simp; omega) (.slice va7 (G.length + 1) vb7)
            have HB8 : Hid _ := hB8
            clear hg7 B67 X7 R7 X6 R6 O6 O7 O8 hB8 hB7 hB6 B6 i2 HS2 hge6 hx6
            unfold StopA
            go_wp2
            exact bodyPost_ret (v := .tuple #[.agg #[.slice wa W.length wb, .slice va7 (G.length + 1) vb7], .bool true]) (by simp [results, Try.results66, go_sem, r0, r1]) rfl ⟨_, by rw [e0.out], .inr (by rw [e2.out, HLI.out, HT1.out]; exact owns_mono' HO8.out (by omega)), HB8.out⟩
    · obtain rfl : k = G.length := by omega
      have HP : IsPl G ⟨yn, yd, yk, yv⟩ G.length := ⟨Nat.le_refl _, hless, fun j hj h1 => by omega⟩
      have hpe := HPO _ HP
      have hh := HHE _ HP rfl
      rw [← hpe] at HTB HTG
      rw [hh, if_neg (by simp)] at HTB HTG
      clear hless hcc KL KL2 EV HHP HHE HHI HPO HSR HPL HFS hsr hpe hh HP
      go_upto_region 4 with fail
      refine wp_region_calm (B := wr.heap.size) (W := wr) (by kernel_rfl) (by kernel_rfl) (Below.refl _ _) ?_
      repeat (go_big_quiet_step (fail))
      refine wpQuiet_nil ?_
      intro _ hw'
      obtain ⟨x, hx⟩ := hw'
      subst hx
      replace hB := below_then hB x.ok
      replace X := X.below x.ok
      replace Y := Y.below x.ok
      replace R := R.below x.ok
      clear qx1 qy0 qy1 qy2 qy3 hne
      generalize x.w = w3 at *
      clear x
      obtain ⟨hxl, x0, x1⟩ := X.c2
      obtain ⟨hyl, y0, y1, y2, y3⟩ := Y.c4
      have qx1 := fun x : WC w3.heap.size w3 => (x.ok.cell (p := ⟨w.heap.size, 1, none⟩) hxl).trans x1
      have qy0 := fun x : WC w3.heap.size w3 => (x.ok.cell (p := ⟨w.heap.size + 1, 0, none⟩) hyl).trans y0
      have qy1 := fun x : WC w3.heap.size w3 => (x.ok.cell (p := ⟨w.heap.size + 1, 1, none⟩) hyl).trans y1
      have qy2 := fun x : WC w3.heap.size w3 => (x.ok.cell (p := ⟨w.heap.size + 1, 2, none⟩) hyl).trans y2
      have qy3 := fun x : WC w3.heap.size w3 => (x.ok.cell (p := ⟨w.heap.size + 1, 3, none⟩) hyl).trans y3
      have hne : Nonempty (WC w3.heap.size w3) := ⟨⟨_, Below.refl _ _⟩⟩
      clear hxl x0 x1 hyl y0 y1 y2 y3
      go_upto_region 6 with fail
      refine wp_region_calm (B := w3.heap.size) (W := w3) (by kernel_rfl) (by kernel_rfl) (Below.refl _ _) ?_
      repeat (go_big_quiet_step (fail))
      refine wpQuiet_nil ?_
      intro _ hw'
      obtain ⟨x, hx⟩ := hw'
      subst hx
      replace hB := below_then hB x.ok
      replace X := X.below x.ok
      replace Y := Y.below x.ok
      replace R := R.below x.ok
      clear qx1 qy0 qy1 qy2 qy3 hne
      generalize x.w = w4 at *
      clear x
      obtain ⟨k, HKE⟩ : ∃ k, Hid (k = G.length) := ⟨G.length, rfl⟩
      obtain ⟨hxl, x0, x1⟩ := X.c2
      obtain ⟨hvl, v0, v1, f0, f1⟩ := R.f2
      have hz4 := hB.size
      by_cases h2 : G.length = 200
      · have e0 : Hid (tkB W G ⟨yn, yd, yk, yv⟩ = false) := by show _ = _; rw [HTB, decide_eq_false (by omega)]
        have e2 : Hid (tkN W G ⟨yn, yd, yk, yv⟩ = G) := by show _ = _; rw [HTN, e0.out]; rfl
        have g2 : ((G.length : Int) == 200) = true := by rw [beq_iff_eq]; omega
        have H2 : Hid (G.length = 200) := h2
        clear h2 HTB HTG HTN X Y R HIR
        go_wp2
        exact bodyPost_ret (v := .tuple #[.agg #[.slice wa W.length wb, .slice ca G.length cb], .bool false]) (by simp [results, Try.results66, go_sem, v0, v1]) rfl ⟨_, by rw [e0.out], .inl ⟨rfl, e2.out⟩, (hB.setCell (by simp; omega) _).setCell (by simp; omega) _⟩
      · have e0 : Hid (tkB W G ⟨yn, yd, yk, yv⟩ = true) := by show _ = _; rw [HTB, decide_eq_true (by omega)]
        have e2 : Hid (tkN W G ⟨yn, yd, yk, yv⟩ = insC G G.length ⟨yn, yd, yk, yv⟩) := by show _ = _; rw [HTN, e0.out, HTG]; rfl
        have g2 : ((G.length : Int) == 200) = false := by rw [beq_eq_false_iff_ne]; omega
        have HLI : Hid ((insC G G.length ⟨yn, yd, yk, yv⟩).length = G.length + 1) := insC_length _ _ _ (by omega)
        have hir := HIR _ hB
        have HS1 := fun W => slc_to ca G.length cb G.length W (by omega)
        have i1 := IR_to hir (p := G.length) (by omega)
        have hkl : (G.take G.length).length = G.length := by rw [List.length_take]; omega
        have HT1 : Hid (insC G G.length ⟨yn, yd, yk, yv⟩ = (([] ++ G.take G.length) ++ [⟨yn, yd, yk, yv⟩]) ++ G.drop G.length) := rfl
        clear h2 HTB HTG HTN
        go_wp2_with (first | (refine wpList_sliceOp _ rfl 30 _ _ _ _ rfl _ (HS1 _) ?_; simp only [Act.put, List.setIfInBounds_toArray, List.set_cons_zero, List.set_cons_succ]) | (at_builtin; refine wpList_append_cks _ rfl _ _ rfl rfl w4.heap.size _ 0 [] rfl (World.ownsRow_nil _ _ _ _) _ (G.take G.length) rfl i1 (by omega) (Nat.le_refl _) ?_; intro v5 w5 O5 hg5; refine StopA.go ?_))
        simp only [Nat.zero_add, List.nil_append, hkl] at O5
        have B5 : Below w4.heap.size w4 w5 := (Below.refl _ _).grown hg5 (Nat.le_refl _) (fun k hk => by cases hk)
        have Y5 := Y.below B5
        have X5 := X.below B5
        have R5 := R.below B5
        have hB5 := below_then hB B5
        have hB5a := hB
        have hz5 := B5.size
        obtain ⟨va5, vb5, rfl⟩ := owns_shape O5
        have hge5 := owns_ge O5
        obtain ⟨hyl, y0, y1, y2, y3⟩ := Y5.c4
        clear hg5 x0 x1 v0 v1 f0 f1 X Y R hB hir i1
        unfold StopA
        go_wp2_with (at_builtin; refine wpList_append_ck _ rfl _ _ rfl rfl w4.heap.size _ G.length (G.take G.length) rfl (owns_below O5 (below_alloc _ _)) w5.heap.size ⟨yn, yd, yk, yv⟩ rfl (Box.new w5 #[.int .i64 yn, .int .i64 yd, .string yk, .int .u32 yv] 37) (by omega) (by simp; omega) ?_; intro v6 w6 O6 hg6; refine StopA.go ?_)
        have BA := below_alloc w5 (.cells #[.int .i64 yn, .int .i64 yd, .string yk, .int .u32 yv] 37)
        have B6 : Below w4.heap.size w4 w6 := (B5.alloc hz5 _).grown hg6 (by simp; omega) hge5
        have B56 : Below w4.heap.size w5 w6 := ((Below.refl _ _).alloc hz5 _).grown hg6 (by simp; omega) hge5
        have X6 := X5.under B56 (by omega)
        have R6 := R5.under B56 (by omega)
        obtain ⟨va6, vb6, rfl⟩ := owns_shape O6
        have hB6 := below_then hB5a B6
        obtain ⟨a2, HS2, i2⟩ := slc_from w6 ca cb G.length G (HIR _ hB6) hcap (by omega)
        have hz6 := B6.size
        have hge6 := owns_ge O6
        obtain ⟨hx6, x0, x1, xf0, xf1⟩ := X6.f2
        clear hg6 hyl y0 y1 y2 y3 Y5 X5 R5 B56 BA O5 hge5 B5 HIR HS1
        unfold StopA
        go_wp2_with (first | (refine wpList_sliceOp _ rfl 30 _ _ _ _ rfl _ (HS2 _) ?_; simp only [Act.put, List.setIfInBounds_toArray, List.set_cons_zero, List.set_cons_succ]) | (at_builtin; refine wpList_append_cks _ rfl _ _ rfl rfl w4.heap.size (.slice va6 (G.length + 1) vb6) (G.length + 1) (G.take G.length ++ [⟨yn, yd, yk, yv⟩]) rfl O6 (.slice a2 (G.length - G.length) (cb - G.length)) (G.drop G.length) rfl i2 (by rw [List.length_drop]; omega) (by omega) ?_; intro v7 w7 O7 hg7; refine StopA.go ?_))
        have B67 : Below w4.heap.size w6 w7 := (Below.refl _ _).grown hg7 hz6 hge6
        have X7 := X6.under B67 (by omega)
        have R7 := R6.under B67 (by omega)
        have hB7 := hB6.trans (B67.mono (by omega))
        have hdl : G.length + 1 + (G.drop G.length).length = G.length + 1 := by rw [List.length_drop]; omega
        rw [hdl] at O7
        obtain ⟨va7, vb7, rfl⟩ := owns_shape O7
        obtain ⟨hx7, x0, x1, xf0, xf1⟩ := X7.f2
        obtain ⟨hr7, r0, r1, rf0, rf1⟩ := R7.f2
        have O8 := ownsRow_setCell_below (ownsRow_setCell_below (ownsRow_setCell_below O7 (a := ⟨w.heap.size, 1, none⟩) (by simp; omega) (.slice va7 (G.length + 1) vb7)) (a := ⟨w.heap.size + 1 + 1, 0, none⟩) (by simp; omega) (.slice wa W.length wb)) (a := ⟨w.heap.size + 1 + 1, 1, none⟩) (by simp; omega) (.slice va7 (G.length + 1) vb7)
        have HO8 : Hid _ := O8
        have hB8 := ((hB7.setCell (p := ⟨w.heap.size, 1, none⟩) (Nat.le_refl _) (.slice va7 (G.length + 1) vb7)).setCell (p := ⟨w.heap.size + 1 + 1, 0, none⟩) (by simp; omega) (.slice wa W.length wb)).setCell (p := ⟨w.heap.size + 1 + 1, 1, none⟩) (by simp; omega) (.slice va7 (G.length + 1) vb7)
        have HB8 : Hid _ := hB8
        clear hg7 B67 X7 R7 X6 R6 O6 O7 O8 hB8 hB7 hB6 B6 i2 HS2 hge6 hx6
        unfold StopA
        go_wp2
        exact bodyPost_ret (v := .tuple #[.agg #[.slice wa W.length wb, .slice va7 (G.length + 1) vb7], .bool true]) (by simp [results, Try.results66, go_sem, r0, r1]) rfl ⟨_, by rw [e0.out], .inr (by rw [e2.out, HLI.out, HT1.out]; exact owns_mono' HO8.out (by omega)), HB8.out⟩
end Go.Proofs.Ytocaigffikdlhaa
