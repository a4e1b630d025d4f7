/-
  The walk of FnTaking.
-/
import Derived.Test.YtocaigffikdlhaaSMToLWantOf
namespace Go.Proofs.Ytocaigffikdlhaa
open Go.RowKit Go.Maps
set_option linter.unusedVariables false
set_option maxRecDepth 100000

theorem ct_true {W : List Wt} {G : List Ck} {y : Ck} (h : ctB W G y = true) : ctW W G y = W ∧ ctG W G y = tkG G y ∧ gtB W G = true ∧ tkB W G y = true := by
  have h2 := h
  unfold ctB at h2
  rw [Bool.and_eq_true] at h2
  exact ⟨by unfold ctW; rw [h]; rfl, by unfold ctG; rw [h]; rfl, h2.1, h2.2⟩
theorem ct_false {W : List Wt} {G : List Ck} {y : Ck} (h : ctB W G y = false) : ctW W G y = [] ∧ ctG W G y = [] := ⟨by unfold ctW; rw [h]; rfl, by unfold ctG; rw [h]; rfl⟩
/-- What the law leans on where the chunk is taken. -/
structure Tkn (W : List Wt) (G G1 : List Ck) (y : Ck) : Prop where
  w1 : ctW W G y = W
  g1 : ctG W G y = G1
  b2 : ctB W G1 y = true
  w2 : ctW W G1 y = W
  g2 : ctG W G1 y = G1
  good : gtB W G = true
  good1 : gtB W G1 = true
  m1 : msR W G = msL W G
  m2 : msR W G1 = msL W G1
  len : ((msL W G1).length : Int) = (msL W G).length - (if (msL W G).any (smP y.n y.d) then 1 else 0)
  l200 : G1.length ≤ 200
theorem tkn_of {W : List Wt} {G : List Ck} {y : Ck} (h : ctB W G y = true) : Tkn W G (tkG G y) y := by
  obtain ⟨h1, h2, h3, h4⟩ := ct_true h
  obtain ⟨t1, t2, t3⟩ := take_again h3 h4
  obtain ⟨s1, s2, _, _⟩ := ct_true t1
  exact ⟨h1, h2, t1, s1, by rw [s2, t2], h3, t3, by unfold msR; rw [h3]; rfl, by unfold msR; rw [t3]; rfl, miss_after h4, ((gtB_iff _ _).1 t3).2.1⟩
theorem ck_sz {W : List Wt} {G : List Ck} (h : gtB W G = true) : ∀ i (h : i < G.length), G[i].k.size ≤ 1048576 := fun i hi => by
  have := ft_small (gcB_ft ((gtB_iff _ _).1 h).2.2 i hi); omega
theorem any_take (l : List Ck) (f : Ck → Bool) (k : Nat) (h : k < l.length) : (l.take (k + 1)).any f = ((l.take k).any f || f l[k]) := by
  rw [List.take_succ_eq_append_getElem h, List.any_append]; simp
theorem fn_true {W : List Wt} {G : List Ck} (h : fnB W G = true) : gfB (fnR W G) = true ∧ wtR (fnR W G) = W ∧ (∀ i (h : i < (fnR W G).length), (fnR W G)[i].size ≤ 1048576) := by
  have e : fnR W G = asF W.length G := by unfold fnR; rw [h]; rfl
  obtain ⟨h1, h2⟩ := fin_want h
  rw [e]
  refine ⟨h1, by unfold wtR; rw [h1]; exact h2, fun i hi => ?_⟩
  have := ((gfB_iff _).1 h1).2 i hi
  omega
theorem fn_false {W : List Wt} {G : List Ck} (h : fnB W G = false) : fnR W G = [] := by unfold fnR; rw [h]; rfl

set_option maxHeartbeats 64000000 in
theorem law4 (v0 v1 : Value) (l0 l1 : List UInt8) (w : World) (hv0 : YL w v0 l0) (hv1 : YL w v1 l1) (hl0 : l0.length ≤ maxLen) (hl1 : l1.length ≤ maxLen) :
    Calls Try.prog 4 #[v0, v1] w fun e w' => e = .returned (.bool true) ∧ Below w.heap.size w w' := by
  have hv0' := hv0
  have hv1' := hv1
  obtain ⟨va, vc, rfl, _⟩ := hv0'
  obtain ⟨vb, vd, rfl, _⟩ := hv1'
  have hq0 : l0.length ≤ 9223372036854775807 := hl0
  have hq1 : l1.length ≤ 9223372036854775807 := hl1
  by_cases hg : wrap64 ((l0.length : Int) + l1.length) ≤ 1048576
  rotate_left
  · have hg' : 1048576 < wrap64 ((l0.length : Int) + l1.length) := by omega
    clear hv0 hv1 hg
    go_enter Try.func4, Try.ntmps4
    go_wp2
    go_ret
    exact ⟨rfl, Below.refl _ _⟩
  · have hg2 : ¬ 1048576 < wrap64 ((l0.length : Int) + l1.length) := by omega
    have R1 := fun w b => run_neq_bool_same5 w b
    go_enter Try.func4, Try.ntmps4
    go_wp2_with fail
    refine (drawTC_any _ l0 _ hv0 hl0).mono ?_
    rintro e w1 ⟨⟨a, c, v, W, G, C, y, rfl, D, hy⟩, hB⟩
    have oa := D.oa
    have oc := D.oc
    have hn : W.length ≤ 1048576 := by have := D.ok.1; omega
    have hm : G.length ≤ 1048576 := by have := D.len; omega
    have hs : ∀ i (h : i < G.length), G[i].k.size ≤ 1048576 := fun i h => by have := D.sz i h; omega
    have hy2 : y.k.size ≤ 1048576 := by omega
    clear D hv0 hy
    obtain ⟨xa, xb, rfl⟩ := owns_shape oa
    obtain ⟨ya, yb, rfl⟩ := owns_shape oc
    have KI := fun W' h na nc => implTake_any (.slice xa W.length xb) (.slice ya G.length yb) W G y W' h na nc hn hm hs hy2
    have KS := fun W' h hc => specTake_any (.slice xa W.length xb) (.slice ya G.length yb) W G y W' h hc hn hm hs hy2
    have KMI := fun W' h => implMiss_any (.slice xa W.length xb) (.slice ya G.length yb) W G W' h hn hm hs
    have KMS := fun W' h => specMiss_any (.slice xa W.length xb) (.slice ya G.length yb) W G W' h hn hm hs
    have bx1 := below_alloc w1 (.cells #[.slice xa W.length xb, .slice ya G.length yb] 41)
    replace hB := below_then hB bx1
    replace oa := owns_below oa bx1
    replace oc := owns_below oc bx1
    have P5 := Box.new w1 #[.slice xa W.length xb, .slice ya G.length yb] 41
    clear bx1
    obtain ⟨W5, hW5⟩ : ∃ W5, W5 = w1.alloc (.cells #[.slice xa W.length xb, .slice ya G.length yb] 41) := ⟨_, rfl⟩
    have hz5 : W5.heap.size = w1.heap.size + 1 := by rw [hW5]; simp
    rw [← hW5] at hB oa oc P5
    have bxx := below_alloc W5 (.cells #[.int .i64 y.n, .int .i64 y.d, .string y.k, .int .u32 y.v] 37)
    replace hB := below_then hB bxx
    replace oa := owns_below oa bxx
    replace oc := owns_below oc bxx
    replace P5 := P5.below bxx
    have P6 := Box.new W5 #[.int .i64 y.n, .int .i64 y.d, .string y.k, .int .u32 y.v] 37
    rw [hz5] at P6
    rw [hW5] at hB oa oc P5 P6
    clear bxx hz5 hW5 W5
    cases hok : ctB W G y with
    | false =>
      obtain ⟨e1, e2⟩ := ct_false hok
      rw [hok, e1, e2] at KI KS
      clear e1 e2 hok
      have hML : (msR W G).length ≤ 1048576 := by have := msR_len W G; omega
      generalize msR W G = ML at *
      generalize gtB W G = gtb at *
      obtain ⟨X1, hX1⟩ : ∃ X1 : List Wt, [] = X1 := ⟨_, rfl⟩
      obtain ⟨Y1, hY⟩ : ∃ Y1 : List Ck, [] = Y1 := ⟨_, rfl⟩
      rw [hX1, hY] at KI KS
      have hY1 : Y1.length ≤ 1048576 := by rw [← hY]; simp
      clear hX1 hY
      obtain ⟨_, p0, p1⟩ := P5.c2
      obtain ⟨_, z0, z1, z2, z3⟩ := P6.c4
      go_wp2_with fail
      refine (KI _ ⟨WR_of_owns oa rfl, IR_of_owns oc rfl⟩ (Nn.own oa) (Nn.own oc)).mono ?_
      rintro e w2 ⟨a3, c3, rfl, O1, hb2⟩
      replace hB := below_then hB hb2
      replace oa := owns_below oa hb2
      replace oc := owns_below oc hb2
      replace P5 := P5.below hb2
      replace P6 := P6.below hb2
      have hz2 := hb2.size
      clear hb2
      clear p0 p1 z0 z1 z2 z3
      obtain ⟨⟨ja, jb, rfl⟩, jc, jd, rfl⟩ := O1.shapes
      have bx2 := below_alloc w2 (.cells #[.slice ja X1.length jb, .slice jc Y1.length jd] 41)
      replace hB := below_then hB bx2
      replace oa := owns_below oa bx2
      replace oc := owns_below oc bx2
      replace P5 := P5.below bx2
      replace P6 := P6.below bx2
      replace O1 := O1.below bx2
      have P7 := Box.new w2 #[.slice ja X1.length jb, .slice jc Y1.length jd] 41
      clear bx2
      obtain ⟨_, p0, p1⟩ := P5.c2
      obtain ⟨_, z0, z1, z2, z3⟩ := P6.c4
      go_wp2_with fail
      refine (KS _ ⟨WR_of_owns oa rfl, IR_of_owns oc rfl⟩ (fun q n c e => by rw [Value.slice.injEq] at e; obtain ⟨_, rfl, rfl⟩ := e; exact owns_cap2 oc)).mono ?_
      rintro e w3 ⟨a4, c4, rfl, O2, hb3⟩
      replace hB := below_then hB hb3
      replace oa := owns_below oa hb3
      replace oc := owns_below oc hb3
      replace P5 := P5.below hb3
      replace P6 := P6.below hb3
      replace O1 := O1.below hb3
      replace P7 := P7.below hb3
      have hz3 := hb3.size
      clear hb3
      clear p0 p1 z0 z1 z2 z3
      obtain ⟨⟨ka, kb, rfl⟩, kc, kd, rfl⟩ := O2.shapes
      have bx3 := below_alloc w3 (.cells #[.slice ka X1.length kb, .slice kc Y1.length kd] 41)
      replace hB := below_then hB bx3
      replace oa := owns_below oa bx3
      replace oc := owns_below oc bx3
      replace P5 := P5.below bx3
      replace P6 := P6.below bx3
      replace O1 := O1.below bx3
      replace P7 := P7.below bx3
      replace O2 := O2.below bx3
      have P9 := Box.new w3 #[.slice ka X1.length kb, .slice kc Y1.length kd] 41
      clear bx3
      obtain ⟨_, p0, p1⟩ := P7.c2
      obtain ⟨_, z0, z1⟩ := P9.c2
      go_wp2_with fail
      refine (sameChunks_any _ _ Y1 _ O1.tr.2 O2.tr.2 hY1).mono ?_
      rintro e w4 ⟨rfl, hb4⟩
      replace hB := below_then hB hb4
      replace oa := owns_below oa hb4
      replace oc := owns_below oc hb4
      replace P5 := P5.below hb4
      replace P6 := P6.below hb4
      replace O1 := O1.below hb4
      replace P7 := P7.below hb4
      replace O2 := O2.below hb4
      replace P9 := P9.below hb4
      have hz4 := hb4.size
      clear hb4
      clear p0 p1 z0 z1 P9 O2
      obtain ⟨_, p0, p1⟩ := P5.c2
      go_wp2_with fail
      refine (KMI _ ⟨WR_of_owns oa rfl, IR_of_owns oc rfl⟩).mono ?_
      rintro e w5 ⟨u1, rfl, M1, hb5⟩
      replace hB := below_then hB hb5
      replace oa := owns_below oa hb5
      replace oc := owns_below oc hb5
      replace P5 := P5.below hb5
      replace P6 := P6.below hb5
      replace O1 := O1.below hb5
      replace P7 := P7.below hb5
      have hz5 := hb5.size
      clear hb5
      clear p0 p1
      obtain ⟨ma, mb, rfl⟩ := owns_shape M1
      obtain ⟨_, p0, p1⟩ := P5.c2
      go_wp2_with fail
      refine (KMS _ ⟨WR_of_owns oa rfl, IR_of_owns oc rfl⟩).mono ?_
      rintro e w6 ⟨u2, rfl, M2, hb6⟩
      replace hB := below_then hB hb6
      replace oa := owns_below oa hb6
      replace oc := owns_below oc hb6
      replace P5 := P5.below hb6
      replace P6 := P6.below hb6
      replace O1 := O1.below hb6
      replace P7 := P7.below hb6
      replace M1 := owns_below M1 hb6
      have hz6 := hb6.size
      clear hb6
      clear p0 p1
      obtain ⟨mc, md, rfl⟩ := owns_shape M2
      go_wp2_with fail
      refine (sameChunks_any _ _ ML _ (IR_of_owns M1 rfl) (IR_of_owns M2 rfl) hML).mono ?_
      rintro e w7 ⟨rfl, hb7⟩
      replace hB := below_then hB hb7
      replace oa := owns_below oa hb7
      replace oc := owns_below oc hb7
      replace P5 := P5.below hb7
      replace P6 := P6.below hb7
      replace O1 := O1.below hb7
      replace P7 := P7.below hb7
      replace M1 := owns_below M1 hb7
      replace M2 := owns_below M2 hb7
      have hz7 := hb7.size
      clear hb7
      clear M2 oa oc P5 KMI KMS
      clear M1 O1 P7 P6
      go_wp2_with fail
      refine (drawFT_any _ l1 _ (hv1.below hB) hl1).mono ?_
      rintro e w8 ⟨⟨a2, c2, v2, W2, G2, C2, rfl, D2⟩, hb⟩
      replace hB := below_then hB hb
      have hz8 := hb.size
      clear hb
      have qa := D2.oa
      have qc := D2.oc
      have hW2 : W2.length ≤ 1048576 := by have := D2.ok.1; omega
      have hG2 : G2.length ≤ 1048576 := by have := D2.len; omega
      have hS2 : ∀ i (h : i < G2.length), G2[i].k.size ≤ 1048576 := fun i h => by have := D2.sz i h; omega
      clear D2
      obtain ⟨ea, eb, rfl⟩ := owns_shape qa
      obtain ⟨ga, gb, rfl⟩ := owns_shape qc
      have bx8 := below_alloc w8 (.cells #[.slice ea W2.length eb, .slice ga G2.length gb] 41)
      replace hB := below_then hB bx8
      replace qa := owns_below qa bx8
      replace qc := owns_below qc bx8
      have PF := Box.new w8 #[.slice ea W2.length eb, .slice ga G2.length gb] 41
      clear bx8
      obtain ⟨_, p0, p1⟩ := PF.c2
      go_wp2_with fail
      refine (implFin_any _ _ W2 G2 _ ⟨WR_of_owns qa rfl, IR_of_owns qc rfl⟩ hW2 hG2 hS2).mono ?_
      rintro e w9 ⟨u1, rfl, F1, hb9⟩
      replace hB := below_then hB hb9
      replace qa := owns_below qa hb9
      replace qc := owns_below qc hb9
      replace PF := PF.below hb9
      have hz9 := hb9.size
      clear hb9
      clear p0 p1
      obtain ⟨fa, fb, rfl⟩ := owns_shape F1
      obtain ⟨_, p0, p1⟩ := PF.c2
      go_wp2_with fail
      refine (specFin_any _ _ W2 G2 _ ⟨WR_of_owns qa rfl, IR_of_owns qc rfl⟩ hW2 hG2 hS2).mono ?_
      rintro e w10 ⟨u2, rfl, F2, hb10⟩
      replace hB := below_then hB hb10
      replace qa := owns_below qa hb10
      replace qc := owns_below qc hb10
      replace PF := PF.below hb10
      replace F1 := owns_below F1 hb10
      have hz10 := hb10.size
      clear hb10
      clear p0 p1
      obtain ⟨fc, fd, rfl⟩ := owns_shape F2
      have hfl : (fnR W2 G2).length ≤ 1048576 := by have := fnR_len W2 G2; omega
      go_wp2_with fail
      refine (sameTexts_any _ _ (fnR W2 G2) _ (SL_of_owns F1) (SL_of_owns F2) hfl).mono ?_
      rintro e w11 ⟨rfl, hb11⟩
      replace hB := below_then hB hb11
      replace qa := owns_below qa hb11
      replace qc := owns_below qc hb11
      replace PF := PF.below hb11
      replace F1 := owns_below F1 hb11
      replace F2 := owns_below F2 hb11
      have hz11 := hb11.size
      clear hb11
      clear F2
      cases hfn : fnB W2 G2 with
      | false =>
        have hfe := fn_false hfn
        rw [hfe] at F1
        simp only [hfe, List.length_nil]
        clear hfe qa qc PF F1 hfl hfn
        go_wp2
        go_ret
        exact ⟨rfl, hB⟩
      | true =>
        obtain ⟨hf1, hf2, hf3⟩ := fn_true hfn
        have KW := fun W' (h : SL W' _ (fnR W2 G2)) => implWant_any (.slice fa (fnR W2 G2).length fb) (fnR W2 G2) W' h hfl hf3
        rw [hf1, hf2] at KW
        clear hf1 hf2 hf3 hfn
        go_wp2_with fail
        refine (KW _ (SL_of_owns F1)).mono ?_
        rintro e w12 ⟨u3, rfl, F3, hb12⟩
        replace hB := below_then hB hb12
        replace qa := owns_below qa hb12
        replace qc := owns_below qc hb12
        replace PF := PF.below hb12
        replace F1 := owns_below F1 hb12
        have hz12 := hb12.size
        clear hb12
        clear KW F1
        obtain ⟨ha, hb0, rfl⟩ := owns_shape F3
        obtain ⟨hpl, p0, p1⟩ := PF.c2
        have EW := neqWtV
        have hcw := WR_of_owns F3 rfl
        have hcq := WR_of_owns qa rfl
        obtain ⟨_, _, he1, hc1⟩ := hcw
        obtain ⟨_, _, he2, hc2⟩ := hcq
        simp only [Value.slice.injEq, true_and] at he1 he2
        obtain ⟨rfl, rfl⟩ := he1
        obtain ⟨rfl, rfl⟩ := he2
        clear qa qc F3
        go_wp2_with fail
        go_loopw [195] (fun i wr => ∃ k : Nat, k ≤ W2.length ∧ i = .int .i64 k ∧ Below w12.heap.size w12 wr) (fun i _ => W2.length - (intOf i).toNat)
        case atStart => exact ⟨0, Nat.zero_le _, rfl, Below.refl _ _⟩
        case round =>
          obtain ⟨k, hk, rfl, hb⟩ := hrel
          by_cases hlt : k < W2.length
          · obtain ⟨b1, o1, rfl, hbl1, hcell1⟩ := hc1 (by intro e; simp [e] at hlt)
            obtain ⟨b2, o2, rfl, hbl2, hcell2⟩ := hc2 (by intro e; simp [e] at hlt)
            obtain ⟨s, hse⟩ : ∃ s, s = W2[k] := ⟨_, rfl⟩
            have d0 := (hb.cell (p := ⟨b1, o1 + k * 2, none⟩) hbl1).trans (hcell1 k hlt).1
            have d1 := (hb.cell (p := ⟨b1, o1 + k * 2 + 1, none⟩) hbl1).trans (hcell1 k hlt).2
            have e0 := (hb.cell (p := ⟨b2, o2 + k * 2, none⟩) hbl2).trans (hcell2 k hlt).1
            have e1 := (hb.cell (p := ⟨b2, o2 + k * 2 + 1, none⟩) hbl2).trans (hcell2 k hlt).2
            rw [← hse] at d0 d1 e0 e1
            have r0 := (PF.below hb).2.1 0 _ rfl
            have hz := hb.size
            have hz1 : b1 < wr.heap.size := by omega
            have hz2 : b2 < wr.heap.size := by omega
            have hz3 := (PF.below hb).1
            clear hcell1 hcell2 hse hc1 hc2 p0 p1 PF
            obtain ⟨st, sd⟩ := s
            dsimp only at d0 d1 e0 e1
            go_wp2_with fail
            go_quiet (fail)
            go_wp2
            go_roundw
            case rel => exact ⟨k + 1, by omega, by go_num, below_drewN hb _⟩
            case measure => simp [intOf]; omega
          · clear hc1 hc2 p0 p1 PF
            go_wp2
            go_ret
            exact ⟨rfl, below_then hB hb⟩
    | true =>
      have TK := tkn_of hok
      rw [hok, TK.w1, TK.g1] at KI KS
      rw [TK.good, TK.m1] at KMI KMS
      have HWK : Hid (wOk W) := ((gtB_iff _ _).1 TK.good).1
      have hb2 := TK.b2
      have hw2 := TK.w2
      have hg2x := TK.g2
      have hgd1 := TK.good1
      have hm2 := TK.m2
      have HLE : Hid (((msL W (tkG G y)).length : Int) = (msL W G).length - (if (msL W G).any (smP y.n y.d) then 1 else 0)) := TK.len
      have hl2 := TK.l200
      have hml := msL_len W G HWK.out
      have hML : (msL W G).length ≤ 1048576 := by omega
      clear hok TK
      generalize msL W G = ML at *
      generalize tkG G y = Y1 at *
      have hY1 : Y1.length ≤ 1048576 := by omega
      obtain ⟨_, p0, p1⟩ := P5.c2
      obtain ⟨_, z0, z1, z2, z3⟩ := P6.c4
      go_wp2_with fail
      refine (KI _ ⟨WR_of_owns oa rfl, IR_of_owns oc rfl⟩ (Nn.own oa) (Nn.own oc)).mono ?_
      rintro e w2 ⟨a3, c3, rfl, O1, hb2⟩
      replace hB := below_then hB hb2
      replace oa := owns_below oa hb2
      replace oc := owns_below oc hb2
      replace P5 := P5.below hb2
      replace P6 := P6.below hb2
      have hz2 := hb2.size
      clear hb2
      clear p0 p1 z0 z1 z2 z3
      obtain ⟨⟨ja, jb, rfl⟩, jc, jd, rfl⟩ := O1.shapes
      have bx2 := below_alloc w2 (.cells #[.slice ja W.length jb, .slice jc Y1.length jd] 41)
      replace hB := below_then hB bx2
      replace oa := owns_below oa bx2
      replace oc := owns_below oc bx2
      replace P5 := P5.below bx2
      replace P6 := P6.below bx2
      replace O1 := O1.below bx2
      have P7 := Box.new w2 #[.slice ja W.length jb, .slice jc Y1.length jd] 41
      clear bx2
      obtain ⟨_, p0, p1⟩ := P5.c2
      obtain ⟨_, z0, z1, z2, z3⟩ := P6.c4
      go_wp2_with fail
      refine (KS _ ⟨WR_of_owns oa rfl, IR_of_owns oc rfl⟩ (fun q n c e => by rw [Value.slice.injEq] at e; obtain ⟨_, rfl, rfl⟩ := e; exact owns_cap2 oc)).mono ?_
      rintro e w3 ⟨a4, c4, rfl, O2, hb3⟩
      replace hB := below_then hB hb3
      replace oa := owns_below oa hb3
      replace oc := owns_below oc hb3
      replace P5 := P5.below hb3
      replace P6 := P6.below hb3
      replace O1 := O1.below hb3
      replace P7 := P7.below hb3
      have hz3 := hb3.size
      clear hb3
      clear p0 p1 z0 z1 z2 z3
      obtain ⟨⟨ka, kb, rfl⟩, kc, kd, rfl⟩ := O2.shapes
      have bx3 := below_alloc w3 (.cells #[.slice ka W.length kb, .slice kc Y1.length kd] 41)
      replace hB := below_then hB bx3
      replace oa := owns_below oa bx3
      replace oc := owns_below oc bx3
      replace P5 := P5.below bx3
      replace P6 := P6.below bx3
      replace O1 := O1.below bx3
      replace P7 := P7.below bx3
      replace O2 := O2.below bx3
      have P9 := Box.new w3 #[.slice ka W.length kb, .slice kc Y1.length kd] 41
      clear bx3
      obtain ⟨_, p0, p1⟩ := P7.c2
      obtain ⟨_, z0, z1⟩ := P9.c2
      go_wp2_with fail
      refine (sameChunks_any _ _ Y1 _ O1.tr.2 O2.tr.2 hY1).mono ?_
      rintro e w4 ⟨rfl, hb4⟩
      replace hB := below_then hB hb4
      replace oa := owns_below oa hb4
      replace oc := owns_below oc hb4
      replace P5 := P5.below hb4
      replace P6 := P6.below hb4
      replace O1 := O1.below hb4
      replace P7 := P7.below hb4
      replace O2 := O2.below hb4
      replace P9 := P9.below hb4
      have hz4 := hb4.size
      clear hb4
      clear p0 p1 z0 z1 P9 O2
      obtain ⟨_, p0, p1⟩ := P5.c2
      go_wp2_with fail
      refine (KMI _ ⟨WR_of_owns oa rfl, IR_of_owns oc rfl⟩).mono ?_
      rintro e w5 ⟨u1, rfl, M1, hb5⟩
      replace hB := below_then hB hb5
      replace oa := owns_below oa hb5
      replace oc := owns_below oc hb5
      replace P5 := P5.below hb5
      replace P6 := P6.below hb5
      replace O1 := O1.below hb5
      replace P7 := P7.below hb5
      have hz5 := hb5.size
      clear hb5
      clear p0 p1
      obtain ⟨ma, mb, rfl⟩ := owns_shape M1
      obtain ⟨_, p0, p1⟩ := P5.c2
      go_wp2_with fail
      refine (KMS _ ⟨WR_of_owns oa rfl, IR_of_owns oc rfl⟩).mono ?_
      rintro e w6 ⟨u2, rfl, M2, hb6⟩
      replace hB := below_then hB hb6
      replace oa := owns_below oa hb6
      replace oc := owns_below oc hb6
      replace P5 := P5.below hb6
      replace P6 := P6.below hb6
      replace O1 := O1.below hb6
      replace P7 := P7.below hb6
      replace M1 := owns_below M1 hb6
      have hz6 := hb6.size
      clear hb6
      clear p0 p1
      obtain ⟨mc, md, rfl⟩ := owns_shape M2
      go_wp2_with fail
      refine (sameChunks_any _ _ ML _ (IR_of_owns M1 rfl) (IR_of_owns M2 rfl) hML).mono ?_
      rintro e w7 ⟨rfl, hb7⟩
      replace hB := below_then hB hb7
      replace oa := owns_below oa hb7
      replace oc := owns_below oc hb7
      replace P5 := P5.below hb7
      replace P6 := P6.below hb7
      replace O1 := O1.below hb7
      replace P7 := P7.below hb7
      replace M1 := owns_below M1 hb7
      replace M2 := owns_below M2 hb7
      have hz7 := hb7.size
      clear hb7
      clear M2 oa oc P5 KMI KMS
      obtain ⟨_, p0, p1⟩ := P7.c2
      have hs1 := ck_sz hgd1
      have KM := fun W' h => implMiss_any (.slice ja W.length jb) (.slice jc Y1.length jd) W Y1 W' h hn hY1 hs1
      have KA := fun W' h na nc => implTake_any (.slice ja W.length jb) (.slice jc Y1.length jd) W Y1 y W' h na nc hn hY1 hs1 hy2
      have KG := fun W' h => implGT_any (.slice ja W.length jb) (.slice jc Y1.length jd) W Y1 W' h hn hY1 hs1
      rw [hgd1, hm2] at KM
      rw [hb2, hw2, hg2x] at KA
      rw [hgd1] at KG
      have hml1 := msL_len W Y1 HWK.out
      generalize msL W Y1 = MY at *
      clear KI KS hb2 hw2 hg2x hgd1 hm2 hl2
      go_wp2_with fail
      refine (KM _ O1.tr).mono ?_
      rintro e w8 ⟨u3, rfl, M3, hb8⟩
      replace hB := below_then hB hb8
      replace P6 := P6.below hb8
      replace O1 := O1.below hb8
      replace P7 := P7.below hb8
      replace M1 := owns_below M1 hb8
      have hz8 := hb8.size
      clear hb8
      clear p0 p1 KM
      obtain ⟨na, nb, rfl⟩ := owns_shape M3
      obtain ⟨_, p0, p1⟩ := P7.c2
      obtain ⟨_, z0, z1, z2, z3⟩ := P6.c4
      go_wp2_with fail
      refine (KA _ O1.tr (Nn.own O1.a) (Nn.own O1.c)).mono ?_
      rintro e w9 ⟨a5, c5, rfl, O3, hb9⟩
      replace hB := below_then hB hb9
      replace P6 := P6.below hb9
      replace O1 := O1.below hb9
      replace P7 := P7.below hb9
      replace M1 := owns_below M1 hb9
      replace M3 := owns_below M3 hb9
      have hz9 := hb9.size
      clear hb9
      clear p0 p1 z0 z1 z2 z3 KA
      obtain ⟨⟨qa, qb, rfl⟩, qc, qd, rfl⟩ := O3.shapes
      have bx9 := below_alloc w9 (.cells #[.slice qa W.length qb, .slice qc Y1.length qd] 41)
      replace hB := below_then hB bx9
      replace P6 := P6.below bx9
      replace O1 := O1.below bx9
      replace P7 := P7.below bx9
      replace M1 := owns_below M1 bx9
      replace M3 := owns_below M3 bx9
      replace O3 := O3.below bx9
      have P17 := Box.new w9 #[.slice qa W.length qb, .slice qc Y1.length qd] 41
      clear bx9
      obtain ⟨B0, hB0⟩ : ∃ B0, B0 = (w9.alloc (.cells #[.slice qa W.length qb, .slice qc Y1.length qd] 41)) := ⟨_, rfl⟩
      rw [← hB0] at hB P6 O1 P7 M1 M3 O3 P17
      have HB0 : Hid (B0 = (w9.alloc (.cells #[.slice qa W.length qb, .slice qc Y1.length qd] 41))) := hB0
      clear hB0
      go_wp2_with fail
      rw [← HB0.out]
      clear HB0
      have hcm := IR_of_owns M1 rfl
      obtain ⟨_, _, hem, hcM⟩ := hcm
      simp only [Value.slice.injEq, true_and] at hem
      obtain ⟨rfl, rfl⟩ := hem
      go_loopw [19, 98] (fun t i wr => ∃ k : Nat, k ≤ ML.length ∧ i = .int .i64 k ∧ t = .bool ((ML.take k).any (smP y.n y.d)) ∧ Below B0.heap.size B0 wr) (fun _ i _ => ML.length - (intOf i).toNat)
      case atStart => exact ⟨0, Nat.zero_le _, rfl, by simp, Below.refl _ _⟩
      case round =>
        obtain ⟨k, hk, rfl, rfl, hb⟩ := hrel
        by_cases hlt : k < ML.length
        · obtain ⟨mb0, mo, rfl, hmbl, hmcell⟩ := hcM (by intro e; simp [e] at hlt)
          obtain ⟨d0, d1, d2, d3⟩ := hmcell k hlt
          replace d0 := (hb.cell (p := ⟨mb0, mo + k * 4, none⟩) hmbl).trans d0
          replace d1 := (hb.cell (p := ⟨mb0, mo + k * 4 + 1, none⟩) hmbl).trans d1
          replace d2 := (hb.cell (p := ⟨mb0, mo + k * 4 + 2, none⟩) hmbl).trans d2
          replace d3 := (hb.cell (p := ⟨mb0, mo + k * 4 + 3, none⟩) hmbl).trans d3
          have HT : Hid ((ML.take (k + 1)).any (smP y.n y.d) = ((ML.take k).any (smP y.n y.d) || smP y.n y.d ML[k])) := any_take ML _ k hlt
          obtain ⟨hpl, p0, p1, p2, p3⟩ := (P6.below hb).c4
          have hz := hb.size
          have hmz : mb0 < wr.heap.size := by omega
          generalize (ML.take k).any (smP y.n y.d) = bw at *
          have HS : Hid (smP y.n y.d ML[k] = (decide (ML[k].n = y.n) && decide (ML[k].d = y.d))) := rfl
          generalize smP y.n y.d ML[k] = bs at *
          clear hmcell hcM P7 P17 O1 O3 M1 M3 P6 KG
          generalize ML[k] = m at *
          obtain ⟨mn, md, mk, mv⟩ := m
          dsimp only at *
          cases bw with
          | true =>
            go_wp2
            go_roundw
            case rel => exact ⟨k + 1, by omega, by go_num, by rw [HT.out]; simp, below_then hb (below_alloc _ _)⟩
            case measure => simp [intOf]; omega
          | false =>
            by_cases h1 : mn = y.n
            · by_cases h2 : md = y.d
              · go_wp2
                go_roundw
                case rel => exact ⟨k + 1, by omega, by go_num, by rw [HT.out, HS.out]; simp [h1, h2], below_then hb (below_alloc _ _)⟩
                case measure => simp [intOf]; omega
              · go_wp2
                go_roundw
                case rel => exact ⟨k + 1, by omega, by go_num, by rw [HT.out, HS.out]; simp [h2], below_then hb (below_alloc _ _)⟩
                case measure => simp [intOf]; omega
            · go_wp2
              go_roundw
              case rel => exact ⟨k + 1, by omega, by go_num, by rw [HT.out, HS.out]; simp [h1], below_then hb (below_alloc _ _)⟩
              case measure => simp [intOf]; omega
        · obtain rfl : k = ML.length := by omega
          rw [List.take_length]
          have hbx := hb
          replace hB := below_then hB hbx
          replace P6 := P6.below hbx
          replace O1 := O1.below hbx
          replace P7 := P7.below hbx
          replace M1 := owns_below M1 hbx
          replace M3 := owns_below M3 hbx
          replace O3 := O3.below hbx
          replace P17 := P17.below hbx
          clear hb hbx hcM
          generalize ML.any (smP y.n y.d) = bw at *
          obtain ⟨_, p0, p1⟩ := P7.c2
          obtain ⟨_, z0, z1⟩ := P17.c2
          cases bw with
          | true =>
            have hle := HLE.out
            simp only [if_true] at hle
            have hleB : ((MY.length : Int) == (ML.length : Int) - 1) = true := by simp; omega
            clear HLE
            go_wp2_with fail
            refine (sameChunks_any _ _ Y1 _ O3.tr.2 O1.tr.2 hY1).mono ?_
            rintro e w10 ⟨rfl, hb10⟩
            replace hB := below_then hB hb10
            replace P6 := P6.below hb10
            replace O1 := O1.below hb10
            replace P7 := P7.below hb10
            replace M1 := owns_below M1 hb10
            replace M3 := owns_below M3 hb10
            replace O3 := O3.below hb10
            replace P17 := P17.below hb10
            have hz10 := hb10.size
            clear hb10
            clear p0 p1 z0 z1 hle hleB
            obtain ⟨_, p0, p1⟩ := P7.c2
            go_wp2_with fail
            refine (KG _ O1.tr).mono ?_
            rintro e w11 ⟨rfl, hb11⟩
            replace hB := below_then hB hb11
            replace P6 := P6.below hb11
            replace O1 := O1.below hb11
            replace P7 := P7.below hb11
            replace M1 := owns_below M1 hb11
            replace M3 := owns_below M3 hb11
            replace O3 := O3.below hb11
            replace P17 := P17.below hb11
            have hz11 := hb11.size
            clear hb11
            clear p0 p1 KG P7 P17 O1 O3 M1 M3 P6
            go_wp2_with fail
            refine (drawFT_any _ l1 _ (hv1.below hB) hl1).mono ?_
            rintro e w12 ⟨⟨a2, c2, v2, W2, G2, C2, rfl, D2⟩, hb⟩
            replace hB := below_then hB hb
            have hz12 := hb.size
            clear hb
            have qa := D2.oa
            have qc := D2.oc
            have hW2 : W2.length ≤ 1048576 := by have := D2.ok.1; omega
            have hG2 : G2.length ≤ 1048576 := by have := D2.len; omega
            have hS2 : ∀ i (h : i < G2.length), G2[i].k.size ≤ 1048576 := fun i h => by have := D2.sz i h; omega
            clear D2
            obtain ⟨ea, eb, rfl⟩ := owns_shape qa
            obtain ⟨ga, gb, rfl⟩ := owns_shape qc
            have bx12 := below_alloc w12 (.cells #[.slice ea W2.length eb, .slice ga G2.length gb] 41)
            replace hB := below_then hB bx12
            replace qa := owns_below qa bx12
            replace qc := owns_below qc bx12
            have PF := Box.new w12 #[.slice ea W2.length eb, .slice ga G2.length gb] 41
            clear bx12
            obtain ⟨_, p0, p1⟩ := PF.c2
            go_wp2_with fail
            refine (implFin_any _ _ W2 G2 _ ⟨WR_of_owns qa rfl, IR_of_owns qc rfl⟩ hW2 hG2 hS2).mono ?_
            rintro e w13 ⟨u1, rfl, F1, hb13⟩
            replace hB := below_then hB hb13
            replace qa := owns_below qa hb13
            replace qc := owns_below qc hb13
            replace PF := PF.below hb13
            have hz13 := hb13.size
            clear hb13
            clear p0 p1
            obtain ⟨fa, fb, rfl⟩ := owns_shape F1
            obtain ⟨_, p0, p1⟩ := PF.c2
            go_wp2_with fail
            refine (specFin_any _ _ W2 G2 _ ⟨WR_of_owns qa rfl, IR_of_owns qc rfl⟩ hW2 hG2 hS2).mono ?_
            rintro e w14 ⟨u2, rfl, F2, hb14⟩
            replace hB := below_then hB hb14
            replace qa := owns_below qa hb14
            replace qc := owns_below qc hb14
            replace PF := PF.below hb14
            replace F1 := owns_below F1 hb14
            have hz14 := hb14.size
            clear hb14
            clear p0 p1
            obtain ⟨fc, fd, rfl⟩ := owns_shape F2
            have hfl : (fnR W2 G2).length ≤ 1048576 := by have := fnR_len W2 G2; omega
            go_wp2_with fail
            refine (sameTexts_any _ _ (fnR W2 G2) _ (SL_of_owns F1) (SL_of_owns F2) hfl).mono ?_
            rintro e w15 ⟨rfl, hb15⟩
            replace hB := below_then hB hb15
            replace qa := owns_below qa hb15
            replace qc := owns_below qc hb15
            replace PF := PF.below hb15
            replace F1 := owns_below F1 hb15
            replace F2 := owns_below F2 hb15
            have hz15 := hb15.size
            clear hb15
            clear F2
            cases hfn : fnB W2 G2 with
            | false =>
              have hfe := fn_false hfn
              rw [hfe] at F1
              simp only [hfe, List.length_nil]
              clear hfe qa qc PF F1 hfl hfn
              go_wp2
              go_ret
              exact ⟨rfl, hB⟩
            | true =>
              obtain ⟨hf1, hf2, hf3⟩ := fn_true hfn
              have KW := fun W' (h : SL W' _ (fnR W2 G2)) => implWant_any (.slice fa (fnR W2 G2).length fb) (fnR W2 G2) W' h hfl hf3
              rw [hf1, hf2] at KW
              clear hf1 hf2 hf3 hfn
              go_wp2_with fail
              refine (KW _ (SL_of_owns F1)).mono ?_
              rintro e w16 ⟨u3, rfl, F3, hb16⟩
              replace hB := below_then hB hb16
              replace qa := owns_below qa hb16
              replace qc := owns_below qc hb16
              replace PF := PF.below hb16
              replace F1 := owns_below F1 hb16
              have hz16 := hb16.size
              clear hb16
              clear KW F1
              obtain ⟨ha, hb0, rfl⟩ := owns_shape F3
              obtain ⟨hpl, p0, p1⟩ := PF.c2
              have EW := neqWtV
              have hcw := WR_of_owns F3 rfl
              have hcq := WR_of_owns qa rfl
              obtain ⟨_, _, he1, hc1⟩ := hcw
              obtain ⟨_, _, he2, hc2⟩ := hcq
              simp only [Value.slice.injEq, true_and] at he1 he2
              obtain ⟨rfl, rfl⟩ := he1
              obtain ⟨rfl, rfl⟩ := he2
              clear qa qc F3
              go_wp2_with fail
              go_loopw [195] (fun i wr => ∃ k : Nat, k ≤ W2.length ∧ i = .int .i64 k ∧ Below w16.heap.size w16 wr) (fun i _ => W2.length - (intOf i).toNat)
              case atStart => exact ⟨0, Nat.zero_le _, rfl, Below.refl _ _⟩
              case round =>
                obtain ⟨k, hk, rfl, hb⟩ := hrel
                by_cases hlt : k < W2.length
                · obtain ⟨b1, o1, rfl, hbl1, hcell1⟩ := hc1 (by intro e; simp [e] at hlt)
                  obtain ⟨b2, o2, rfl, hbl2, hcell2⟩ := hc2 (by intro e; simp [e] at hlt)
                  obtain ⟨s, hse⟩ : ∃ s, s = W2[k] := ⟨_, rfl⟩
                  have d0 := (hb.cell (p := ⟨b1, o1 + k * 2, none⟩) hbl1).trans (hcell1 k hlt).1
                  have d1 := (hb.cell (p := ⟨b1, o1 + k * 2 + 1, none⟩) hbl1).trans (hcell1 k hlt).2
                  have e0 := (hb.cell (p := ⟨b2, o2 + k * 2, none⟩) hbl2).trans (hcell2 k hlt).1
                  have e1 := (hb.cell (p := ⟨b2, o2 + k * 2 + 1, none⟩) hbl2).trans (hcell2 k hlt).2
                  rw [← hse] at d0 d1 e0 e1
                  have r0 := (PF.below hb).2.1 0 _ rfl
                  have hz := hb.size
                  have hz1 : b1 < wr.heap.size := by omega
                  have hz2 : b2 < wr.heap.size := by omega
                  have hz3 := (PF.below hb).1
                  clear hcell1 hcell2 hse hc1 hc2 p0 p1 PF
                  obtain ⟨st, sd⟩ := s
                  dsimp only at d0 d1 e0 e1
                  go_wp2_with fail
                  go_quiet (fail)
                  go_wp2
                  go_roundw
                  case rel => exact ⟨k + 1, by omega, by go_num, below_drewN hb _⟩
                  case measure => simp [intOf]; omega
                · clear hc1 hc2 p0 p1 PF
                  go_wp2
                  go_ret
                  exact ⟨rfl, below_then hB hb⟩
          | false =>
            have hle := HLE.out
            simp only [Bool.false_eq_true, if_false, Int.sub_zero] at hle
            have hleB : ((MY.length : Int) == (ML.length : Int)) = true := by simp; omega
            clear HLE
            go_wp2_with fail
            refine (sameChunks_any _ _ Y1 _ O3.tr.2 O1.tr.2 hY1).mono ?_
            rintro e w20 ⟨rfl, hb20⟩
            replace hB := below_then hB hb20
            replace P6 := P6.below hb20
            replace O1 := O1.below hb20
            replace P7 := P7.below hb20
            replace M1 := owns_below M1 hb20
            replace M3 := owns_below M3 hb20
            replace O3 := O3.below hb20
            replace P17 := P17.below hb20
            have hz20 := hb20.size
            clear hb20
            clear p0 p1 z0 z1 hle hleB
            obtain ⟨_, p0, p1⟩ := P7.c2
            go_wp2_with fail
            refine (KG _ O1.tr).mono ?_
            rintro e w21 ⟨rfl, hb21⟩
            replace hB := below_then hB hb21
            replace P6 := P6.below hb21
            replace O1 := O1.below hb21
            replace P7 := P7.below hb21
            replace M1 := owns_below M1 hb21
            replace M3 := owns_below M3 hb21
            replace O3 := O3.below hb21
            replace P17 := P17.below hb21
            have hz21 := hb21.size
            clear hb21
            clear p0 p1 KG P7 P17 O1 O3 M1 M3 P6
            go_wp2_with fail
            refine (drawFT_any _ l1 _ (hv1.below hB) hl1).mono ?_
            rintro e w22 ⟨⟨a2, c2, v2, W2, G2, C2, rfl, D2⟩, hb⟩
            replace hB := below_then hB hb
            have hz22 := hb.size
            clear hb
            have qa := D2.oa
            have qc := D2.oc
            have hW2 : W2.length ≤ 1048576 := by have := D2.ok.1; omega
            have hG2 : G2.length ≤ 1048576 := by have := D2.len; omega
            have hS2 : ∀ i (h : i < G2.length), G2[i].k.size ≤ 1048576 := fun i h => by have := D2.sz i h; omega
            clear D2
            obtain ⟨ea, eb, rfl⟩ := owns_shape qa
            obtain ⟨ga, gb, rfl⟩ := owns_shape qc
            have bx22 := below_alloc w22 (.cells #[.slice ea W2.length eb, .slice ga G2.length gb] 41)
            replace hB := below_then hB bx22
            replace qa := owns_below qa bx22
            replace qc := owns_below qc bx22
            have PF := Box.new w22 #[.slice ea W2.length eb, .slice ga G2.length gb] 41
            clear bx22
            obtain ⟨_, p0, p1⟩ := PF.c2
            go_wp2_with fail
            refine (implFin_any _ _ W2 G2 _ ⟨WR_of_owns qa rfl, IR_of_owns qc rfl⟩ hW2 hG2 hS2).mono ?_
            rintro e w23 ⟨u1, rfl, F1, hb23⟩
            replace hB := below_then hB hb23
            replace qa := owns_below qa hb23
            replace qc := owns_below qc hb23
            replace PF := PF.below hb23
            have hz23 := hb23.size
            clear hb23
            clear p0 p1
            obtain ⟨fa, fb, rfl⟩ := owns_shape F1
            obtain ⟨_, p0, p1⟩ := PF.c2
            go_wp2_with fail
            refine (specFin_any _ _ W2 G2 _ ⟨WR_of_owns qa rfl, IR_of_owns qc rfl⟩ hW2 hG2 hS2).mono ?_
            rintro e w24 ⟨u2, rfl, F2, hb24⟩
            replace hB := below_then hB hb24
            replace qa := owns_below qa hb24
            replace qc := owns_below qc hb24
            replace PF := PF.below hb24
            replace F1 := owns_below F1 hb24
            have hz24 := hb24.size
            clear hb24
            clear p0 p1
            obtain ⟨fc, fd, rfl⟩ := owns_shape F2
            have hfl : (fnR W2 G2).length ≤ 1048576 := by have := fnR_len W2 G2; omega
            go_wp2_with fail
            refine (sameTexts_any _ _ (fnR W2 G2) _ (SL_of_owns F1) (SL_of_owns F2) hfl).mono ?_
            rintro e w25 ⟨rfl, hb25⟩
            replace hB := below_then hB hb25
            replace qa := owns_below qa hb25
            replace qc := owns_below qc hb25
            replace PF := PF.below hb25
            replace F1 := owns_below F1 hb25
            replace F2 := owns_below F2 hb25
            have hz25 := hb25.size
            clear hb25
            clear F2
            cases hfn : fnB W2 G2 with
            | false =>
              have hfe := fn_false hfn
              rw [hfe] at F1
              simp only [hfe, List.length_nil]
              clear hfe qa qc PF F1 hfl hfn
              go_wp2
              go_ret
              exact ⟨rfl, hB⟩
            | true =>
              obtain ⟨hf1, hf2, hf3⟩ := fn_true hfn
              have KW := fun W' (h : SL W' _ (fnR W2 G2)) => implWant_any (.slice fa (fnR W2 G2).length fb) (fnR W2 G2) W' h hfl hf3
              rw [hf1, hf2] at KW
              clear hf1 hf2 hf3 hfn
              go_wp2_with fail
              refine (KW _ (SL_of_owns F1)).mono ?_
              rintro e w26 ⟨u3, rfl, F3, hb26⟩
              replace hB := below_then hB hb26
              replace qa := owns_below qa hb26
              replace qc := owns_below qc hb26
              replace PF := PF.below hb26
              replace F1 := owns_below F1 hb26
              have hz26 := hb26.size
              clear hb26
              clear KW F1
              obtain ⟨ha, hb0, rfl⟩ := owns_shape F3
              obtain ⟨hpl, p0, p1⟩ := PF.c2
              have EW := neqWtV
              have hcw := WR_of_owns F3 rfl
              have hcq := WR_of_owns qa rfl
              obtain ⟨_, _, he1, hc1⟩ := hcw
              obtain ⟨_, _, he2, hc2⟩ := hcq
              simp only [Value.slice.injEq, true_and] at he1 he2
              obtain ⟨rfl, rfl⟩ := he1
              obtain ⟨rfl, rfl⟩ := he2
              clear qa qc F3
              go_wp2_with fail
              go_loopw [195] (fun i wr => ∃ k : Nat, k ≤ W2.length ∧ i = .int .i64 k ∧ Below w26.heap.size w26 wr) (fun i _ => W2.length - (intOf i).toNat)
              case atStart => exact ⟨0, Nat.zero_le _, rfl, Below.refl _ _⟩
              case round =>
                obtain ⟨k, hk, rfl, hb⟩ := hrel
                by_cases hlt : k < W2.length
                · obtain ⟨b1, o1, rfl, hbl1, hcell1⟩ := hc1 (by intro e; simp [e] at hlt)
                  obtain ⟨b2, o2, rfl, hbl2, hcell2⟩ := hc2 (by intro e; simp [e] at hlt)
                  obtain ⟨s, hse⟩ : ∃ s, s = W2[k] := ⟨_, rfl⟩
                  have d0 := (hb.cell (p := ⟨b1, o1 + k * 2, none⟩) hbl1).trans (hcell1 k hlt).1
                  have d1 := (hb.cell (p := ⟨b1, o1 + k * 2 + 1, none⟩) hbl1).trans (hcell1 k hlt).2
                  have e0 := (hb.cell (p := ⟨b2, o2 + k * 2, none⟩) hbl2).trans (hcell2 k hlt).1
                  have e1 := (hb.cell (p := ⟨b2, o2 + k * 2 + 1, none⟩) hbl2).trans (hcell2 k hlt).2
                  rw [← hse] at d0 d1 e0 e1
                  have r0 := (PF.below hb).2.1 0 _ rfl
                  have hz := hb.size
                  have hz1 : b1 < wr.heap.size := by omega
                  have hz2 : b2 < wr.heap.size := by omega
                  have hz3 := (PF.below hb).1
                  clear hcell1 hcell2 hse hc1 hc2 p0 p1 PF
                  obtain ⟨st, sd⟩ := s
                  dsimp only at d0 d1 e0 e1
                  go_wp2_with fail
                  go_quiet (fail)
                  go_wp2
                  go_roundw
                  case rel => exact ⟨k + 1, by omega, by go_num, below_drewN hb _⟩
                  case measure => simp [intOf]; omega
                · clear hc1 hc2 p0 p1 PF
                  go_wp2
                  go_ret
                  exact ⟨rfl, below_then hB hb⟩
end Go.Proofs.Ytocaigffikdlhaa
