/-
  What is synced under a safe name is there after any crash: the walk of FnDisk.
-/
import Derived.Test.YtbgemebpfcbloaaxOW
import Derived.Deep.Cut
namespace Go.Proofs.Ytbgemebpfcbloaa
open Go.RowKit
set_option linter.unusedVariables false
set_option maxRecDepth 100000

set_option maxHeartbeats 64000000 in
theorem law3 (v0 v1 : Value) (l0 l1 : List UInt8) (w : World) (hv0 : YL w v0 l0) (hv1 : YL w v1 l1) (hl0 : l0.length ≤ maxLen) (hl1 : l1.length ≤ maxLen) :
    Calls Try.prog 3 #[v0, v1] w fun e w' => e = .returned (.bool true) ∧ Below w.heap.size w w' := by
  have hv0' := hv0
  have hv1' := hv1
  obtain ⟨va, vc, rfl, _⟩ := hv0'
  obtain ⟨vb, vd, rfl, _⟩ := hv1'
  have hq0 : l0.length ≤ 9223372036854775807 := hl0
  have hq1 : l1.length ≤ 9223372036854775807 := hl1
  by_cases hg : wrap64 ((l0.length : Int) + l1.length) ≤ 1048576
  rotate_left
  · have hg' : 1048576 < wrap64 ((l0.length : Int) + l1.length) := by omega
    clear hv0 hv1 hg
    go_enter Try.func3, Try.ntmps3
    go_wp2
    go_ret
    exact ⟨rfl, Below.refl _ _⟩
  · have hg2 : ¬ 1048576 < wrap64 ((l0.length : Int) + l1.length) := by omega
    clear hg
    go_enter Try.func3, Try.ntmps3
    go_wp2_with fail
    refine (drawDD_any _ l0 _ hv0 hl0).mono ?_
    rintro e w1 ⟨⟨x1, x2, x3, bl, lv, sf, r, k, nm, ot, da, kp, rfl, hok, hst, D⟩, hB⟩
    have hn1 : nm.size ≤ 1048576 := by have := hst.2.2.1; omega
    have hn2 : ot.size ≤ 1048576 := by have := hst.2.2.2.1; omega
    have hn3 : da.size ≤ 1048576 := by have := hst.2.2.2.2; omega
    clear hst hv0
    obtain ⟨a1, a2, a3, a4, a5, a6, rfl, rfl, rfl⟩ := D.shape
    have hv1 := hv1.below hB
    have HOK : Hid (okDk bl lv sf) := hok
    clear hok
    have bx1 := below_alloc w1 (.cells #[.slice a1 bl.length a2, .slice a3 lv.length a4, .slice a5 sf.length a6, .int .i64 r] 26)
    replace hB := below_then hB bx1
    replace D := D.below bx1
    replace hv1 := hv1.below bx1
    have P5 := Box.new w1 #[.slice a1 bl.length a2, .slice a3 lv.length a4, .slice a5 sf.length a6, .int .i64 r] 26
    clear bx1
    obtain ⟨W5, hW5⟩ : ∃ W5, W5 = w1.alloc (.cells #[.slice a1 bl.length a2, .slice a3 lv.length a4, .slice a5 sf.length a6, .int .i64 r] 26) := ⟨_, rfl⟩
    have hz5 : W5.heap.size = w1.heap.size + 1 := by rw [hW5]; simp
    rw [← hW5] at hB D hv1 P5
    have bxx := below_alloc W5 (.cells #[.int .i64 k, .string nm, .string ot, .string da, .int .i64 kp] 28)
    replace hB := below_then hB bxx
    replace D := D.below bxx
    replace hv1 := hv1.below bxx
    replace P5 := P5.below bxx
    have P6 := Box.new W5 #[.int .i64 k, .string nm, .string ot, .string da, .int .i64 kp] 28
    rw [hz5] at P6
    rw [hW5] at hB D hv1 P5 P6
    clear bxx hz5 hW5 W5
    have KI := fun W' (h : OwD W' (.slice a1 bl.length a2) (.slice a3 lv.length a4) (.slice a5 sf.length a6) bl lv sf) => implDoO h HOK.out r k nm ot da kp hn1 hn2 hn3
    have KS := fun W' (h : OwD W' (.slice a1 bl.length a2) (.slice a3 lv.length a4) (.slice a5 sf.length a6) bl lv sf) => specDoO h HOK.out r k nm ot da kp hn1 hn2 hn3
    have KG := fun W' (h : OwD W' (.slice a1 bl.length a2) (.slice a3 lv.length a4) (.slice a5 sf.length a6) bl lv sf) => specGoodO h HOK.out r
    obtain ⟨gg, hgd⟩ : ∃ gg, goodD bl lv sf r = gg := ⟨_, rfl⟩
    cases gg with
    | false =>
      have e1 := do_bad hgd k nm ot da kp
      rw [hgd] at KG
      rw [e1] at KI KS
      clear e1 hgd HOK
      generalize doB k nm ot da kp bl lv sf r = BL at *
      generalize doL k nm ot da kp bl lv sf r = LV at *
      generalize doS k nm ot da kp bl lv sf r = SF at *
      generalize doR bl lv sf r = rr at *
      obtain ⟨_, p0, p1, p2, p3⟩ := P5.c4
      obtain ⟨_, z0, z1, z2, z3, z4⟩ := box5_c P6
      go_wp2_with fail
      refine (KI _ D).mono ?_
      rintro e w2 ⟨⟨y1, y2, y3, rfl, X⟩, hb2⟩
      replace hB := below_then hB hb2
      replace D := D.below hb2
      replace hv1 := hv1.below hb2
      replace P5 := P5.below hb2
      replace P6 := P6.below hb2
      have hz2 := hb2.size
      clear hb2
      clear p0 p1 p2 p3 z0 z1 z2 z3 z4 KI
      obtain ⟨b1, b2, b3, b4, b5, b6, rfl, rfl, rfl⟩ := X.shape
      have bx2 := below_alloc w2 (.cells #[.slice b1 BL.length b2, .slice b3 LV.length b4, .slice b5 SF.length b6, .int .i64 rr] 26)
      replace hB := below_then hB bx2
      replace D := D.below bx2
      replace hv1 := hv1.below bx2
      replace P5 := P5.below bx2
      replace P6 := P6.below bx2
      replace X := X.below bx2
      have P7 := Box.new w2 #[.slice b1 BL.length b2, .slice b3 LV.length b4, .slice b5 SF.length b6, .int .i64 rr] 26
      clear bx2
      obtain ⟨_, p0, p1, p2, p3⟩ := P5.c4
      obtain ⟨_, z0, z1, z2, z3, z4⟩ := box5_c P6
      go_wp2_with fail
      refine (KS _ D).mono ?_
      rintro e w3 ⟨⟨y1, y2, y3, rfl, Y⟩, hb3⟩
      replace hB := below_then hB hb3
      replace D := D.below hb3
      replace hv1 := hv1.below hb3
      replace P5 := P5.below hb3
      replace P6 := P6.below hb3
      replace X := X.below hb3
      replace P7 := P7.below hb3
      have hz3 := hb3.size
      clear hb3
      clear p0 p1 p2 p3 z0 z1 z2 z3 z4 KS
      obtain ⟨c1, c2, c3, c4, c5, c6, rfl, rfl, rfl⟩ := Y.shape
      have bx3 := below_alloc w3 (.cells #[.slice c1 BL.length c2, .slice c3 LV.length c4, .slice c5 SF.length c6, .int .i64 rr] 26)
      replace hB := below_then hB bx3
      replace D := D.below bx3
      replace hv1 := hv1.below bx3
      replace P5 := P5.below bx3
      replace P6 := P6.below bx3
      replace X := X.below bx3
      replace P7 := P7.below bx3
      replace Y := Y.below bx3
      have P9 := Box.new w3 #[.slice c1 BL.length c2, .slice c3 LV.length c4, .slice c5 SF.length c6, .int .i64 rr] 26
      clear bx3
      obtain ⟨_, p0, p1, p2, p3⟩ := P5.c4
      go_wp2_with fail
      refine (KG _ D).mono ?_
      rintro e w4 ⟨rfl, hb4⟩
      replace hB := below_then hB hb4
      replace D := D.below hb4
      replace hv1 := hv1.below hb4
      replace P5 := P5.below hb4
      replace P6 := P6.below hb4
      replace X := X.below hb4
      replace P7 := P7.below hb4
      replace Y := Y.below hb4
      replace P9 := P9.below hb4
      have hz4 := hb4.size
      clear hb4
      clear p0 p1 p2 p3 KG
      clear D X Y P5 P6 P7 P9 hv1
      go_wp2
      go_ret
      exact ⟨rfl, hB⟩
    | true =>
      have HN : Hid (goodD (doB k nm ot da kp bl lv sf r) (doL k nm ot da kp bl lv sf r) (doS k nm ot da kp bl lv sf r) r = true) := good_do hgd k nm ot da kp
      have e2 := doR_good hgd
      rw [hgd] at KG
      rw [e2] at KI KS
      clear e2 hgd HOK
      generalize doB k nm ot da kp bl lv sf r = BL at *
      generalize doL k nm ot da kp bl lv sf r = LV at *
      generalize doS k nm ot da kp bl lv sf r = SF at *
      generalize doC k nm ot da kp bl lv sf r = cc at *
      obtain ⟨_, p0, p1, p2, p3⟩ := P5.c4
      obtain ⟨_, z0, z1, z2, z3, z4⟩ := box5_c P6
      go_wp2_with fail
      refine (KI _ D).mono ?_
      rintro e w2 ⟨⟨y1, y2, y3, rfl, X⟩, hb2⟩
      replace hB := below_then hB hb2
      replace D := D.below hb2
      replace hv1 := hv1.below hb2
      replace P5 := P5.below hb2
      replace P6 := P6.below hb2
      have hz2 := hb2.size
      clear hb2
      clear p0 p1 p2 p3 z0 z1 z2 z3 z4 KI
      obtain ⟨b1, b2, b3, b4, b5, b6, rfl, rfl, rfl⟩ := X.shape
      have bx2 := below_alloc w2 (.cells #[.slice b1 BL.length b2, .slice b3 LV.length b4, .slice b5 SF.length b6, .int .i64 r] 26)
      replace hB := below_then hB bx2
      replace D := D.below bx2
      replace hv1 := hv1.below bx2
      replace P5 := P5.below bx2
      replace P6 := P6.below bx2
      replace X := X.below bx2
      have P7 := Box.new w2 #[.slice b1 BL.length b2, .slice b3 LV.length b4, .slice b5 SF.length b6, .int .i64 r] 26
      clear bx2
      obtain ⟨_, p0, p1, p2, p3⟩ := P5.c4
      obtain ⟨_, z0, z1, z2, z3, z4⟩ := box5_c P6
      go_wp2_with fail
      refine (KS _ D).mono ?_
      rintro e w3 ⟨⟨y1, y2, y3, rfl, Y⟩, hb3⟩
      replace hB := below_then hB hb3
      replace D := D.below hb3
      replace hv1 := hv1.below hb3
      replace P5 := P5.below hb3
      replace P6 := P6.below hb3
      replace X := X.below hb3
      replace P7 := P7.below hb3
      have hz3 := hb3.size
      clear hb3
      clear p0 p1 p2 p3 z0 z1 z2 z3 z4 KS
      obtain ⟨c1, c2, c3, c4, c5, c6, rfl, rfl, rfl⟩ := Y.shape
      have bx3 := below_alloc w3 (.cells #[.slice c1 BL.length c2, .slice c3 LV.length c4, .slice c5 SF.length c6, .int .i64 r] 26)
      replace hB := below_then hB bx3
      replace D := D.below bx3
      replace hv1 := hv1.below bx3
      replace P5 := P5.below bx3
      replace P6 := P6.below bx3
      replace X := X.below bx3
      replace P7 := P7.below bx3
      replace Y := Y.below bx3
      have P9 := Box.new w3 #[.slice c1 BL.length c2, .slice c3 LV.length c4, .slice c5 SF.length c6, .int .i64 r] 26
      clear bx3
      obtain ⟨_, p0, p1, p2, p3⟩ := P5.c4
      go_wp2_with fail
      refine (KG _ D).mono ?_
      rintro e w4 ⟨rfl, hb4⟩
      replace hB := below_then hB hb4
      replace D := D.below hb4
      replace hv1 := hv1.below hb4
      replace P5 := P5.below hb4
      replace P6 := P6.below hb4
      replace X := X.below hb4
      replace P7 := P7.below hb4
      replace Y := Y.below hb4
      replace P9 := P9.below hb4
      have hz4 := hb4.size
      clear hb4
      clear p0 p1 p2 p3 KG
      clear D Y P5 P6 P9
      have HKX : Hid (okDk BL LV SF) := okDk_good HN.out
      have KQ := fun W' (h : OwD W' (.slice b1 BL.length b2) (.slice b3 LV.length b4) (.slice b5 SF.length b6) BL LV SF) => implGoodO h HKX.out r
      rw [HN.out] at KQ
      obtain ⟨_, p0, p1, p2, p3⟩ := P7.c4
      go_wp2_with fail
      refine (KQ _ X).mono ?_
      rintro e w5 ⟨rfl, hb5⟩
      replace hB := below_then hB hb5
      replace hv1 := hv1.below hb5
      replace X := X.below hb5
      replace P7 := P7.below hb5
      have hz5 := hb5.size
      clear hb5
      clear p0 p1 p2 p3 KQ
      go_wp2_with fail
      obtain ⟨g7, hg7⟩ : ∃ g7, g7 = w2.heap.size := ⟨_, rfl⟩
      rw [← hg7] at P7
      rw [← hg7]
      have h7lt := P7.1
      clear hg7
      go_cut [11, 12] from 58 (fun s11 s12 wc => ∃ (b : Nat) (z1 z2 z3 : Value) (kq : Nat) (CB : List (ByteArray × Int)), s11 = .pointer (some ⟨b, 0, none⟩) ∧ s12 = .int .i64 0 ∧ kq ≤ 8 ∧ Hid (CB = BL.map (crB kq)) ∧ Box wc b [z1, z2, z3, .int .i64 r] ∧ OwD wc z1 z2 z3 CB SF SF ∧ Below w5.heap.size w5 wc)
      case first =>
        have hD : Below w5.heap.size w5 w5.drew := (Below.refl _ _).drew
        have P := P7.below hD
        have Q := X.below hD
        have hv := hv1.below hD
        have hW := hD
        clear hD P7 X hv1 hB
        refine wp_region_held_drew (S := fun wx => Box wx g7 [.slice b1 BL.length b2, .slice b3 LV.length b4, .slice b5 SF.length b6, .int .i64 r]) (by kernel_rfl) P (fun hHeld => ?_)
        have h7a : g7 < w5.drew.heap.size := P.1
        generalize w5.drew = va at *
        refine wpAnyH_take (i := 0) (oi := { dst := some 59, op := Op.load 26 (Operand.tmp 7), type := 26, pos := "laws.go:70", after := #[], guard := none }) (v := .agg #[.slice b1 BL.length b2, .slice b3 LV.length b4, .slice b5 SF.length b6, .int .i64 r]) rfl (by kernel_rfl) (by kernel_rfl) (by kernel_rfl) (fun _ _ _ h => h) (Or.inl ⟨by rfl, ?_⟩) (by assumption) ?_
        · intro wx hSw
          clear hHeld; obtain ⟨hSl, s0, s1, s2, s3⟩ := (show Box wx g7 [.slice b1 BL.length b2, .slice b3 LV.length b4, .slice b5 SF.length b6, .int .i64 r] from hSw).c4; clear hSw; go_simp
        simp only [Act.put, List.setIfInBounds_toArray, List.set_cons_zero, List.set_cons_succ]
        refine wpAnyH_take (i := 1) (oi := { dst := some 60, op := Op.move (Operand.tmp 1), type := 22, pos := "laws.go:70", after := #[], guard := none }) (v := .slice vb l1.length vd) rfl (by kernel_rfl) (by kernel_rfl) (by kernel_rfl) (fun _ _ _ h => h) (Or.inl ⟨by rfl, ?_⟩) (by assumption) ?_
        · intro wx hSw
          clear hSw hHeld; go_simp
        simp only [Act.put, List.setIfInBounds_toArray, List.set_cons_zero, List.set_cons_succ]
        refine wpAnyH_ready (rs := [2, 9]) (by kernel_rfl) (by simp) ?_
        refine (AllReadyH.cons (o := { dst := some 61, op := Op.call { callee := Callee.value (Operand.func 15), args := #[Operand.tmp 60], argTypes := #[22] }, type := 3, pos := "laws.go:70", after := #[{ on := 1, ground := Ground.data }], guard := none }) rfl (fun K hK => ?_) (AllReadyH.cons (o := { dst := some 11, op := Op.alloc 26, type := 0, pos := "laws.go:70", after := #[], guard := none }) rfl (fun K hK => ?_) AllReadyH.nil))
        · skip
          clear hHeld
          go_simp
          refine (numberOf_any _ l1 _ hv hq1).mono ?_
          rintro e vn ⟨⟨x, rfl, hx⟩, hw⟩
          rw [hw]
          clear hw
          obtain ⟨kq, hxm, hx9⟩ : ∃ kq : Nat, ((x : Int)).tmod 9 = (kq : Int) ∧ kq ≤ 8 := ⟨x % 9, by rw [Int.tmod_eq_emod_of_nonneg (by omega)]; omega, by omega⟩
          clear hx
          refine hK.out _ va P (fun hHeld => ?_)
          clear hK K
          try (simp only [Act.put, List.setIfInBounds_toArray, List.set_cons_zero, List.set_cons_succ])
          refine wpAnyH_take (i := 3) (oi := { dst := some 62, op := Op.binOp BinOp.rem 3 (Operand.tmp 61) (Operand.const (Value.int IntKind.i64 9)) 3, type := 3, pos := "laws.go:70", after := #[{ on := 2, ground := Ground.data }], guard := none }) (v := .int .i64 (kq : Int)) rfl (by kernel_rfl) (by kernel_rfl) (by kernel_rfl) (fun _ _ _ h => h) (Or.inl ⟨by rfl, ?_⟩) (by assumption) ?_
          · intro wx hSw
            clear hSw hHeld; go_simp
          simp only [Act.put, List.setIfInBounds_toArray, List.set_cons_zero, List.set_cons_succ]
          refine wpAnyH_take (i := 4) (oi := { dst := some 63, op := Op.build 28 #[(0, Operand.const (Value.int IntKind.i64 8)), (4, Operand.tmp 62)], type := 28, pos := "laws.go:70", after := #[{ on := 3, ground := Ground.data }], guard := none }) (v := .agg #[.int .i64 8, .string ⟨#[]⟩, .string ⟨#[]⟩, .string ⟨#[]⟩, .int .i64 (kq : Int)]) rfl (by kernel_rfl) (by kernel_rfl) (by kernel_rfl) (fun _ _ _ h => h) (Or.inl ⟨by rfl, ?_⟩) (by assumption) ?_
          · intro wx hSw
            clear hSw hHeld; go_simp
          simp only [Act.put, List.setIfInBounds_toArray, List.set_cons_zero, List.set_cons_succ]
          refine wpAnyH_ready (rs := [5, 9]) (by kernel_rfl) (by simp) ?_
          refine (AllReadyH.cons (o := { dst := some 64, op := Op.call { callee := Callee.value (Operand.func 11), args := #[Operand.tmp 59, Operand.tmp 63], argTypes := #[26, 28] }, type := 31, pos := "laws.go:70", after := #[{ on := 0, ground := Ground.data }, { on := 4, ground := Ground.data }, { on := 2, ground := Ground.chain }], guard := none }) rfl (fun K hK => ?_) (AllReadyH.cons (o := { dst := some 11, op := Op.alloc 26, type := 0, pos := "laws.go:70", after := #[], guard := none }) rfl (fun K hK => ?_) AllReadyH.nil))
          · skip
            clear hHeld
            go_simp
            have KD := implDo_any _ _ _ BL LV SF r 8 ⟨#[]⟩ ⟨#[]⟩ ⟨#[]⟩ (kq : Int) va Q.px.1 Q.px.2.1 Q.px.2.2 HKX.out.1.1 HKX.out.2.1.1 HKX.out.2.2.1 HKX.out.1.2 HKX.out.2.1.2 HKX.out.2.2.2 (by decide) (by decide) (by decide)
            obtain ⟨d1, d2, d3, d4, d5⟩ := do_crash (kp := (kq : Int)) HN.out (by omega) (by omega)
            rw [d1, d2, d3, d4, d5, Int.toNat_natCast] at KD
            clear d1 d2 d3 d4 d5
            obtain ⟨CB, HCB⟩ : ∃ CB, Hid (CB = BL.map (crB kq)) := ⟨_, rfl⟩
            rw [← HCB.out] at KD
            refine KD.mono ?_
            rintro e vd1 ⟨⟨z1, z2, z3, rfl, M⟩, hb⟩
            replace P := P.below hb
            replace Q := Q.below hb
            replace hW := below_then hW hb
            have hzd := hb.size
            obtain ⟨m1, n1, m2, n2, m3, n3, rfl, rfl, rfl⟩ := M.shape
            clear hb KD
            refine hK.out _ _ P (fun hHeld => ?_)
            clear hK K
            try (simp only [Act.put, List.setIfInBounds_toArray, List.set_cons_zero, List.set_cons_succ])
            refine wpAnyH_take (i := 6) (oi := { dst := some 58, op := Op.move (Operand.tmp 64), type := 31, pos := "laws.go:70", after := #[{ on := 5, ground := Ground.data }], guard := none }) (v := .tuple #[.agg #[.slice m1 CB.length n1, .slice m2 SF.length n2, .slice m3 SF.length n3, .int .i64 r], .int .i64 0]) rfl (by kernel_rfl) (by kernel_rfl) (by kernel_rfl) (fun _ _ _ h => h) (Or.inl ⟨by rfl, ?_⟩) (by assumption) ?_
            · intro wx hSw
              clear hSw hHeld; go_simp
            simp only [Act.put, List.setIfInBounds_toArray, List.set_cons_zero, List.set_cons_succ]
            refine wpAnyH_take (i := 7) (oi := { dst := some 65, op := Op.extract (Operand.tmp 58) 0, type := 26, pos := "laws.go:70", after := #[{ on := 6, ground := Ground.data }], guard := none }) (v := .agg #[.slice m1 CB.length n1, .slice m2 SF.length n2, .slice m3 SF.length n3, .int .i64 r]) rfl (by kernel_rfl) (by kernel_rfl) (by kernel_rfl) (fun _ _ _ h => h) (Or.inl ⟨by rfl, ?_⟩) (by assumption) ?_
            · intro wx hSw
              clear hSw hHeld; go_simp
            simp only [Act.put, List.setIfInBounds_toArray, List.set_cons_zero, List.set_cons_succ]
            refine wpAnyH_take (i := 8) (oi := { dst := some 66, op := Op.extract (Operand.tmp 58) 1, type := 3, pos := "laws.go:70", after := #[{ on := 6, ground := Ground.data }, { on := 10, ground := Ground.gcOnly Departure.lateStores }], guard := none }) (v := .int .i64 0) rfl (by kernel_rfl) (by kernel_rfl) (by kernel_rfl) (fun _ _ _ h => h) (Or.inl ⟨by rfl, ?_⟩) (by assumption) ?_
            · intro wx hSw
              clear hSw hHeld; go_simp
            simp only [Act.put, List.setIfInBounds_toArray, List.set_cons_zero, List.set_cons_succ]
            refine wpAnyH_ready (rs := [9]) (by kernel_rfl) (by simp) ?_
            refine (AllReadyH.cons (o := { dst := some 11, op := Op.alloc 26, type := 0, pos := "laws.go:70", after := #[], guard := none }) rfl (fun K hK => ?_) AllReadyH.nil)
            clear hHeld
            have Z := Box.new vd1 #[.slice none 0 0, .slice none 0 0, .slice none 0 0, .int .i64 0] 26
            have hA := below_alloc vd1 (.cells #[.slice none 0 0, .slice none 0 0, .slice none 0 0, .int .i64 0] 26)
            replace P := P.below hA
            have hbW := hW.size
            replace hW := below_then hW hA
            have hM1 := owns_blk M.1
            have hM2 := owns_blk M.2.1
            have hM3 := owns_blk M.2.2.1
            replace M := M.below hA
            have hzA : vd1.heap.size < (vd1.alloc (.cells #[.slice none 0 0, .slice none 0 0, .slice none 0 0, .int .i64 0] 26)).heap.size := Z.1
            clear hA
            go_simp
            refine hK.out _ _ P (fun hHeld => ?_)
            clear hK K
            try (simp only [Act.put, List.setIfInBounds_toArray, List.set_cons_zero, List.set_cons_succ])
            generalize vd1.alloc (.cells #[.slice none 0 0, .slice none 0 0, .slice none 0 0, .int .i64 0] 26) = ve at *
            generalize vd1.heap.size = bb at *
            refine wpAnyH_ready (rs := [10]) (by kernel_rfl) (by simp) ?_
            refine (AllReadyH.cons (o := { dst := none, op := Op.store 26 (Operand.tmp 11) (Operand.tmp 65), type := 0, pos := "laws.go:70", after := #[{ on := 9, ground := Ground.data }, { on := 7, ground := Ground.data }, { on := 5, ground := Ground.chain }, { on := 0, ground := Ground.phase }, { on := 1, ground := Ground.phase }, { on := 2, ground := Ground.phase }, { on := 3, ground := Ground.phase }, { on := 4, ground := Ground.phase }, { on := 5, ground := Ground.phase }, { on := 6, ground := Ground.phase }, { on := 7, ground := Ground.phase }, { on := 8, ground := Ground.textOnly Departure.lateStores }, { on := 9, ground := Ground.phase }], guard := none }) rfl (fun K hK => ?_) AllReadyH.nil)
            clear hHeld
            have hC := put4_chg ve bb (.slice m1 CB.length n1) (.slice m2 SF.length n2) (.slice m3 SF.length n3) (.int .i64 r)
            have Pn := hC.box P (show ¬ g7 = bb by omega)
            have Zn := put4_box Z (.slice m1 CB.length n1) (.slice m2 SF.length n2) (.slice m3 SF.length n3) (.int .i64 r)
            have r1 := hC.owns M.1 (fun k hk hh => by have h8 := hM1 k hk; have hh : k = bb := hh; omega)
            have r2 := hC.owns M.2.1 (fun k hk hh => by have h8 := hM2 k hk; have hh : k = bb := hh; omega)
            have r3 := hC.owns M.2.2.1 (fun k hk hh => by have h8 := hM3 k hk; have hh : k = bb := hh; omega)
            have hWn := hW.trans (hC.below (B := w5.heap.size) hW.size (fun k hk => by have hk : k = bb := hk; omega))
            obtain ⟨zl, t0, t1, t2, t3⟩ := Z.c4
            obtain ⟨f0, f1, f2, f3⟩ := box4_f Z
            clear hC P Z M hW Q
            go_simp
            refine hK.out _ (put4 ve bb (.slice m1 CB.length n1) (.slice m2 SF.length n2) (.slice m3 SF.length n3) (.int .i64 r)) Pn (fun hHeld => ?_)
            clear hK K zl t0 t1 t2 t3 f0 f1 f2 f3
            refine wpAnyH_take (i := 11) (oi := { dst := some 12, op := Op.assign (Operand.tmp 66), type := 3, pos := "laws.go:70", after := #[{ on := 8, ground := Ground.data }, { on := 10, ground := Ground.chain }, { on := 0, ground := Ground.phase }, { on := 1, ground := Ground.phase }, { on := 2, ground := Ground.phase }, { on := 3, ground := Ground.phase }, { on := 4, ground := Ground.phase }, { on := 5, ground := Ground.phase }, { on := 6, ground := Ground.phase }, { on := 7, ground := Ground.phase }, { on := 8, ground := Ground.phase }, { on := 9, ground := Ground.phase }, { on := 10, ground := Ground.phase }], guard := none }) (v := .int .i64 0) rfl (by kernel_rfl) (by kernel_rfl) (by kernel_rfl) (fun _ _ _ h => h) (Or.inl ⟨by rfl, ?_⟩) (by assumption) ?_
            · intro wx hSw
              clear hSw hHeld; go_simp
            simp only [Act.put, List.setIfInBounds_toArray, List.set_cons_zero, List.set_cons_succ]
            clear hHeld
            refine wpAnyH_done (by kernel_rfl) ?_ _
            go_wp2_with fail
            go_meet
            case rel => exact ⟨_, _, _, _, kq, CB, rfl, rfl, hx9, HCB, Zn, ⟨⟨_, r1⟩, ⟨_, r2⟩, ⟨_, r3⟩⟩, hWn⟩
          · skip
            clear hHeld
            have Z := Box.new va #[.slice none 0 0, .slice none 0 0, .slice none 0 0, .int .i64 0] 26
            have hA := below_alloc va (.cells #[.slice none 0 0, .slice none 0 0, .slice none 0 0, .int .i64 0] 26)
            replace P := P.below hA
            replace Q := Q.below hA
            have hbW := hW.size
            replace hW := below_then hW hA
            have hzA : va.heap.size < (va.alloc (.cells #[.slice none 0 0, .slice none 0 0, .slice none 0 0, .int .i64 0] 26)).heap.size := Z.1
            clear hA
            go_simp
            refine hK.out _ _ P (fun hHeld => ?_)
            clear hK K
            try (simp only [Act.put, List.setIfInBounds_toArray, List.set_cons_zero, List.set_cons_succ])
            generalize va.alloc (.cells #[.slice none 0 0, .slice none 0 0, .slice none 0 0, .int .i64 0] 26) = vb1 at *
            generalize va.heap.size = bb at *
            refine wpAnyH_ready (rs := [5]) (by kernel_rfl) (by simp) ?_
            refine (AllReadyH.cons (o := { dst := some 64, op := Op.call { callee := Callee.value (Operand.func 11), args := #[Operand.tmp 59, Operand.tmp 63], argTypes := #[26, 28] }, type := 31, pos := "laws.go:70", after := #[{ on := 0, ground := Ground.data }, { on := 4, ground := Ground.data }, { on := 2, ground := Ground.chain }], guard := none }) rfl (fun K hK => ?_) AllReadyH.nil)
            clear hHeld
            go_simp
            have KD := implDo_any _ _ _ BL LV SF r 8 ⟨#[]⟩ ⟨#[]⟩ ⟨#[]⟩ (kq : Int) vb1 Q.px.1 Q.px.2.1 Q.px.2.2 HKX.out.1.1 HKX.out.2.1.1 HKX.out.2.2.1 HKX.out.1.2 HKX.out.2.1.2 HKX.out.2.2.2 (by decide) (by decide) (by decide)
            obtain ⟨d1, d2, d3, d4, d5⟩ := do_crash (kp := (kq : Int)) HN.out (by omega) (by omega)
            rw [d1, d2, d3, d4, d5, Int.toNat_natCast] at KD
            clear d1 d2 d3 d4 d5
            obtain ⟨CB, HCB⟩ : ∃ CB, Hid (CB = BL.map (crB kq)) := ⟨_, rfl⟩
            rw [← HCB.out] at KD
            refine KD.mono ?_
            rintro e ve ⟨⟨z1, z2, z3, rfl, M⟩, hb⟩
            replace P := P.below hb
            replace Q := Q.below hb
            replace Z := Z.below hb
            replace hW := below_then hW hb
            have hzd := hb.size
            obtain ⟨m1, n1, m2, n2, m3, n3, rfl, rfl, rfl⟩ := M.shape
            clear hb KD
            refine hK.out _ _ P (fun hHeld => ?_)
            clear hK K
            try (simp only [Act.put, List.setIfInBounds_toArray, List.set_cons_zero, List.set_cons_succ])
            refine wpAnyH_take (i := 6) (oi := { dst := some 58, op := Op.move (Operand.tmp 64), type := 31, pos := "laws.go:70", after := #[{ on := 5, ground := Ground.data }], guard := none }) (v := .tuple #[.agg #[.slice m1 CB.length n1, .slice m2 SF.length n2, .slice m3 SF.length n3, .int .i64 r], .int .i64 0]) rfl (by kernel_rfl) (by kernel_rfl) (by kernel_rfl) (fun _ _ _ h => h) (Or.inl ⟨by rfl, ?_⟩) (by assumption) ?_
            · intro wx hSw
              clear hSw hHeld; go_simp
            simp only [Act.put, List.setIfInBounds_toArray, List.set_cons_zero, List.set_cons_succ]
            refine wpAnyH_take (i := 7) (oi := { dst := some 65, op := Op.extract (Operand.tmp 58) 0, type := 26, pos := "laws.go:70", after := #[{ on := 6, ground := Ground.data }], guard := none }) (v := .agg #[.slice m1 CB.length n1, .slice m2 SF.length n2, .slice m3 SF.length n3, .int .i64 r]) rfl (by kernel_rfl) (by kernel_rfl) (by kernel_rfl) (fun _ _ _ h => h) (Or.inl ⟨by rfl, ?_⟩) (by assumption) ?_
            · intro wx hSw
              clear hSw hHeld; go_simp
            simp only [Act.put, List.setIfInBounds_toArray, List.set_cons_zero, List.set_cons_succ]
            refine wpAnyH_take (i := 8) (oi := { dst := some 66, op := Op.extract (Operand.tmp 58) 1, type := 3, pos := "laws.go:70", after := #[{ on := 6, ground := Ground.data }, { on := 10, ground := Ground.gcOnly Departure.lateStores }], guard := none }) (v := .int .i64 0) rfl (by kernel_rfl) (by kernel_rfl) (by kernel_rfl) (fun _ _ _ h => h) (Or.inl ⟨by rfl, ?_⟩) (by assumption) ?_
            · intro wx hSw
              clear hSw hHeld; go_simp
            simp only [Act.put, List.setIfInBounds_toArray, List.set_cons_zero, List.set_cons_succ]
            refine wpAnyH_ready (rs := [10]) (by kernel_rfl) (by simp) ?_
            refine (AllReadyH.cons (o := { dst := none, op := Op.store 26 (Operand.tmp 11) (Operand.tmp 65), type := 0, pos := "laws.go:70", after := #[{ on := 9, ground := Ground.data }, { on := 7, ground := Ground.data }, { on := 5, ground := Ground.chain }, { on := 0, ground := Ground.phase }, { on := 1, ground := Ground.phase }, { on := 2, ground := Ground.phase }, { on := 3, ground := Ground.phase }, { on := 4, ground := Ground.phase }, { on := 5, ground := Ground.phase }, { on := 6, ground := Ground.phase }, { on := 7, ground := Ground.phase }, { on := 8, ground := Ground.textOnly Departure.lateStores }, { on := 9, ground := Ground.phase }], guard := none }) rfl (fun K hK => ?_) AllReadyH.nil)
            clear hHeld
            have hC := put4_chg ve bb (.slice m1 CB.length n1) (.slice m2 SF.length n2) (.slice m3 SF.length n3) (.int .i64 r)
            have Pn := hC.box P (show ¬ g7 = bb by omega)
            have Zn := put4_box Z (.slice m1 CB.length n1) (.slice m2 SF.length n2) (.slice m3 SF.length n3) (.int .i64 r)
            have r1 := hC.owns M.1 (fun k hk hh => by have h8 := owns_ge M.1 k hk; have hh : k = bb := hh; omega)
            have r2 := hC.owns M.2.1 (fun k hk hh => by have h8 := owns_ge M.2.1 k hk; have hh : k = bb := hh; omega)
            have r3 := hC.owns M.2.2.1 (fun k hk hh => by have h8 := owns_ge M.2.2.1 k hk; have hh : k = bb := hh; omega)
            have hWn := hW.trans (hC.below (B := w5.heap.size) hW.size (fun k hk => by have hk : k = bb := hk; omega))
            obtain ⟨zl, t0, t1, t2, t3⟩ := Z.c4
            obtain ⟨f0, f1, f2, f3⟩ := box4_f Z
            clear hC P Z M hW Q
            go_simp
            refine hK.out _ (put4 ve bb (.slice m1 CB.length n1) (.slice m2 SF.length n2) (.slice m3 SF.length n3) (.int .i64 r)) Pn (fun hHeld => ?_)
            clear hK K zl t0 t1 t2 t3 f0 f1 f2 f3
            refine wpAnyH_take (i := 11) (oi := { dst := some 12, op := Op.assign (Operand.tmp 66), type := 3, pos := "laws.go:70", after := #[{ on := 8, ground := Ground.data }, { on := 10, ground := Ground.chain }, { on := 0, ground := Ground.phase }, { on := 1, ground := Ground.phase }, { on := 2, ground := Ground.phase }, { on := 3, ground := Ground.phase }, { on := 4, ground := Ground.phase }, { on := 5, ground := Ground.phase }, { on := 6, ground := Ground.phase }, { on := 7, ground := Ground.phase }, { on := 8, ground := Ground.phase }, { on := 9, ground := Ground.phase }, { on := 10, ground := Ground.phase }], guard := none }) (v := .int .i64 0) rfl (by kernel_rfl) (by kernel_rfl) (by kernel_rfl) (fun _ _ _ h => h) (Or.inl ⟨by rfl, ?_⟩) (by assumption) ?_
            · intro wx hSw
              clear hSw hHeld; go_simp
            simp only [Act.put, List.setIfInBounds_toArray, List.set_cons_zero, List.set_cons_succ]
            clear hHeld
            refine wpAnyH_done (by kernel_rfl) ?_ _
            go_wp2_with fail
            go_meet
            case rel => exact ⟨_, _, _, _, kq, CB, rfl, rfl, hx9, HCB, Zn, ⟨⟨_, r1⟩, ⟨_, r2⟩, ⟨_, r3⟩⟩, hWn⟩
        · skip
          clear hHeld
          have Z := Box.new va #[.slice none 0 0, .slice none 0 0, .slice none 0 0, .int .i64 0] 26
          have hA := below_alloc va (.cells #[.slice none 0 0, .slice none 0 0, .slice none 0 0, .int .i64 0] 26)
          replace P := P.below hA
          replace Q := Q.below hA
          replace hv := hv.below hA
          have hbW := hW.size
          replace hW := below_then hW hA
          have hzA : va.heap.size < (va.alloc (.cells #[.slice none 0 0, .slice none 0 0, .slice none 0 0, .int .i64 0] 26)).heap.size := Z.1
          clear hA
          go_simp
          refine hK.out _ _ P (fun hHeld => ?_)
          clear hK K
          try (simp only [Act.put, List.setIfInBounds_toArray, List.set_cons_zero, List.set_cons_succ])
          generalize va.alloc (.cells #[.slice none 0 0, .slice none 0 0, .slice none 0 0, .int .i64 0] 26) = vb1 at *
          generalize va.heap.size = bb at *
          refine wpAnyH_ready (rs := [2]) (by kernel_rfl) (by simp) ?_
          refine (AllReadyH.cons (o := { dst := some 61, op := Op.call { callee := Callee.value (Operand.func 15), args := #[Operand.tmp 60], argTypes := #[22] }, type := 3, pos := "laws.go:70", after := #[{ on := 1, ground := Ground.data }], guard := none }) rfl (fun K hK => ?_) AllReadyH.nil)
          clear hHeld
          go_simp
          refine (numberOf_any _ l1 _ hv hq1).mono ?_
          rintro e vn ⟨⟨x, rfl, hx⟩, hw⟩
          rw [hw]
          clear hw
          obtain ⟨kq, hxm, hx9⟩ : ∃ kq : Nat, ((x : Int)).tmod 9 = (kq : Int) ∧ kq ≤ 8 := ⟨x % 9, by rw [Int.tmod_eq_emod_of_nonneg (by omega)]; omega, by omega⟩
          clear hx
          refine hK.out _ vb1 P (fun hHeld => ?_)
          clear hK K
          try (simp only [Act.put, List.setIfInBounds_toArray, List.set_cons_zero, List.set_cons_succ])
          refine wpAnyH_take (i := 3) (oi := { dst := some 62, op := Op.binOp BinOp.rem 3 (Operand.tmp 61) (Operand.const (Value.int IntKind.i64 9)) 3, type := 3, pos := "laws.go:70", after := #[{ on := 2, ground := Ground.data }], guard := none }) (v := .int .i64 (kq : Int)) rfl (by kernel_rfl) (by kernel_rfl) (by kernel_rfl) (fun _ _ _ h => h) (Or.inl ⟨by rfl, ?_⟩) (by assumption) ?_
          · intro wx hSw
            clear hSw hHeld; go_simp
          simp only [Act.put, List.setIfInBounds_toArray, List.set_cons_zero, List.set_cons_succ]
          refine wpAnyH_take (i := 4) (oi := { dst := some 63, op := Op.build 28 #[(0, Operand.const (Value.int IntKind.i64 8)), (4, Operand.tmp 62)], type := 28, pos := "laws.go:70", after := #[{ on := 3, ground := Ground.data }], guard := none }) (v := .agg #[.int .i64 8, .string ⟨#[]⟩, .string ⟨#[]⟩, .string ⟨#[]⟩, .int .i64 (kq : Int)]) rfl (by kernel_rfl) (by kernel_rfl) (by kernel_rfl) (fun _ _ _ h => h) (Or.inl ⟨by rfl, ?_⟩) (by assumption) ?_
          · intro wx hSw
            clear hSw hHeld; go_simp
          simp only [Act.put, List.setIfInBounds_toArray, List.set_cons_zero, List.set_cons_succ]
          refine wpAnyH_ready (rs := [5]) (by kernel_rfl) (by simp) ?_
          refine (AllReadyH.cons (o := { dst := some 64, op := Op.call { callee := Callee.value (Operand.func 11), args := #[Operand.tmp 59, Operand.tmp 63], argTypes := #[26, 28] }, type := 31, pos := "laws.go:70", after := #[{ on := 0, ground := Ground.data }, { on := 4, ground := Ground.data }, { on := 2, ground := Ground.chain }], guard := none }) rfl (fun K hK => ?_) AllReadyH.nil)
          clear hHeld
          go_simp
          have KD := implDo_any _ _ _ BL LV SF r 8 ⟨#[]⟩ ⟨#[]⟩ ⟨#[]⟩ (kq : Int) vb1 Q.px.1 Q.px.2.1 Q.px.2.2 HKX.out.1.1 HKX.out.2.1.1 HKX.out.2.2.1 HKX.out.1.2 HKX.out.2.1.2 HKX.out.2.2.2 (by decide) (by decide) (by decide)
          obtain ⟨d1, d2, d3, d4, d5⟩ := do_crash (kp := (kq : Int)) HN.out (by omega) (by omega)
          rw [d1, d2, d3, d4, d5, Int.toNat_natCast] at KD
          clear d1 d2 d3 d4 d5
          obtain ⟨CB, HCB⟩ : ∃ CB, Hid (CB = BL.map (crB kq)) := ⟨_, rfl⟩
          rw [← HCB.out] at KD
          refine KD.mono ?_
          rintro e ve ⟨⟨z1, z2, z3, rfl, M⟩, hb⟩
          replace P := P.below hb
          replace Q := Q.below hb
          replace Z := Z.below hb
          replace hW := below_then hW hb
          have hzd := hb.size
          obtain ⟨m1, n1, m2, n2, m3, n3, rfl, rfl, rfl⟩ := M.shape
          clear hb KD
          refine hK.out _ _ P (fun hHeld => ?_)
          clear hK K
          try (simp only [Act.put, List.setIfInBounds_toArray, List.set_cons_zero, List.set_cons_succ])
          refine wpAnyH_take (i := 6) (oi := { dst := some 58, op := Op.move (Operand.tmp 64), type := 31, pos := "laws.go:70", after := #[{ on := 5, ground := Ground.data }], guard := none }) (v := .tuple #[.agg #[.slice m1 CB.length n1, .slice m2 SF.length n2, .slice m3 SF.length n3, .int .i64 r], .int .i64 0]) rfl (by kernel_rfl) (by kernel_rfl) (by kernel_rfl) (fun _ _ _ h => h) (Or.inl ⟨by rfl, ?_⟩) (by assumption) ?_
          · intro wx hSw
            clear hSw hHeld; go_simp
          simp only [Act.put, List.setIfInBounds_toArray, List.set_cons_zero, List.set_cons_succ]
          refine wpAnyH_take (i := 7) (oi := { dst := some 65, op := Op.extract (Operand.tmp 58) 0, type := 26, pos := "laws.go:70", after := #[{ on := 6, ground := Ground.data }], guard := none }) (v := .agg #[.slice m1 CB.length n1, .slice m2 SF.length n2, .slice m3 SF.length n3, .int .i64 r]) rfl (by kernel_rfl) (by kernel_rfl) (by kernel_rfl) (fun _ _ _ h => h) (Or.inl ⟨by rfl, ?_⟩) (by assumption) ?_
          · intro wx hSw
            clear hSw hHeld; go_simp
          simp only [Act.put, List.setIfInBounds_toArray, List.set_cons_zero, List.set_cons_succ]
          refine wpAnyH_take (i := 8) (oi := { dst := some 66, op := Op.extract (Operand.tmp 58) 1, type := 3, pos := "laws.go:70", after := #[{ on := 6, ground := Ground.data }, { on := 10, ground := Ground.gcOnly Departure.lateStores }], guard := none }) (v := .int .i64 0) rfl (by kernel_rfl) (by kernel_rfl) (by kernel_rfl) (fun _ _ _ h => h) (Or.inl ⟨by rfl, ?_⟩) (by assumption) ?_
          · intro wx hSw
            clear hSw hHeld; go_simp
          simp only [Act.put, List.setIfInBounds_toArray, List.set_cons_zero, List.set_cons_succ]
          refine wpAnyH_ready (rs := [10]) (by kernel_rfl) (by simp) ?_
          refine (AllReadyH.cons (o := { dst := none, op := Op.store 26 (Operand.tmp 11) (Operand.tmp 65), type := 0, pos := "laws.go:70", after := #[{ on := 9, ground := Ground.data }, { on := 7, ground := Ground.data }, { on := 5, ground := Ground.chain }, { on := 0, ground := Ground.phase }, { on := 1, ground := Ground.phase }, { on := 2, ground := Ground.phase }, { on := 3, ground := Ground.phase }, { on := 4, ground := Ground.phase }, { on := 5, ground := Ground.phase }, { on := 6, ground := Ground.phase }, { on := 7, ground := Ground.phase }, { on := 8, ground := Ground.textOnly Departure.lateStores }, { on := 9, ground := Ground.phase }], guard := none }) rfl (fun K hK => ?_) AllReadyH.nil)
          clear hHeld
          have hC := put4_chg ve bb (.slice m1 CB.length n1) (.slice m2 SF.length n2) (.slice m3 SF.length n3) (.int .i64 r)
          have Pn := hC.box P (show ¬ g7 = bb by omega)
          have Zn := put4_box Z (.slice m1 CB.length n1) (.slice m2 SF.length n2) (.slice m3 SF.length n3) (.int .i64 r)
          have r1 := hC.owns M.1 (fun k hk hh => by have h8 := owns_ge M.1 k hk; have hh : k = bb := hh; omega)
          have r2 := hC.owns M.2.1 (fun k hk hh => by have h8 := owns_ge M.2.1 k hk; have hh : k = bb := hh; omega)
          have r3 := hC.owns M.2.2.1 (fun k hk hh => by have h8 := owns_ge M.2.2.1 k hk; have hh : k = bb := hh; omega)
          have hWn := hW.trans (hC.below (B := w5.heap.size) hW.size (fun k hk => by have hk : k = bb := hk; omega))
          obtain ⟨zl, t0, t1, t2, t3⟩ := Z.c4
          obtain ⟨f0, f1, f2, f3⟩ := box4_f Z
          clear hC P Z M hW Q
          go_simp
          refine hK.out _ (put4 ve bb (.slice m1 CB.length n1) (.slice m2 SF.length n2) (.slice m3 SF.length n3) (.int .i64 r)) Pn (fun hHeld => ?_)
          clear hK K zl t0 t1 t2 t3 f0 f1 f2 f3
          refine wpAnyH_take (i := 11) (oi := { dst := some 12, op := Op.assign (Operand.tmp 66), type := 3, pos := "laws.go:70", after := #[{ on := 8, ground := Ground.data }, { on := 10, ground := Ground.chain }, { on := 0, ground := Ground.phase }, { on := 1, ground := Ground.phase }, { on := 2, ground := Ground.phase }, { on := 3, ground := Ground.phase }, { on := 4, ground := Ground.phase }, { on := 5, ground := Ground.phase }, { on := 6, ground := Ground.phase }, { on := 7, ground := Ground.phase }, { on := 8, ground := Ground.phase }, { on := 9, ground := Ground.phase }, { on := 10, ground := Ground.phase }], guard := none }) (v := .int .i64 0) rfl (by kernel_rfl) (by kernel_rfl) (by kernel_rfl) (fun _ _ _ h => h) (Or.inl ⟨by rfl, ?_⟩) (by assumption) ?_
          · intro wx hSw
            clear hSw hHeld; go_simp
          simp only [Act.put, List.setIfInBounds_toArray, List.set_cons_zero, List.set_cons_succ]
          clear hHeld
          refine wpAnyH_done (by kernel_rfl) ?_ _
          go_wp2_with fail
          go_meet
          case rel => exact ⟨_, _, _, _, kq, CB, rfl, rfl, hx9, HCB, Zn, ⟨⟨_, r1⟩, ⟨_, r2⟩, ⟨_, r3⟩⟩, hWn⟩
      case rest =>
        obtain ⟨b, z1, z2, z3, kq, CB, rfl, rfl, hkq, HCB, P11, Y, hbc⟩ := hcut
        replace hB := below_then hB hbc
        replace X := X.below hbc
        replace P7 := P7.below hbc
        clear hbc hv1
        obtain ⟨d1, d2, d3, d4, d5, d6, rfl, rfl, rfl⟩ := Y.shape
        have HAG : Hid (goodD CB SF SF r = true) := by rw [HCB.out]; exact good_crash HN.out kq
        obtain ⟨_, p0, p1, p2, p3⟩ := P11.c4
        have KN := fun W' (h : OwD W' (.slice d1 CB.length d2) (.slice d3 SF.length d4) (.slice d5 SF.length d6) CB SF SF) => implNamesO h r HAG.out
        go_wp2_with fail
        refine (KN _ Y).mono ?_
        rintro e w51 ⟨⟨na, nc, rfl, SN⟩, hb51⟩
        replace hB := below_then hB hb51
        replace X := X.below hb51
        replace P7 := P7.below hb51
        replace P11 := P11.below hb51
        replace Y := Y.below hb51
        have hz51 := hb51.size
        clear hb51
        clear p0 p1 p2 p3 KN SN
        obtain ⟨h7l, q0, q1, q2, q3⟩ := P7.c4
        have HSR : Hid (okNs SF BL.length = true) := ((goodD_iff _ _ _ _).1 HN.out).2.2.2.1
        have HBB : Hid (okBs BL = true) := ((goodD_iff _ _ _ _).1 HN.out).1
        have hX1 := X.px.1.1
        have hX3 := X.px.2.2.1
        obtain ⟨_, _, he1, hc1⟩ := hX1
        obtain ⟨_, _, he3, hc3⟩ := hX3
        simp only [Value.slice.injEq, true_and] at he1 he3
        obtain ⟨rfl, rfl⟩ := he1
        obtain ⟨rfl, rfl⟩ := he3
        have n20 : SF.length ≤ 20 := ((okNs_iff _ _).1 HSR.out).2.2
        go_wp2_with fail
        go_loopw [87] (fun i wr => ∃ k : Nat, k ≤ SF.length ∧ i = .int .i64 k ∧ Below w51.heap.size w51 wr) (fun i _ => SF.length - (intOf i).toNat)
        case atStart => exact ⟨0, Nat.zero_le _, rfl, Below.refl _ _⟩
        case round =>
          obtain ⟨k, hk, rfl, hb⟩ := hrel
          by_cases hlt : k < SF.length
          · obtain ⟨bs, os, rfl, hbs, hcs⟩ := hc3 (by intro e; simp [e] at hlt)
            obtain ⟨cn, hcn, hcl, hlk, hon⟩ := row_of HN.out HSR.out k hlt
            obtain ⟨c0, c1⟩ := hcs k hlt
            obtain ⟨bb, ob, rfl, hbb, hcb⟩ := hc1 (by intro e; simp [e] at hcl)
            have c2 := (hcb cn hcl).1
            obtain ⟨S, D, hS, hD, hA, hsz, hdz, hex, hax, _⟩ := safe_read (kp := kq) HBB.out hlk hcl
            have hnm : SF[k].1.size ≤ 1048576 := by have := (show okN SF[k].1 = true from hon); simp only [okN, Bool.and_eq_true, decide_eq_true_eq] at this; omega
            have rb : readB SF SF[k].1 true = true := by simp [readB, hlk]
            have KF := fun W' (h : OwD W' (.slice (some ⟨bb, ob, none⟩) BL.length b2) (.slice b3 LV.length b4) (.slice (some ⟨bs, os, none⟩) SF.length b6) BL LV SF) => implSafeO h r HN.out SF[k].1 hnm
            have KR := fun W' (h : OwD W' (.slice d1 CB.length d2) (.slice d3 SF.length d4) (.slice d5 SF.length d6) CB SF SF) => implReadO h r HAG.out SF[k].1 hnm
            have KA := fun W' (h : OwD W' (.slice d1 CB.length d2) (.slice d3 SF.length d4) (.slice d5 SF.length d6) CB SF SF) => implSafeO h r HAG.out SF[k].1 hnm
            rw [rb, hS] at KF
            rw [← HCB.out] at hD hA
            rw [rb, hD] at KR
            rw [rb, hA] at KA
            rw [hcn] at c1
            clear rb hS hD hA hon hlk hnm hcs hcb hc1 hc3 hcn
            generalize SF[k].1 = sn at *
            generalize BL[cn].1 = al at *
            replace c0 := (hb.cell (p := ⟨bs, os + k * 2, none⟩) hbs).trans c0
            replace c1 := (hb.cell (p := ⟨bs, os + k * 2 + 1, none⟩) hbs).trans c1
            replace c2 := (hb.cell (p := ⟨bb, ob + cn * 2, none⟩) hbb).trans c2
            have hzr := hb.size
            replace hB := below_then hB hb
            replace X := X.below hb
            replace P7 := P7.below hb
            replace P11 := P11.below hb
            replace Y := Y.below hb
            have hbs2 : bs < wr.heap.size := by omega
            have hbb2 : bb < wr.heap.size := by omega
            have HR : Hid (Below w51.heap.size w51 wr) := hb
            clear q0 q1 q2 q3 h7l hb
            have PN := Box.new wr #[.string sn, .int .i64 (cn : Int)] 39
            have hA := below_alloc wr (.cells #[.string sn, .int .i64 (cn : Int)] 39)
            have c2a := (hA.cell (p := ⟨bb, ob + cn * 2, none⟩) hbb2).trans c2
            replace hB := below_then hB hA
            replace X := X.below hA
            replace P7 := P7.below hA
            replace P11 := P11.below hA
            replace Y := Y.below hA
            have HR2 : Hid (Below w51.heap.size w51 (wr.alloc (.cells #[.string sn, .int .i64 (cn : Int)] 39))) := below_then HR.out hA
            have hbb3 : bb < (wr.alloc (.cells #[.string sn, .int .i64 (cn : Int)] 39)).heap.size := by simp; omega
            clear hA HR
            obtain ⟨_, q0, q1, q2, q3⟩ := P7.c4
            obtain ⟨_, n0, n1⟩ := PN.c2
            go_wp2_with fail
            clear c0 c1 c2
            refine (KF _ X).mono ?_
            rintro e wp ⟨rfl, hbq⟩
            replace c2a := (hbq.cell (p := ⟨bb, ob + cn * 2, none⟩) hbb3).trans c2a
            replace hbb3 : bb < wp.heap.size := Nat.lt_of_lt_of_le hbb3 hbq.size
            replace HR2 : Hid (Below w51.heap.size w51 wp) := below_then HR2.out hbq
            replace hB := below_then hB hbq
            replace X := X.below hbq
            replace P7 := P7.below hbq
            replace P11 := P11.below hbq
            replace Y := Y.below hbq
            replace PN := PN.below hbq
            clear q0 q1 q2 q3 n0 n1 hbq KF
            obtain ⟨_, q0, q1, q2, q3⟩ := P11.c4
            obtain ⟨_, n0, n1⟩ := PN.c2
            go_wp2_with fail
            refine (KR _ Y).mono ?_
            rintro e wq ⟨rfl, hbq⟩
            replace c2a := (hbq.cell (p := ⟨bb, ob + cn * 2, none⟩) hbb3).trans c2a
            replace hbb3 : bb < wq.heap.size := Nat.lt_of_lt_of_le hbb3 hbq.size
            replace HR2 : Hid (Below w51.heap.size w51 wq) := below_then HR2.out hbq
            replace hB := below_then hB hbq
            replace X := X.below hbq
            replace P7 := P7.below hbq
            replace P11 := P11.below hbq
            replace Y := Y.below hbq
            replace PN := PN.below hbq
            clear q0 q1 q2 q3 n0 n1 hbq KR
            have i1 : (S.size : Int) ≤ (D.size : Int) := by omega
            have i2 : (D.size : Int) ≤ (al.size : Int) := by omega
            have i3 : decide ((D.size : Int) < (S.size : Int)) = false := by simp; omega
            have i4 : decide ((al.size : Int) < (D.size : Int)) = false := by simp; omega
            have i5 : ((D.extract 0 S.size).toList == S.toList) = true := by rw [hex]; simp
            have i6 : ((al.extract 0 D.size).toList == D.toList) = true := by rw [hax]; simp
            have i7 : D.extract 0 S.size = S := hex
            have i8 : al.extract 0 D.size = D := hax
            clear hex hax
            obtain ⟨_, q0, q1, q2, q3⟩ := P7.c4
            obtain ⟨_, n0, n1⟩ := PN.c2
            obtain ⟨_, t0, t1, t2, t3⟩ := P11.c4
            have hci : (cn : Int) < (BL.length : Int) := by omega
            go_wp2_with fail
            refine (KA _ Y).mono ?_
            rintro e wz ⟨rfl, hbq⟩
            replace c2a := (hbq.cell (p := ⟨bb, ob + cn * 2, none⟩) hbb3).trans c2a
            replace hbb3 : bb < wz.heap.size := Nat.lt_of_lt_of_le hbb3 hbq.size
            replace HR2 : Hid (Below w51.heap.size w51 wz) := below_then HR2.out hbq
            replace hB := below_then hB hbq
            replace X := X.below hbq
            replace P7 := P7.below hbq
            replace P11 := P11.below hbq
            replace Y := Y.below hbq
            replace PN := PN.below hbq
            clear q0 q1 q2 q3 n0 n1 t0 t1 t2 t3 hbq KA
            have hbz := HR2.out
            clear X Y P7 P11 PN hB c2a HR2
            go_wp2
            go_roundw
            case rel => exact ⟨k + 1, by omega, by go_num, hbz⟩
            case measure => simp [intOf]; omega
          · have hBE := below_then hB hb
            clear hc1 hc3 q0 q1 q2 q3 X Y P7 P11
            go_wp2
            go_ret
            exact ⟨rfl, hBE⟩
end Go.Proofs.Ytbgemebpfcbloaa
