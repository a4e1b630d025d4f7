/-
  What is renamed has the same bytes under the other name, a crash ahead of the names' sync undoes it, and none behind does: the walk of FnRenamed.
-/
import Derived.Test.YtbgemebpfcbloaaxOW
import Derived.Deep.Cut
namespace Go.Proofs.Ytbgemebpfcbloaa
open Go.RowKit
set_option linter.unusedVariables false
set_option maxRecDepth 100000

theorem SL_below {w w' : World} {v : Value} {l : List ByteArray} (h : SL w v l) (hb : Below w.heap.size w w') : SL w' v l := by
  obtain ⟨a, cap, rfl, hc⟩ := h
  refine ⟨a, cap, rfl, fun hne => ?_⟩
  obtain ⟨b, off, e, hl, hcell⟩ := hc hne
  exact ⟨b, off, e, Nat.lt_of_lt_of_le hl hb.size, fun i hi => (hb.cell (p := ⟨b, off + i, none⟩) hl).trans (hcell i hi)⟩
set_option maxHeartbeats 64000000 in
theorem law4 (v0 v1 : Value) (l0 l1 : List UInt8) (w : World) (hv0 : YL w v0 l0) (hv1 : YL w v1 l1) (hl0 : l0.length ≤ maxLen) (hl1 : l1.length ≤ maxLen) :
    Calls Try.prog 4 #[v0, v1] w fun e w' => e = .returned (.bool true) ∧ Below w.heap.size w w' := by
  have hv0' := hv0
  have hv1' := hv1
  obtain ⟨va, vc, rfl, _⟩ := hv0'
  obtain ⟨vb, vd, rfl, _⟩ := hv1'
  have hq0 : l0.length ≤ 9223372036854775807 := hl0
  have hq1 : l1.length ≤ 9223372036854775807 := hl1
  by_cases hg : wrap64 ((l0.length : Int) + l1.length) ≤ 1048576
  rotate_left
  · have hg' : 1048576 < wrap64 ((l0.length : Int) + l1.length) := by omega
    clear hv0 hv1 hg
    go_enter Try.func4, Try.ntmps4
    go_wp2
    go_ret
    exact ⟨rfl, Below.refl _ _⟩
  · have hg2 : ¬ 1048576 < wrap64 ((l0.length : Int) + l1.length) := by omega
    clear hg
    go_enter Try.func4, Try.ntmps4
    go_wp2_with fail
    refine (drawDD_any _ l0 _ hv0 hl0).mono ?_
    rintro e w1 ⟨⟨x1, x2, x3, bl, lv, sf, r, k, nm, ot, da, kp, rfl, hok, hst, D⟩, hB⟩
    have hn1 : nm.size ≤ 1048576 := by have := hst.2.2.1; omega
    have hn2 : ot.size ≤ 1048576 := by have := hst.2.2.2.1; omega
    have hn3 : da.size ≤ 1048576 := by have := hst.2.2.2.2; omega
    clear hst hv0
    obtain ⟨a1, a2, a3, a4, a5, a6, rfl, rfl, rfl⟩ := D.shape
    have hv1 := hv1.below hB
    have HOK : Hid (okDk bl lv sf) := hok
    clear hok
    have bx1 := below_alloc w1 (.cells #[.slice a1 bl.length a2, .slice a3 lv.length a4, .slice a5 sf.length a6, .int .i64 r] 26)
    replace hB := below_then hB bx1
    replace D := D.below bx1
    replace hv1 := hv1.below bx1
    have P5 := Box.new w1 #[.slice a1 bl.length a2, .slice a3 lv.length a4, .slice a5 sf.length a6, .int .i64 r] 26
    clear bx1
    obtain ⟨W5, hW5⟩ : ∃ W5, W5 = w1.alloc (.cells #[.slice a1 bl.length a2, .slice a3 lv.length a4, .slice a5 sf.length a6, .int .i64 r] 26) := ⟨_, rfl⟩
    have hz5 : W5.heap.size = w1.heap.size + 1 := by rw [hW5]; simp
    rw [← hW5] at hB D hv1 P5
    have bxx := below_alloc W5 (.cells #[.int .i64 k, .string nm, .string ot, .string da, .int .i64 kp] 28)
    replace hB := below_then hB bxx
    replace D := D.below bxx
    replace hv1 := hv1.below bxx
    replace P5 := P5.below bxx
    have P6 := Box.new W5 #[.int .i64 k, .string nm, .string ot, .string da, .int .i64 kp] 28
    rw [hz5] at P6
    rw [hW5] at hB D hv1 P5 P6
    clear bxx hz5 hW5 W5
    have KI := fun W' (h : OwD W' (.slice a1 bl.length a2) (.slice a3 lv.length a4) (.slice a5 sf.length a6) bl lv sf) => implDoO h HOK.out r k nm ot da kp hn1 hn2 hn3
    have KS := fun W' (h : OwD W' (.slice a1 bl.length a2) (.slice a3 lv.length a4) (.slice a5 sf.length a6) bl lv sf) => specDoO h HOK.out r k nm ot da kp hn1 hn2 hn3
    have KG := fun W' (h : OwD W' (.slice a1 bl.length a2) (.slice a3 lv.length a4) (.slice a5 sf.length a6) bl lv sf) => specGoodO h HOK.out r
    obtain ⟨gg, hgd⟩ : ∃ gg, goodD bl lv sf r = gg := ⟨_, rfl⟩
    cases gg with
    | false =>
      rw [hgd] at KG
      clear hgd HOK
      generalize doB k nm ot da kp bl lv sf r = BL at *
      generalize doL k nm ot da kp bl lv sf r = LV at *
      generalize doS k nm ot da kp bl lv sf r = SF at *
      generalize doR bl lv sf r = rr at *
      generalize doC k nm ot da kp bl lv sf r = cc at *
      obtain ⟨_, p0, p1, p2, p3⟩ := P5.c4
      go_wp2_with fail
      refine (KG _ D).mono ?_
      rintro e w2 ⟨rfl, hb2⟩
      replace hB := below_then hB hb2
      replace D := D.below hb2
      replace hv1 := hv1.below hb2
      replace P5 := P5.below hb2
      replace P6 := P6.below hb2
      have hz2 := hb2.size
      clear hb2
      clear p0 p1 p2 p3 KG
      obtain ⟨_, p0, p1, p2, p3⟩ := P5.c4
      obtain ⟨_, z0, z1, z2, z3, z4⟩ := box5_c P6
      go_wp2_with fail
      refine (KI _ D).mono ?_
      rintro e w3 ⟨⟨y1, y2, y3, rfl, X⟩, hb3⟩
      replace hB := below_then hB hb3
      replace D := D.below hb3
      replace hv1 := hv1.below hb3
      replace P5 := P5.below hb3
      replace P6 := P6.below hb3
      have hz3 := hb3.size
      clear hb3
      clear p0 p1 p2 p3 z0 z1 z2 z3 z4 KI
      obtain ⟨b1, b2, b3, b4, b5, b6, rfl, rfl, rfl⟩ := X.shape
      have bx3 := below_alloc w3 (.cells #[.slice b1 BL.length b2, .slice b3 LV.length b4, .slice b5 SF.length b6, .int .i64 rr] 26)
      replace hB := below_then hB bx3
      replace D := D.below bx3
      replace hv1 := hv1.below bx3
      replace P5 := P5.below bx3
      replace P6 := P6.below bx3
      replace X := X.below bx3
      have P7 := Box.new w3 #[.slice b1 BL.length b2, .slice b3 LV.length b4, .slice b5 SF.length b6, .int .i64 rr] 26
      clear bx3
      obtain ⟨_, p0, p1, p2, p3⟩ := P5.c4
      obtain ⟨_, z0, z1, z2, z3, z4⟩ := box5_c P6
      go_wp2_with fail
      refine (KS _ D).mono ?_
      rintro e w4 ⟨⟨y1, y2, y3, rfl, Y⟩, hb4⟩
      replace hB := below_then hB hb4
      replace D := D.below hb4
      replace hv1 := hv1.below hb4
      replace P5 := P5.below hb4
      replace P6 := P6.below hb4
      replace X := X.below hb4
      replace P7 := P7.below hb4
      have hz4 := hb4.size
      clear hb4
      clear p0 p1 p2 p3 z0 z1 z2 z3 z4 KS
      obtain ⟨c1, c2, c3, c4, c5, c6, rfl, rfl, rfl⟩ := Y.shape
      have bx4 := below_alloc w4 (.cells #[.slice c1 BL.length c2, .slice c3 LV.length c4, .slice c5 SF.length c6, .int .i64 rr] 26)
      replace hB := below_then hB bx4
      replace D := D.below bx4
      replace hv1 := hv1.below bx4
      replace P5 := P5.below bx4
      replace P6 := P6.below bx4
      replace X := X.below bx4
      replace P7 := P7.below bx4
      replace Y := Y.below bx4
      have P9 := Box.new w4 #[.slice c1 BL.length c2, .slice c3 LV.length c4, .slice c5 SF.length c6, .int .i64 rr] 26
      clear bx4
      clear D X Y P5 P6 P7 P9 hv1
      go_wp2
      go_ret
      exact ⟨rfl, hB⟩
    | true =>
      rw [hgd] at KG
      by_cases hlv : lv.length = 0
      · clear hgd HOK
        have hlz : ((lv.length : Int) == 0) = true := by simp [hlv]
        have hl2 : decide ((lv.length : Int) = 0) = true := by simp [hlv]
        clear hlv
        generalize doB k nm ot da kp bl lv sf r = BL at *
        generalize doL k nm ot da kp bl lv sf r = LV at *
        generalize doS k nm ot da kp bl lv sf r = SF at *
        generalize doR bl lv sf r = rr at *
        generalize doC k nm ot da kp bl lv sf r = cc at *
        obtain ⟨_, p0, p1, p2, p3⟩ := P5.c4
        go_wp2_with fail
        refine (KG _ D).mono ?_
        rintro e w2 ⟨rfl, hb2⟩
        replace hB := below_then hB hb2
        replace D := D.below hb2
        replace hv1 := hv1.below hb2
        replace P5 := P5.below hb2
        replace P6 := P6.below hb2
        have hz2 := hb2.size
        clear hb2
        clear p0 p1 p2 p3 KG
        obtain ⟨_, p0, p1, p2, p3⟩ := P5.c4
        obtain ⟨_, z0, z1, z2, z3, z4⟩ := box5_c P6
        go_wp2_with fail
        refine (KI _ D).mono ?_
        rintro e w3 ⟨⟨y1, y2, y3, rfl, X⟩, hb3⟩
        replace hB := below_then hB hb3
        replace D := D.below hb3
        replace hv1 := hv1.below hb3
        replace P5 := P5.below hb3
        replace P6 := P6.below hb3
        have hz3 := hb3.size
        clear hb3
        clear p0 p1 p2 p3 z0 z1 z2 z3 z4 KI
        obtain ⟨b1, b2, b3, b4, b5, b6, rfl, rfl, rfl⟩ := X.shape
        have bx3 := below_alloc w3 (.cells #[.slice b1 BL.length b2, .slice b3 LV.length b4, .slice b5 SF.length b6, .int .i64 rr] 26)
        replace hB := below_then hB bx3
        replace D := D.below bx3
        replace hv1 := hv1.below bx3
        replace P5 := P5.below bx3
        replace P6 := P6.below bx3
        replace X := X.below bx3
        have P7 := Box.new w3 #[.slice b1 BL.length b2, .slice b3 LV.length b4, .slice b5 SF.length b6, .int .i64 rr] 26
        clear bx3
        obtain ⟨_, p0, p1, p2, p3⟩ := P5.c4
        obtain ⟨_, z0, z1, z2, z3, z4⟩ := box5_c P6
        go_wp2_with fail
        refine (KS _ D).mono ?_
        rintro e w4 ⟨⟨y1, y2, y3, rfl, Y⟩, hb4⟩
        replace hB := below_then hB hb4
        replace D := D.below hb4
        replace hv1 := hv1.below hb4
        replace P5 := P5.below hb4
        replace P6 := P6.below hb4
        replace X := X.below hb4
        replace P7 := P7.below hb4
        have hz4 := hb4.size
        clear hb4
        clear p0 p1 p2 p3 z0 z1 z2 z3 z4 KS
        obtain ⟨c1, c2, c3, c4, c5, c6, rfl, rfl, rfl⟩ := Y.shape
        have bx4 := below_alloc w4 (.cells #[.slice c1 BL.length c2, .slice c3 LV.length c4, .slice c5 SF.length c6, .int .i64 rr] 26)
        replace hB := below_then hB bx4
        replace D := D.below bx4
        replace hv1 := hv1.below bx4
        replace P5 := P5.below bx4
        replace P6 := P6.below bx4
        replace X := X.below bx4
        replace P7 := P7.below bx4
        replace Y := Y.below bx4
        have P9 := Box.new w4 #[.slice c1 BL.length c2, .slice c3 LV.length c4, .slice c5 SF.length c6, .int .i64 rr] 26
        clear bx4
        clear D X Y P5 P6 P7 P9 hv1
        go_wp2
        go_ret
        exact ⟨rfl, hB⟩
      have hlz : ((lv.length : Int) == 0) = false := beq_eq_false_iff_ne.2 (by omega)
      have hlp : 0 < lv.length := by omega
      have HGD : Hid (goodD bl lv sf r = true) := hgd
      clear KI KS hgd HOK hlv
      clear P6
      obtain ⟨_, p0, p1, p2, p3⟩ := P5.c4
      go_wp2_with fail
      refine (KG _ D).mono ?_
      rintro e w2 ⟨rfl, hb2⟩
      replace hB := below_then hB hb2
      replace D := D.below hb2
      replace hv1 := hv1.below hb2
      replace P5 := P5.below hb2
      have hz2 := hb2.size
      clear hb2
      clear p0 p1 p2 p3 KG
      obtain ⟨_, p0, p1, p2, p3⟩ := P5.c4
      go_wp2_with fail
      clear p0 p1 p2 p3
      have hD : Below w2.heap.size w2 w2.drew := (Below.refl _ _).drew
      replace hB := below_then hB hD
      replace D := D.below hD
      replace hv1 := hv1.below hD
      replace P5 := P5.below hD
      clear hD
      have hX2 := D.px.2.1.1
      obtain ⟨_, _, he2, hc2⟩ := hX2
      simp only [Value.slice.injEq, true_and] at he2
      obtain ⟨rfl, rfl⟩ := he2
      obtain ⟨bs, os, rfl, hbs, hcs⟩ := hc2 (by intro e; simp [e] at hlp)
      clear hc2
      have hn20 : lv.length ≤ 20 := ((okNs_iff _ _).1 ((goodD_iff _ _ _ _).1 HGD.out).2.2.1).2.2
      refine wp_region_held_drew (S := fun wx => wx = w2.drew) (by kernel_rfl) rfl (fun hHeld => ?_)
      generalize w2.drew = va at *
      refine wpAnyH_take (i := 0) (oi := { dst := some 74, op := Op.fieldAddr 26 (Operand.tmp 5) 1, type := 0, pos := "laws.go:104", after := #[], guard := none }) (v := .pointer (some ⟨w1.heap.size, 1, none⟩)) rfl (by kernel_rfl) (by kernel_rfl) (by kernel_rfl) (fun _ _ _ h => h) (Or.inl ⟨by rfl, ?_⟩) (by assumption) ?_
      · intro wx hSw
        clear hHeld; rw [show wx = va from hSw]; clear hSw; go_simp
      simp only [Act.put, List.setIfInBounds_toArray, List.set_cons_zero, List.set_cons_succ]
      refine wpAnyH_take (i := 1) (oi := { dst := some 75, op := Op.load 24 (Operand.tmp 74), type := 24, pos := "laws.go:104", after := #[{ on := 0, ground := Ground.data }], guard := none }) (v := .slice (some ⟨bs, os, none⟩) lv.length a4) rfl (by kernel_rfl) (by kernel_rfl) (by kernel_rfl) (fun _ _ _ h => h) (Or.inl ⟨by rfl, ?_⟩) (by assumption) ?_
      · intro wx hSw
        clear hHeld; rw [show wx = va from hSw]; clear hSw; obtain ⟨_, p0, p1, p2, p3⟩ := P5.c4; go_simp
      simp only [Act.put, List.setIfInBounds_toArray, List.set_cons_zero, List.set_cons_succ]
      refine wpAnyH_take (i := 2) (oi := { dst := some 76, op := Op.move (Operand.tmp 1), type := 22, pos := "laws.go:104", after := #[], guard := none }) (v := .slice vb l1.length vd) rfl (by kernel_rfl) (by kernel_rfl) (by kernel_rfl) (fun _ _ _ h => h) (Or.inl ⟨by rfl, ?_⟩) (by assumption) ?_
      · intro wx hSw
        clear hHeld; rw [show wx = va from hSw]; clear hSw; go_simp
      simp only [Act.put, List.setIfInBounds_toArray, List.set_cons_zero, List.set_cons_succ]
      refine wpAnyH_take (i := 4) (oi := { dst := some 78, op := Op.fieldAddr 26 (Operand.tmp 5) 1, type := 0, pos := "laws.go:104", after := #[], guard := none }) (v := .pointer (some ⟨w1.heap.size, 1, none⟩)) rfl (by kernel_rfl) (by kernel_rfl) (by kernel_rfl) (fun _ _ _ h => h) (Or.inl ⟨by rfl, ?_⟩) (by assumption) ?_
      · intro wx hSw
        clear hHeld; rw [show wx = va from hSw]; clear hSw; go_simp
      simp only [Act.put, List.setIfInBounds_toArray, List.set_cons_zero, List.set_cons_succ]
      refine wpAnyH_take (i := 5) (oi := { dst := some 79, op := Op.load 24 (Operand.tmp 78), type := 24, pos := "laws.go:104", after := #[{ on := 4, ground := Ground.data }], guard := none }) (v := .slice (some ⟨bs, os, none⟩) lv.length a4) rfl (by kernel_rfl) (by kernel_rfl) (by kernel_rfl) (fun _ _ _ h => h) (Or.inl ⟨by rfl, ?_⟩) (by assumption) ?_
      · intro wx hSw
        clear hHeld; rw [show wx = va from hSw]; clear hSw; obtain ⟨_, p0, p1, p2, p3⟩ := P5.c4; go_simp
      simp only [Act.put, List.setIfInBounds_toArray, List.set_cons_zero, List.set_cons_succ]
      refine wpAnyH_take (i := 6) (oi := { dst := some 80, op := Op.call { callee := Callee.builtin Builtin.len, args := #[Operand.tmp 79], argTypes := #[24] }, type := 3, pos := "laws.go:104", after := #[{ on := 5, ground := Ground.data }], guard := none }) (v := .int .i64 (lv.length : Int)) rfl (by kernel_rfl) (by kernel_rfl) (by kernel_rfl) (fun _ _ _ h => h) (Or.inl ⟨by rfl, ?_⟩) (by assumption) ?_
      · intro wx hSw
        clear hHeld; rw [show wx = va from hSw]; clear hSw; go_simp
      simp only [Act.put, List.setIfInBounds_toArray, List.set_cons_zero, List.set_cons_succ]
      refine wpAnyH_ready (rs := [3]) (by kernel_rfl) (by simp) ?_
      refine AllReadyH.cons (o := { dst := some 77, op := Op.call { callee := Callee.value (Operand.func 15), args := #[Operand.tmp 76], argTypes := #[22] }, type := 3, pos := "laws.go:104", after := #[{ on := 2, ground := Ground.data }], guard := none }) rfl (fun K hK => ?_) AllReadyH.nil
      clear hHeld
      go_simp
      refine (numberOf_any _ l1 _ hv1 hq1).mono ?_
      rintro e vn ⟨⟨x, rfl, hx⟩, hw⟩
      rw [hw]
      clear hw
      have hxm : ((x : Int)).tmod (lv.length : Int) = ((x % lv.length : Nat) : Int) := by rw [Int.tmod_eq_emod_of_nonneg (by omega)]; simp
      have hjl : x % lv.length < lv.length := Nat.mod_lt _ hlp
      refine hK.out _ va rfl (fun hHeld => ?_)
      clear hK K hx
      try (simp only [Act.put, List.setIfInBounds_toArray, List.set_cons_zero, List.set_cons_succ])
      generalize x % lv.length = j at *
      have hji : (j : Int) < (lv.length : Int) := by omega
      have hjn : (0 : Int) ≤ (j : Int) := by omega
      have c0 := (hcs j hjl).1
      have hln : ¬ (lv.length : Int) = 0 := by omega
      have hle : ¬ lv = [] := by intro e; rw [e] at hlp; simp at hlp
      refine wpAnyH_take (i := 7) (oi := { dst := some 81, op := Op.binOp BinOp.rem 3 (Operand.tmp 77) (Operand.tmp 80) 3, type := 3, pos := "laws.go:104", after := #[{ on := 3, ground := Ground.data }, { on := 6, ground := Ground.data }], guard := none }) (v := .int .i64 (j : Int)) rfl (by kernel_rfl) (by kernel_rfl) (by kernel_rfl) (fun _ _ _ h => h) (Or.inl ⟨by rfl, ?_⟩) (by assumption) ?_
      · intro wx hSw
        clear hHeld; rw [show wx = va from hSw]; clear hSw; go_simp
      simp only [Act.put, List.setIfInBounds_toArray, List.set_cons_zero, List.set_cons_succ]
      refine wpAnyH_take (i := 8) (oi := { dst := some 82, op := Op.indexAddr 24 (Operand.tmp 75) (Operand.tmp 81), type := 0, pos := "laws.go:104", after := #[{ on := 1, ground := Ground.data }, { on := 7, ground := Ground.data }], guard := none }) (v := .pointer (some ⟨bs, os + j * 2, none⟩)) rfl (by kernel_rfl) (by kernel_rfl) (by kernel_rfl) (fun _ _ _ h => h) (Or.inl ⟨by rfl, ?_⟩) (by assumption) ?_
      · intro wx hSw
        clear hHeld; rw [show wx = va from hSw]; clear hSw; go_simp
      simp only [Act.put, List.setIfInBounds_toArray, List.set_cons_zero, List.set_cons_succ]
      refine wpAnyH_take (i := 9) (oi := { dst := some 83, op := Op.fieldAddr 39 (Operand.tmp 82) 0, type := 0, pos := "laws.go:104", after := #[{ on := 8, ground := Ground.data }], guard := none }) (v := .pointer (some ⟨bs, os + j * 2, none⟩)) rfl (by kernel_rfl) (by kernel_rfl) (by kernel_rfl) (fun _ _ _ h => h) (Or.inl ⟨by rfl, ?_⟩) (by assumption) ?_
      · intro wx hSw
        clear hHeld; rw [show wx = va from hSw]; clear hSw; go_simp
      simp only [Act.put, List.setIfInBounds_toArray, List.set_cons_zero, List.set_cons_succ]
      refine wpAnyH_take (i := 10) (oi := { dst := some 84, op := Op.load 9 (Operand.tmp 83), type := 9, pos := "laws.go:104", after := #[{ on := 9, ground := Ground.data }], guard := none }) (v := .string lv[j].1) rfl (by kernel_rfl) (by kernel_rfl) (by kernel_rfl) (fun _ _ _ h => h) (Or.inl ⟨by rfl, ?_⟩) (by assumption) ?_
      · intro wx hSw
        clear hHeld; rw [show wx = va from hSw]; clear hSw; go_simp
      simp only [Act.put, List.setIfInBounds_toArray, List.set_cons_zero, List.set_cons_succ]
      refine wpAnyH_take (i := 11) (oi := { dst := some 11, op := Op.assign (Operand.tmp 84), type := 9, pos := "laws.go:104", after := #[{ on := 10, ground := Ground.data }, { on := 3, ground := Ground.chain }, { on := 0, ground := Ground.phase }, { on := 1, ground := Ground.phase }, { on := 2, ground := Ground.phase }, { on := 3, ground := Ground.phase }, { on := 4, ground := Ground.phase }, { on := 5, ground := Ground.phase }, { on := 6, ground := Ground.phase }, { on := 7, ground := Ground.phase }, { on := 8, ground := Ground.phase }, { on := 9, ground := Ground.phase }, { on := 10, ground := Ground.phase }], guard := none }) (v := .string lv[j].1) rfl (by kernel_rfl) (by kernel_rfl) (by kernel_rfl) (fun _ _ _ h => h) (Or.inl ⟨by rfl, ?_⟩) (by assumption) ?_
      · intro wx hSw
        clear hHeld; rw [show wx = va from hSw]; clear hSw; go_simp
      simp only [Act.put, List.setIfInBounds_toArray, List.set_cons_zero, List.set_cons_succ]
      clear hHeld
      refine wpAnyH_done (by kernel_rfl) ?_ _
      clear hcs c0 hxm hv1
      obtain ⟨cn, LL, hcn, hlk, hon, hLL, hgL, hlL, e1, e2, e3, e4⟩ := renamed HGD.out j hjl
      have hnm : lv[j].1.size ≤ 1048576 := by have := (show okN lv[j].1 = true from hon); simp only [okN, Bool.and_eq_true, decide_eq_true_eq] at this; omega
      have HBB : Hid (okBs bl = true) := ((goodD_iff _ _ _ _).1 HGD.out).1
      obtain ⟨r1, r2, r3, r4, r5⟩ := do_rename HGD.out hlk hon
      rw [hLL] at r3
      obtain ⟨m1, m2, m3, m4, m5⟩ := do_names hgL
      obtain ⟨u1, u2, u3, u4, u5⟩ := do_crash (kp := 0) hgL (by omega) (by omega)
      obtain ⟨v1, v2, v3, v4, v5⟩ := do_crash (kp := 0) HGD.out (by omega) (by omega)
      have hgY := good_do hgL 7 ⟨#[]⟩ ⟨#[]⟩ ⟨#[]⟩ 0
      rw [m2, m3, m4] at hgY
      obtain ⟨y1, y2, y3, y4, y5⟩ := do_crash (kp := 0) hgY (by omega) (by omega)
      have hgC := good_crash HGD.out 0
      have hgZ := good_crash hgY 0
      obtain ⟨S, D9, s1, s2, g1x, g2x, g3x, g4x, g5x, s3⟩ := safe_read (kp := 0) HBB.out hlL hcn
      clear g1x g2x g3x g4x g5x
      have s4 := s3 rfl
      subst s4
      have rL : readB LL newT true = true := e2
      have hk0 := okDk_good HGD.out
      have hkL := okDk_good hgL
      have hkY := okDk_good hgY
      have KRd := fun W' (h : OwD W' (.slice a1 bl.length a2) (.slice (some ⟨bs, os, none⟩) lv.length a4) (.slice a5 sf.length a6) bl lv sf) => implReadO h r HGD.out lv[j].1 hnm
      rw [e1, e3] at KRd
      have KDi := fun W' (h : OwD W' (.slice a1 bl.length a2) (.slice (some ⟨bs, os, none⟩) lv.length a4) (.slice a5 sf.length a6) bl lv sf) => implDoO h hk0 r 4 lv[j].1 newT ⟨#[]⟩ 0 hnm (by decide) (by decide)
      rw [r1, r2, r3, r4, r5] at KDi
      have KDs := fun W' (h : OwD W' (.slice a1 bl.length a2) (.slice (some ⟨bs, os, none⟩) lv.length a4) (.slice a5 sf.length a6) bl lv sf) => specDoO h hk0 r 4 lv[j].1 newT ⟨#[]⟩ 0 hnm (by decide) (by decide)
      rw [r1, r2, r3, r4, r5] at KDs
      have KDc := fun W' (h : OwD W' (.slice a1 bl.length a2) (.slice (some ⟨bs, os, none⟩) lv.length a4) (.slice a5 sf.length a6) bl lv sf) => implDoO h hk0 r 8 ⟨#[]⟩ ⟨#[]⟩ ⟨#[]⟩ 0 (by decide) (by decide) (by decide)
      rw [v1, v2, v3, v4, v5] at KDc
      have KXr := fun W' q1 q2 q3 (h : OwD W' q1 q2 q3 bl LL sf) => implReadO h r hgL newT (by decide)
      rw [e2] at KXr
      have KXf := fun W' q1 q2 q3 (h : OwD W' q1 q2 q3 bl LL sf) => implReadO h r hgL lv[j].1 hnm
      rw [e4] at KXf
      have KXc := fun W' q1 q2 q3 (h : OwD W' q1 q2 q3 bl LL sf) => implDoO h hkL r 8 ⟨#[]⟩ ⟨#[]⟩ ⟨#[]⟩ 0 (by decide) (by decide) (by decide)
      rw [u1, u2, u3, u4, u5] at KXc
      have KXn := fun W' q1 q2 q3 (h : OwD W' q1 q2 q3 bl LL sf) => implDoO h hkL r 7 ⟨#[]⟩ ⟨#[]⟩ ⟨#[]⟩ 0 (by decide) (by decide) (by decide)
      rw [m1, m2, m3, m4, m5] at KXn
      have KNm := fun W' q1 q2 q3 (h : OwD W' q1 q2 q3 (bl.map (crB (0 : Int).toNat)) sf sf) => implNamesO h r hgC
      have KYc := fun W' q1 q2 q3 (h : OwD W' q1 q2 q3 bl LL LL) => implDoO h hkY r 8 ⟨#[]⟩ ⟨#[]⟩ ⟨#[]⟩ 0 (by decide) (by decide) (by decide)
      rw [y1, y2, y3, y4, y5] at KYc
      have KYs := fun W' q1 q2 q3 (h : OwD W' q1 q2 q3 bl LL LL) => implSafeO h r hgY newT (by decide)
      rw [s1, e2] at KYs
      have KZr := fun W' q1 q2 q3 (h : OwD W' q1 q2 q3 (bl.map (crB (0 : Int).toNat)) LL LL) => implReadO h r hgZ newT (by decide)
      rw [show readT (bl.map (crB (0 : Int).toNat)) LL newT true = D9 from s2, e2] at KZr
      have hnl : sf.length ≤ 20 := ((okNs_iff _ _).1 ((goodD_iff _ _ _ _).1 HGD.out).2.2.2.1).2.2
      have hmp : (sf.map Prod.fst).length ≤ 1048576 := by rw [List.length_map]; omega
      clear r1 r2 r3 r4 r5 m1 m2 m3 m4 m5 u1 u2 u3 u4 u5 v1 v2 v3 v4 v5 y1 y2 y3 y4 y5 hgY hgC hgZ s1 s2 s3 e1 e2 e3 e4 hk0 hkL hkY hlk hon hLL hgL hlL rL HBB HGD hcn
      unfold newT at KRd KDi KDs KXr KXf KYs KZr
      have hnm2 := hnm
      clear hnm
      cases hbb : (lv[j].1.toList == (⟨#[110, 101, 119]⟩ : ByteArray).toList)
      all_goals
        have hbb2 := hbb
        rw [show (⟨#[110, 101, 119]⟩ : ByteArray).toList = [110, 101, 119] from by simp [ByteArray.toList_eq]] at hbb2
        simp only [hbb] at KXf
        have hdum := hlp
        generalize readT bl LL (⟨#[110, 101, 119]⟩ : ByteArray) true = wt at *
        generalize readT bl LL lv[j].1 true = wf at *
        generalize lv[j].1 = fn at *
        generalize bl.map (crB (0 : Int).toNat) = CB at *
        generalize sf.map Prod.fst = SN at *
        obtain ⟨_, p0, p1, p2, p3⟩ := P5.c4
        go_wp2_with fail
        refine (KRd _ D).mono ?_
        rintro e w21 ⟨rfl, hb21⟩
        replace hB := below_then hB hb21
        replace D := D.below hb21
        replace P5 := P5.below hb21
        have hz21 := hb21.size
        clear hb21
        clear p0 p1 p2 p3 KRd
        obtain ⟨_, p0, p1, p2, p3⟩ := P5.c4
        go_wp2_with fail
        refine (KDi _ D).mono ?_
        rintro e w22 ⟨⟨q1, q2, q3, rfl, X⟩, hb22⟩
        replace hB := below_then hB hb22
        replace D := D.below hb22
        replace P5 := P5.below hb22
        have hz22 := hb22.size
        clear hb22
        clear p0 p1 p2 p3 KDi
        obtain ⟨b1, b2, b3, b4, b5, b6, rfl, rfl, rfl⟩ := X.shape
        have bx22 := below_alloc w22 (.cells #[.slice b1 bl.length b2, .slice b3 LL.length b4, .slice b5 sf.length b6, .int .i64 r] 26)
        replace hB := below_then hB bx22
        replace D := D.below bx22
        replace P5 := P5.below bx22
        replace X := X.below bx22
        have P15 := Box.new w22 #[.slice b1 bl.length b2, .slice b3 LL.length b4, .slice b5 sf.length b6, .int .i64 r] 26
        clear bx22
        obtain ⟨_, p0, p1, p2, p3⟩ := P5.c4
        go_wp2_with fail
        refine (KDs _ D).mono ?_
        rintro e w23 ⟨⟨q1, q2, q3, rfl, Y⟩, hb23⟩
        replace hB := below_then hB hb23
        replace D := D.below hb23
        replace P5 := P5.below hb23
        replace X := X.below hb23
        replace P15 := P15.below hb23
        have hz23 := hb23.size
        clear hb23
        clear p0 p1 p2 p3 KDs
        obtain ⟨c1, c2, c3, c4, c5, c6, rfl, rfl, rfl⟩ := Y.shape
        have bx23 := below_alloc w23 (.cells #[.slice c1 bl.length c2, .slice c3 LL.length c4, .slice c5 sf.length c6, .int .i64 r] 26)
        replace hB := below_then hB bx23
        replace D := D.below bx23
        replace P5 := P5.below bx23
        replace X := X.below bx23
        replace P15 := P15.below bx23
        replace Y := Y.below bx23
        have P17 := Box.new w23 #[.slice c1 bl.length c2, .slice c3 LL.length c4, .slice c5 sf.length c6, .int .i64 r] 26
        clear bx23
        clear Y
        obtain ⟨_, p0, p1, p2, p3⟩ := P15.c4
        go_wp2_with fail
        refine (KXr _ _ _ _ X).mono ?_
        rintro e w24 ⟨rfl, hb24⟩
        replace hB := below_then hB hb24
        replace D := D.below hb24
        replace P5 := P5.below hb24
        replace X := X.below hb24
        replace P15 := P15.below hb24
        replace P17 := P17.below hb24
        have hz24 := hb24.size
        clear hb24
        clear p0 p1 p2 p3 KXr
        clear P17
        obtain ⟨_, p0, p1, p2, p3⟩ := P15.c4
        go_wp2_with fail
        refine (KXf _ _ _ _ X).mono ?_
        rintro e w25 ⟨rfl, hb25⟩
        replace hB := below_then hB hb25
        replace D := D.below hb25
        replace P5 := P5.below hb25
        replace X := X.below hb25
        replace P15 := P15.below hb25
        have hz25 := hb25.size
        clear hb25
        clear p0 p1 p2 p3 KXf
        obtain ⟨_, p0, p1, p2, p3⟩ := P15.c4
        go_wp2_with fail
        refine (KXc _ _ _ _ X).mono ?_
        rintro e w26 ⟨⟨q1, q2, q3, rfl, C1⟩, hb26⟩
        replace hB := below_then hB hb26
        replace D := D.below hb26
        replace P5 := P5.below hb26
        replace X := X.below hb26
        replace P15 := P15.below hb26
        have hz26 := hb26.size
        clear hb26
        clear p0 p1 p2 p3 KXc
        obtain ⟨d1, d2, d3, d4, d5, d6, rfl, rfl, rfl⟩ := C1.shape
        have bx26 := below_alloc w26 (.cells #[.slice d1 CB.length d2, .slice d3 sf.length d4, .slice d5 sf.length d6, .int .i64 r] 26)
        replace hB := below_then hB bx26
        replace D := D.below bx26
        replace P5 := P5.below bx26
        replace X := X.below bx26
        replace P15 := P15.below bx26
        replace C1 := C1.below bx26
        have P23 := Box.new w26 #[.slice d1 CB.length d2, .slice d3 sf.length d4, .slice d5 sf.length d6, .int .i64 r] 26
        clear bx26
        obtain ⟨_, p0, p1, p2, p3⟩ := P5.c4
        go_wp2_with fail
        refine (KDc _ D).mono ?_
        rintro e w27 ⟨⟨q1, q2, q3, rfl, C2⟩, hb27⟩
        replace hB := below_then hB hb27
        replace D := D.below hb27
        replace P5 := P5.below hb27
        replace X := X.below hb27
        replace P15 := P15.below hb27
        replace C1 := C1.below hb27
        replace P23 := P23.below hb27
        have hz27 := hb27.size
        clear hb27
        clear p0 p1 p2 p3 KDc
        obtain ⟨e1, e2, e3, e4, e5, e6, rfl, rfl, rfl⟩ := C2.shape
        have bx27 := below_alloc w27 (.cells #[.slice e1 CB.length e2, .slice e3 sf.length e4, .slice e5 sf.length e6, .int .i64 r] 26)
        replace hB := below_then hB bx27
        replace D := D.below bx27
        replace P5 := P5.below bx27
        replace X := X.below bx27
        replace P15 := P15.below bx27
        replace C1 := C1.below bx27
        replace P23 := P23.below bx27
        replace C2 := C2.below bx27
        have P25 := Box.new w27 #[.slice e1 CB.length e2, .slice e3 sf.length e4, .slice e5 sf.length e6, .int .i64 r] 26
        clear bx27
        clear D P5
        obtain ⟨_, p0, p1, p2, p3⟩ := P23.c4
        go_wp2_with fail
        refine (KNm _ _ _ _ C1).mono ?_
        rintro e w28 ⟨⟨f1, f2, rfl, N1⟩, hb28⟩
        replace hB := below_then hB hb28
        replace X := X.below hb28
        replace P15 := P15.below hb28
        replace C1 := C1.below hb28
        replace P23 := P23.below hb28
        replace C2 := C2.below hb28
        replace P25 := P25.below hb28
        have hz28 := hb28.size
        clear hb28
        clear p0 p1 p2 p3
        obtain ⟨_, p0, p1, p2, p3⟩ := P25.c4
        go_wp2_with fail
        refine (KNm _ _ _ _ C2).mono ?_
        rintro e w29 ⟨⟨f3, f4, rfl, N2⟩, hb29⟩
        replace hB := below_then hB hb29
        replace X := X.below hb29
        replace P15 := P15.below hb29
        replace C1 := C1.below hb29
        replace P23 := P23.below hb29
        replace C2 := C2.below hb29
        replace P25 := P25.below hb29
        replace N1 := SL_below N1 hb29
        have hz29 := hb29.size
        clear hb29
        clear p0 p1 p2 p3 KNm
        clear C1 C2 P23 P25
        have KSt := fun W' h1 h2 => sameTexts_sm (.slice f1 sf.length f2) (.slice f3 sf.length f4) SN W' h1 h2 hmp
        go_wp2_with fail
        refine (KSt _ N1 N2).mono ?_
        rintro e w30 ⟨rfl, hb30⟩
        replace hB := below_then hB hb30
        replace X := X.below hb30
        replace P15 := P15.below hb30
        replace N1 := SL_below N1 hb30
        replace N2 := SL_below N2 hb30
        have hz30 := hb30.size
        clear hb30
        clear KSt
        clear N1 N2
        obtain ⟨_, p0, p1, p2, p3⟩ := P15.c4
        go_wp2_with fail
        refine (KXn _ _ _ _ X).mono ?_
        rintro e w31 ⟨⟨q1, q2, q3, rfl, Y⟩, hb31⟩
        replace hB := below_then hB hb31
        replace X := X.below hb31
        replace P15 := P15.below hb31
        have hz31 := hb31.size
        clear hb31
        clear p0 p1 p2 p3 KXn
        obtain ⟨g1, g2, g3, g4, g5, g6, rfl, rfl, rfl⟩ := Y.shape
        have bx31 := below_alloc w31 (.cells #[.slice g1 bl.length g2, .slice g3 LL.length g4, .slice g5 LL.length g6, .int .i64 r] 26)
        replace hB := below_then hB bx31
        replace X := X.below bx31
        replace P15 := P15.below bx31
        replace Y := Y.below bx31
        have P31 := Box.new w31 #[.slice g1 bl.length g2, .slice g3 LL.length g4, .slice g5 LL.length g6, .int .i64 r] 26
        clear bx31
        clear X P15
        obtain ⟨_, p0, p1, p2, p3⟩ := P31.c4
        go_wp2_with fail
        refine (KYc _ _ _ _ Y).mono ?_
        rintro e w32 ⟨⟨q1, q2, q3, rfl, Z⟩, hb32⟩
        replace hB := below_then hB hb32
        replace Y := Y.below hb32
        replace P31 := P31.below hb32
        have hz32 := hb32.size
        clear hb32
        clear p0 p1 p2 p3 KYc
        obtain ⟨h1, h2, h3, h4, h5, h6, rfl, rfl, rfl⟩ := Z.shape
        have bx32 := below_alloc w32 (.cells #[.slice h1 CB.length h2, .slice h3 LL.length h4, .slice h5 LL.length h6, .int .i64 r] 26)
        replace hB := below_then hB bx32
        replace Y := Y.below bx32
        replace P31 := P31.below bx32
        replace Z := Z.below bx32
        have P33 := Box.new w32 #[.slice h1 CB.length h2, .slice h3 LL.length h4, .slice h5 LL.length h6, .int .i64 r] 26
        clear bx32
        obtain ⟨_, p0, p1, p2, p3⟩ := P31.c4
        go_wp2_with fail
        refine (KYs _ _ _ _ Y).mono ?_
        rintro e w33 ⟨rfl, hb33⟩
        replace hB := below_then hB hb33
        replace Y := Y.below hb33
        replace P31 := P31.below hb33
        replace Z := Z.below hb33
        replace P33 := P33.below hb33
        have hz33 := hb33.size
        clear hb33
        clear p0 p1 p2 p3 KYs
        clear Y P31
        obtain ⟨_, p0, p1, p2, p3⟩ := P33.c4
        go_wp2_with fail
        refine (KZr _ _ _ _ Z).mono ?_
        rintro e w34 ⟨rfl, hb34⟩
        replace hB := below_then hB hb34
        replace Z := Z.below hb34
        replace P33 := P33.below hb34
        have hz34 := hb34.size
        clear hb34
        clear p0 p1 p2 p3 KZr
        clear Z P33
        go_wp2
        go_ret
        exact ⟨rfl, hB⟩
end Go.Proofs.Ytbgemebpfcbloaa
