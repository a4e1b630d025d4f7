/-
  The walk of FnVersions.
-/
import Derived.Test.YtenbdjlhcadhaaaVW
import Derived.Test.YtenbdjlhcadhaaaVS0ToVS1
import Derived.Test.YtenbdjlhcadhaaaEBI
import Derived.Test.YtenbdjlhcadhaaaEBS
import Derived.Test.YtenbdjlhcadhaaaAP3
import Derived.Test.YtenbdjlhcadhaaaAPSToLNew
import Derived.Test.YtenbdjlhcadhaaaO9
import Derived.Test.YtenbdjlhcadhaaaP9
import Derived.Test.YtenbdjlhcadhaaaH9
namespace Go.Proofs.Ytenbdjlhcadhaaa
open Go.RowKit Go.Maps
set_option linter.unusedVariables false
set_option maxRecDepth 100000

theorem eb_true {nx sq : Int} {la : List Mt} {nx2 sq2 : Int} {lb : List Mt} (h : ebB nx sq la nx2 sq2 lb = true) : ebX nx sq la nx2 sq2 lb = nx2 ∧ ebY nx sq la nx2 sq2 lb = sq2 ∧ ebD nx sq la nx2 sq2 lb = (lkL lb la la.length).map (·.n) ∧ ebA nx sq la nx2 sq2 lb = lkL la lb lb.length ∧ goodMs la = true ∧ goodMs lb = true := by
  unfold ebX ebY ebD ebA
  rw [h]
  refine ⟨rfl, rfl, rfl, rfl, ?_⟩
  unfold ebB at h
  simp only [Bool.and_eq_true] at h
  exact ⟨goodV_ms h.1.1.1, goodV_ms h.1.1.2⟩
theorem ap_true {nx sq : Int} {l : List Mt} {nx2 sq2 : Int} {dr : List Int} {ad : List Mt} (h : apB nx sq l nx2 sq2 dr ad = true) : apX nx sq l nx2 sq2 dr ad = nx2 ∧ apY nx sq l nx2 sq2 dr ad = sq2 ∧ apA nx sq l nx2 sq2 dr ad = apL l dr ad := by
  unfold apX apY apA
  rw [h]
  exact ⟨rfl, rfl, rfl⟩
theorem ap_false {nx sq : Int} {l : List Mt} {nx2 sq2 : Int} {dr : List Int} {ad : List Mt} (h : apB nx sq l nx2 sq2 dr ad = false) : apX nx sq l nx2 sq2 dr ad = 0 ∧ apY nx sq l nx2 sq2 dr ad = 0 ∧ apA nx sq l nx2 sq2 dr ad = [] := by
  unfold apX apY apA
  rw [h]
  exact ⟨rfl, rfl, rfl⟩
theorem ov_false {nx sq lev : Int} {a b : ByteArray} {l : List Mt} (h : ovB nx sq lev a b l = false) : ovZ nx sq lev a b l = [] := by
  unfold ovZ
  rw [h]
  rfl
theorem ovZ_len (nx sq lev : Int) (a b : ByteArray) (l : List Mt) : (ovZ nx sq lev a b l).length ≤ l.length := by
  unfold ovZ
  split
  · unfold ovN
    rw [List.length_map]
    exact Nat.le_trans (List.length_filter_le _ _) (by simp)
  · simp
theorem lk_sz {la lb : List Mt} (h : ∀ i (h : i < lb.length), lb[i].k.size ≤ 1048576 ∧ lb[i].v.size ≤ 1048576) : ∀ i (h : i < (lkL la lb lb.length).length), (lkL la lb lb.length)[i].k.size ≤ 1048576 ∧ (lkL la lb lb.length)[i].v.size ≤ 1048576 := by
  intro i hi
  have hm := (mem_lkL.1 (List.getElem_mem hi)).1
  obtain ⟨j, hj, e⟩ := List.getElem_of_mem hm
  rw [← e]
  exact h j hj
theorem VD.big {w : World} {base : Nat} {x y : Int} {u : Value} {L : List Mt} (h : VD w base x y u L) : L.length ≤ 1048576 ∧ ∀ i (h : i < L.length), L[i].k.size ≤ 1048576 ∧ L[i].v.size ≤ 1048576 := ⟨by have := h.len; omega, fun i hi => by have := h.sz i hi; omega⟩

set_option maxHeartbeats 64000000 in
theorem lawVersions (v0 v1 : Value) (l0 l1 : List UInt8) (w : World) (hv0 : YL w v0 l0) (hv1 : YL w v1 l1) (hl0 : l0.length ≤ maxLen) (hl1 : l1.length ≤ maxLen) :
    Calls Try.prog 3 #[v0, v1] w fun e w' => e = .returned (.bool true) ∧ Below w.heap.size w w' := by
  have hv0' := hv0
  have hv1' := hv1
  obtain ⟨va0, vc0, rfl, _⟩ := hv0'
  obtain ⟨vb0, vd0, rfl, _⟩ := hv1'
  have hq0 : l0.length ≤ 9223372036854775807 := hl0
  have hq1 : l1.length ≤ 9223372036854775807 := hl1
  by_cases hg : wrap64 ((l0.length : Int) + l1.length) ≤ 1048576
  rotate_left
  · have hg' : 1048576 < wrap64 ((l0.length : Int) + l1.length) := by omega
    clear hv0 hv1 hg
    go_enter Try.func3, Try.ntmps3
    go_wp2
    go_ret
    exact ⟨rfl, Below.refl _ _⟩
  · have hg2 : ¬ 1048576 < wrap64 ((l0.length : Int) + l1.length) := by omega
    go_enter Try.func3, Try.ntmps3
    go_wp2_with fail
    refine (drawEB_any _ l0 _ hv0 hl0).mono ?_
    rintro e w1 ⟨ax, ay, au, la, bx, by0, bu, lb, rfl, VA, VB, hB⟩
    have oa := VA.o
    have ob := VB.o
    obtain ⟨hna, hsa⟩ := VA.big
    obtain ⟨hnb, hsb⟩ := VB.big
    clear VA VB hv0 hg hg2 hq0 hq1
    obtain ⟨xa, xc, rfl⟩ := owns_shape oa
    obtain ⟨ya, yc, rfl⟩ := owns_shape ob
    have bx1 := below_alloc w1 (.cells #[.int .i64 ax, .int .i64 ay, .slice xa la.length xc] 25)
    replace hB := below_then hB bx1
    replace oa := owns_below oa bx1
    replace ob := owns_below ob bx1
    have P5 := Box.new w1 #[.int .i64 ax, .int .i64 ay, .slice xa la.length xc] 25
    clear bx1
    obtain ⟨U1, hU1⟩ : ∃ U1, U1 = w1.alloc (.cells #[.int .i64 ax, .int .i64 ay, .slice xa la.length xc] 25) := ⟨_, rfl⟩
    have hu1 : U1.heap.size = w1.heap.size + 1 := by rw [hU1]; simp
    rw [← hU1] at hB oa ob P5
    have bxx := below_alloc U1 (.cells #[.int .i64 bx, .int .i64 by0, .slice ya lb.length yc] 25)
    replace hB := below_then hB bxx
    replace oa := owns_below oa bxx
    replace ob := owns_below ob bxx
    replace P5 := P5.below bxx
    have P6 := Box.new U1 #[.int .i64 bx, .int .i64 by0, .slice ya lb.length yc] 25
    rw [hu1] at P6
    rw [hU1] at hB oa ob P5 P6
    clear bxx hu1 hU1 U1
    have KI := fun W' h h' => implBetween_any ax ay bx by0 (.slice xa la.length xc) (.slice ya lb.length yc) la lb W' h h' hna hnb hsa hsb
    have KS := fun W' h h' => specBetween_any ax ay bx by0 (.slice xa la.length xc) (.slice ya lb.length yc) la lb W' h h' hna hnb hsa hsb
    cases hok : ebB ax ay la bx by0 lb with
    | false =>
      rw [hok] at KI KS
      clear hok
      generalize ebX ax ay la bx by0 lb = EX at *
      generalize ebY ax ay la bx by0 lb = EY at *
      generalize ebD ax ay la bx by0 lb = ED0 at *
      generalize ebA ax ay la bx by0 lb = EA at *
      obtain ⟨_, p0, p1, p2, _⟩ := P5.c3
      obtain ⟨_, q0, q1, q2, _⟩ := P6.c3
      go_wp2_with fail
      refine (KI _ (IX_of_owns oa rfl) (IX_of_owns ob rfl)).mono ?_
      rintro e w2 ⟨u1, u2, rfl, E1, E2, hb2⟩
      replace hB := below_then hB hb2
      replace oa := owns_below oa hb2
      replace ob := owns_below ob hb2
      replace P5 := P5.below hb2
      replace P6 := P6.below hb2
      have hz2 := hb2.size
      clear hb2
      clear p0 p1 p2 q0 q1 q2 KI
      obtain ⟨ga, gc, rfl⟩ := owns_shape E1
      obtain ⟨ha, hc, rfl⟩ := owns_shape E2
      have bx2 := below_alloc w2 (.cells #[.int .i64 EX, .int .i64 EY, .slice ga ED0.length gc, .slice ha EA.length hc] 30)
      replace hB := below_then hB bx2
      replace oa := owns_below oa bx2
      replace ob := owns_below ob bx2
      replace P5 := P5.below bx2
      replace P6 := P6.below bx2
      replace E1 := owns_below E1 bx2
      replace E2 := owns_below E2 bx2
      have P7 := Box.new w2 #[.int .i64 EX, .int .i64 EY, .slice ga ED0.length gc, .slice ha EA.length hc] 30
      clear bx2
      obtain ⟨_, p0, p1, p2, _⟩ := P5.c3
      obtain ⟨_, q0, q1, q2, _⟩ := P6.c3
      go_wp2_with fail
      refine (KS _ (IX_of_owns oa rfl) (IX_of_owns ob rfl)).mono ?_
      rintro e w3 ⟨u3, u4, rfl, E3, E4, hb3⟩
      replace hB := below_then hB hb3
      replace oa := owns_below oa hb3
      replace ob := owns_below ob hb3
      replace P5 := P5.below hb3
      replace P6 := P6.below hb3
      replace E1 := owns_below E1 hb3
      replace E2 := owns_below E2 hb3
      replace P7 := P7.below hb3
      have hz3 := hb3.size
      clear hb3
      clear p0 p1 p2 q0 q1 q2 KS
      obtain ⟨ia, ic, rfl⟩ := owns_shape E3
      obtain ⟨ja, jc, rfl⟩ := owns_shape E4
      have bx3 := below_alloc w3 (.cells #[.int .i64 EX, .int .i64 EY, .slice ia ED0.length ic, .slice ja EA.length jc] 30)
      replace hB := below_then hB bx3
      replace oa := owns_below oa bx3
      replace ob := owns_below ob bx3
      replace P5 := P5.below bx3
      replace P6 := P6.below bx3
      replace E1 := owns_below E1 bx3
      replace E2 := owns_below E2 bx3
      replace P7 := P7.below bx3
      replace E3 := owns_below E3 bx3
      replace E4 := owns_below E4 bx3
      have P9 := Box.new w3 #[.int .i64 EX, .int .i64 EY, .slice ia ED0.length ic, .slice ja EA.length jc] 30
      clear bx3
      clear E3 E4 P9
      clear E1 E2 P7 P5 P6 oa ob
      go_wp2_with fail
      refine (drawOI_any _ l1 _ (hv1.below hB) hl1).mono ?_
      rintro e w4 ⟨vx, vy, vu, lv, p, mk, mv, rfl, VV, hp, hmk, hmv, hb⟩
      replace hB := below_then hB hb
      have hz4 := hb.size
      clear hb
      have ov := VV.o
      obtain ⟨hvn, hvs⟩ := VV.big
      clear VV
      obtain ⟨ea, ec, rfl⟩ := owns_shape ov
      have bx4 := below_alloc w4 (.cells #[.int .i64 vx, .int .i64 vy, .slice ea lv.length ec] 25)
      replace hB := below_then hB bx4
      replace ov := owns_below ov bx4
      have P15 := Box.new w4 #[.int .i64 vx, .int .i64 vy, .slice ea lv.length ec] 25
      clear bx4
      have KO := fun W' h => implOverlaps_any vx vy (p : Int) mk mv (.slice ea lv.length ec) lv W' h hvn hvs (by omega) (by omega)
      have KP := fun W' h => specOverlaps_any vx vy (p : Int) mk mv (.slice ea lv.length ec) lv W' h hvn hvs (by omega) (by omega)
      have KI2 := fun W' h => implPick_any vx vy (.slice ea lv.length ec) lv W' h hvn hvs
      have KS2 := fun W' h => specPick_any vx vy (.slice ea lv.length ec) lv W' h hvn hvs
      have hzl := ovZ_len vx vy (p : Int) mk mv lv
      clear hvs
      cases hov : ovB vx vy (p : Int) mk mv lv with
      | false =>
        rw [hov, ov_false hov] at KO KP
        clear hzl hov KI2 KS2
        simp only [List.length_nil, List.map_nil] at KO KP
        obtain ⟨_, p0, p1, p2, _⟩ := P15.c3
        go_wp2_with fail
        refine (KO _ (IX_of_owns ov rfl)).mono ?_
        rintro e w5 ⟨u1, rfl, O1, hb5⟩
        replace hB := below_then hB hb5
        replace ov := owns_below ov hb5
        replace P15 := P15.below hb5
        have hz5 := hb5.size
        clear hb5
        clear p0 p1 p2
        obtain ⟨fa, fb, rfl⟩ := owns_shape O1
        obtain ⟨_, p0, p1, p2, _⟩ := P15.c3
        go_wp2_with fail
        refine (KP _ (IX_of_owns ov rfl)).mono ?_
        rintro e w6 ⟨u2, rfl, O2, hb6⟩
        replace hB := below_then hB hb6
        replace ov := owns_below ov hb6
        replace P15 := P15.below hb6
        replace O1 := owns_below O1 hb6
        have hz6 := hb6.size
        clear hb6
        clear p0 p1 p2 KO KP
        obtain ⟨fc, fd, rfl⟩ := owns_shape O2
        go_wp2_with fail
        refine (sameInts_same _ _ ([] : List Int) _ (IL_of_owns O1 rfl) (IL_of_owns O2 rfl) (by simp; try omega)).mono ?_
        rintro e w7 ⟨rfl, hb7⟩
        replace hB := below_then hB hb7
        replace ov := owns_below ov hb7
        replace P15 := P15.below hb7
        replace O1 := owns_below O1 hb7
        replace O2 := owns_below O2 hb7
        have hz7 := hb7.size
        clear hb7
        clear ov O1 O2 P15
        go_wp2
        go_ret
        exact ⟨rfl, hB⟩
      | true =>
        rw [hov] at KO KP
        clear hov
        generalize ovZ vx vy (p : Int) mk mv lv = Zv at *
        obtain ⟨_, p0, p1, p2, _⟩ := P15.c3
        go_wp2_with fail
        refine (KO _ (IX_of_owns ov rfl)).mono ?_
        rintro e w5 ⟨u1, rfl, O1, hb5⟩
        replace hB := below_then hB hb5
        replace ov := owns_below ov hb5
        replace P15 := P15.below hb5
        have hz5 := hb5.size
        clear hb5
        clear p0 p1 p2
        obtain ⟨fa, fb, rfl⟩ := owns_shape O1
        obtain ⟨_, p0, p1, p2, _⟩ := P15.c3
        go_wp2_with fail
        refine (KP _ (IX_of_owns ov rfl)).mono ?_
        rintro e w6 ⟨u2, rfl, O2, hb6⟩
        replace hB := below_then hB hb6
        replace ov := owns_below ov hb6
        replace P15 := P15.below hb6
        replace O1 := owns_below O1 hb6
        have hz6 := hb6.size
        clear hb6
        clear p0 p1 p2 KO KP
        obtain ⟨fc, fd, rfl⟩ := owns_shape O2
        go_wp2_with fail
        refine (sameInts_same _ _ Zv _ (IL_of_owns O1 rfl) (IL_of_owns O2 rfl) (by omega)).mono ?_
        rintro e w7 ⟨rfl, hb7⟩
        replace hB := below_then hB hb7
        replace ov := owns_below ov hb7
        replace P15 := P15.below hb7
        replace O1 := owns_below O1 hb7
        replace O2 := owns_below O2 hb7
        have hz7 := hb7.size
        clear hb7
        clear O1 O2
        generalize pickV vx vy lv = kv at *
        generalize pickB vx vy lv = kb at *
        obtain ⟨_, p0, p1, p2, _⟩ := P15.c3
        go_wp2_with fail
        refine (KI2 _ (IX_of_owns ov rfl)).mono ?_
        rintro e w8 ⟨rfl, hb8⟩
        replace hB := below_then hB hb8
        replace ov := owns_below ov hb8
        replace P15 := P15.below hb8
        have hz8 := hb8.size
        clear hb8
        clear p0 p1 p2 KI2
        obtain ⟨_, p0, p1, p2, _⟩ := P15.c3
        go_wp2_with fail
        refine (KS2 _ (IX_of_owns ov rfl)).mono ?_
        rintro e w9 ⟨rfl, hb9⟩
        replace hB := below_then hB hb9
        replace ov := owns_below ov hb9
        replace P15 := P15.below hb9
        have hz9 := hb9.size
        clear hb9
        clear p0 p1 p2 KS2 ov P15
        cases kb <;> (go_wp2; go_ret; exact ⟨by simp, hB⟩)
    | true =>
      obtain ⟨e1, e2, e3, e4, ga0, gb0⟩ := eb_true hok
      rw [hok, e1, e2, e3, e4] at KI KS
      clear hok e1 e2 e3 e4
      have HBA : Hid (apL la ((lkL lb la la.length).map (·.n)) (lkL la lb lb.length) = lb) := between_apply ga0 gb0
      have hsA := lk_sz (la := la) hsb
      have hlD : ((lkL lb la la.length).map (·.n)).length ≤ 1048576 := by rw [List.length_map]; have := lkL_len lb la la.length; omega
      have hlA := lkL_len la lb lb.length
      clear ga0 gb0
      generalize (lkL lb la la.length).map (·.n) = ED0 at *
      generalize lkL la lb lb.length = EA at *
      obtain ⟨_, p0, p1, p2, _⟩ := P5.c3
      obtain ⟨_, q0, q1, q2, _⟩ := P6.c3
      go_wp2_with fail
      refine (KI _ (IX_of_owns oa rfl) (IX_of_owns ob rfl)).mono ?_
      rintro e w2 ⟨u1, u2, rfl, E1, E2, hb2⟩
      replace hB := below_then hB hb2
      replace oa := owns_below oa hb2
      replace ob := owns_below ob hb2
      replace P5 := P5.below hb2
      replace P6 := P6.below hb2
      have hz2 := hb2.size
      clear hb2
      clear p0 p1 p2 q0 q1 q2 KI
      obtain ⟨ga, gc, rfl⟩ := owns_shape E1
      obtain ⟨ha, hc, rfl⟩ := owns_shape E2
      have bx2 := below_alloc w2 (.cells #[.int .i64 bx, .int .i64 by0, .slice ga ED0.length gc, .slice ha EA.length hc] 30)
      replace hB := below_then hB bx2
      replace oa := owns_below oa bx2
      replace ob := owns_below ob bx2
      replace P5 := P5.below bx2
      replace P6 := P6.below bx2
      replace E1 := owns_below E1 bx2
      replace E2 := owns_below E2 bx2
      have P7 := Box.new w2 #[.int .i64 bx, .int .i64 by0, .slice ga ED0.length gc, .slice ha EA.length hc] 30
      clear bx2
      obtain ⟨_, p0, p1, p2, _⟩ := P5.c3
      obtain ⟨_, q0, q1, q2, _⟩ := P6.c3
      go_wp2_with fail
      refine (KS _ (IX_of_owns oa rfl) (IX_of_owns ob rfl)).mono ?_
      rintro e w3 ⟨u3, u4, rfl, E3, E4, hb3⟩
      replace hB := below_then hB hb3
      replace oa := owns_below oa hb3
      replace ob := owns_below ob hb3
      replace P5 := P5.below hb3
      replace P6 := P6.below hb3
      replace E1 := owns_below E1 hb3
      replace E2 := owns_below E2 hb3
      replace P7 := P7.below hb3
      have hz3 := hb3.size
      clear hb3
      clear p0 p1 p2 q0 q1 q2 KS
      obtain ⟨ia, ic, rfl⟩ := owns_shape E3
      obtain ⟨ja, jc, rfl⟩ := owns_shape E4
      have bx3 := below_alloc w3 (.cells #[.int .i64 bx, .int .i64 by0, .slice ia ED0.length ic, .slice ja EA.length jc] 30)
      replace hB := below_then hB bx3
      replace oa := owns_below oa bx3
      replace ob := owns_below ob bx3
      replace P5 := P5.below bx3
      replace P6 := P6.below bx3
      replace E1 := owns_below E1 bx3
      replace E2 := owns_below E2 bx3
      replace P7 := P7.below bx3
      replace E3 := owns_below E3 bx3
      replace E4 := owns_below E4 bx3
      have P9 := Box.new w3 #[.int .i64 bx, .int .i64 by0, .slice ia ED0.length ic, .slice ja EA.length jc] 30
      clear bx3
      clear E3 E4 P9
      have KA := fun W' h h1 h2 => implApply_any ax ay bx by0 (.slice xa la.length xc) (.slice ga ED0.length gc) (.slice ha EA.length hc) la ED0 EA W' h h1 h2 hna hlD (by omega) hsa hsA
      have KB := fun W' h h1 h2 => specApply_any ax ay bx by0 (.slice xa la.length xc) (.slice ga ED0.length gc) (.slice ha EA.length hc) la ED0 EA W' h h1 h2 hna hlD (by omega) hsa hsA
      cases hap : apB ax ay la bx by0 ED0 EA with
      | false =>
        obtain ⟨e1, e2, e3⟩ := ap_false hap
        rw [hap, e1, e2, e3] at KA KB
        clear hap e1 e2 e3 HBA
        obtain ⟨LL, hLL⟩ : ∃ LL : List Mt, [] = LL := ⟨_, rfl⟩
        rw [hLL] at KA KB
        have hLn : LL.length ≤ 1048576 := by rw [← hLL]; simp
        clear hLL
        obtain ⟨_, p0, p1, p2, _⟩ := P5.c3
        obtain ⟨_, q0, q1, q2, q3⟩ := P7.c4
        go_wp2_with fail
        refine (KA _ (IX_of_owns oa rfl) (IL_of_owns E1 rfl) (IR_of_owns E2 rfl)).mono ?_
        rintro e w4 ⟨u5, rfl, O1, hb4⟩
        replace hB := below_then hB hb4
        replace oa := owns_below oa hb4
        replace ob := owns_below ob hb4
        replace P5 := P5.below hb4
        replace P6 := P6.below hb4
        replace E1 := owns_below E1 hb4
        replace E2 := owns_below E2 hb4
        replace P7 := P7.below hb4
        have hz4 := hb4.size
        clear hb4
        clear p0 p1 p2 q0 q1 q2 q3 KA
        obtain ⟨ka, kc, rfl⟩ := owns_shape O1
        have bx4 := below_alloc w4 (.cells #[.int .i64 0, .int .i64 0, .slice ka LL.length kc] 25)
        replace hB := below_then hB bx4
        replace oa := owns_below oa bx4
        replace ob := owns_below ob bx4
        replace P5 := P5.below bx4
        replace P6 := P6.below bx4
        replace E1 := owns_below E1 bx4
        replace E2 := owns_below E2 bx4
        replace P7 := P7.below bx4
        replace O1 := owns_below O1 bx4
        have P11 := Box.new w4 #[.int .i64 0, .int .i64 0, .slice ka LL.length kc] 25
        clear bx4
        obtain ⟨_, p0, p1, p2, _⟩ := P5.c3
        obtain ⟨_, q0, q1, q2, q3⟩ := P7.c4
        go_wp2_with fail
        refine (KB _ (IX_of_owns oa rfl) (IL_of_owns E1 rfl) (IR_of_owns E2 rfl)).mono ?_
        rintro e w5 ⟨u6, rfl, O2, hb5⟩
        replace hB := below_then hB hb5
        replace oa := owns_below oa hb5
        replace ob := owns_below ob hb5
        replace P5 := P5.below hb5
        replace P6 := P6.below hb5
        replace E1 := owns_below E1 hb5
        replace E2 := owns_below E2 hb5
        replace P7 := P7.below hb5
        replace O1 := owns_below O1 hb5
        replace P11 := P11.below hb5
        have hz5 := hb5.size
        clear hb5
        clear p0 p1 p2 q0 q1 q2 q3 KB
        obtain ⟨ma, mc, rfl⟩ := owns_shape O2
        have bx5 := below_alloc w5 (.cells #[.int .i64 0, .int .i64 0, .slice ma LL.length mc] 25)
        replace hB := below_then hB bx5
        replace oa := owns_below oa bx5
        replace ob := owns_below ob bx5
        replace P5 := P5.below bx5
        replace P6 := P6.below bx5
        replace E1 := owns_below E1 bx5
        replace E2 := owns_below E2 bx5
        replace P7 := P7.below bx5
        replace O1 := owns_below O1 bx5
        replace P11 := P11.below bx5
        replace O2 := owns_below O2 bx5
        have P13 := Box.new w5 #[.int .i64 0, .int .i64 0, .slice ma LL.length mc] 25
        clear bx5
        clear E1 E2 P7 P5 oa
        obtain ⟨_, p0, p1, p2, _⟩ := P11.c3
        obtain ⟨_, q0, q1, q2, _⟩ := P13.c3
        go_wp2_with fail
        refine (sameVersions_same 0 0 _ _ LL _ (IR_of_owns O1 rfl) (IR_of_owns O2 rfl) hLn).mono ?_
        rintro e w6 ⟨rfl, hb6⟩
        replace hB := below_then hB hb6
        replace ob := owns_below ob hb6
        replace P6 := P6.below hb6
        replace O1 := owns_below O1 hb6
        replace P11 := P11.below hb6
        replace O2 := owns_below O2 hb6
        replace P13 := P13.below hb6
        have hz6 := hb6.size
        clear hb6
        clear p0 p1 p2 q0 q1 q2
        clear O1 O2 P11 P13 P6 ob
        go_wp2_with fail
        refine (drawOI_any _ l1 _ (hv1.below hB) hl1).mono ?_
        rintro e w7 ⟨vx, vy, vu, lv, p, mk, mv, rfl, VV, hp, hmk, hmv, hb⟩
        replace hB := below_then hB hb
        have hz7 := hb.size
        clear hb
        have ov := VV.o
        obtain ⟨hvn, hvs⟩ := VV.big
        clear VV
        obtain ⟨ea, ec, rfl⟩ := owns_shape ov
        have bx7 := below_alloc w7 (.cells #[.int .i64 vx, .int .i64 vy, .slice ea lv.length ec] 25)
        replace hB := below_then hB bx7
        replace ov := owns_below ov bx7
        have P15 := Box.new w7 #[.int .i64 vx, .int .i64 vy, .slice ea lv.length ec] 25
        clear bx7
        have KO := fun W' h => implOverlaps_any vx vy (p : Int) mk mv (.slice ea lv.length ec) lv W' h hvn hvs (by omega) (by omega)
        have KP := fun W' h => specOverlaps_any vx vy (p : Int) mk mv (.slice ea lv.length ec) lv W' h hvn hvs (by omega) (by omega)
        have KI2 := fun W' h => implPick_any vx vy (.slice ea lv.length ec) lv W' h hvn hvs
        have KS2 := fun W' h => specPick_any vx vy (.slice ea lv.length ec) lv W' h hvn hvs
        have hzl := ovZ_len vx vy (p : Int) mk mv lv
        clear hvs
        cases hov : ovB vx vy (p : Int) mk mv lv with
        | false =>
          rw [hov, ov_false hov] at KO KP
          clear hzl hov KI2 KS2
          simp only [List.length_nil, List.map_nil] at KO KP
          obtain ⟨_, p0, p1, p2, _⟩ := P15.c3
          go_wp2_with fail
          refine (KO _ (IX_of_owns ov rfl)).mono ?_
          rintro e w8 ⟨u1, rfl, O1, hb8⟩
          replace hB := below_then hB hb8
          replace ov := owns_below ov hb8
          replace P15 := P15.below hb8
          have hz8 := hb8.size
          clear hb8
          clear p0 p1 p2
          obtain ⟨fa, fb, rfl⟩ := owns_shape O1
          obtain ⟨_, p0, p1, p2, _⟩ := P15.c3
          go_wp2_with fail
          refine (KP _ (IX_of_owns ov rfl)).mono ?_
          rintro e w9 ⟨u2, rfl, O2, hb9⟩
          replace hB := below_then hB hb9
          replace ov := owns_below ov hb9
          replace P15 := P15.below hb9
          replace O1 := owns_below O1 hb9
          have hz9 := hb9.size
          clear hb9
          clear p0 p1 p2 KO KP
          obtain ⟨fc, fd, rfl⟩ := owns_shape O2
          go_wp2_with fail
          refine (sameInts_same _ _ ([] : List Int) _ (IL_of_owns O1 rfl) (IL_of_owns O2 rfl) (by simp; try omega)).mono ?_
          rintro e w10 ⟨rfl, hb10⟩
          replace hB := below_then hB hb10
          replace ov := owns_below ov hb10
          replace P15 := P15.below hb10
          replace O1 := owns_below O1 hb10
          replace O2 := owns_below O2 hb10
          have hz10 := hb10.size
          clear hb10
          clear ov O1 O2 P15
          go_wp2
          go_ret
          exact ⟨rfl, hB⟩
        | true =>
          rw [hov] at KO KP
          clear hov
          generalize ovZ vx vy (p : Int) mk mv lv = Zv at *
          obtain ⟨_, p0, p1, p2, _⟩ := P15.c3
          go_wp2_with fail
          refine (KO _ (IX_of_owns ov rfl)).mono ?_
          rintro e w8 ⟨u1, rfl, O1, hb8⟩
          replace hB := below_then hB hb8
          replace ov := owns_below ov hb8
          replace P15 := P15.below hb8
          have hz8 := hb8.size
          clear hb8
          clear p0 p1 p2
          obtain ⟨fa, fb, rfl⟩ := owns_shape O1
          obtain ⟨_, p0, p1, p2, _⟩ := P15.c3
          go_wp2_with fail
          refine (KP _ (IX_of_owns ov rfl)).mono ?_
          rintro e w9 ⟨u2, rfl, O2, hb9⟩
          replace hB := below_then hB hb9
          replace ov := owns_below ov hb9
          replace P15 := P15.below hb9
          replace O1 := owns_below O1 hb9
          have hz9 := hb9.size
          clear hb9
          clear p0 p1 p2 KO KP
          obtain ⟨fc, fd, rfl⟩ := owns_shape O2
          go_wp2_with fail
          refine (sameInts_same _ _ Zv _ (IL_of_owns O1 rfl) (IL_of_owns O2 rfl) (by omega)).mono ?_
          rintro e w10 ⟨rfl, hb10⟩
          replace hB := below_then hB hb10
          replace ov := owns_below ov hb10
          replace P15 := P15.below hb10
          replace O1 := owns_below O1 hb10
          replace O2 := owns_below O2 hb10
          have hz10 := hb10.size
          clear hb10
          clear O1 O2
          generalize pickV vx vy lv = kv at *
          generalize pickB vx vy lv = kb at *
          obtain ⟨_, p0, p1, p2, _⟩ := P15.c3
          go_wp2_with fail
          refine (KI2 _ (IX_of_owns ov rfl)).mono ?_
          rintro e w11 ⟨rfl, hb11⟩
          replace hB := below_then hB hb11
          replace ov := owns_below ov hb11
          replace P15 := P15.below hb11
          have hz11 := hb11.size
          clear hb11
          clear p0 p1 p2 KI2
          obtain ⟨_, p0, p1, p2, _⟩ := P15.c3
          go_wp2_with fail
          refine (KS2 _ (IX_of_owns ov rfl)).mono ?_
          rintro e w12 ⟨rfl, hb12⟩
          replace hB := below_then hB hb12
          replace ov := owns_below ov hb12
          replace P15 := P15.below hb12
          have hz12 := hb12.size
          clear hb12
          clear p0 p1 p2 KS2 ov P15
          cases kb <;> (go_wp2; go_ret; exact ⟨by simp, hB⟩)
      | true =>
        obtain ⟨e1, e2, e3⟩ := ap_true hap
        rw [hap, e1, e2, e3, HBA.out] at KA KB
        clear hap e1 e2 e3 HBA
        obtain ⟨_, p0, p1, p2, _⟩ := P5.c3
        obtain ⟨_, q0, q1, q2, q3⟩ := P7.c4
        go_wp2_with fail
        refine (KA _ (IX_of_owns oa rfl) (IL_of_owns E1 rfl) (IR_of_owns E2 rfl)).mono ?_
        rintro e w4 ⟨u5, rfl, O1, hb4⟩
        replace hB := below_then hB hb4
        replace oa := owns_below oa hb4
        replace ob := owns_below ob hb4
        replace P5 := P5.below hb4
        replace P6 := P6.below hb4
        replace E1 := owns_below E1 hb4
        replace E2 := owns_below E2 hb4
        replace P7 := P7.below hb4
        have hz4 := hb4.size
        clear hb4
        clear p0 p1 p2 q0 q1 q2 q3 KA
        obtain ⟨ka, kc, rfl⟩ := owns_shape O1
        have bx4 := below_alloc w4 (.cells #[.int .i64 bx, .int .i64 by0, .slice ka lb.length kc] 25)
        replace hB := below_then hB bx4
        replace oa := owns_below oa bx4
        replace ob := owns_below ob bx4
        replace P5 := P5.below bx4
        replace P6 := P6.below bx4
        replace E1 := owns_below E1 bx4
        replace E2 := owns_below E2 bx4
        replace P7 := P7.below bx4
        replace O1 := owns_below O1 bx4
        have P11 := Box.new w4 #[.int .i64 bx, .int .i64 by0, .slice ka lb.length kc] 25
        clear bx4
        obtain ⟨_, p0, p1, p2, _⟩ := P5.c3
        obtain ⟨_, q0, q1, q2, q3⟩ := P7.c4
        go_wp2_with fail
        refine (KB _ (IX_of_owns oa rfl) (IL_of_owns E1 rfl) (IR_of_owns E2 rfl)).mono ?_
        rintro e w5 ⟨u6, rfl, O2, hb5⟩
        replace hB := below_then hB hb5
        replace oa := owns_below oa hb5
        replace ob := owns_below ob hb5
        replace P5 := P5.below hb5
        replace P6 := P6.below hb5
        replace E1 := owns_below E1 hb5
        replace E2 := owns_below E2 hb5
        replace P7 := P7.below hb5
        replace O1 := owns_below O1 hb5
        replace P11 := P11.below hb5
        have hz5 := hb5.size
        clear hb5
        clear p0 p1 p2 q0 q1 q2 q3 KB
        obtain ⟨ma, mc, rfl⟩ := owns_shape O2
        have bx5 := below_alloc w5 (.cells #[.int .i64 bx, .int .i64 by0, .slice ma lb.length mc] 25)
        replace hB := below_then hB bx5
        replace oa := owns_below oa bx5
        replace ob := owns_below ob bx5
        replace P5 := P5.below bx5
        replace P6 := P6.below bx5
        replace E1 := owns_below E1 bx5
        replace E2 := owns_below E2 bx5
        replace P7 := P7.below bx5
        replace O1 := owns_below O1 bx5
        replace P11 := P11.below bx5
        replace O2 := owns_below O2 bx5
        have P13 := Box.new w5 #[.int .i64 bx, .int .i64 by0, .slice ma lb.length mc] 25
        clear bx5
        clear E1 E2 P7 P5 oa
        obtain ⟨_, p0, p1, p2, _⟩ := P11.c3
        obtain ⟨_, q0, q1, q2, _⟩ := P6.c3
        go_wp2_with fail
        refine (sameVersions_same bx by0 _ _ lb _ (IR_of_owns O1 rfl) (IR_of_owns ob rfl) hnb).mono ?_
        rintro e w6 ⟨rfl, hb6⟩
        replace hB := below_then hB hb6
        replace ob := owns_below ob hb6
        replace P6 := P6.below hb6
        replace O1 := owns_below O1 hb6
        replace P11 := P11.below hb6
        replace O2 := owns_below O2 hb6
        replace P13 := P13.below hb6
        have hz6 := hb6.size
        clear hb6
        clear p0 p1 p2 q0 q1 q2
        obtain ⟨_, p0, p1, p2, _⟩ := P11.c3
        obtain ⟨_, q0, q1, q2, _⟩ := P13.c3
        go_wp2_with fail
        refine (sameVersions_same bx by0 _ _ lb _ (IR_of_owns O1 rfl) (IR_of_owns O2 rfl) hnb).mono ?_
        rintro e w7 ⟨rfl, hb7⟩
        replace hB := below_then hB hb7
        replace ob := owns_below ob hb7
        replace P6 := P6.below hb7
        replace O1 := owns_below O1 hb7
        replace P11 := P11.below hb7
        replace O2 := owns_below O2 hb7
        replace P13 := P13.below hb7
        have hz7 := hb7.size
        clear hb7
        clear p0 p1 p2 q0 q1 q2
        clear O1 O2 P11 P13 P6 ob
        go_wp2_with fail
        refine (drawOI_any _ l1 _ (hv1.below hB) hl1).mono ?_
        rintro e w8 ⟨vx, vy, vu, lv, p, mk, mv, rfl, VV, hp, hmk, hmv, hb⟩
        replace hB := below_then hB hb
        have hz8 := hb.size
        clear hb
        have ov := VV.o
        obtain ⟨hvn, hvs⟩ := VV.big
        clear VV
        obtain ⟨ea, ec, rfl⟩ := owns_shape ov
        have bx8 := below_alloc w8 (.cells #[.int .i64 vx, .int .i64 vy, .slice ea lv.length ec] 25)
        replace hB := below_then hB bx8
        replace ov := owns_below ov bx8
        have P15 := Box.new w8 #[.int .i64 vx, .int .i64 vy, .slice ea lv.length ec] 25
        clear bx8
        have KO := fun W' h => implOverlaps_any vx vy (p : Int) mk mv (.slice ea lv.length ec) lv W' h hvn hvs (by omega) (by omega)
        have KP := fun W' h => specOverlaps_any vx vy (p : Int) mk mv (.slice ea lv.length ec) lv W' h hvn hvs (by omega) (by omega)
        have KI2 := fun W' h => implPick_any vx vy (.slice ea lv.length ec) lv W' h hvn hvs
        have KS2 := fun W' h => specPick_any vx vy (.slice ea lv.length ec) lv W' h hvn hvs
        have hzl := ovZ_len vx vy (p : Int) mk mv lv
        clear hvs
        cases hov : ovB vx vy (p : Int) mk mv lv with
        | false =>
          rw [hov, ov_false hov] at KO KP
          clear hzl hov KI2 KS2
          simp only [List.length_nil, List.map_nil] at KO KP
          obtain ⟨_, p0, p1, p2, _⟩ := P15.c3
          go_wp2_with fail
          refine (KO _ (IX_of_owns ov rfl)).mono ?_
          rintro e w9 ⟨u1, rfl, O1, hb9⟩
          replace hB := below_then hB hb9
          replace ov := owns_below ov hb9
          replace P15 := P15.below hb9
          have hz9 := hb9.size
          clear hb9
          clear p0 p1 p2
          obtain ⟨fa, fb, rfl⟩ := owns_shape O1
          obtain ⟨_, p0, p1, p2, _⟩ := P15.c3
          go_wp2_with fail
          refine (KP _ (IX_of_owns ov rfl)).mono ?_
          rintro e w10 ⟨u2, rfl, O2, hb10⟩
          replace hB := below_then hB hb10
          replace ov := owns_below ov hb10
          replace P15 := P15.below hb10
          replace O1 := owns_below O1 hb10
          have hz10 := hb10.size
          clear hb10
          clear p0 p1 p2 KO KP
          obtain ⟨fc, fd, rfl⟩ := owns_shape O2
          go_wp2_with fail
          refine (sameInts_same _ _ ([] : List Int) _ (IL_of_owns O1 rfl) (IL_of_owns O2 rfl) (by simp; try omega)).mono ?_
          rintro e w11 ⟨rfl, hb11⟩
          replace hB := below_then hB hb11
          replace ov := owns_below ov hb11
          replace P15 := P15.below hb11
          replace O1 := owns_below O1 hb11
          replace O2 := owns_below O2 hb11
          have hz11 := hb11.size
          clear hb11
          clear ov O1 O2 P15
          go_wp2
          go_ret
          exact ⟨rfl, hB⟩
        | true =>
          rw [hov] at KO KP
          clear hov
          generalize ovZ vx vy (p : Int) mk mv lv = Zv at *
          obtain ⟨_, p0, p1, p2, _⟩ := P15.c3
          go_wp2_with fail
          refine (KO _ (IX_of_owns ov rfl)).mono ?_
          rintro e w9 ⟨u1, rfl, O1, hb9⟩
          replace hB := below_then hB hb9
          replace ov := owns_below ov hb9
          replace P15 := P15.below hb9
          have hz9 := hb9.size
          clear hb9
          clear p0 p1 p2
          obtain ⟨fa, fb, rfl⟩ := owns_shape O1
          obtain ⟨_, p0, p1, p2, _⟩ := P15.c3
          go_wp2_with fail
          refine (KP _ (IX_of_owns ov rfl)).mono ?_
          rintro e w10 ⟨u2, rfl, O2, hb10⟩
          replace hB := below_then hB hb10
          replace ov := owns_below ov hb10
          replace P15 := P15.below hb10
          replace O1 := owns_below O1 hb10
          have hz10 := hb10.size
          clear hb10
          clear p0 p1 p2 KO KP
          obtain ⟨fc, fd, rfl⟩ := owns_shape O2
          go_wp2_with fail
          refine (sameInts_same _ _ Zv _ (IL_of_owns O1 rfl) (IL_of_owns O2 rfl) (by omega)).mono ?_
          rintro e w11 ⟨rfl, hb11⟩
          replace hB := below_then hB hb11
          replace ov := owns_below ov hb11
          replace P15 := P15.below hb11
          replace O1 := owns_below O1 hb11
          replace O2 := owns_below O2 hb11
          have hz11 := hb11.size
          clear hb11
          clear O1 O2
          generalize pickV vx vy lv = kv at *
          generalize pickB vx vy lv = kb at *
          obtain ⟨_, p0, p1, p2, _⟩ := P15.c3
          go_wp2_with fail
          refine (KI2 _ (IX_of_owns ov rfl)).mono ?_
          rintro e w12 ⟨rfl, hb12⟩
          replace hB := below_then hB hb12
          replace ov := owns_below ov hb12
          replace P15 := P15.below hb12
          have hz12 := hb12.size
          clear hb12
          clear p0 p1 p2 KI2
          obtain ⟨_, p0, p1, p2, _⟩ := P15.c3
          go_wp2_with fail
          refine (KS2 _ (IX_of_owns ov rfl)).mono ?_
          rintro e w13 ⟨rfl, hb13⟩
          replace hB := below_then hB hb13
          replace ov := owns_below ov hb13
          replace P15 := P15.below hb13
          have hz13 := hb13.size
          clear hb13
          clear p0 p1 p2 KS2 ov P15
          cases kb <;> (go_wp2; go_ret; exact ⟨by simp, hB⟩)
end Go.Proofs.Ytenbdjlhcadhaaa
