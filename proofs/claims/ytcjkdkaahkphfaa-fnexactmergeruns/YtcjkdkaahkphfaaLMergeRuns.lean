/-
  The walk of FnExactMergeRuns.
-/
import Derived.Test.YtcjkdkaahkphfaaI9
import Derived.Test.YtcjkdkaahkphfaaR9
namespace Go.Proofs.Ytcjkdkaahkphfaa
open Go.RowKit
set_option linter.unusedVariables false
set_option maxRecDepth 100000

theorem OwnRuns.lt {w : World} {base G : Nat} {gs : List Nat} {R : List (List It)} (h : OwnRuns w base G gs R) : ∀ g ∈ gs, g < w.heap.size := by
  intro g hg
  obtain ⟨i, hi, rfl⟩ := List.getElem_of_mem hg
  exact (owns_lt (h.own i (by have := h.len; omega))).2

set_option maxHeartbeats 8000000 in
theorem lawMergeRuns (v : Value) (R : List (List It)) (w : World) (HV : RL w v R) (hn : R.length ≤ maxLen) (hs : ∀ i (h : i < R.length), R[i].length ≤ maxLen ∧ ∀ j (hj : j < R[i].length), R[i][j].k.size ≤ maxLen ∧ R[i][j].v.size ≤ maxLen) :
    Calls Try.prog 4 #[v] w fun e w' => e = .returned (.bool true) ∧ Below w.heap.size w w' := by
  have SZ := szRunS_any v R 1048576 w HV (by omega) (by omega) hn hs
  obtain ⟨a, cap, hve, _⟩ := id HV
  subst hve
  clear hs hn
  go_enter Try.func4, Try.ntmps4
  go_wp2_with fail
  refine SZ.mono ?_
  rintro e w1 ⟨⟨r, rfl, hr⟩, hB⟩
  clear SZ
  rcases hr with rfl | ⟨hr0, hr1⟩
  · clear HV
    go_wp2
    go_ret
    exact ⟨rfl, hB⟩
  have hT5 : tot5 R + R.length ≤ 1048576 := by omega
  have hn : R.length ≤ 1048576 := by omega
  have hs1 : ∀ i (h : i < R.length), R[i].length ≤ 1048576 := fun i h => by have := tot5_mem R i h; omega
  have hs : ∀ i (h : i < R.length), R[i].length ≤ 1048576 ∧ ∀ j (hj : j < R[i].length), R[i][j].k.size ≤ 1048576 ∧ R[i][j].v.size ≤ 1048576 := fun i h => ⟨hs1 i h, fun j hj => by have := tot5_mem R i h; have := tot4_mem R[i] j hj; omega⟩
  clear hr1
  have T := fun w h => toRunS_any (.slice a R.length cap) R w h hn hs1
  have S := fun u w h => specMerge_any u R w h hn hs
  have I := fun u w h => implMerge_any u R w h hn hs
  have HL : (mgL R).length ≤ 400 := mg_len R
  have EQS := fun u v w h1 h2 => eqRunS_same u v R w h1 h2 hn hs1
  generalize mgL R = Z at *
  generalize mgB R = ok at *
  clear hs hs1
  go_wp2_with fail
  refine (T _ (HV.below hB)).mono ?_
  rintro e w2 ⟨rfl, ⟨gs2, o2⟩, hb2⟩
  replace hB := below_then hB hb2
  have i2 := o2.rl R.length
  clear hb2 o2
  go_wp2_with fail
  refine (S _ _ i2).mono ?_
  rintro e w3 ⟨uS, rfl, O1, hb3⟩
  obtain ⟨aS, cS, rfl, _⟩ := IR_of_owns O1 rfl
  replace hB := below_then hB hb3
  have hlt1 := owns_below_lt O1
  have hz03 := hB.size
  clear hb3 i2 S
  have S1 := Box.new w3 #[.slice aS Z.length cS] 40
  have hbS := below_alloc w3 (.cells #[.slice aS Z.length cS] 40)
  replace hB := below_then hB hbS
  replace O1 := owns_below O1 hbS
  go_wp2_with fail
  refine (T _ (HV.below hB)).mono ?_
  rintro e w4 ⟨rfl, ⟨gs, o4⟩, hb4⟩
  replace hB := below_then hB hb4
  replace O1 := owns_below O1 hb4
  replace S1 := S1.below hb4
  have hz34 := hb4.size
  simp only [World.size_alloc] at hz34 o4 ⊢
  have hgs := o4.lt
  have hgs2 := o4.gt
  clear hb4 hbS
  have i4 := o4.rl R.length
  go_wp2_with fail
  refine (I _ _ i4).mono ?_
  rintro e w5 ⟨uI, rfl, O2, hb5⟩
  obtain ⟨aI, cI, rfl, _⟩ := IR_of_owns O2 rfl
  replace hB := below_then hB hb5
  replace O1 := owns_below O1 hb5
  replace S1 := S1.below hb5
  replace o4 := o4.below hb5
  have hz45 := hb5.size
  have hge2 := owns_ge O2
  have hlt2 := owns_below_lt O2
  clear hb5 i4
  have G := Box.new w5 #[.slice aI Z.length cI] 40
  have hbG := below_alloc w5 (.cells #[.slice aI Z.length cI] 40)
  replace hB := below_then hB hbG
  replace O1 := owns_below O1 hbG
  replace S1 := S1.below hbG
  replace o4 := o4.below hbG
  replace O2 := owns_below O2 hbG
  clear hbG
  have d1 := S1.2.1 0 _ rfl
  have d2 := G.2.1 0 _ rfl
  have d3 := S1.1
  have d4 := G.1
  go_wp2_with fail
  refine (eqRun_same _ _ Z _ (IR_of_owns O2 rfl) (IR_of_owns O1 rfl) (by omega)).mono ?_
  rintro e w6 ⟨rfl, hb6⟩
  replace hB := below_then hB hb6
  replace O1 := owns_below O1 hb6
  replace S1 := S1.below hb6
  replace o4 := o4.below hb6
  replace O2 := owns_below O2 hb6
  replace G := G.below hb6
  have hz56 := hb6.size
  simp only [World.size_alloc] at hz56
  clear hb6 d1 d2 d3 d4
  cases ok
  all_goals
    go_wp2_with fail
    refine (T _ (HV.below hB)).mono ?_
    rintro e w7 ⟨rfl, ⟨gs7, o7⟩, hb7⟩
    replace hB := below_then hB hb7
    replace O1 := owns_below O1 hb7
    replace S1 := S1.below hb7
    replace o4 := o4.below hb7
    replace O2 := owns_below O2 hb7
    replace G := G.below hb7
    have hz67 := hb7.size
    clear hb7
    have i4 := o4.rl R.length
    have i7 := o7.rl R.length
    go_wp2_with fail
    refine (EQS _ _ _ i4 i7).mono ?_
    rintro e w8 ⟨rfl, hb8⟩
    replace hB := below_then hB hb8
    replace O1 := owns_below O1 hb8
    replace S1 := S1.below hb8
    replace o4 := o4.below hb8
    replace O2 := owns_below O2 hb8
    replace G := G.below hb8
    have hz78 := hb8.size
    clear hb8 i4 i7 o7
    go_wp2_with fail
    refine (markRunS_at _ _ R.length gs R _ o4 hT5).mono ?_
    rintro e w9 ⟨⟨k9, rfl⟩, hc9⟩
    replace O1 := hc9.owns O1 (fun b hb hh => by have := hlt1 b hb; have := hgs2 b hh; omega)
    replace O2 := hc9.owns O2 (fun b hb hh => by have := hge2 b hb; have := hgs b hh; omega)
    replace S1 := hc9.box S1 (fun h => by have := hgs2 _ h; omega)
    replace G := hc9.box G (fun h => by have := hgs _ h; omega)
    replace hB := hB.trans (hc9.below (B := w.heap.size) (by omega) (fun b h => by have := hgs2 b h; omega))
    have hz89 := hc9.size
    clear o4 hc9
    have d1 := S1.2.1 0 _ rfl
    have d2 := G.2.1 0 _ rfl
    have d3 := S1.1
    have d4 := G.1
    go_wp2_with fail
    refine (eqRun_same _ _ Z _ (IR_of_owns O2 rfl) (IR_of_owns O1 rfl) (by omega)).mono ?_
    rintro e w10 ⟨rfl, hb10⟩
    replace hB := below_then hB hb10
    replace S1 := S1.below hb10
    replace G := G.below hb10
    replace O1 := owns_below O1 hb10
    replace O2 := owns_below O2 hb10
    have hz10 := hb10.size
    clear hb10 d1 d2 d3 d4
    have d2 := G.2.1 0 _ rfl
    have d4 := G.1
    rcases O2.2 with ⟨hn0, h0⟩ | ⟨g, cp, cur, hn0, hbg, hh, _⟩
    · obtain rfl : Z = [] := List.eq_nil_of_length_eq_zero h0
      simp only [List.length_nil, Value.slice.injEq, true_and] at hn0
      obtain ⟨rfl, rfl⟩ := hn0
      clear O2 h0 hge2 hlt2
      go_wp2_with fail
      refine (markRun_nil 1 _ (by omega) (by omega)).mono ?_
      rintro e w11 ⟨rfl, hb11⟩
      replace hB := below_then hB hb11
      replace S1 := S1.below hb11
      replace G := G.below hb11
      replace O1 := owns_below O1 hb11
      clear hb11 d2 d4
      have d2 := G.2.1 0 _ rfl
      have d4 := G.1
      go_wp2_with fail
      refine (heldRun_at (.slice none 0 0) 0 1 _ (IR_nil _) (by omega) (by omega) (by omega)).mono ?_
      rintro e w12 ⟨rfl, hb12⟩
      replace hB := below_then hB hb12
      replace S1 := S1.below hb12
      replace G := G.below hb12
      replace O1 := owns_below O1 hb12
      clear hb12 d2 d4
      go_wp2_with fail
      refine (T _ (HV.below hB)).mono ?_
      rintro e w13 ⟨rfl, ⟨gs13, o13⟩, hb13⟩
      replace hB := below_then hB hb13
      replace S1 := S1.below hb13
      replace G := G.below hb13
      replace O1 := owns_below O1 hb13
      clear hb13
      go_wp2_with fail
      refine (I _ _ (o13.rl R.length)).mono ?_
      rintro e w14 ⟨u14, rfl, o14, hb14⟩
      obtain ⟨a14, c14, rfl, _⟩ := IR_of_owns o14 rfl
      replace hB := below_then hB hb14
      replace S1 := S1.below hb14
      replace G := G.below hb14
      replace O1 := owns_below O1 hb14
      clear hb14 o13
      have hbH := below_alloc w14 (.cells #[.slice a14 0 c14] 40)
      have H14 := Box.new w14 #[.slice a14 0 c14] 40
      replace o14 := owns_below o14 hbH
      replace hB := below_then hB hbH
      replace S1 := S1.below hbH
      replace G := G.below hbH
      replace O1 := owns_below O1 hbH
      have d1 := S1.2.1 0 _ rfl
      have d3 := S1.1
      simp only [World.size_alloc] at d3
      go_wp2_with fail
      refine (eqRun_same _ _ [] _ (IR_of_owns o14 rfl) (IR_of_owns O1 rfl) (by simp)).mono ?_
      rintro e w15 ⟨rfl, hb15⟩
      replace hB := below_then hB hb15
      replace S1 := S1.below hb15
      replace G := G.below hb15
      replace O1 := owns_below O1 hb15
      clear hb15 o14 O1 d1 d3 H14
      have d2 := G.2.1 0 _ rfl
      have d4 := G.1
      go_wp2_with fail
      refine (heldRun_at (.slice none 0 0) 0 1 _ (IR_nil _) (by omega) (by omega) (by omega)).mono ?_
      rintro e w16 ⟨rfl, hb16⟩
      have hB16 := below_then hB hb16
      clear hB hb16 d2 d4
      go_wp2
      go_ret
      exact ⟨rfl, hB16⟩
    · simp only [Value.slice.injEq, true_and] at hn0
      obtain ⟨rfl, rfl⟩ := hn0
      clear hh
      have hgb := hlt2 g rfl
      have hgg := hge2 g rfl
      have ML := mkIts_length 1 Z.length
      have M := fun w h => markRun_at g cI w4.heap.size Z 1 w h (by omega) (by omega) (by omega)
      have H := fun w h => heldRun_at (.slice (some ⟨g, 0, none⟩) Z.length cI) Z.length 1 w h (by omega) (by omega) (by omega)
      have HI : ∀ w b, w.ownsRow b 68 4 (.slice (some ⟨g, 0, none⟩) Z.length cI) Z.length (flat4 (mkIts 1 Z.length)) → IR w (.slice (some ⟨g, 0, none⟩) Z.length cI) (mkIts 1 Z.length) := fun w b h => IR_of_owns h ML.symm
      clear hge2 hlt2
      go_wp2_with fail
      refine (M _ O2).mono ?_
      rintro e w11 ⟨rfl, q11, hc11⟩
      replace O1 := hc11.owns O1 (fun b hb hh => by have := hlt1 b hb; omega)
      replace S1 := hc11.box S1 (by omega)
      replace G := hc11.box G (by omega)
      replace hB := hB.trans (hc11.below (B := w.heap.size) (by omega) (fun b h => by omega))
      clear O2 hc11 M d2 d4
      have d2 := G.2.1 0 _ rfl
      have d4 := G.1
      go_wp2_with fail
      refine (H _ (HI _ _ q11)).mono ?_
      rintro e w12 ⟨rfl, hb12⟩
      replace hB := below_then hB hb12
      replace S1 := S1.below hb12
      replace G := G.below hb12
      replace O1 := owns_below O1 hb12
      replace q11 := owns_below q11 hb12
      clear hb12 d2 d4
      go_wp2_with fail
      refine (T _ (HV.below hB)).mono ?_
      rintro e w13 ⟨rfl, ⟨gs13, o13⟩, hb13⟩
      replace hB := below_then hB hb13
      replace S1 := S1.below hb13
      replace G := G.below hb13
      replace O1 := owns_below O1 hb13
      replace q11 := owns_below q11 hb13
      clear hb13
      go_wp2_with fail
      refine (I _ _ (o13.rl R.length)).mono ?_
      rintro e w14 ⟨u14, rfl, o14, hb14⟩
      obtain ⟨a14, c14, rfl, _⟩ := IR_of_owns o14 rfl
      replace hB := below_then hB hb14
      replace S1 := S1.below hb14
      replace G := G.below hb14
      replace O1 := owns_below O1 hb14
      replace q11 := owns_below q11 hb14
      clear hb14 o13
      have hbH := below_alloc w14 (.cells #[.slice a14 Z.length c14] 40)
      have H14 := Box.new w14 #[.slice a14 Z.length c14] 40
      replace o14 := owns_below o14 hbH
      replace hB := below_then hB hbH
      replace S1 := S1.below hbH
      replace G := G.below hbH
      replace O1 := owns_below O1 hbH
      replace q11 := owns_below q11 hbH
      have d1 := S1.2.1 0 _ rfl
      have d3 := S1.1
      simp only [World.size_alloc] at d3
      go_wp2_with fail
      refine (eqRun_same _ _ Z _ (IR_of_owns o14 rfl) (IR_of_owns O1 rfl) (by omega)).mono ?_
      rintro e w15 ⟨rfl, hb15⟩
      replace hB := below_then hB hb15
      replace S1 := S1.below hb15
      replace G := G.below hb15
      replace O1 := owns_below O1 hb15
      replace q11 := owns_below q11 hb15
      clear hb15 o14 O1 d1 d3 H14
      have d2 := G.2.1 0 _ rfl
      have d4 := G.1
      go_wp2_with fail
      refine (H _ (HI _ _ q11)).mono ?_
      rintro e w16 ⟨rfl, hb16⟩
      have hB16 := below_then hB hb16
      clear hB hb16 q11 H HI d2 d4
      go_wp2
      go_ret
      exact ⟨rfl, hB16⟩
end Go.Proofs.Ytcjkdkaahkphfaa
