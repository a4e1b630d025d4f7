/-
  The walk of FnExactDropShadowed.
-/
import Derived.Test.YtjenogmpmkkbiaaY8
namespace Go.Proofs.Ytjenogmpmkkbiaa
open Go.RowKit
set_option linter.unusedVariables false
set_option maxRecDepth 100000

set_option maxHeartbeats 8000000 in
theorem lawDropShadowed (v : Value) (l : List It) (q : Int) (bot : Bool) (w : World) (HV : IR w v l) (hn : l.length ≤ maxLen) (hs : ∀ i (h : i < l.length), l[i].k.size ≤ maxLen ∧ l[i].v.size ≤ maxLen) :
    Calls Try.prog 9 #[.agg #[v], .int .i64 q, .bool bot] w fun e w' => e = .returned (.bool true) ∧ Below w.heap.size w w' := by
  obtain ⟨a, cap, hve, _⟩ := id HV
  subst hve
  have hB := below_alloc w (.cells #[.slice a l.length cap] 65)
  have SZ := szRun_any _ l 1048576 _ (HV.below hB) (by omega) (by omega) hn hs
  have X := Box.new w #[.slice a l.length cap] 65
  clear hs hn
  go_enter Try.func9, Try.ntmps9
  go_wp2_with fail
  refine SZ.mono ?_
  rintro e w1 ⟨⟨r, rfl, hr⟩, hb1⟩
  clear SZ
  replace hB := below_then hB hb1
  replace X := X.below hb1
  clear hb1
  rcases hr with rfl | ⟨hr0, hr1⟩
  · clear X HV
    go_wp2
    go_ret
    exact ⟨rfl, hB⟩
  have hn : l.length ≤ 1048576 := by omega
  have hs : ∀ i (h : i < l.length), l[i].k.size ≤ 1048576 ∧ l[i].v.size ≤ 1048576 := fun i h => by have := tot4_mem l i h; omega
  clear hr1
  have T := fun w h => toRun_any (.slice a l.length cap) l w h hn
  have S := fun u w h => specDrop_any u l q bot w h hn hs
  have I := fun u w h => implDrop_any u l q bot w h hn hs
  have HL : (dsL l q bot).length ≤ 400 := ds_len l q bot
  generalize dsL l q bot = Z at *
  generalize dsB l q = ok at *
  clear hs
  have c1 := X.2.1 0 _ rfl
  go_wp2_with fail
  refine (T _ (HV.below hB)).mono ?_
  rintro e w2 ⟨g2, rfl, o2, hb2⟩
  replace hB := below_then hB hb2
  replace X := X.below hb2
  have i2 := IR_of_owns o2 rfl
  clear hb2 o2 c1
  go_wp2_with fail
  refine (S _ _ i2).mono ?_
  rintro e w3 ⟨uS, rfl, O1, hb3⟩
  obtain ⟨aS, cS, rfl, _⟩ := IR_of_owns O1 rfl
  replace hB := below_then hB hb3
  replace X := X.below hb3
  have hlt1 := owns_below_lt O1
  have hz3' := X.1
  clear hb3 i2 S
  have S1 := Box.new w3 #[.slice aS Z.length cS] 25
  have hbS := below_alloc w3 (.cells #[.slice aS Z.length cS] 25)
  replace hB := below_then hB hbS
  replace X := X.below hbS
  replace O1 := owns_below O1 hbS
  have hz3 := hz3'
  have c3 := X.2.1 0 _ rfl
  go_wp2_with fail
  refine (T _ (HV.below hB)).mono ?_
  rintro e w4 ⟨g4, rfl, o4, hb4⟩
  replace hB := below_then hB hb4
  replace X := X.below hb4
  replace O1 := owns_below O1 hb4
  replace S1 := S1.below hb4
  have hz34 := hb4.size
  simp only [World.size_alloc] at hz34 o4
  have hg4 := owns_lt o4
  clear hb4 c3 hbS
  have BX := below_alloc w4 (.cells #[.slice (some ⟨g4, 0, none⟩) l.length l.length] 25)
  have Y := Box.new w4 #[.slice (some ⟨g4, 0, none⟩) l.length l.length] 25
  replace hB := below_then hB BX
  replace X := X.below BX
  replace O1 := owns_below O1 BX
  replace S1 := S1.below BX
  replace o4 := owns_below o4 BX
  have i4 := IR_of_owns o4 rfl
  go_wp2_with fail
  refine (I _ _ i4).mono ?_
  rintro e w5 ⟨uI, rfl, O2, hb5⟩
  obtain ⟨aI, cI, rfl, _⟩ := IR_of_owns O2 rfl
  replace hB := below_then hB hb5
  replace X := X.below hb5
  replace O1 := owns_below O1 hb5
  replace S1 := S1.below hb5
  replace o4 := owns_below o4 hb5
  replace Y := Y.below hb5
  simp only [World.size_alloc] at O2
  have hz45 := hb5.size
  simp only [World.size_alloc] at hz45
  have hge2 := owns_ge O2
  have hlt2 := owns_below_lt O2
  clear hb5 BX i4
  have G := Box.new w5 #[.slice aI Z.length cI] 25
  have hbG := below_alloc w5 (.cells #[.slice aI Z.length cI] 25)
  replace hB := below_then hB hbG
  replace X := X.below hbG
  replace O1 := owns_below O1 hbG
  replace S1 := S1.below hbG
  replace o4 := owns_below o4 hbG
  replace Y := Y.below hbG
  replace O2 := owns_below O2 hbG
  clear hbG
  have d1 := S1.2.1 0 _ rfl
  have d2 := G.2.1 0 _ rfl
  have d3 := S1.1
  have d4 := G.1
  go_wp2_with fail
  refine (eqRun_same _ _ Z _ (IR_of_owns O2 rfl) (IR_of_owns O1 rfl) (by omega)).mono ?_
  rintro e w6 ⟨rfl, hb6⟩
  replace hB := below_then hB hb6
  replace X := X.below hb6
  replace O1 := owns_below O1 hb6
  replace S1 := S1.below hb6
  replace o4 := owns_below o4 hb6
  replace Y := Y.below hb6
  replace O2 := owns_below O2 hb6
  replace G := G.below hb6
  have hz56 := hb6.size
  simp only [World.size_alloc] at hz56
  clear hb6 d1 d2 d3 d4
  obtain ⟨hz1, p0⟩ : w.heap.size < w6.heap.size ∧ w6.cell? ⟨w.heap.size, 0, none⟩ = some (.slice a l.length cap) := ⟨X.1, X.2.1 0 _ rfl⟩
  obtain ⟨hz2, q0⟩ : w4.heap.size < w6.heap.size ∧ w6.cell? ⟨w4.heap.size, 0, none⟩ = some (.slice (some ⟨g4, 0, none⟩) l.length l.length) := ⟨Y.1, Y.2.1 0 _ rfl⟩
  have hv6 := HV.below hB
  have i6 := IR_of_owns o4 rfl
  have X6 := X
  have Y6 := Y
  clear X Y
  cases ok
  all_goals
    go_wp2_with fail
    go_region_held3 (fun w' => w'.cell? ⟨w.heap.size, 0, none⟩ = some (.slice a l.length cap) ∧ w'.cell? ⟨w4.heap.size, 0, none⟩ = some (.slice (some ⟨g4, 0, none⟩) l.length l.length)) (go_keep) (first | (go_at_call 41; refine (T _ (hv6.below (Below.refl _ _).drew)).mono ?_; rintro e w7 ⟨g7, rfl, o7, hb7'⟩; have hb7 := below_undrew hb7'; have p0 := (X6.below hb7).2.1 0 _ rfl; have q0 := (Y6.below hb7).2.1 0 _ rfl) | (go_at_call 30; refine (eqRun_same _ _ l _ (i6.below hb7) (IR_of_owns o7 rfl) hn).mono ?_; rintro e w8 ⟨rfl, hb8⟩; have p0 := ((X6.below hb7).below hb8).2.1 0 _ rfl; have q0 := ((Y6.below hb7).below hb8).2.1 0 _ rfl))
    all_goals
      have hb68 := below_then hb7 hb8
      have X := X6
      have Y := Y6
      clear X6 Y6 hv6 i6 o7 hb7' 
      replace hB := below_then hB hb68
      replace X := X.below hb68
      replace O1 := owns_below O1 hb68
      replace S1 := S1.below hb68
      replace o4 := owns_below o4 hb68
      replace Y := Y.below hb68
      replace O2 := owns_below O2 hb68
      replace G := G.below hb68
      have hz68 := hb68.size
      clear hb7 hb8 hb68
      go_wp2_with fail
      refine (markRun_at g4 l.length _ l 1 _ o4 hn (by omega) (by omega)).mono ?_
      rintro e w9 ⟨rfl, _, hc9⟩
      replace O1 := hc9.owns O1 (fun b hb hh => by have := hlt1 b hb; omega)
      replace O2 := hc9.owns O2 (fun b hb hh => by have := hge2 b hb; have := hlt2 b hb; omega)
      replace X := hc9.box X (by omega)
      replace S1 := hc9.box S1 (by omega)
      replace G := hc9.box G (by omega)
      replace hB := hB.trans (hc9.below (B := w.heap.size) (by omega) (fun b h => by omega))
      have hz89 := hc9.size
      clear o4 Y hc9 p0 q0
      have d1 := S1.2.1 0 _ rfl
      have d2 := G.2.1 0 _ rfl
      go_wp2_with fail
      refine (eqRun_same _ _ Z _ (IR_of_owns O2 rfl) (IR_of_owns O1 rfl) (by omega)).mono ?_
      rintro e w10 ⟨rfl, hb10⟩
      replace hB := below_then hB hb10
      replace X := X.below hb10
      replace S1 := S1.below hb10
      replace G := G.below hb10
      replace O1 := owns_below O1 hb10
      replace O2 := owns_below O2 hb10
      have hz10 := hb10.size
      clear hb10 d1 d2
      have d2 := G.2.1 0 _ rfl
      rcases O2.2 with ⟨hn0, h0⟩ | ⟨g, cp, cur, hn0, hbg, hh, _⟩
      · obtain rfl : Z = [] := List.eq_nil_of_length_eq_zero h0
        simp only [List.length_nil, Value.slice.injEq, true_and] at hn0
        obtain ⟨rfl, rfl⟩ := hn0
        clear O2 h0 hge2 hlt2
        go_wp2_with fail
        refine (markRun_nil 1 _ (by omega) (by omega)).mono ?_
        rintro e w11 ⟨rfl, hb11⟩
        replace hB := below_then hB hb11
        replace X := X.below hb11
        replace S1 := S1.below hb11
        replace G := G.below hb11
        replace O1 := owns_below O1 hb11
        clear hb11 d2
        have d2 := G.2.1 0 _ rfl
        go_wp2_with fail
        refine (heldRun_at (.slice none 0 0) 0 1 _ (IR_nil _) (by omega) (by omega) (by omega)).mono ?_
        rintro e w12 ⟨rfl, hb12⟩
        replace hB := below_then hB hb12
        replace X := X.below hb12
        replace S1 := S1.below hb12
        replace G := G.below hb12
        replace O1 := owns_below O1 hb12
        clear hb12 d2
        have c12 := X.2.1 0 _ rfl
        go_wp2_with fail
        refine (T _ (HV.below hB)).mono ?_
        rintro e w13 ⟨g13, rfl, o13, hb13⟩
        replace hB := below_then hB hb13
        replace X := X.below hb13
        replace S1 := S1.below hb13
        replace G := G.below hb13
        replace O1 := owns_below O1 hb13
        clear hb13 c12
        go_wp2_with fail
        refine (I _ _ (IR_of_owns o13 rfl)).mono ?_
        rintro e w14 ⟨u14, rfl, o14, hb14⟩
        obtain ⟨a14, c14, rfl, _⟩ := IR_of_owns o14 rfl
        replace hB := below_then hB hb14
        replace X := X.below hb14
        replace S1 := S1.below hb14
        replace G := G.below hb14
        replace O1 := owns_below O1 hb14
        clear hb14 o13
        have hbH := below_alloc w14 (.cells #[.slice a14 0 c14] 25)
        have H14 := Box.new w14 #[.slice a14 0 c14] 25
        replace o14 := owns_below o14 hbH
        replace hB := below_then hB hbH
        replace X := X.below hbH
        replace S1 := S1.below hbH
        replace G := G.below hbH
        replace O1 := owns_below O1 hbH
        have d1 := S1.2.1 0 _ rfl
        have d3 := S1.1
        simp only [World.size_alloc] at d3
        go_wp2_with fail
        refine (eqRun_same _ _ [] _ (IR_of_owns o14 rfl) (IR_of_owns O1 rfl) (by simp)).mono ?_
        rintro e w15 ⟨rfl, hb15⟩
        replace hB := below_then hB hb15
        replace X := X.below hb15
        replace S1 := S1.below hb15
        replace G := G.below hb15
        replace O1 := owns_below O1 hb15
        clear hb15 o14 O1 d1 d3 H14
        have d2 := G.2.1 0 _ rfl
        go_wp2_with fail
        refine (heldRun_at (.slice none 0 0) 0 1 _ (IR_nil _) (by omega) (by omega) (by omega)).mono ?_
        rintro e w16 ⟨rfl, hb16⟩
        have hB16 := below_then hB hb16
        clear hB hb16 d2
        go_wp2
        go_ret
        exact ⟨rfl, hB16⟩
      · simp only [Value.slice.injEq, true_and] at hn0
        obtain ⟨rfl, rfl⟩ := hn0
        clear hh
        have hgb := hlt2 g rfl
        have hgg := hge2 g rfl
        have ML := mkIts_length 1 Z.length
        have M := fun w h => markRun_at g cI (w4.heap.size + 1) Z 1 w h (by omega) (by omega) (by omega)
        have H := fun w h => heldRun_at (.slice (some ⟨g, 0, none⟩) Z.length cI) Z.length 1 w h (by omega) (by omega) (by omega)
        have HI : ∀ w b, w.ownsRow b 83 4 (.slice (some ⟨g, 0, none⟩) Z.length cI) Z.length (flat4 (mkIts 1 Z.length)) → IR w (.slice (some ⟨g, 0, none⟩) Z.length cI) (mkIts 1 Z.length) := fun w b h => IR_of_owns h ML.symm
        clear hge2 hlt2
        go_wp2_with fail
        refine (M _ O2).mono ?_
        rintro e w11 ⟨rfl, q11, hc11⟩
        replace O1 := hc11.owns O1 (fun b hb hh => by have := hlt1 b hb; omega)
        replace X := hc11.box X (by omega)
        replace S1 := hc11.box S1 (by omega)
        replace G := hc11.box G (by omega)
        replace hB := hB.trans (hc11.below (B := w.heap.size) (by omega) (fun b h => by omega))
        clear O2 hc11 M d2
        have d2 := G.2.1 0 _ rfl
        go_wp2_with fail
        refine (H _ (HI _ _ q11)).mono ?_
        rintro e w12 ⟨rfl, hb12⟩
        replace hB := below_then hB hb12
        replace X := X.below hb12
        replace S1 := S1.below hb12
        replace G := G.below hb12
        replace O1 := owns_below O1 hb12
        replace q11 := owns_below q11 hb12
        clear hb12 d2
        have c12 := X.2.1 0 _ rfl
        go_wp2_with fail
        refine (T _ (HV.below hB)).mono ?_
        rintro e w13 ⟨g13, rfl, o13, hb13⟩
        replace hB := below_then hB hb13
        replace X := X.below hb13
        replace S1 := S1.below hb13
        replace G := G.below hb13
        replace O1 := owns_below O1 hb13
        replace q11 := owns_below q11 hb13
        clear hb13 c12
        go_wp2_with fail
        refine (I _ _ (IR_of_owns o13 rfl)).mono ?_
        rintro e w14 ⟨u14, rfl, o14, hb14⟩
        obtain ⟨a14, c14, rfl, _⟩ := IR_of_owns o14 rfl
        replace hB := below_then hB hb14
        replace X := X.below hb14
        replace S1 := S1.below hb14
        replace G := G.below hb14
        replace O1 := owns_below O1 hb14
        replace q11 := owns_below q11 hb14
        clear hb14 o13
        have hbH := below_alloc w14 (.cells #[.slice a14 Z.length c14] 25)
        have H14 := Box.new w14 #[.slice a14 Z.length c14] 25
        replace o14 := owns_below o14 hbH
        replace hB := below_then hB hbH
        replace X := X.below hbH
        replace S1 := S1.below hbH
        replace G := G.below hbH
        replace O1 := owns_below O1 hbH
        replace q11 := owns_below q11 hbH
        have d1 := S1.2.1 0 _ rfl
        have d3 := S1.1
        simp only [World.size_alloc] at d3
        go_wp2_with fail
        refine (eqRun_same _ _ Z _ (IR_of_owns o14 rfl) (IR_of_owns O1 rfl) (by omega)).mono ?_
        rintro e w15 ⟨rfl, hb15⟩
        replace hB := below_then hB hb15
        replace X := X.below hb15
        replace S1 := S1.below hb15
        replace G := G.below hb15
        replace O1 := owns_below O1 hb15
        replace q11 := owns_below q11 hb15
        clear hb15 o14 O1 d1 d3 H14
        have d2 := G.2.1 0 _ rfl
        go_wp2_with fail
        refine (H _ (HI _ _ q11)).mono ?_
        rintro e w16 ⟨rfl, hb16⟩
        have hB16 := below_then hB hb16
        clear hB hb16 q11 H HI d2
        go_wp2
        go_ret
        exact ⟨rfl, hB16⟩
end Go.Proofs.Ytjenogmpmkkbiaa
