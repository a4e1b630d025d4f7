/-
  The walk of FnExactScanAt.
-/
import Derived.Test.YtjenogmpmkkbiaaW8
namespace Go.Proofs.Ytjenogmpmkkbiaa
open Go.RowKit
set_option linter.unusedVariables false
set_option maxRecDepth 100000

set_option maxHeartbeats 8000000 in
theorem lawScanAt (v : Value) (l : List It) (f t : ByteArray) (q : Int) (w : World) (HV : IR w v l) (hn : l.length ≤ maxLen) (hs : ∀ i (h : i < l.length), l[i].k.size ≤ maxLen ∧ l[i].v.size ≤ maxLen) (hfm : f.size ≤ maxLen) (htm : t.size ≤ maxLen) :
    Calls Try.prog 8 #[.agg #[v], .string f, .string t, .int .i64 q] w fun e w' => e = .returned (.bool true) ∧ Below w.heap.size w w' := by
  unfold maxLen at hfm htm
  by_cases hf : (f.size : Int) ≤ 1048576
  rotate_left
  · obtain ⟨a, cap, hve, _⟩ := id HV
    subst hve
    clear HV hs
    go_enter Try.func8, Try.ntmps8
    go_wp2
    go_ret
    exact ⟨rfl, below_alloc _ _⟩
  by_cases ht : (t.size : Int) ≤ 1048576
  rotate_left
  · obtain ⟨a, cap, hve, _⟩ := id HV
    subst hve
    clear HV hs
    go_enter Try.func8, Try.ntmps8
    go_wp2
    go_ret
    exact ⟨rfl, below_alloc _ _⟩
  obtain ⟨a, cap, hve, _⟩ := id HV
  subst hve
  have hB0 := below_alloc w (.cells #[.slice a l.length cap] 65)
  have SZ := szRun_any _ l 1048576 _ (HV.below hB0) (by omega) (by omega) hn hs
  have X0 := Box.new w #[.slice a l.length cap] 65
  clear hs hn
  go_enter Try.func8, Try.ntmps8
  go_wp2_with fail
  refine SZ.mono ?_
  rintro e w1 ⟨⟨r, rfl, hr⟩, hb1⟩
  clear SZ
  have X1 := X0.below hb1
  have hB1 := below_then hB0 hb1
  clear X0 hB0 hb1
  rcases hr with rfl | ⟨hr0, hr1⟩
  · clear X1 HV
    go_wp2
    go_ret
    exact ⟨rfl, hB1⟩
  · have hn : l.length ≤ 1048576 := by omega
    have hs : ∀ i (h : i < l.length), l[i].k.size ≤ 1048576 ∧ l[i].v.size ≤ 1048576 := fun i h => by have := tot4_mem l i h; omega
    clear hr1
    have T := fun w h => toRun_any (.slice a l.length cap) l w h hn
    have S := fun u w h => specScan_any u l f t q w h hn hs (by omega) (by omega)
    have I := fun u w h => implScan_any u l f t q w h hn hs (by omega) (by omega)
    have HL : (scL l f t q).length ≤ 400 := sc_len l f t q
    generalize scL l f t q = Z at *
    generalize scB l f t q = ok at *
    clear hs
    have c1 := X1.2.1 0 _ rfl
    go_wp2_with fail
    refine (T _ (HV.below hB1)).mono ?_
    rintro e w2 ⟨g2, rfl, o2, hb2⟩
    have hB2 := below_then hB1 hb2
    have X2 := X1.below hb2
    have i2 := IR_of_owns o2 rfl
    clear hB1 hb2 o2 X1 c1
    go_wp2_with fail
    refine (S _ _ i2).mono ?_
    rintro e w3 ⟨uS, rfl, O1, hb3⟩
    have hB3 := below_then hB2 hb3
    have X3 := X2.below hb3
    have c3 := X3.2.1 0 _ rfl
    have hlt1 := owns_below_lt O1
    clear hB2 hb3 i2 S X2
    go_wp2_with fail
    refine (T _ (HV.below hB3)).mono ?_
    rintro e w4 ⟨g4, rfl, o4, hb4⟩
    have hB4 := below_then hB3 hb4
    have X4 := X3.below hb4
    replace O1 := owns_below O1 hb4
    have hg4 := owns_lt o4
    have BX := below_alloc w4 (.cells #[.slice (some ⟨g4, 0, none⟩) l.length l.length] 25)
    have i4 := (IR_of_owns o4 rfl).below BX
    have Y4 := Box.new w4 #[.slice (some ⟨g4, 0, none⟩) l.length l.length] 25
    have hz03 := X3.1
    have hz34 := hb4.size
    clear hB3 hb4 X3 c3
    go_wp2_with fail
    refine (I _ _ i4).mono ?_
    rintro e w5 ⟨uI, rfl, O2, hb5⟩
    have hB5' := below_then BX hb5
    have hB5 := below_then hB4 hB5'
    have i5 := i4.below hb5
    have X5 := X4.below hB5'
    have Y5 := Y4.below hb5
    replace O1 := owns_below O1 hB5'
    replace o4 := owns_below o4 hB5'
    simp only [World.size_alloc] at O2
    have hz45 := hB5'.size
    have hge2 := owns_ge O2
    have hlt2 := owns_below_lt O2
    clear hB4 hb5 i4 X4 Y4 hB5' BX
    go_wp2_with fail
    refine (eqPairS_same _ _ Z _ (PR_of_owns O2 rfl) (PR_of_owns O1 rfl) (by omega)).mono ?_
    rintro e w6 ⟨rfl, hb6⟩
    have hB6 := below_then hB5 hb6
    have i6 := i5.below hb6
    have X6 := X5.below hb6
    have Y6 := Y5.below hb6
    replace O1 := owns_below O1 hb6
    replace O2 := owns_below O2 hb6
    replace o4 := owns_below o4 hb6
    have hz56 := hb6.size
    clear hB5 hb6 i5 X5 Y5
    obtain ⟨hz1, p0⟩ : w.heap.size < w6.heap.size ∧ w6.cell? ⟨w.heap.size, 0, none⟩ = some (.slice a l.length cap) := ⟨X6.1, X6.2.1 0 _ rfl⟩
    obtain ⟨hz2, q0⟩ : w4.heap.size < w6.heap.size ∧ w6.cell? ⟨w4.heap.size, 0, none⟩ = some (.slice (some ⟨g4, 0, none⟩) l.length l.length) := ⟨Y6.1, Y6.2.1 0 _ rfl⟩
    have hv6 := HV.below hB6
    cases ok
    all_goals
      go_wp2_with fail
      go_region_held3 (fun w' => w'.cell? ⟨w.heap.size, 0, none⟩ = some (.slice a l.length cap) ∧ w'.cell? ⟨w4.heap.size, 0, none⟩ = some (.slice (some ⟨g4, 0, none⟩) l.length l.length)) (go_keep) (first | (go_at_call 41; refine (T _ (hv6.below (Below.refl _ _).drew)).mono ?_; rintro e w7 ⟨g7, rfl, o7, hb7'⟩; have hb7 := below_undrew hb7'; have p0 := (X6.below hb7).2.1 0 _ rfl; have q0 := (Y6.below hb7).2.1 0 _ rfl) | (go_at_call 30; refine (eqRun_same _ _ l _ (i6.below hb7) (IR_of_owns o7 rfl) hn).mono ?_; rintro e w8 ⟨rfl, hb8⟩; have p0 := ((X6.below hb7).below hb8).2.1 0 _ rfl; have q0 := ((Y6.below hb7).below hb8).2.1 0 _ rfl))
      all_goals
        have hb68 := below_then hb7 hb8
        have hB8 := below_then hB6 hb68
        have X8 := X6.below hb68
        have P1 := owns_below O1 hb68
        have P2 := owns_below O2 hb68
        have P4 := owns_below o4 hb68
        have hz68 := hb68.size
        clear hb7' hb7 hb8 hb68 O1 O2 o4 X6 Y6 hv6 i6 hB6 o7
        go_wp2_with fail
        refine (markRun_at g4 l.length _ l 1 _ P4 hn (by omega) (by omega)).mono ?_
        rintro e w9 ⟨rfl, _, hc9⟩
        have Q1 := hc9.owns P1 (fun b hb hh => by have := hlt1 b hb; omega)
        have Q2 := hc9.owns P2 (fun b hb hh => by have := hge2 b hb; have := hlt2 b hb; omega)
        have X9 := hc9.box X8 (by omega)
        have hB9 := hB8.trans (hc9.below (B := w.heap.size) (by omega) (fun b h => by omega))
        have hz89 := hc9.size
        clear P1 P2 P4 hB8 hc9 X8 p0 q0
        go_wp2_with fail
        refine (eqPairS_same _ _ Z _ (PR_of_owns Q2 rfl) (PR_of_owns Q1 rfl) (by omega)).mono ?_
        rintro e w10 ⟨rfl, hb10⟩
        have hB10 := below_then hB9 hb10
        have X10 := X9.below hb10
        replace Q1 := owns_below Q1 hb10
        replace Q2 := owns_below Q2 hb10
        have hz10 := hb10.size
        clear hB9 hb10 X9
        rcases Q2.2 with ⟨rfl, h0⟩ | ⟨g, cp, cur, rfl, hbg, hh, _⟩
        · obtain rfl : Z = [] := List.eq_nil_of_length_eq_zero h0
          clear Q2 h0 hge2 hlt2
          go_wp2_with fail
          refine (markPairS_nil 1 _ (by omega) (by omega)).mono ?_
          rintro e w11 ⟨rfl, hm11⟩
          have hb11 : Below w10.heap.size w10 w11 := by rw [hm11]; exact Below.refl _ _
          clear hm11
          have hB11 := below_then hB10 hb11
          have X11 := X10.below hb11
          replace Q1 := owns_below Q1 hb11
          clear hB10 X10 hb11
          go_wp2_with fail
          refine (heldPairS_at (.slice none 0 0) 0 1 _ (PR_nil _) (by omega) (by omega) (by omega)).mono ?_
          rintro e w12 ⟨rfl, hb12⟩
          have hB12 := below_then hB11 hb12
          have X12 := X11.below hb12
          replace Q1 := owns_below Q1 hb12
          have c12 := X12.2.1 0 _ rfl
          clear hB11 X11 hb12
          go_wp2_with fail
          refine (T _ (HV.below hB12)).mono ?_
          rintro e w13 ⟨g13, rfl, o13, hb13⟩
          have hB13 := below_then hB12 hb13
          replace Q1 := owns_below Q1 hb13
          clear hB12 hb13 X12 c12
          go_wp2_with fail
          refine (I _ _ (IR_of_owns o13 rfl)).mono ?_
          rintro e w14 ⟨u14, rfl, o14, hb14⟩
          have hB14 := below_then hB13 hb14
          replace Q1 := owns_below Q1 hb14
          clear hB13 hb14 o13
          go_wp2_with fail
          refine (eqPairS_same _ _ [] _ (PR_of_owns o14 rfl) (PR_of_owns Q1 rfl) (by simp)).mono ?_
          rintro e w15 ⟨rfl, hb15⟩
          have hB15 := below_then hB14 hb15
          clear hB14 hb15 o14 Q1
          go_wp2_with fail
          refine (heldPairS_at (.slice none 0 0) 0 1 _ (PR_nil _) (by omega) (by omega) (by omega)).mono ?_
          rintro e w16 ⟨rfl, hb16⟩
          have hB16 := below_then hB15 hb16
          clear hB15 hb16
          go_wp2
          go_ret
          exact ⟨rfl, hB16⟩
        · clear hh
          have hgb := hlt2 g rfl
          have hgg := hge2 g rfl
          have ML := mkPrs_length 1 Z.length
          have M := fun w h => markPairS_at g cp (w4.heap.size + 1) Z 1 w h (by omega) (by omega) (by omega)
          have H := fun w h => heldPairS_at (.slice (some ⟨g, 0, none⟩) Z.length cp) Z.length 1 w h (by omega) (by omega) (by omega)
          have HI : ∀ w b, w.ownsRow b 45 2 (.slice (some ⟨g, 0, none⟩) Z.length cp) Z.length (flat2 (mkPrs 1 Z.length)) → PR w (.slice (some ⟨g, 0, none⟩) Z.length cp) (mkPrs 1 Z.length) := fun w b h => PR_of_owns h ML.symm
          clear hge2 hlt2
          go_wp2_with fail
          refine (M _ Q2).mono ?_
          rintro e w11 ⟨rfl, q11, hc11⟩
          have R1 := hc11.owns Q1 (fun b hb hh => by have := hlt1 b hb; omega)
          have X11 := hc11.box X10 (by omega)
          have hB11 := hB10.trans (hc11.below (B := w.heap.size) (by omega) (fun b h => by omega))
          clear Q1 Q2 hc11 X10 hB10 M
          go_wp2_with fail
          refine (H _ (HI _ _ q11)).mono ?_
          rintro e w12 ⟨rfl, hb12⟩
          have hB12 := below_then hB11 hb12
          have X12 := X11.below hb12
          replace R1 := owns_below R1 hb12
          replace q11 := owns_below q11 hb12
          have c12 := X12.2.1 0 _ rfl
          clear hB11 X11 hb12
          go_wp2_with fail
          refine (T _ (HV.below hB12)).mono ?_
          rintro e w13 ⟨g13, rfl, o13, hb13⟩
          have hB13 := below_then hB12 hb13
          replace R1 := owns_below R1 hb13
          replace q11 := owns_below q11 hb13
          clear hB12 hb13 X12 c12
          go_wp2_with fail
          refine (I _ _ (IR_of_owns o13 rfl)).mono ?_
          rintro e w14 ⟨u14, rfl, o14, hb14⟩
          have hB14 := below_then hB13 hb14
          replace R1 := owns_below R1 hb14
          replace q11 := owns_below q11 hb14
          clear hB13 hb14 o13
          go_wp2_with fail
          refine (eqPairS_same _ _ Z _ (PR_of_owns o14 rfl) (PR_of_owns R1 rfl) (by omega)).mono ?_
          rintro e w15 ⟨rfl, hb15⟩
          have hB15 := below_then hB14 hb15
          replace q11 := owns_below q11 hb15
          clear hB14 hb15 o14 R1
          go_wp2_with fail
          refine (H _ (HI _ _ q11)).mono ?_
          rintro e w16 ⟨rfl, hb16⟩
          have hB16 := below_then hB15 hb16
          clear hB15 hb16 q11 H HI
          go_wp2
          go_ret
          exact ⟨rfl, hB16⟩

end Go.Proofs.Ytjenogmpmkkbiaa
