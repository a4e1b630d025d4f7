/-
  The walk of the law laws.FnExactPlayDisk.
-/
import Derived.Test.YtbgemebpfcbloaaU7
import Derived.Test.YtbgemebpfcbloaaU8
namespace Go.Proofs.Ytbgemebpfcbloaa
open Go.RowKit Go.Maps
set_option linter.unusedVariables false
set_option maxRecDepth 100000

theorem p_len (r : Int) (l : List St) : (pD r l).1.length ≤ 1000 ∧ (pD r l).2.1.length ≤ 1000 ∧ (pD r l).2.2.length ≤ 1000 ∧ (pC r l).length ≤ 1000 := by
  cases h : pOk r l with
  | false => simp [pD, pC, h]
  | true =>
    have hk := h
    simp only [pOk, Bool.and_eq_true, decide_eq_true_eq] at hk
    obtain ⟨⟨r0, r1⟩, hl⟩ := hk
    obtain ⟨_, G2, G3, G4, _, _⟩ := (goodD_iff _ _ _ _).1 (plD_good r0 r1 l)
    have h3 := ((okNs_iff _ _).1 G3).2.2
    have h4 := ((okNs_iff _ _).1 G4).2.2
    simp only [pD, pC, h, if_true, plC_length]
    exact ⟨by omega, by omega, by omega, by omega⟩
theorem IL.chg {S : Nat → Prop} {w w' : World} {base n : Nat} {v : Value} {zs : List Int} (h : w.ownsRow base 3 1 v n (zs.map (.int .i64))) (hn : n = zs.length) (hc : Chg S w w') (hs : ∀ g, v.ownBlock = some g → ¬ S g) : IL w' v zs := IL_of_owns (hc.owns h hs) hn

set_option maxHeartbeats 8000000 in
theorem lawPlay_any (r : Int) (v : Value) (l : List St) (w : World) (hv : FL w v l) (hn : l.length ≤ maxLen) (hs : ∀ i (h : i < l.length), l[i].nm.size ≤ maxLen ∧ l[i].ot.size ≤ maxLen ∧ l[i].da.size ≤ maxLen) :
    Calls Try.prog 7 #[.int .i64 r, v] w fun e w' => e = .returned (.bool true) ∧ Below w.heap.size w w' := by
  go_enter Try.func7, Try.ntmps7
  go_wp2_with fail
  refine (szDiskStepS_any _ l _ _ hv (by omega) (by omega) hn hs).mono ?_
  rintro e w1 ⟨⟨q, rfl, hq⟩, hb1⟩
  rcases hq with rfl | ⟨hq0, hqe⟩
  · go_wp2
    go_ret
    exact ⟨rfl, hb1⟩
  have hB := hb1
  have hl : l.length ≤ 1048576 := by omega
  have hz : ∀ i (h : i < l.length), l[i].nm.size ≤ 1048576 ∧ l[i].ot.size ≤ 1048576 ∧ l[i].da.size ≤ 1048576 := fun i h => by have := tot5_mem l i h; omega
  have KS := fun v w hv => specPlay_any r v l w hv hl hz
  have KI := fun v w hv => implPlay_any r v l w hv hl hz
  obtain ⟨LB, LL, LS, LC⟩ := p_len r l
  clear hqe hs hn hb1
  generalize pD r l = DD at *
  generalize pC r l = CC at *
  generalize pR r l = RR at *
  generalize pOk r l = ok at *
  go_wp2_with fail
  refine (toDiskStepS_any _ l _ (hv.below hB) hl).mono ?_
  rintro e w2 ⟨rfl, o2, hb2⟩
  replace hB := below_then hB hb2
  have f2 := FL_of_owns o2
  have z2 := hb2.size
  clear o2 hb2
  go_wp2_with fail
  refine (KS _ _ f2).mono ?_
  rintro e w3 ⟨⟨y1, y2, y3, cs, rfl, M3, O3⟩, hb3⟩
  obtain ⟨a1, c1, a2, c2, a3, c3, rfl, rfl, rfl⟩ := M3.shape
  obtain ⟨a4, c4, rfl⟩ := owns_shape O3
  replace hB := below_then hB hb3
  have z3 := hb3.size
  have z0 : w.heap.size ≤ w3.heap.size := hB.size
  have G := got_new (B := w2.heap.size) (r := RR) M3 (Nat.le_refl _) z3
  have A3 := below_alloc w3 (.cells #[.slice a1 DD.1.length c1, .slice a2 DD.2.1.length c2, .slice a3 DD.2.2.length c3, .int .i64 RR] 26)
  have OG := owns_below O3 A3
  replace hB := below_then hB A3
  have zz3 : w3.heap.size + 1 ≤ (w3.alloc (.cells #[.slice a1 DD.1.length c1, .slice a2 DD.2.1.length c2, .slice a3 DD.2.2.length c3, .int .i64 RR] 26)).heap.size := by simp
  have GH : ∀ g, (Value.slice a1 DD.1.length c1).ownBlock = some g ∨ (Value.slice a2 DD.2.1.length c2).ownBlock = some g ∨ (Value.slice a3 DD.2.2.length c3).ownBlock = some g ∨ g = w3.heap.size → g < w3.heap.size + 1 := by
    intro g h
    rcases h with h | h | h | h
    · have := owns_hi M3.1 g h; omega
    · have := owns_hi M3.2.1 g h; omega
    · have := owns_hi M3.2.2.1 g h; omega
    · omega
  have OH : ∀ g, (Value.slice a4 CC.length c4).ownBlock = some g → g < w3.heap.size + 1 := by intro g h; have := owns_hi O3 g h; omega
  clear M3 O3 hb3 A3 f2
  go_wp2_with fail
  generalize w3.alloc (.cells #[.slice a1 DD.1.length c1, .slice a2 DD.2.1.length c2, .slice a3 DD.2.2.length c3, .int .i64 RR] 26) = W3 at *
  refine (toDiskStepS_any _ l _ (hv.below hB) hl).mono ?_
  rintro e w4 ⟨rfl, X, hb4⟩
  have z4 := hb4.size
  have hx4 := (owns_lt X).2
  replace G := G.below hb4
  replace OG := owns_below OG hb4
  replace hB := below_then hB hb4
  clear hb4
  go_wp2_with fail
  refine (KI _ _ (FL_of_owns X)).mono ?_
  rintro e w5 ⟨⟨y1, y2, y3, cs, rfl, M5, O5⟩, hb5⟩
  obtain ⟨a1', c1', a2', c2', a3', c3', rfl, rfl, rfl⟩ := M5.shape
  obtain ⟨a4', c4', rfl⟩ := owns_shape O5
  have z5 := hb5.size
  have H := got_new (B := w4.heap.size) (r := RR) M5 (Nat.le_refl _) z5
  have A5 := below_alloc w5 (.cells #[.slice a1' DD.1.length c1', .slice a2' DD.2.1.length c2', .slice a3' DD.2.2.length c3', .int .i64 RR] 26)
  have OI := owns_below O5 A5
  have HH : ∀ g, (Value.slice a1' DD.1.length c1').ownBlock = some g ∨ (Value.slice a2' DD.2.1.length c2').ownBlock = some g ∨ (Value.slice a3' DD.2.2.length c3').ownBlock = some g → w4.heap.size ≤ g ∧ g ≠ w5.heap.size := by
    intro g h
    refine ⟨?_, H.apart g h⟩
    rcases h with h | h | h
    · exact owns_ge M5.1 g h
    · exact owns_ge M5.2.1 g h
    · exact owns_ge M5.2.2.1 g h
  have IH : ∀ g, (Value.slice a4' CC.length c4').ownBlock = some g → w4.heap.size ≤ g ∧ g < w5.heap.size := by intro g h; exact ⟨owns_ge O5 g h, owns_hi O5 g h⟩
  have N1 := rows_ne O5 M5.1 (by decide)
  have N2 := rows_ne O5 M5.2.1 (by decide)
  have N3 := rows_ne O5 M5.2.2.1 (by decide)
  clear M5 O5
  have T5 := below_then hb5 A5
  clear hb5 A5
  replace G := G.below T5
  replace OG := owns_below OG T5
  replace X := owns_below X T5
  replace hB := below_then hB T5
  clear T5
  obtain ⟨_, d0, d1, d2, d3⟩ := G.box.c4
  obtain ⟨_, i0, i1, i2, i3⟩ := H.box.c4
  go_wp2_with fail
  generalize w5.alloc (.cells #[.slice a1' DD.1.length c1', .slice a2' DD.2.1.length c2', .slice a3' DD.2.2.length c3', .int .i64 RR] 26) = W5 at *
  refine (eqDisk_same _ _ _ _ _ _ DD.1 DD.2.1 DD.2.2 RR _ (PL_of_owns H.made.1) (PL_of_owns G.made.1) (PL_of_owns H.made.2.1) (PL_of_owns G.made.2.1) (PL_of_owns H.made.2.2.1) (PL_of_owns G.made.2.2.1) (by omega) (by omega) (by omega)).mono ?_
  rintro e w6 ⟨rfl, hb6⟩
  clear d0 d1 d2 d3
  clear i0 i1 i2 i3
  replace G := G.below hb6
  replace OG := owns_below OG hb6
  replace X := owns_below X hb6
  replace H := H.below hb6
  replace OI := owns_below OI hb6
  replace hB := below_then hB hb6
  clear hb6
  go_wp2_with fail
  refine (eqIntS_same _ _ CC _ (IL_of_owns OI rfl) (IL_of_owns OG rfl) (by omega)).mono ?_
  rintro e w7 ⟨rfl, hb7⟩
  replace G := G.below hb7
  replace OG := owns_below OG hb7
  replace X := owns_below X hb7
  replace H := H.below hb7
  replace OI := owns_below OI hb7
  replace hB := below_then hB hb7
  clear hb7
  go_wp2_with fail
  refine (toDiskStepS_any _ l _ (hv.below hB) hl).mono ?_
  rintro e w8 ⟨rfl, t1, hb8⟩
  replace G := G.below hb8
  replace OG := owns_below OG hb8
  replace X := owns_below X hb8
  replace H := H.below hb8
  replace OI := owns_below OI hb8
  replace hB := below_then hB hb8
  clear hb8
  go_wp2_with fail
  refine (eqDiskStepS_same _ _ l _ (FL_of_owns X) (FL_of_owns t1) hl).mono ?_
  rintro e w9 ⟨rfl, hb9⟩
  clear t1
  replace G := G.below hb9
  replace OG := owns_below OG hb9
  replace X := owns_below X hb9
  replace H := H.below hb9
  replace OI := owns_below OI hb9
  replace hB := below_then hB hb9
  clear hb9
  go_wp2_with fail
  refine (markDiskStepS_at _ _ _ l.length _ 1 _ X hl (by omega) (by omega)).mono ?_
  rintro e w10 ⟨rfl, hc⟩
  have zB := hB.size
  replace G := G.chgAt hc (fun g hg h => by have := GH g hg; omega)
  replace OG := hc.owns OG (fun g hg h => by have := OH g hg; omega)
  replace H := H.chg hc (fun g hg h => by omega)
  replace OI := hc.owns OI (fun g hg h => by have := IH g hg; omega)
  replace hB := hB.trans (hc.below (B := w.heap.size) zB (fun b h => by omega))
  clear hc X
  have e9 : decide (1 + 5 * (l.length : Int) < 0) = false := by simp; omega
  have e9x : ¬ (1 + 5 * (l.length : Int) < 0) := by omega
  generalize (1 + 5 * (l.length : Int)) = kk at *
  obtain ⟨_, d0, d1, d2, d3⟩ := G.box.c4
  obtain ⟨_, i0, i1, i2, i3⟩ := H.box.c4
  go_wp2_with fail
  refine (eqDisk_same _ _ _ _ _ _ DD.1 DD.2.1 DD.2.2 RR _ (PL_of_owns H.made.1) (PL_of_owns G.made.1) (PL_of_owns H.made.2.1) (PL_of_owns G.made.2.1) (PL_of_owns H.made.2.2.1) (PL_of_owns G.made.2.2.1) (by omega) (by omega) (by omega)).mono ?_
  rintro e w11 ⟨rfl, hb11⟩
  clear d0 d1 d2 d3
  clear i0 i1 i2 i3
  replace G := G.below hb11
  replace OG := owns_below OG hb11
  replace H := H.below hb11
  replace OI := owns_below OI hb11
  replace hB := below_then hB hb11
  clear hb11
  go_wp2_with fail
  refine (eqIntS_same _ _ CC _ (IL_of_owns OI rfl) (IL_of_owns OG rfl) (by omega)).mono ?_
  rintro e w12 ⟨rfl, hb12⟩
  replace G := G.below hb12
  replace OG := owns_below OG hb12
  replace H := H.below hb12
  replace OI := owns_below OI hb12
  replace hB := below_then hB hb12
  clear hb12
  obtain ⟨_, i0, i1, i2, i3⟩ := H.box.c4
  go_wp2_with fail
  refine (markDisk_own _ _ _ w4.heap.size w4.heap.size w4.heap.size DD.1 DD.2.1 DD.2.2 _ _ _ H.made.1 H.made.2.1 H.made.2.2.1 H.made.2.2.2.1 H.made.2.2.2.2.1 H.made.2.2.2.2.2 (by omega) (by omega) (by omega) (by omega) (by omega)).mono ?_
  rintro e w13 ⟨rfl, k1, k2, k3, hc⟩
  clear i0 i1 i2 i3
  have zB2 := hB.size
  replace G := G.chgAt hc (fun g hg h => by have := GH g hg; have := (HH g h).1; omega)
  replace OG := hc.owns OG (fun g hg h => by have := OH g hg; have := (HH g h).1; omega)
  replace OI := hc.owns OI (fun g hg h => by rcases h with h | h | h; exact N1 g hg h; exact N2 g hg h; exact N3 g hg h)
  have I := hc.box H.box (fun h => (HH _ h).2 rfl)
  replace hB := hB.trans (hc.below (B := w.heap.size) zB2 (fun b h => by have := (HH b h).1; omega))
  clear hc H
  go_wp2_with fail
  refine (markIntS_own _ w4.heap.size CC.length _ (1 + 2 * DD.1.length + 2 * DD.2.1.length + 2 * DD.2.2.length) _ OI (by omega) (by omega) (by omega)).mono ?_
  rintro e w14 ⟨rfl, kI, hc⟩
  have zB3 := hB.size
  replace G := G.chgAt hc (fun g hg h => by have := GH g hg; have := (IH g h).1; omega)
  replace OG := hc.owns OG (fun g hg h => by have := OH g hg; have := (IH g h).1; omega)
  replace I := hc.box I (fun h => by have := (IH _ h).2; omega)
  replace k1 := hc.owns k1 (fun g hg h => N1 g h hg)
  replace k2 := hc.owns k2 (fun g hg h => N2 g h hg)
  replace k3 := hc.owns k3 (fun g hg h => N3 g h hg)
  replace hB := hB.trans (hc.below (B := w.heap.size) zB3 (fun b h => by have := (IH b h).1; omega))
  clear hc OI
  have P1 : PL w14 (.slice a1' DD.1.length c1') (mkAll 1 DD.1.length) := PL_of_owns (l := mkAll 1 DD.1.length) (by rw [mkAll_length]; exact k1)
  have P2 : PL w14 (.slice a2' DD.2.1.length c2') (mkAll (1 + 2 * DD.1.length) DD.2.1.length) := PL_of_owns (l := mkAll (1 + 2 * DD.1.length) DD.2.1.length) (by rw [mkAll_length]; exact k2)
  have P3 : PL w14 (.slice a3' DD.2.2.length c3') (mkAll (1 + 2 * DD.1.length + 2 * DD.2.1.length) DD.2.2.length) := PL_of_owns (l := mkAll (1 + 2 * DD.1.length + 2 * DD.2.1.length) DD.2.2.length) (by rw [mkAll_length]; exact k3)
  have P4 : IL w14 (.slice a4' CC.length c4') (mkZ (1 + 2 * DD.1.length + 2 * DD.2.1.length + 2 * DD.2.2.length) CC.length) := IL_of_owns (by rw [← mkI_eq]; exact kI) (by rw [mkZ_length])
  clear k1 k2 k3 kI N1 N2 N3 HH IH
  have e1 : ¬ (1 + 2 * (DD.1.length : Int) + 2 * DD.2.1.length + 2 * DD.2.2.length < 0) := by omega
  have e1' : decide (1 + 2 * (DD.1.length : Int) + 2 * DD.2.1.length + 2 * DD.2.2.length < 0) = false := by simp; omega
  have e2 : ¬ (1 + 2 * (DD.1.length : Int) + 2 * DD.2.1.length + 2 * DD.2.2.length + CC.length < 0) := by omega
  have e2' : decide (1 + 2 * (DD.1.length : Int) + 2 * DD.2.1.length + 2 * DD.2.2.length + CC.length < 0) = false := by simp; omega
  obtain ⟨_, i0, i1, i2, i3⟩ := I.c4
  go_wp2_with fail
  refine (heldDisk_any _ _ _ DD.1.length DD.2.1.length DD.2.2.length _ 1 _ P1 P2 P3 LB LL LS (by omega) (by omega)).mono ?_
  rintro e w15 ⟨rfl, hb15⟩
  clear i0 i1 i2 i3
  replace G := G.below hb15
  replace OG := owns_below OG hb15
  replace I := I.below hb15
  replace P1 := P1.below hb15
  replace P2 := P2.below hb15
  replace P3 := P3.below hb15
  replace P4 := P4.below hb15
  replace hB := below_then hB hb15
  clear hb15
  go_wp2_with fail
  refine (heldIntS_any _ CC.length _ _ P4 (by omega) (by omega) (by omega)).mono ?_
  rintro e w16 ⟨rfl, hw⟩
  rw [hw]
  clear hw
  go_wp2_with fail
  refine (toDiskStepS_any _ l _ (hv.below hB) hl).mono ?_
  rintro e w17 ⟨rfl, t1, hb17⟩
  replace G := G.below hb17
  replace OG := owns_below OG hb17
  replace I := I.below hb17
  replace P1 := P1.below hb17
  replace P2 := P2.below hb17
  replace P3 := P3.below hb17
  replace P4 := P4.below hb17
  replace hB := below_then hB hb17
  clear hb17
  go_wp2_with fail
  refine (KI _ _ (FL_of_owns t1)).mono ?_
  rintro e w18 ⟨⟨y1, y2, y3, cs, rfl, M9, O9⟩, hb18⟩
  obtain ⟨s1, q1, s2, q2, s3, q3, rfl, rfl, rfl⟩ := M9.shape
  obtain ⟨s4, q4, rfl⟩ := owns_shape O9
  have z9 := hb18.size
  have H := got_new (B := w17.heap.size) (r := RR) M9 (Nat.le_refl _) z9
  have A9 := below_alloc w18 (.cells #[.slice s1 DD.1.length q1, .slice s2 DD.2.1.length q2, .slice s3 DD.2.2.length q3, .int .i64 RR] 26)
  have OI := owns_below O9 A9
  have T9 := below_then hb18 A9
  clear M9 O9 hb18 A9 t1
  replace G := G.below T9
  replace OG := owns_below OG T9
  replace I := I.below T9
  replace P1 := P1.below T9
  replace P2 := P2.below T9
  replace P3 := P3.below T9
  replace P4 := P4.below T9
  replace hB := below_then hB T9
  clear T9
  obtain ⟨_, d0, d1, d2, d3⟩ := G.box.c4
  obtain ⟨_, i0, i1, i2, i3⟩ := H.box.c4
  go_wp2_with fail
  generalize w18.alloc (.cells #[.slice s1 DD.1.length q1, .slice s2 DD.2.1.length q2, .slice s3 DD.2.2.length q3, .int .i64 RR] 26) = W9 at *
  refine (eqDisk_same _ _ _ _ _ _ DD.1 DD.2.1 DD.2.2 RR _ (PL_of_owns H.made.1) (PL_of_owns G.made.1) (PL_of_owns H.made.2.1) (PL_of_owns G.made.2.1) (PL_of_owns H.made.2.2.1) (PL_of_owns G.made.2.2.1) (by omega) (by omega) (by omega)).mono ?_
  rintro e w19 ⟨rfl, hb19⟩
  clear d0 d1 d2 d3
  clear i0 i1 i2 i3
  replace G := G.below hb19
  replace OG := owns_below OG hb19
  replace I := I.below hb19
  replace P1 := P1.below hb19
  replace P2 := P2.below hb19
  replace P3 := P3.below hb19
  replace P4 := P4.below hb19
  replace H := H.below hb19
  replace OI := owns_below OI hb19
  replace hB := below_then hB hb19
  clear hb19
  go_wp2_with fail
  refine (eqIntS_same _ _ CC _ (IL_of_owns OI rfl) (IL_of_owns OG rfl) (by omega)).mono ?_
  rintro e w20 ⟨rfl, hb20⟩
  replace G := G.below hb20
  replace OG := owns_below OG hb20
  replace I := I.below hb20
  replace P1 := P1.below hb20
  replace P2 := P2.below hb20
  replace P3 := P3.below hb20
  replace P4 := P4.below hb20
  replace H := H.below hb20
  replace OI := owns_below OI hb20
  replace hB := below_then hB hb20
  clear hb20
  clear H OI
  obtain ⟨_, i0, i1, i2, i3⟩ := I.c4
  go_wp2_with fail
  refine (heldDisk_any _ _ _ DD.1.length DD.2.1.length DD.2.2.length _ 1 _ P1 P2 P3 LB LL LS (by omega) (by omega)).mono ?_
  rintro e w21 ⟨rfl, hb21⟩
  clear i0 i1 i2 i3
  replace G := G.below hb21
  replace OG := owns_below OG hb21
  replace I := I.below hb21
  replace P1 := P1.below hb21
  replace P2 := P2.below hb21
  replace P3 := P3.below hb21
  replace P4 := P4.below hb21
  replace hB := below_then hB hb21
  clear hb21
  go_wp2_with fail
  refine (heldIntS_any _ CC.length _ _ P4 (by omega) (by omega) (by omega)).mono ?_
  rintro e w22 ⟨rfl, hw⟩
  rw [hw]
  clear hw
  go_wp2
  go_ret
  exact ⟨rfl, hB⟩
end Go.Proofs.Ytbgemebpfcbloaa
