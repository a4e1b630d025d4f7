/-
  The walk of FnExactNewTaking.
-/
import Derived.Test.YtocaigffikdlhaaX6
import Derived.Test.YtocaigffikdlhaaLWantOf
namespace Go.Proofs.Ytocaigffikdlhaa
open Go.RowKit Go.Maps
set_option linter.unusedVariables false
set_option maxRecDepth 100000

theorem gwR_len (W : List Wt) : (gwR W).length ≤ 1000 := by
  unfold gwR
  cases h : gwB W with
  | false => simp
  | true => have := ((gwB_iff W).1 h).1; simp; omega
set_option maxHeartbeats 8000000 in
theorem law8 (v : Value) (L : List Wt) (w : World) (hv : WR w v L) (hn0 : L.length ≤ maxLen) :
    Calls Try.prog 8 #[v] w fun e w' => e = .returned (.bool true) ∧ Below w.heap.size w w' := by
  have SZ := szWantedS_any v L 1048576 w hv (by omega) (by omega) hn0
  have HV := fun W (hb : Below w.heap.size w W) => hv.below hb
  obtain ⟨a, cap, rfl, _⟩ := hv
  clear hn0
  have R1 := fun w b => run_neq_bool_same5 w b
  go_enter Try.func8, Try.ntmps8
  go_wp2_with fail
  refine SZ.mono ?_
  rintro e w0 ⟨⟨r, rfl, hr⟩, hw0⟩
  have hB : Below w.heap.size w w0 := by rw [hw0]; exact Below.refl _ _
  have hz0 := hB.size
  clear SZ hw0
  rcases hr with rfl | ⟨hr0, hr1⟩
  · go_wp2
    go_ret
    exact ⟨rfl, hB⟩
  · have hn : L.length ≤ 1048576 := by omega
    clear hr1
    have T := fun W hb => toWantedS_any _ L W (HV W hb) hn
    have S := fun u W h => specNew_any u L W h hn
    have I := fun u W h hu => implNew_any u L W h hu hn
    have HL : (gwR L).length ≤ 1000 := gwR_len L
    obtain ⟨Z2, HZ2⟩ : ∃ Z2 : List Ck, Z2 = [] := ⟨_, rfl⟩
    rw [← HZ2] at S I
    have HL2 : Z2.length ≤ 1000 := by rw [HZ2]; simp
    clear HZ2
    have HML : Hid ((mkWs 1 (gwR L).length).length = (gwR L).length) := mkWs_length _ _
    generalize gwR L = Z at *
    generalize gwB L = ok at *
    clear HV
    go_wp2_with fail
    refine (T _ hB).mono ?_
    rintro e w1 ⟨rfl, o1, hb1⟩
    replace hB := below_then hB hb1
    have hz1 := hb1.size
    clear hb1
    go_wp2_with fail
    refine (S _ _ (WR_of_owns o1 rfl)).mono ?_
    rintro e w2 ⟨a0, c0, rfl, O0, hb2⟩
    replace hB := below_then hB hb2
    replace o1 := owns_below o1 hb2
    have hz2 := hb2.size
    clear hb2
    have hl0 := O0.lt
    clear o1
    obtain ⟨⟨sa, sb, rfl⟩, sc, sd, rfl⟩ := O0.shapes
    have bx2 := below_alloc w2 (.cells #[.slice sa Z.length sb, .slice sc Z2.length sd] 41)
    replace hB := below_then hB bx2
    replace O0 := O0.below bx2
    have X0 := Box.new w2 #[.slice sa Z.length sb, .slice sc Z2.length sd] 41
    clear bx2
    go_wp2_with fail
    refine (T _ hB).mono ?_
    rintro e w3 ⟨rfl, x0, hb3⟩
    replace hB := below_then hB hb3
    replace O0 := O0.below hb3
    replace X0 := X0.below hb3
    have hz3 := hb3.size
    clear hb3
    simp only [World.size_alloc] at x0 hz3
    have hx0 := (owns_lt x0).2
    go_wp2_with fail
    refine (I _ _ (WR_of_owns x0 rfl) (Nn.own x0)).mono ?_
    rintro e w4 ⟨a1, c1, rfl, G0, hb4⟩
    replace hB := below_then hB hb4
    replace O0 := O0.below hb4
    replace X0 := X0.below hb4
    replace x0 := owns_below x0 hb4
    have hz4 := hb4.size
    clear hb4
    have hg0 := G0.ge
    have hg1 := G0.lt
    obtain ⟨⟨ta, tb, rfl⟩, tc, td, rfl⟩ := G0.shapes
    have bx4 := below_alloc w4 (.cells #[.slice ta Z.length tb, .slice tc Z2.length td] 41)
    replace hB := below_then hB bx4
    replace O0 := O0.below bx4
    replace X0 := X0.below bx4
    replace x0 := owns_below x0 bx4
    replace G0 := G0.below bx4
    have Y0 := Box.new w4 #[.slice ta Z.length tb, .slice tc Z2.length td] 41
    clear bx4
    obtain ⟨_, q0, q1⟩ := X0.c2
    obtain ⟨_, r0, r1⟩ := Y0.c2
    go_wp2_with fail
    refine (eqTaking_same _ _ _ _ Z Z2 _ G0.tr O0.tr (by omega) (by omega)).mono ?_
    rintro e w5 ⟨rfl, hb5⟩
    replace hB := below_then hB hb5
    replace O0 := O0.below hb5
    replace X0 := X0.below hb5
    replace x0 := owns_below x0 hb5
    replace G0 := G0.below hb5
    replace Y0 := Y0.below hb5
    have hz5 := hb5.size
    clear hb5
    simp only [World.size_alloc] at hz5
    clear q0 q1 r0 r1
    go_wp2_with fail
    refine (T _ hB).mono ?_
    rintro e w6 ⟨rfl, o5, hb6⟩
    replace hB := below_then hB hb6
    replace O0 := O0.below hb6
    replace X0 := X0.below hb6
    replace x0 := owns_below x0 hb6
    replace G0 := G0.below hb6
    replace Y0 := Y0.below hb6
    have hz6 := hb6.size
    clear hb6
    go_wp2_with fail
    refine (eqWantedS_same _ _ L _ (WR_of_owns x0 rfl) (WR_of_owns o5 rfl) hn).mono ?_
    rintro e w7 ⟨rfl, hb7⟩
    replace hB := below_then hB hb7
    replace O0 := O0.below hb7
    replace X0 := X0.below hb7
    replace x0 := owns_below x0 hb7
    replace G0 := G0.below hb7
    replace Y0 := Y0.below hb7
    replace o5 := owns_below o5 hb7
    have hz7 := hb7.size
    clear hb7
    clear o5
    go_wp2_with fail
    refine (markWantedS_at _ _ _ L 1 _ x0 hn (by omega) (by omega)).mono ?_
    rintro e w8 ⟨rfl, _, hc8⟩
    replace hB := hB.trans (hc8.below (B := w.heap.size) (by omega) (fun b h => by omega))
    replace O0 := O0.chg hc8 (fun b hb hh => by have := hl0 b hb; omega)
    replace X0 := hc8.box X0 (by omega)
    replace G0 := G0.chg hc8 (fun b hb hh => by have := hg0 b hb; omega)
    replace Y0 := hc8.box Y0 (by omega)
    have hz8 := hc8.size
    clear hc8
    clear x0
    obtain ⟨_, q0, q1⟩ := X0.c2
    obtain ⟨_, r0, r1⟩ := Y0.c2
    go_wp2_with fail
    refine (eqTaking_same _ _ _ _ Z Z2 _ G0.tr O0.tr (by omega) (by omega)).mono ?_
    rintro e w9 ⟨rfl, hb9⟩
    replace hB := below_then hB hb9
    replace O0 := O0.below hb9
    replace X0 := X0.below hb9
    replace G0 := G0.below hb9
    replace Y0 := Y0.below hb9
    have hz9 := hb9.size
    clear hb9
    clear q0 q1 r0 r1
    obtain ⟨_, r0, r1⟩ := Y0.c2
    go_wp2_with fail
    refine (markTaking_own _ _ _ Z Z2 1 _ G0 (by omega) (by omega) (by omega) (by omega)).mono ?_
    rintro e w10 ⟨rfl, Q0, hc10⟩
    replace hB := hB.trans (hc10.below (B := w.heap.size) (by omega) (fun b h => by have := hg0 b h; omega))
    replace O0 := O0.chg hc10 (fun b hb hh => by have := hl0 b hb; have := hg0 b hh; omega)
    replace X0 := hc10.box X0 (fun hh => by have := hg0 _ hh; omega)
    replace Y0 := hc10.box Y0 (fun hh => by have := hg1 _ hh; omega)
    have hz10 := hc10.size
    clear hc10
    clear G0 r0 r1
    have HI := fun W h => heldTaking_at (.slice ta Z.length tb) (.slice tc Z2.length td) Z.length Z2.length 1 W h (by omega) (by omega) (by omega) (by omega)
    obtain ⟨_, r0, r1⟩ := Y0.c2
    go_wp2_with fail
    refine (HI _ Q0.tr).mono ?_
    rintro e w11 ⟨rfl, hb11⟩
    replace hB := below_then hB hb11
    replace O0 := O0.below hb11
    replace X0 := X0.below hb11
    replace Y0 := Y0.below hb11
    replace Q0 := Q0.below hb11
    have hz11 := hb11.size
    clear hb11
    clear r0 r1
    go_wp2_with fail
    refine (T _ hB).mono ?_
    rintro e w12 ⟨rfl, o9, hb12⟩
    replace hB := below_then hB hb12
    replace O0 := O0.below hb12
    replace X0 := X0.below hb12
    replace Y0 := Y0.below hb12
    replace Q0 := Q0.below hb12
    have hz12 := hb12.size
    clear hb12
    go_wp2_with fail
    refine (I _ _ (WR_of_owns o9 rfl) (Nn.own o9)).mono ?_
    rintro e w13 ⟨a2, c2, rfl, H0, hb13⟩
    replace hB := below_then hB hb13
    replace O0 := O0.below hb13
    replace X0 := X0.below hb13
    replace Y0 := Y0.below hb13
    replace Q0 := Q0.below hb13
    replace o9 := owns_below o9 hb13
    have hz13 := hb13.size
    clear hb13
    clear o9
    obtain ⟨⟨ua, ub, rfl⟩, uc, ud, rfl⟩ := H0.shapes
    have bx13 := below_alloc w13 (.cells #[.slice ua Z.length ub, .slice uc Z2.length ud] 41)
    replace hB := below_then hB bx13
    replace O0 := O0.below bx13
    replace X0 := X0.below bx13
    replace Y0 := Y0.below bx13
    replace Q0 := Q0.below bx13
    replace H0 := H0.below bx13
    have Z0 := Box.new w13 #[.slice ua Z.length ub, .slice uc Z2.length ud] 41
    clear bx13
    obtain ⟨_, q0, q1⟩ := X0.c2
    obtain ⟨_, r0, r1⟩ := Z0.c2
    go_wp2_with fail
    refine (eqTaking_same _ _ _ _ Z Z2 _ H0.tr O0.tr (by omega) (by omega)).mono ?_
    rintro e w14 ⟨rfl, hb14⟩
    replace hB := below_then hB hb14
    replace O0 := O0.below hb14
    replace X0 := X0.below hb14
    replace Y0 := Y0.below hb14
    replace Q0 := Q0.below hb14
    replace H0 := H0.below hb14
    replace Z0 := Z0.below hb14
    have hz14 := hb14.size
    clear hb14
    clear q0 q1 r0 r1
    clear H0 O0 X0 Z0
    obtain ⟨_, r0, r1⟩ := Y0.c2
    go_wp2_with fail
    refine (HI _ Q0.tr).mono ?_
    rintro e w15 ⟨rfl, hb15⟩
    replace hB := below_then hB hb15
    replace Y0 := Y0.below hb15
    replace Q0 := Q0.below hb15
    have hz15 := hb15.size
    clear hb15
    clear Q0 Y0 HI T S I r0 r1
    go_wp2
    go_ret
    exact ⟨rfl, hB⟩
end Go.Proofs.Ytocaigffikdlhaa
