/-
  The walk of FnExactFinishTaking.
-/
import Derived.Test.YtocaigffikdlhaaFI
import Derived.Test.YtocaigffikdlhaaLWantOf
import Derived.Deep.RegionHeld3
namespace Go.Proofs.Ytocaigffikdlhaa
open Go.RowKit Go.Maps
set_option linter.unusedVariables false
set_option maxRecDepth 100000


set_option maxHeartbeats 16000000 in
theorem law12 (a c : Value) (W : List Wt) (G : List Ck) (w : World) (hw : WR w a W) (hc : IR w c G) (hn0 : W.length ≤ maxLen) (hm0 : G.length ≤ maxLen) (hs0 : ∀ i (h : i < G.length), G[i].k.size ≤ maxLen) :
    Calls Try.prog 12 #[.agg #[a, c]] w fun e w' => e = .returned (.bool true) ∧ Below w.heap.size w w' := by
  have HT : TR w a c W G := ⟨hw, hc⟩
  have HV := fun W' (hb : Below w.heap.size w W') => HT.below hb
  have SZ := fun W' (hb : Below w.heap.size w W') => szTaking_any a c W G 1048576 W' (HV W' hb) (by omega) (by omega) hn0 hm0 hs0
  obtain ⟨wa, wb, rfl, _⟩ := hw
  obtain ⟨ca, cb, rfl, _⟩ := hc
  clear hn0 hm0 hs0 HT
  have R1 := fun w b => run_neq_bool_same5 w b
  have hB := below_alloc w (.cells #[.slice wa W.length wb, .slice ca G.length cb] 73)
  have PB := Box.new w #[.slice wa W.length wb, .slice ca G.length cb] 73
  go_enter Try.func12, Try.ntmps12
  go_wp2_with fail
  refine (SZ _ hB).mono ?_
  rintro e w0 ⟨⟨r, rfl, hr⟩, hb0⟩
  replace hB := below_then hB hb0
  replace PB := PB.below hb0
  have hz0 := hB.size
  clear SZ hb0
  rcases hr with rfl | ⟨hr0, hr1⟩
  · clear PB
    go_wp2
    go_ret
    exact ⟨rfl, hB⟩
  · have hn : W.length ≤ 1048576 := by omega
    have hm : G.length ≤ 1048576 := by omega
    have hs : ∀ i (h : i < G.length), G[i].k.size ≤ 1048576 := fun i h => by have := tot4_mem G i h; omega
    clear hr1
    have T := fun W' hb => toTaking_any _ _ W G W' (HV W' hb) hn hm
    have TT := fun W' h => toTaking_any (.slice wa W.length wb) (.slice ca G.length cb) W G W' h hn hm
    have S := fun x y W' h => specFin_any x y W G W' h hn hm hs
    have I := fun x y W' h => implFin_any x y W G W' h hn hm hs
    have HL : (fnR W G).length ≤ 1000 := fnR_len W G
    generalize fnR W G = Z at *
    generalize fnB W G = ok at *
    have HML : Hid ((mkAllS 1 Z.length).length = Z.length) := mkAllS_length _ _
    obtain ⟨_, p0, p1⟩ := PB.c2
    go_wp2_with fail
    refine (T _ hB).mono ?_
    rintro e w1 ⟨a1, c1, rfl, O1, hb1⟩
    replace hB := below_then hB hb1
    replace PB := PB.below hb1
    have hz1 := hb1.size
    clear hb1
    clear p0 p1
    go_wp2_with fail
    refine (S _ _ _ O1.tr).mono ?_
    rintro e w2 ⟨u0, rfl, O0, hb2⟩
    replace hB := below_then hB hb2
    replace PB := PB.below hb2
    replace O1 := O1.below hb2
    have hz2 := hb2.size
    clear hb2
    have hl0 := owns_below_lt O0
    clear O1
    obtain ⟨_, p0, p1⟩ := PB.c2
    go_wp2_with fail
    refine (T _ hB).mono ?_
    rintro e w3 ⟨a2, c2, rfl, XO, hb3⟩
    replace hB := below_then hB hb3
    replace PB := PB.below hb3
    replace O0 := owns_below O0 hb3
    have hz3 := hb3.size
    clear hb3
    have hxg := XO.ge
    have hxl := XO.lt
    obtain ⟨⟨xa, xb, rfl⟩, xc, xd, rfl⟩ := XO.shapes
    clear p0 p1
    have bx3 := below_alloc w3 (.cells #[.slice xa W.length xb, .slice xc G.length xd] 41)
    replace hB := below_then hB bx3
    replace PB := PB.below bx3
    replace O0 := owns_below O0 bx3
    replace XO := XO.below bx3
    have XB := Box.new w3 #[.slice xa W.length xb, .slice xc G.length xd] 41
    clear bx3
    obtain ⟨_, q0, q1⟩ := XB.c2
    go_wp2_with fail
    refine (I _ _ _ XO.tr).mono ?_
    rintro e w4 ⟨g0, rfl, G0, hb4⟩
    replace hB := below_then hB hb4
    replace PB := PB.below hb4
    replace O0 := owns_below O0 hb4
    replace XO := XO.below hb4
    replace XB := XB.below hb4
    have hz4 := hb4.size
    clear hb4
    simp only [World.size_alloc] at G0 hz4
    have hg0 := owns_ge G0
    have hg1 := owns_below_lt G0
    clear q0 q1
    go_wp2_with fail
    refine (eqStringS_same _ _ Z _ (SL_of_owns G0) (SL_of_owns O0) (by omega)).mono ?_
    rintro e w5 ⟨rfl, hb5⟩
    replace hB := below_then hB hb5
    replace PB := PB.below hb5
    replace O0 := owns_below O0 hb5
    replace XO := XO.below hb5
    replace XB := XB.below hb5
    replace G0 := owns_below G0 hb5
    have hz5 := hb5.size
    clear hb5
    obtain ⟨hpl, p0, p1⟩ := PB.c2
    obtain ⟨hql, q0, q1⟩ := XB.c2
    have hvT := HV _ hB
    go_wp2_with fail
    go_region_held3 (fun w' => (w'.cell? ⟨w.heap.size, 0, none⟩ = some (.slice wa W.length wb) ∧ w'.cell? ⟨w.heap.size, 1, none⟩ = some (.slice ca G.length cb)) ∧ w'.cell? ⟨w3.heap.size, 0, none⟩ = some (.slice xa W.length xb) ∧ w'.cell? ⟨w3.heap.size, 1, none⟩ = some (.slice xc G.length xd)) (go_keep) (first | (go_at_call 53; refine (TT _ (hvT.below (Below.refl _ _).drew)).mono ?_; rintro e wt ⟨a7, c7, rfl, o7, hb7'⟩; have hb7 := below_undrew hb7'; obtain ⟨⟨ya, yb, rfl⟩, yc, yd, rfl⟩ := o7.shapes; obtain ⟨_, p0, p1⟩ := (PB.below hb7).c2; obtain ⟨_, q0, q1⟩ := (XB.below hb7).c2) | (go_at_call 48; refine (eqTaking_same _ _ _ _ W G _ (XO.below hb7).tr o7.tr hn hm).mono ?_; rintro e wu ⟨rfl, hb8⟩; obtain ⟨_, p0, p1⟩ := ((PB.below hb7).below hb8).c2; obtain ⟨_, q0, q1⟩ := ((XB.below hb7).below hb8).c2))
    have hb6 := below_then hb7 hb8
    clear hb7 hb8 o7 hvT p0 p1 q0 q1 hpl hql
    generalize wu = w6 at *
    replace hB := below_then hB hb6
    replace PB := PB.below hb6
    replace O0 := owns_below O0 hb6
    replace XO := XO.below hb6
    replace XB := XB.below hb6
    replace G0 := owns_below G0 hb6
    have hz6 := hb6.size
    clear hb6
    obtain ⟨_, q0, q1⟩ := XB.c2
    go_wp2_with fail
    refine (markTaking_own _ _ _ W G 1 _ XO hn hm (by omega) (by omega)).mono ?_
    rintro e w7 ⟨rfl, _, hc7⟩
    replace hB := hB.trans (hc7.below (B := w.heap.size) (by omega) (fun b h => by have := hxg b h; omega))
    replace PB := hc7.box PB (fun hh => by have := hxg _ hh; omega)
    replace O0 := hc7.owns O0 (fun b hb hh => by have := hl0 b hb; have := hxg b hh; omega)
    replace XB := hc7.box XB (fun hh => by have := hxl _ hh; omega)
    replace G0 := hc7.owns G0 (fun b hb hh => by have := hg0 b hb; have := hxl b hh; omega)
    have hz7 := hc7.size
    clear hc7
    clear XO q0 q1
    clear XB
    go_wp2_with fail
    refine (eqStringS_same _ _ Z _ (SL_of_owns G0) (SL_of_owns O0) (by omega)).mono ?_
    rintro e w8 ⟨rfl, hb8⟩
    replace hB := below_then hB hb8
    replace PB := PB.below hb8
    replace O0 := owns_below O0 hb8
    replace G0 := owns_below G0 hb8
    have hz8 := hb8.size
    clear hb8
    go_wp2_with fail
    refine (markStringS_own g0 _ Z 1 _ G0 (by omega) (by omega) (by omega)).mono ?_
    rintro e w9 ⟨rfl, Q0, hc9⟩
    replace hB := hB.trans (hc9.below (B := w.heap.size) (by omega) (fun b h => by have := hg0 b h; omega))
    replace PB := hc9.box PB (fun hh => by have := hg0 _ hh; omega)
    replace O0 := hc9.owns O0 (fun b hb hh => by have := hl0 b hb; have := hg0 b hh; omega)
    have hz9 := hc9.size
    clear hc9
    clear G0
    have HI : ∀ W b, W.ownsRow b 9 1 g0 Z.length ((mkAllS 1 Z.length).map Value.string) → SL W g0 (mkAllS 1 Z.length) := fun W b h => SL_of_owns (base := b) (e := 9) (by rw [HML.out]; exact h)
    go_wp2_with fail
    refine (heldStringS_any g0 Z.length 1 _ (HI _ _ Q0) (by omega) (by omega) (by omega)).mono ?_
    rintro e w10 ⟨rfl, hb10⟩
    replace hB := below_then hB hb10
    replace PB := PB.below hb10
    replace O0 := owns_below O0 hb10
    replace Q0 := owns_below Q0 hb10
    have hz10 := hb10.size
    clear hb10
    obtain ⟨_, p0, p1⟩ := PB.c2
    go_wp2_with fail
    refine (T _ hB).mono ?_
    rintro e w11 ⟨a9, c9, rfl, O9, hb11⟩
    replace hB := below_then hB hb11
    replace PB := PB.below hb11
    replace O0 := owns_below O0 hb11
    replace Q0 := owns_below Q0 hb11
    have hz11 := hb11.size
    clear hb11
    clear p0 p1
    go_wp2_with fail
    refine (I _ _ _ O9.tr).mono ?_
    rintro e w12 ⟨h0, rfl, H0, hb12⟩
    replace hB := below_then hB hb12
    replace PB := PB.below hb12
    replace O0 := owns_below O0 hb12
    replace Q0 := owns_below Q0 hb12
    replace O9 := O9.below hb12
    have hz12 := hb12.size
    clear hb12
    clear O9
    go_wp2_with fail
    refine (eqStringS_same _ _ Z _ (SL_of_owns H0) (SL_of_owns O0) (by omega)).mono ?_
    rintro e w13 ⟨rfl, hb13⟩
    replace hB := below_then hB hb13
    replace PB := PB.below hb13
    replace O0 := owns_below O0 hb13
    replace Q0 := owns_below Q0 hb13
    replace H0 := owns_below H0 hb13
    have hz13 := hb13.size
    clear hb13
    clear H0 O0
    go_wp2_with fail
    refine (heldStringS_any g0 Z.length 1 _ (HI _ _ Q0) (by omega) (by omega) (by omega)).mono ?_
    rintro e w14 ⟨rfl, hb14⟩
    replace hB := below_then hB hb14
    replace PB := PB.below hb14
    replace Q0 := owns_below Q0 hb14
    have hz14 := hb14.size
    clear hb14
    clear Q0 HI T S I PB
    go_wp2
    go_ret
    exact ⟨rfl, hB⟩
end Go.Proofs.Ytocaigffikdlhaa
