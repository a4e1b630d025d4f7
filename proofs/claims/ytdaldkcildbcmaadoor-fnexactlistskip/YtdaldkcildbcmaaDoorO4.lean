/-
  The walk of FnExactListSkip.
-/
import Derived.Test.YtdaldkcildbcmaaDoorO2
import Derived.Test.YtdaldkcildbcmaaDoorO3
import Derived.Test.YtdaldkcildbcmaaDoorH5
namespace Go.Proofs.YtdaldkcildbcmaaDoor
open Go.RowKit
set_option linter.unusedVariables false
set_option maxRecDepth 100000

set_option maxHeartbeats 8000000 in
theorem lawListSkip (x y : Value) (hs : List Int) (ts : List Tw) (q : Int) (w : World) (hx : IL w x hs) (hy : TW w y ts) (hn : hs.length ≤ maxLen) (hm : ts.length ≤ maxLen) (hf : ∀ i (h : i < ts.length), ts[i].fits) (ht : Tabs w) :
    Calls Tryd.prog 9 #[.agg #[x, y], .int .i64 q] w fun e w' => e = .returned (.bool true) ∧ Below w.heap.size w w' := by
  obtain ⟨ax, cx, hxe, _⟩ := id hx
  subst hxe
  obtain ⟨ay, cy, hye, _⟩ := id hy
  subst hye
  go_enter Tryd.func9, Tryd.ntmps9
  go_wp2_with fail
  refine (szSkip_any _ _ hs ts _ (hx.below (below_alloc _ _)) (hy.below (below_alloc _ _)) hn hm hf).mono ?_
  rintro e w1 ⟨⟨r, rfl, hr⟩, hb1⟩
  have hB := below_then (below_alloc _ _) hb1
  have X := (Box.new w #[.slice ax hs.length cx, .slice ay ts.length cy] 50).below hb1
  clear hb1
  rcases hr with rfl | ⟨hr0, hr1⟩
  · go_wp2
    go_ret
    exact ⟨rfl, hB⟩
  have m1 : hs.length ≤ 1048576 := by omega
  have m2 : ts.length ≤ 1048576 := by omega
  have m3 : totT ts ≤ 1048576 := by omega
  have F1 := fits_of_tot m3
  have F2 : ∀ i (h : i < ts.length), ts[i].next.length ≤ 1048576 := fun i h => (F1 i h).1
  have F3 : ∀ i : Nat, i < ts.length → (tw ts i).next.length ≤ 1048576 ∧ (tw ts i).key.size ≤ 1048576 ∧ (tw ts i).val.size ≤ 1048576 := fun i h => by rw [tw_at ts i h]; exact F1 i h
  have hr' : ¬ r < 0 := by omega
  have KT := fun w hx hy => toSkip_il (.slice ax hs.length cx) (.slice ay ts.length cy) hs ts w hx hy m1 m2 F2
  have KA := fun w hx hy => toSkip_any (.slice ax hs.length cx) (.slice ay ts.length cy) hs ts w hx hy m1 m2 F2
  have KS := fun g1 g2 w hx hy => specList_any (.slice (some ⟨g1, 0, none⟩) hs.length hs.length) (some ⟨g2, 0, none⟩) ts.length hs ts q w hx hy (Nat.le_refl _) m2 m1 F3
  have KI := fun g1 g2 w hx hy ht => implList_any (.slice (some ⟨g1, 0, none⟩) hs.length hs.length) (.slice (some ⟨g2, 0, none⟩) ts.length ts.length) hs ts q w hx hy m1 m2 ht F3
  have KE := fun x y x' y' w hx hy hx' hy' => eqSkip_same x y x' y' hs ts w hx hy hx' hy' m1 m2 F2
  have KM := fun g1 g2 gs w a b c d e => markSkip_at g1 g2 hs.length ts.length g1 g2 hs ts gs w a b c d e m1 m2 m3
  have HL : (lkL hs ts q).length ≤ 60 := lkL_len hs ts q
  generalize lkL hs ts q = Z at *
  generalize lkB hs ts q = ok at *
  clear hr1 hf F1 F2 F3
  obtain ⟨_, p0, p1⟩ := X.c2
  go_wp2_with fail
  refine (KT _ (hx.below hB) (hy.below hB)).mono ?_
  rintro e w2 ⟨⟨g1, g2, rfl, i1, i2⟩, hb2⟩
  replace hB := below_then hB hb2
  replace X := X.below hb2
  clear hb2 p0 p1
  go_wp2_with fail
  refine (KS g1 g2 _ i1 i2).mono ?_
  rintro e w3 ⟨uS, rfl, O1, hb3⟩
  obtain ⟨aS, cS, rfl, _⟩ := IR_of_owns O1 rfl
  replace hB := below_then hB hb3
  replace X := X.below hb3
  have hlt1 := owns_below_lt O1
  clear hb3 i1 i2 KS
  obtain ⟨hzX, p0, p1⟩ := X.c2
  go_wp2_with fail
  refine (KA _ (hx.below hB) (hy.below hB)).mono ?_
  rintro e w4 ⟨⟨g3, g4, gs, hg3, hg34, hgl, rfl, o3, o4, oL⟩, hb4⟩
  replace hB := below_then hB hb4
  replace X := X.below hb4
  replace O1 := owns_below O1 hb4
  have hz34 := hb4.size
  have hgs := fun g hg => oL.lt (g := g) hg
  have hgs2 : ∀ b ∈ gs, g4 < b := fun b hb => by
    obtain ⟨i, hi, rfl⟩ := List.getElem_of_mem hb
    exact (oL.2.2 i hi (by omega)).1
  have hg4l := (owns_lt o4).2
  clear hb4 p0 p1
  have BX := below_alloc w4 (.cells #[.slice (some ⟨g3, 0, none⟩) hs.length hs.length, .slice (some ⟨g4, 0, none⟩) ts.length ts.length] 26)
  have Y := Box.new w4 #[.slice (some ⟨g3, 0, none⟩) hs.length hs.length, .slice (some ⟨g4, 0, none⟩) ts.length ts.length] 26
  replace hB := below_then hB BX
  replace X := X.below BX
  replace O1 := owns_below O1 BX
  replace o3 := owns_below o3 BX
  replace o4 := owns_below o4 BX
  replace oL := oL.below BX
  clear BX
  have i3 := IL_of_owns o3 rfl
  have i4 := TW_of_rows o4 oL hgl
  go_wp2_with fail
  refine (KI g3 g4 _ i3 i4 (ht.below hB)).mono ?_
  rintro e w5 ⟨uI, rfl, O2, hb5⟩
  obtain ⟨aI, cI, rfl, _⟩ := IR_of_owns O2 rfl
  replace hB := below_then hB hb5
  replace X := X.below hb5
  replace O1 := owns_below O1 hb5
  replace o3 := owns_below o3 hb5
  replace o4 := owns_below o4 hb5
  replace oL := oL.below hb5
  replace Y := Y.below hb5
  have hz45 := hb5.size
  simp only [World.size_alloc] at hz45 O2
  have hge2 := owns_ge O2
  have hlt2 := owns_below_lt O2
  clear hb5 i3 i4
  go_wp2_with fail
  refine (eqItemS_same _ _ Z _ (IR_of_owns O2 rfl) (IR_of_owns O1 rfl) (by omega)).mono ?_
  rintro e w6 ⟨rfl, hb6⟩
  replace hB := below_then hB hb6
  replace X := X.below hb6
  replace O1 := owns_below O1 hb6
  replace o3 := owns_below o3 hb6
  replace o4 := owns_below o4 hb6
  replace oL := oL.below hb6
  replace Y := Y.below hb6
  replace O2 := owns_below O2 hb6
  have hz56 := hb6.size
  clear hb6
  have l3 := IL_of_owns o3 rfl
  have l4 := TW_of_rows o4 oL hgl
  have X6 := X
  have Y6 := Y
  have hB6 := hB
  obtain ⟨hz1, p0, p1⟩ := X.c2
  obtain ⟨hz2, q0, q1⟩ := Y.c2
  clear X Y
  cases ok
  all_goals
    go_wp2_with fail
    go_region_held3 (fun w' => w'.cell? ⟨w.heap.size, 0, none⟩ = some (.slice ax hs.length cx) ∧ w'.cell? ⟨w.heap.size, 1, none⟩ = some (.slice ay ts.length cy) ∧ w'.cell? ⟨w4.heap.size, 0, none⟩ = some (.slice (some ⟨g3, 0, none⟩) hs.length hs.length) ∧ w'.cell? ⟨w4.heap.size, 1, none⟩ = some (.slice (some ⟨g4, 0, none⟩) ts.length ts.length)) (go_keep) (first | (go_at_call 26; refine (KT _ (hx.below hB6.drew) (hy.below hB6.drew)).mono ?_; rintro e w7 ⟨⟨g5, g6, rfl, j1, j2⟩, hb7'⟩; have hb7 := below_undrew hb7'; obtain ⟨_, p0, p1⟩ := (X6.below hb7).c2; obtain ⟨_, q0, q1⟩ := (Y6.below hb7).c2) | (go_at_call 27; refine (KE _ _ _ _ _ (l3.below hb7) (l4.below hb7) j1 j2).mono ?_; rintro e w8 ⟨rfl, hb8⟩; obtain ⟨_, p0, p1⟩ := ((X6.below hb7).below hb8).c2; obtain ⟨_, q0, q1⟩ := ((Y6.below hb7).below hb8).c2))
    all_goals
      have hb68 := below_then hb7 hb8
      have X := X6
      have Y := Y6
      clear X6 Y6 l3 l4 j1 j2 hb7' hB6
      replace hB := below_then hB hb68
      replace X := X.below hb68
      replace O1 := owns_below O1 hb68
      replace o3 := owns_below o3 hb68
      replace o4 := owns_below o4 hb68
      replace oL := oL.below hb68
      replace Y := Y.below hb68
      replace O2 := owns_below O2 hb68
      have hz68 := hb68.size
      clear hb7 hb8 hb68
      go_wp2_with fail
      refine (KM g3 g4 gs _ o3 o4 oL hgl hg34).mono ?_
      rintro e w9 ⟨⟨k9, hk9, rfl⟩, hc9⟩
      have hS : ∀ b, (b = g3 ∨ b = g4 ∨ b ∈ gs) → w3.heap.size ≤ b ∧ b < w4.heap.size := fun b hb => by
        rcases hb with h | h | h
        · omega
        · omega
        · have := hgs b h; have := hgs2 b h; omega
      replace O1 := hc9.owns O1 (fun b hb hh => by have := hlt1 b hb; have := hS b hh; omega)
      replace O2 := hc9.owns O2 (fun b hb hh => by have := hge2 b hb; have := hS b hh; omega)
      replace X := hc9.box X (fun h => by have := hS _ h; omega)
      replace hB := hB.trans (hc9.below (B := w.heap.size) (by omega) (fun b h => by have := hS b h; omega))
      have hz89 := hc9.size
      clear o3 o4 oL Y hc9 hS hgs hgs2 p0 p1 q0 q1 KM
      go_wp2_with fail
      refine (eqItemS_same _ _ Z _ (IR_of_owns O2 rfl) (IR_of_owns O1 rfl) (by omega)).mono ?_
      rintro e w10 ⟨rfl, hb10⟩
      replace hB := below_then hB hb10
      replace X := X.below hb10
      replace O1 := owns_below O1 hb10
      replace O2 := owns_below O2 hb10
      have hz10 := hb10.size
      clear hb10
      rcases O2.2 with ⟨hn0, h0⟩ | ⟨g, cp, cur, hn0, hbg, hh, _⟩
      · obtain rfl : Z = [] := List.eq_nil_of_length_eq_zero h0
        simp only [List.length_nil, Value.slice.injEq, true_and] at hn0
        obtain ⟨rfl, rfl⟩ := hn0
        clear O2 h0 hge2 hlt2
        go_wp2_with fail
        refine (markItemS_nil 1 _ (by omega) (by omega)).mono ?_
        rintro e w11 ⟨rfl, hb11⟩
        subst hb11
        go_wp2_with fail
        refine (heldItemS_at (.slice none 0 0) 0 1 _ (IR_nil _) (by omega) (by omega) (by omega)).mono ?_
        rintro e w12 ⟨rfl, hb12⟩
        replace hB := below_then hB hb12
        replace X := X.below hb12
        replace O1 := owns_below O1 hb12
        clear hb12
        obtain ⟨_, p0, p1⟩ := X.c2
        go_wp2_with fail
        refine (KT _ (hx.below hB) (hy.below hB)).mono ?_
        rintro e w13 ⟨⟨g5, g6, rfl, i1, i2⟩, hb13⟩
        replace hB := below_then hB hb13
        replace X := X.below hb13
        replace O1 := owns_below O1 hb13
        clear hb13 p0 p1
        go_wp2_with fail
        refine (KI g5 g6 _ i1 i2 (ht.below hB)).mono ?_
        rintro e w14 ⟨u14, rfl, o14, hb14⟩
        obtain ⟨a14, c14, rfl, _⟩ := IR_of_owns o14 rfl
        replace hB := below_then hB hb14
        replace X := X.below hb14
        replace O1 := owns_below O1 hb14
        clear hb14 i1 i2
        go_wp2_with fail
        refine (eqItemS_same _ _ [] _ (IR_of_owns o14 rfl) (IR_of_owns O1 rfl) (by simp)).mono ?_
        rintro e w15 ⟨rfl, hb15⟩
        replace hB := below_then hB hb15
        replace X := X.below hb15
        replace O1 := owns_below O1 hb15
        clear hb15 o14 O1
        go_wp2_with fail
        refine (heldItemS_at (.slice none 0 0) 0 1 _ (IR_nil _) (by omega) (by omega) (by omega)).mono ?_
        rintro e w16 ⟨rfl, hb16⟩
        have hB16 := below_then hB hb16
        clear hB hb16
        go_wp2
        go_ret
        exact ⟨rfl, hB16⟩
      · simp only [Value.slice.injEq, true_and] at hn0
        obtain ⟨rfl, rfl⟩ := hn0
        clear hh
        have hgb := hlt2 g rfl
        have hgg := hge2 g rfl
        have ML := mkIts_length 1 Z.length
        have M := fun w b h => markItemS_at g cI b Z 1 w h (by omega) (by omega) (by omega)
        have H := fun w h => heldItemS_at (.slice (some ⟨g, 0, none⟩) Z.length cI) Z.length 1 w h (by omega) (by omega) (by omega)
        have HI : ∀ w b, w.ownsRow b 28 4 (.slice (some ⟨g, 0, none⟩) Z.length cI) Z.length (flat4 (mkIts 1 Z.length)) → IR w (.slice (some ⟨g, 0, none⟩) Z.length cI) (mkIts 1 Z.length) := fun w b h => IR_of_owns h ML.symm
        clear hge2 hlt2
        go_wp2_with fail
        refine (M _ _ O2).mono ?_
        rintro e w11 ⟨rfl, q11, hc11⟩
        replace O1 := hc11.owns O1 (fun b hb hh => by have := hlt1 b hb; omega)
        replace X := hc11.box X (by omega)
        replace hB := hB.trans (hc11.below (B := w.heap.size) (by omega) (fun b h => by omega))
        clear O2 hc11 M
        go_wp2_with fail
        refine (H _ (HI _ _ q11)).mono ?_
        rintro e w12 ⟨rfl, hb12⟩
        replace hB := below_then hB hb12
        replace X := X.below hb12
        replace O1 := owns_below O1 hb12
        replace q11 := owns_below q11 hb12
        clear hb12
        obtain ⟨_, p0, p1⟩ := X.c2
        go_wp2_with fail
        refine (KT _ (hx.below hB) (hy.below hB)).mono ?_
        rintro e w13 ⟨⟨g5, g6, rfl, i1, i2⟩, hb13⟩
        replace hB := below_then hB hb13
        replace X := X.below hb13
        replace O1 := owns_below O1 hb13
        replace q11 := owns_below q11 hb13
        clear hb13 p0 p1
        go_wp2_with fail
        refine (KI g5 g6 _ i1 i2 (ht.below hB)).mono ?_
        rintro e w14 ⟨u14, rfl, o14, hb14⟩
        obtain ⟨a14, c14, rfl, _⟩ := IR_of_owns o14 rfl
        replace hB := below_then hB hb14
        replace X := X.below hb14
        replace O1 := owns_below O1 hb14
        replace q11 := owns_below q11 hb14
        clear hb14 i1 i2
        go_wp2_with fail
        refine (eqItemS_same _ _ Z _ (IR_of_owns o14 rfl) (IR_of_owns O1 rfl) (by omega)).mono ?_
        rintro e w15 ⟨rfl, hb15⟩
        replace hB := below_then hB hb15
        replace X := X.below hb15
        replace O1 := owns_below O1 hb15
        replace q11 := owns_below q11 hb15
        clear hb15 o14 O1
        go_wp2_with fail
        refine (H _ (HI _ _ q11)).mono ?_
        rintro e w16 ⟨rfl, hb16⟩
        have hB16 := below_then hB hb16
        clear hB hb16
        go_wp2
        go_ret
        exact ⟨rfl, hB16⟩
end Go.Proofs.YtdaldkcildbcmaaDoor
