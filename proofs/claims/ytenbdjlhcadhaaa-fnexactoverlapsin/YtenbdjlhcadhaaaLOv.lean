/-
  The walk of FnExactOverlapsIn.
-/
import Derived.Test.YtenbdjlhcadhaaaP9
namespace Go.Proofs.Ytenbdjlhcadhaaa
open Go.RowKit
set_option linter.unusedVariables false
set_option maxRecDepth 100000

set_option maxHeartbeats 8000000 in
theorem lawOverlapsIn (nx sq : Int) (v : Value) (l : List Mt) (lev : Int) (ka kb : ByteArray) (w : World) (HV : IR w v l) (hn : l.length ≤ maxLen) (hs : ∀ i (h : i < l.length), l[i].k.size ≤ maxLen ∧ l[i].v.size ≤ maxLen) (ha : ka.size ≤ maxLen) (hb : kb.size ≤ maxLen) :
    Calls Try.prog 11 #[.agg #[.int .i64 nx, .int .i64 sq, v], .int .i64 lev, .string ka, .string kb] w fun e w' => e = .returned (.bool true) ∧ Below w.heap.size w w' := by
  unfold maxLen at ha hb
  by_cases ha2 : (ka.size : Int) ≤ 1048576
  rotate_left
  · clear HV hs hn
    go_enter Try.func11, Try.ntmps11
    go_wp2
    go_ret
    exact ⟨rfl, below_alloc _ _⟩
  by_cases hb2 : (kb.size : Int) ≤ 1048576
  rotate_left
  · clear HV hs hn
    go_enter Try.func11, Try.ntmps11
    go_wp2
    go_ret
    exact ⟨rfl, below_alloc _ _⟩
  obtain ⟨a, cap, hve, _⟩ := id HV
  subst hve
  have hB := below_alloc w (.cells #[.int .i64 nx, .int .i64 sq, .slice a l.length cap] 49)
  have X := Box.new w #[.int .i64 nx, .int .i64 sq, .slice a l.length cap] 49
  have SZ := szVersion_any nx sq _ l 1048576 _ (HV.below hB) (by omega) (by omega) hn hs
  clear hs hn
  go_enter Try.func11, Try.ntmps11
  go_wp2_with fail
  refine SZ.mono ?_
  rintro e w1 ⟨⟨r, rfl, hr⟩, hb1⟩
  clear SZ
  replace hB := below_then hB hb1
  replace X := X.below hb1
  clear hb1
  rcases hr with rfl | ⟨hr0, hr1⟩
  · clear X HV
    go_wp2
    go_ret
    exact ⟨rfl, hB⟩
  have hn : l.length ≤ 1048576 := by omega
  have hs : ∀ i (h : i < l.length), l[i].k.size ≤ 1048576 ∧ l[i].v.size ≤ 1048576 := fun i h => by have := tot4_mem l i h; omega
  clear hr1
  have T := fun w h => toVersion_any nx sq (.slice a l.length cap) l w h hn
  have S := fun u w h => specOverlaps_any nx sq lev ka kb u l w h hn hs (by omega) (by omega)
  have I := fun u w h => implOverlaps_any nx sq lev ka kb u l w h hn hs (by omega) (by omega)
  have HL : (ovZ nx sq lev ka kb l).length ≤ l.length := by unfold ovZ; split; exact ovN_len _ _ _ _ _; simp
  generalize ovZ nx sq lev ka kb l = Z at *
  generalize ovB nx sq lev ka kb l = ok at *
  clear hs
  have cl := X.1
  have c0 := X.2.1 0 _ rfl
  have c1 := X.2.1 1 _ rfl
  have c2 := X.2.1 2 _ rfl
  go_wp2_with fail
  refine (T _ (HV.below hB)).mono ?_
  rintro e w2 ⟨g2, rfl, o2, hb2⟩
  replace hB := below_then hB hb2
  replace X := X.below hb2
  clear cl c0 c1 c2
  have i2 := IX_of_owns o2 rfl
  clear hb2 o2
  go_wp2_with fail
  refine (S _ _ i2).mono ?_
  rintro e w3 ⟨uS, rfl, O1, hb3⟩
  replace hB := below_then hB hb3
  replace X := X.below hb3
  clear i2 S hb3
  have hlt1 := owns_below_lt O1
  obtain ⟨aS, cS, rfl⟩ := owns_shape O1
  have hz3 := hB.size
  have hx3 := X.1
  have cl := X.1
  have c0 := X.2.1 0 _ rfl
  have c1 := X.2.1 1 _ rfl
  have c2 := X.2.1 2 _ rfl
  go_wp2_with fail
  refine (T _ (HV.below hB)).mono ?_
  rintro e w4 ⟨g4, rfl, o4, hb4⟩
  replace hB := below_then hB hb4
  replace X := X.below hb4
  replace O1 := owns_below O1 hb4
  clear cl c0 c1 c2
  have hg4 := owns_lt o4
  have hz34 := hb4.size
  clear hb4
  have BX := below_alloc w4 (.cells #[.int .i64 nx, .int .i64 sq, .slice (some ⟨g4, 0, none⟩) l.length l.length] 25)
  have Y := Box.new w4 #[.int .i64 nx, .int .i64 sq, .slice (some ⟨g4, 0, none⟩) l.length l.length] 25
  replace hB := below_then hB BX
  replace X := X.below BX
  replace O1 := owns_below O1 BX
  replace o4 := owns_below o4 BX
  clear BX
  go_wp2_with fail
  refine (I _ _ (IX_of_owns o4 rfl)).mono ?_
  rintro e w5 ⟨uI, rfl, O2, hb5⟩
  replace hB := below_then hB hb5
  replace X := X.below hb5
  replace O1 := owns_below O1 hb5
  replace o4 := owns_below o4 hb5
  replace Y := Y.below hb5
  simp only [World.size_alloc] at O2
  have hge2 := owns_ge O2
  have hlt2 := owns_below_lt O2
  obtain ⟨aI, cI, rfl⟩ := owns_shape O2
  have hz45 := hb5.size
  simp only [World.size_alloc] at hz45
  clear hb5
  go_wp2_with fail
  refine (eqIntS_same _ _ Z _ (IL_of_owns O2 rfl) (IL_of_owns O1 rfl) (by omega)).mono ?_
  rintro e w6 ⟨rfl, hb6⟩
  replace hB := below_then hB hb6
  replace X := X.below hb6
  replace O1 := owns_below O1 hb6
  replace o4 := owns_below o4 hb6
  replace Y := Y.below hb6
  replace O2 := owns_below O2 hb6
  have hz56 := hb6.size
  clear hb6
  have pl := X.1
  have p0 := X.2.1 0 _ rfl
  have p1 := X.2.1 1 _ rfl
  have p2 := X.2.1 2 _ rfl
  have ql := Y.1
  have q0 := Y.2.1 0 _ rfl
  have q1 := Y.2.1 1 _ rfl
  have q2 := Y.2.1 2 _ rfl
  have hv6 := HV.below hB
  cases ok
  all_goals
    go_wp2_with fail
    go_region_held3 (fun w' => (w'.cell? ⟨w.heap.size, 0, none⟩ = some (.int .i64 nx) ∧ w'.cell? ⟨w.heap.size, 1, none⟩ = some (.int .i64 sq) ∧ w'.cell? ⟨w.heap.size, 2, none⟩ = some (.slice a l.length cap)) ∧ w'.cell? ⟨w4.heap.size, 0, none⟩ = some (.int .i64 nx) ∧ w'.cell? ⟨w4.heap.size, 1, none⟩ = some (.int .i64 sq) ∧ w'.cell? ⟨w4.heap.size, 2, none⟩ = some (.slice (some ⟨g4, 0, none⟩) l.length l.length)) (go_keep) (first | (go_at_call 32; refine (T _ (hv6.below (Below.refl _ _).drew)).mono ?_; rintro e w7 ⟨g7, rfl, o7, hb7'⟩; have hb7 := below_undrew hb7'; have p0 := (X.below hb7).2.1 0 _ rfl; have p1 := (X.below hb7).2.1 1 _ rfl; have p2 := (X.below hb7).2.1 2 _ rfl; have q0 := (Y.below hb7).2.1 0 _ rfl; have q1 := (Y.below hb7).2.1 1 _ rfl; have q2 := (Y.below hb7).2.1 2 _ rfl) | (go_at_call 27; refine (eqVersion_same _ _ _ _ l _ ((IR_of_owns o4 rfl).below hb7) (IR_of_owns o7 rfl) hn).mono ?_; rintro e w8 ⟨rfl, hb8⟩; have p0 := ((X.below hb7).below hb8).2.1 0 _ rfl; have p1 := ((X.below hb7).below hb8).2.1 1 _ rfl; have p2 := ((X.below hb7).below hb8).2.1 2 _ rfl; have q0 := ((Y.below hb7).below hb8).2.1 0 _ rfl; have q1 := ((Y.below hb7).below hb8).2.1 1 _ rfl; have q2 := ((Y.below hb7).below hb8).2.1 2 _ rfl))
    all_goals
      have hb68 := below_then hb7 hb8
      replace hB := below_then hB hb68
      replace X := X.below hb68
      replace O1 := owns_below O1 hb68
      replace o4 := owns_below o4 hb68
      replace Y := Y.below hb68
      replace O2 := owns_below O2 hb68
      have hz68 := hb68.size
      clear hb7' hb7 hb8 hb68 hv6 o7
      go_wp2_with fail
      refine (markVersion_at nx sq g4 l.length _ l 1 _ o4 hn (by omega) (by omega)).mono ?_
      rintro e w9 ⟨rfl, _, hc9⟩
      replace hB := hB.trans (hc9.below (B := w.heap.size) (by omega) (fun b h => by omega))
      replace X := hc9.box X (by omega)
      replace O1 := hc9.owns O1 (fun b hb hh => by have := hlt1 b hb; omega)
      replace Y := hc9.box Y (by omega)
      replace O2 := hc9.owns O2 (fun b hb hh => by have := hge2 b hb; have := hlt2 b hb; omega)
      have hz89 := hc9.size
      clear hc9 o4 pl p0 p1 p2 ql q0 q1 q2
      clear Y
      go_wp2_with fail
      refine (eqIntS_same _ _ Z _ (IL_of_owns O2 rfl) (IL_of_owns O1 rfl) (by omega)).mono ?_
      rintro e w10 ⟨rfl, hb10⟩
      replace hB := below_then hB hb10
      replace X := X.below hb10
      replace O1 := owns_below O1 hb10
      replace O2 := owns_below O2 hb10
      have hz10 := hb10.size
      clear hb10
      rcases O2.2 with ⟨hn0, h0⟩ | ⟨g, cp, cur, hn0, hbg, hh, _⟩
      · obtain rfl : Z = [] := List.eq_nil_of_length_eq_zero h0
        simp only [List.length_nil, Value.slice.injEq, true_and] at hn0
        obtain ⟨rfl, rfl⟩ := hn0
        clear O2 h0 hge2 hlt2
        go_wp2_with fail
        refine (markIntS_nil 1 _).mono ?_
        rintro e w11 ⟨rfl, rfl⟩
        go_wp2_with fail
        refine (heldIntS_nil 1 _).mono ?_
        rintro e w12 ⟨rfl, rfl⟩
        have cl := X.1
        have c0 := X.2.1 0 _ rfl
        have c1 := X.2.1 1 _ rfl
        have c2 := X.2.1 2 _ rfl
        go_wp2_with fail
        refine (T _ (HV.below hB)).mono ?_
        rintro e w13 ⟨g13, rfl, o13, hb13⟩
        replace hB := below_then hB hb13
        replace X := X.below hb13
        replace O1 := owns_below O1 hb13
        clear cl c0 c1 c2
        clear hb13
        go_wp2_with fail
        refine (I _ _ (IX_of_owns o13 rfl)).mono ?_
        rintro e w14 ⟨u14, rfl, o14, hb14⟩
        replace hB := below_then hB hb14
        replace X := X.below hb14
        replace O1 := owns_below O1 hb14
        clear hb14 o13
        obtain ⟨a14, c14, rfl⟩ := owns_shape o14
        go_wp2_with fail
        refine (eqIntS_same _ _ [] _ (IL_of_owns o14 rfl) (IL_of_owns O1 rfl) (by simp)).mono ?_
        rintro e w15 ⟨rfl, hb15⟩
        replace hB := below_then hB hb15
        replace X := X.below hb15
        replace O1 := owns_below O1 hb15
        clear hb15 o14 O1 X
        go_wp2_with fail
        refine (heldIntS_nil 1 _).mono ?_
        rintro e w16 ⟨rfl, rfl⟩
        go_wp2
        go_ret
        exact ⟨rfl, hB⟩
      · simp only [Value.slice.injEq, true_and] at hn0
        obtain ⟨rfl, rfl⟩ := hn0
        clear hh
        have hgb := hlt2 g rfl
        have hgg := hge2 g rfl
        clear hge2 hlt2
        have hml : (Z.map (Value.int .i64)).length = Z.length := List.length_map _
        have M := fun w h => markIntS_at g cI w4.heap.size (Z.map (Value.int .i64)) 1 w h (by rw [hml]; omega) (by omega) (by omega)
        rw [hml] at M
        have H := fun w h => heldIntS_at g cI w4.heap.size Z.length 1 w h (by omega) (by omega) (by omega)
        have O2' : w10.ownsRow w4.heap.size 3 1 (.slice (some ⟨g, 0, none⟩) Z.length cI) Z.length (Z.map (.int .i64)) := owns_base O2 (by omega)
        clear O2 hml
        go_wp2_with fail
        refine (M _ O2').mono ?_
        rintro e w11 ⟨rfl, q11, hc11⟩
        replace hB := hB.trans (hc11.below (B := w.heap.size) (by omega) (fun b h => by omega))
        replace X := hc11.box X (by omega)
        replace O1 := hc11.owns O1 (fun b hb hh => by have := hlt1 b hb; omega)
        clear O2' hc11 M
        go_wp2_with fail
        refine (H _ q11).mono ?_
        rintro e w12 ⟨rfl, rfl⟩
        have cl := X.1
        have c0 := X.2.1 0 _ rfl
        have c1 := X.2.1 1 _ rfl
        have c2 := X.2.1 2 _ rfl
        go_wp2_with fail
        refine (T _ (HV.below hB)).mono ?_
        rintro e w13 ⟨g13, rfl, o13, hb13⟩
        replace hB := below_then hB hb13
        replace X := X.below hb13
        replace O1 := owns_below O1 hb13
        replace q11 := owns_below q11 hb13
        clear cl c0 c1 c2
        clear hb13
        go_wp2_with fail
        refine (I _ _ (IX_of_owns o13 rfl)).mono ?_
        rintro e w14 ⟨u14, rfl, o14, hb14⟩
        replace hB := below_then hB hb14
        replace X := X.below hb14
        replace O1 := owns_below O1 hb14
        replace q11 := owns_below q11 hb14
        clear hb14 o13
        obtain ⟨a14, c14, rfl⟩ := owns_shape o14
        go_wp2_with fail
        refine (eqIntS_same _ _ Z _ (IL_of_owns o14 rfl) (IL_of_owns O1 rfl) (by omega)).mono ?_
        rintro e w15 ⟨rfl, hb15⟩
        replace hB := below_then hB hb15
        replace X := X.below hb15
        replace O1 := owns_below O1 hb15
        replace q11 := owns_below q11 hb15
        clear hb15 o14 O1 X
        go_wp2_with fail
        refine (H _ q11).mono ?_
        rintro e w16 ⟨rfl, rfl⟩
        clear q11 H
        go_wp2
        go_ret
        exact ⟨rfl, hB⟩
end Go.Proofs.Ytenbdjlhcadhaaa
