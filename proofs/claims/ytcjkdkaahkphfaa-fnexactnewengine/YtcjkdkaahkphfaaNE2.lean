/-
  spec.NewEngine; marks and looks at an engine without towers, metas and tables; the walk of the law laws.FnExactNewEngine.
-/
import Derived.Test.YtcjkdkaahkphfaaNE1
namespace Go.Proofs.Ytcjkdkaahkphfaa
open Go.RowKit
set_option linter.unusedVariables false
set_option maxRecDepth 100000

set_option maxHeartbeats 2000000 in
theorem newE_spec (w : World) :
    Calls Try.prog 5 #[] w fun e w' => (∃ a n c, e = .returned (.agg #[.int .i64 0, .slice a n c, .slice none 0 0, .int .i64 1, .int .i64 0, .slice none 0 0, .slice none 0 0]) ∧ w'.ownsRow (w.heap.size + 1) 3 1 (.slice a n c) 5 (m5.map (.int .i64))) ∧ Below w.heap.size w w' := by
  go_enter Try.func5, Try.ntmps5
  go_wp2_with fail
  refine (specNew_any _).mono ?_
  rintro e w1 ⟨⟨a, n, c, rfl, o1⟩, hb1⟩
  have X1 := (Box.new w #[.int .i64 0, .slice none 0 0, .slice none 0 0, .int .i64 0, .int .i64 0, .slice none 0 0, .slice none 0 0] 31).below hb1
  have hB1 := below_then (below_alloc _ _) hb1
  simp only [World.size_alloc] at o1
  clear hb1
  go_wp2_with fail
  refine (newV_spec _).mono ?_
  rintro e w2 ⟨rfl, hb2⟩
  have X2 := X1.below hb2
  have hB2 := below_then hB1 hb2
  have o2 := owns_below o1 hb2
  have hge := owns_ge o2
  clear hb2 X1 hB1 o1
  obtain ⟨hzz, x0, x1, x2, x3, x4, x5, x6⟩ := X2.c7
  have f0 := X2.2.2 0
  have f1 := X2.2.2 1
  have f2 := X2.2.2 2
  have f3 := X2.2.2 3
  have f4 := X2.2.2 4
  have f5 := X2.2.2 5
  have f6 := X2.2.2 6
  have Z := put7_box X2 (.int .i64 0) (.slice a n c) (.slice none 0 0) (.int .i64 1) (.int .i64 0) (.slice none 0 0) (.slice none 0 0)
  have C := put7_chg w2 w.heap.size (.int .i64 0) (.slice a n c) (.slice none 0 0) (.int .i64 1) (.int .i64 0) (.slice none 0 0) (.slice none 0 0)
  have O3 := C.owns o2 (fun b hb h => by have := hge b hb; omega)
  have hB3 := hB2.trans (C.below (B := w.heap.size) (by omega) (fun k h => by omega))
  replace O3 : (put7 w2 w.heap.size (.int .i64 0) (.slice a n c) (.slice none 0 0) (.int .i64 1) (.int .i64 0) (.slice none 0 0) (.slice none 0 0)).ownsRow (w.heap.size + 1) 3 1 (.slice a n c) 5 (m5.map (.int .i64)) := by
    refine ⟨O3.1, ?_⟩
    rcases O3.2 with h | ⟨g, cap, cur, h1, h2, h3⟩
    · exact .inl h
    · exact .inr ⟨g, cap, cur, h1, by omega, h3⟩
  clear C o2
  go_wp2
  unfold put7 at Z O3 hB3
  exact bodyPost_ret (v := .agg #[.int .i64 0, .slice a n c, .slice none 0 0, .int .i64 1, .int .i64 0, .slice none 0 0, .slice none 0 0]) (by simp [results, Try.results5, go_sem, x0, x1, x2, x3, x4, x5, x6]) rfl ⟨⟨a, n, c, rfl, O3⟩, hB3⟩

theorem eqMetaS_nil (w : World) : Calls Try.prog 47 #[.slice none 0 0, .slice none 0 0] w fun e w' => e = .returned (.bool true) ∧ w' = w := by
  go_enter Try.func47, Try.ntmps47
  go_wp2
  refine wp_loop_rounds 1 ?_; rw [rounds_succ]; go_wp2
  go_ret
  exact ⟨rfl, rfl⟩
theorem eqStoredS_nil (w : World) : Calls Try.prog 25 #[.slice none 0 0, .slice none 0 0] w fun e w' => e = .returned (.bool true) ∧ w' = w := by
  go_enter Try.func25, Try.ntmps25
  go_wp2
  refine wp_loop_rounds 1 ?_; rw [rounds_succ]; go_wp2
  go_ret
  exact ⟨rfl, rfl⟩
theorem markMetaS_nil (k : Int) (w : World) : Calls Try.prog 51 #[.slice none 0 0, .int .i64 k] w fun e w' => e = .returned (.int .i64 k) ∧ w' = w := by
  go_enter Try.func51, Try.ntmps51
  go_wp2
  refine wp_loop_rounds 1 ?_; rw [rounds_succ]; go_wp2
  go_ret
  exact ⟨rfl, rfl⟩
theorem markStoredS_nil (k : Int) (w : World) : Calls Try.prog 28 #[.slice none 0 0, .int .i64 k] w fun e w' => e = .returned (.int .i64 k) ∧ w' = w := by
  go_enter Try.func28, Try.ntmps28
  go_wp2
  refine wp_loop_rounds 1 ?_; rw [rounds_succ]; go_wp2
  go_ret
  exact ⟨rfl, rfl⟩
theorem heldMetaS_nil (k : Int) (w : World) : Calls Try.prog 55 #[.slice none 0 0, .int .i64 k] w fun e w' => e = .returned (.int .i64 k) ∧ w' = w := by
  go_enter Try.func55, Try.ntmps55
  go_wp2
  refine wp_loop_rounds 1 ?_; rw [rounds_succ]; go_wp2
  go_ret
  exact ⟨rfl, rfl⟩
theorem heldStoredS_nil (k : Int) (w : World) : Calls Try.prog 31 #[.slice none 0 0, .int .i64 k] w fun e w' => e = .returned (.int .i64 k) ∧ w' = w := by
  go_enter Try.func31, Try.ntmps31
  go_wp2
  refine wp_loop_rounds 1 ?_; rw [rounds_succ]; go_wp2
  go_ret
  exact ⟨rfl, rfl⟩
theorem eqVersion_nil (w : World) : Calls Try.prog 24 #[.agg #[.int .i64 1, .int .i64 0, .slice none 0 0], .agg #[.int .i64 1, .int .i64 0, .slice none 0 0]] w fun e w' => e = .returned (.bool true) ∧ Below w.heap.size w w' := by
  go_enter Try.func24, Try.ntmps24
  go_wp2_with fail
  refine (eqMetaS_nil _).mono ?_
  rintro e w1 ⟨rfl, hw⟩
  rw [hw]; clear hw
  go_wp2
  go_ret
  exact ⟨rfl, below2 _ _ _⟩
theorem markVersion_nil (k : Int) (w : World) : Calls Try.prog 27 #[.agg #[.int .i64 1, .int .i64 0, .slice none 0 0], .int .i64 k] w fun e w' => e = .returned (.int .i64 k) ∧ Below w.heap.size w w' := by
  go_enter Try.func27, Try.ntmps27
  go_wp2_with fail
  refine (markMetaS_nil k _).mono ?_
  rintro e w1 ⟨rfl, hw⟩
  rw [hw]; clear hw
  go_wp2
  go_ret
  exact ⟨rfl, below_alloc _ _⟩
theorem heldVersion_nil (k : Int) (w : World) (hk : 0 ≤ k) : Calls Try.prog 30 #[.agg #[.int .i64 1, .int .i64 0, .slice none 0 0], .int .i64 k] w fun e w' => e = .returned (.int .i64 k) ∧ Below w.heap.size w w' := by
  have hk' : ¬ k < 0 := by omega
  go_enter Try.func30, Try.ntmps30
  go_wp2_with fail
  refine (heldMetaS_nil k _).mono ?_
  rintro e w1 ⟨rfl, hw⟩
  rw [hw]; clear hw
  go_wp2
  go_ret
  exact ⟨rfl, below_alloc _ _⟩

set_option maxHeartbeats 2000000 in
theorem eqEngine_nil (a1 a2 : Option Addr) (n1 c1 n2 c2 : Nat) (zs : List Int) (w : World) (h1 : IL w (.slice a1 n1 c1) zs) (h2 : IL w (.slice a2 n2 c2) zs) (hn : zs.length ≤ 1048576) :
    Calls Try.prog 7 #[.agg #[.int .i64 0, .slice a1 n1 c1, .slice none 0 0, .int .i64 1, .int .i64 0, .slice none 0 0, .slice none 0 0], .agg #[.int .i64 0, .slice a2 n2 c2, .slice none 0 0, .int .i64 1, .int .i64 0, .slice none 0 0, .slice none 0 0]] w fun e w' => e = .returned (.bool true) ∧ Below w.heap.size w w' := by
  obtain ⟨O1, hO1⟩ : ∃ O, O = Obj.cells #[.int .i64 0, .slice a1 n1 c1, .slice none 0 0, .int .i64 1, .int .i64 0, .slice none 0 0, .slice none 0 0] 31 (0, 0) := ⟨_, rfl⟩
  obtain ⟨O2, hO2⟩ : ∃ O, O = Obj.cells #[.int .i64 0, .slice a2 n2 c2, .slice none 0 0, .int .i64 1, .int .i64 0, .slice none 0 0, .slice none 0 0] 31 (0, 0) := ⟨_, rfl⟩
  have h1' := (h1.below (below_alloc w O1)).below (below_alloc _ O2)
  have h2' := (h2.below (below_alloc w O1)).below (below_alloc _ O2)
  have X0 : Box ((w.alloc O1).alloc O2) w.heap.size [.int .i64 0, .slice a1 n1 c1, .slice none 0 0, .int .i64 1, .int .i64 0, .slice none 0 0, .slice none 0 0] := by rw [hO1]; exact (Box.new w #[.int .i64 0, .slice a1 n1 c1, .slice none 0 0, .int .i64 1, .int .i64 0, .slice none 0 0, .slice none 0 0] 31).alloc _
  have Y0 : Box ((w.alloc O1).alloc O2) (w.heap.size + 1) [.int .i64 0, .slice a2 n2 c2, .slice none 0 0, .int .i64 1, .int .i64 0, .slice none 0 0, .slice none 0 0] := by
    have := Box.new (w.alloc O1) #[.int .i64 0, .slice a2 n2 c2, .slice none 0 0, .int .i64 1, .int .i64 0, .slice none 0 0, .slice none 0 0] 31
    rw [hO2]; simpa using this
  have B0 := below2 w O1 O2
  rw [hO1, hO2] at h1' h2' X0 Y0 B0
  clear hO1 hO2 h1 h2
  go_enter Try.func7, Try.ntmps7
  go_wp2_with fail
  refine (eqSkip_nil _ _ _ _ _ _ zs _ h1' h2' hn).mono ?_
  rintro e w1 ⟨rfl, hb1⟩
  have X1 := X0.below hb1
  have Y1 := Y0.below hb1
  have hB1 := below_then B0 hb1
  clear hb1 h1' h2' X0 Y0 B0
  obtain ⟨_, x0, x1, x2, x3, x4, x5, x6⟩ := X1.c7
  obtain ⟨_, y0, y1, y2, y3, y4, y5, y6⟩ := Y1.c7
  go_wp2_with fail
  refine (eqVersion_nil _).mono ?_
  rintro e w2 ⟨rfl, hb2⟩
  have X2 := X1.below hb2
  have Y2 := Y1.below hb2
  have hB2 := below_then hB1 hb2
  clear hb2 X1 Y1 hB1 x0 x1 x2 x3 x4 x5 x6 y0 y1 y2 y3 y4 y5 y6
  obtain ⟨_, x0, x1, x2, x3, x4, x5, x6⟩ := X2.c7
  obtain ⟨_, y0, y1, y2, y3, y4, y5, y6⟩ := Y2.c7
  go_wp2_with fail
  refine (eqStoredS_nil _).mono ?_
  rintro e w3 ⟨rfl, hw⟩
  rw [hw]; clear hw
  go_wp2
  go_ret
  exact ⟨rfl, hB2⟩
set_option maxHeartbeats 2000000 in
theorem markEngine_nil (g : Nat) (l : List Value) (w : World) (hx : Box w g l) (hl : l.length = 5) :
    Calls Try.prog 8 #[.agg #[.int .i64 0, .slice (some ⟨g, 0, none⟩) 5 5, .slice none 0 0, .int .i64 1, .int .i64 0, .slice none 0 0, .slice none 0 0], .int .i64 1] w fun e w' => e = .returned (.int .i64 6) ∧ Box w' g (mkI 1 5) ∧ Chg (· = g) w w' := by
  have hx' := hx.alloc (.cells #[.int .i64 0, .slice (some ⟨g, 0, none⟩) 5 5, .slice none 0 0, .int .i64 1, .int .i64 0, .slice none 0 0, .slice none 0 0] 31)
  have hgl := hx.1
  go_enter Try.func8, Try.ntmps8
  go_wp2_with fail
  refine (markSkip_nil g 5 5 l 1 _ hx' hl (by decide) (by decide) (by decide)).mono ?_
  rintro e w1 ⟨rfl, bx1, hc1⟩
  have X1 := hc1.box (Box.new w #[.int .i64 0, .slice (some ⟨g, 0, none⟩) 5 5, .slice none 0 0, .int .i64 1, .int .i64 0, .slice none 0 0, .slice none 0 0] 31) (by omega)
  have hC1 : Chg (· = g) w w1 := (Chg.of_below (below_alloc _ _)).trans hc1
  clear hc1 hx hx'
  obtain ⟨_, x0, x1, x2, x3, x4, x5, x6⟩ := X1.c7
  go_wp2_with fail
  refine (markVersion_nil _ _).mono ?_
  rintro e w2 ⟨rfl, hb2⟩
  have X2 := X1.below hb2
  have bx2 := bx1.below hb2
  have hC2 := hC1.trans (Chg.of_below hb2)
  clear hb2 X1 bx1 hC1 x0 x1 x2 x3 x4 x5 x6
  obtain ⟨_, x0, x1, x2, x3, x4, x5, x6⟩ := X2.c7
  go_wp2_with fail
  refine (markStoredS_nil _ _).mono ?_
  rintro e w3 ⟨rfl, hw⟩
  rw [hw]; clear hw
  go_wp2
  go_ret
  exact ⟨rfl, bx2, hC2⟩
set_option maxHeartbeats 2000000 in
theorem heldEngine_nil (g : Nat) (w : World) (hx : Box w g (mkI 1 5)) :
    Calls Try.prog 9 #[.agg #[.int .i64 0, .slice (some ⟨g, 0, none⟩) 5 5, .slice none 0 0, .int .i64 1, .int .i64 0, .slice none 0 0, .slice none 0 0], .int .i64 1] w fun e w' => e = .returned (.int .i64 6) ∧ Below w.heap.size w w' := by
  have hx' := hx.alloc (.cells #[.int .i64 0, .slice (some ⟨g, 0, none⟩) 5 5, .slice none 0 0, .int .i64 1, .int .i64 0, .slice none 0 0, .slice none 0 0] 31)
  have X0 := Box.new w #[.int .i64 0, .slice (some ⟨g, 0, none⟩) 5 5, .slice none 0 0, .int .i64 1, .int .i64 0, .slice none 0 0, .slice none 0 0] 31
  go_enter Try.func9, Try.ntmps9
  go_wp2_with fail
  refine (heldSkip_nil g 5 5 1 _ hx' (by decide) (by decide) (by decide)).mono ?_
  rintro e w1 ⟨rfl, hb1⟩
  have X1 := X0.below hb1
  have hB1 := below_then (below_alloc _ _) hb1
  clear hb1 hx hx' X0
  obtain ⟨_, x0, x1, x2, x3, x4, x5, x6⟩ := X1.c7
  go_wp2_with fail
  refine (heldVersion_nil _ _ (by decide)).mono ?_
  rintro e w2 ⟨rfl, hb2⟩
  have X2 := X1.below hb2
  have hB2 := below_then hB1 hb2
  clear hb2 X1 hB1 x0 x1 x2 x3 x4 x5 x6
  obtain ⟨_, x0, x1, x2, x3, x4, x5, x6⟩ := X2.c7
  go_wp2_with fail
  refine (heldStoredS_nil _ _).mono ?_
  rintro e w3 ⟨rfl, hw⟩
  rw [hw]; clear hw
  go_wp2
  go_ret
  exact ⟨rfl, hB2⟩

set_option maxHeartbeats 4000000 in
theorem lawNewEngine (w : World) : Calls Try.prog 3 #[] w fun e w' => e = .returned (.bool true) ∧ Below w.heap.size w w' := by
  have hm : m5.length = 5 := rfl
  have hm' : (m5.map (Value.int .i64)).length = 5 := rfl
  go_enter Try.func3, Try.ntmps3
  go_wp2_with fail
  refine (newE_spec _).mono ?_
  rintro e w1 ⟨⟨a1, n1, c1, rfl, o1⟩, hb1⟩
  have hz1 := hb1.size
  have hlt1 := owns_lt' o1
  have W1 := Box.new w1 #[.int .i64 0, .slice a1 n1 c1, .slice none 0 0, .int .i64 1, .int .i64 0, .slice none 0 0, .slice none 0 0] 31
  have O1 := owns_below o1 (below_alloc w1 (.cells #[.int .i64 0, .slice a1 n1 c1, .slice none 0 0, .int .i64 1, .int .i64 0, .slice none 0 0, .slice none 0 0] 31))
  have B1 := hb1.alloc hz1 (.cells #[.int .i64 0, .slice a1 n1 c1, .slice none 0 0, .int .i64 1, .int .i64 0, .slice none 0 0, .slice none 0 0] 31)
  have hzz : (w1.alloc (.cells #[.int .i64 0, .slice a1 n1 c1, .slice none 0 0, .int .i64 1, .int .i64 0, .slice none 0 0, .slice none 0 0] 31)).heap.size = w1.heap.size + 1 := by simp
  clear o1 hb1
  go_wp2_with fail
  generalize w1.alloc (.cells #[.int .i64 0, .slice a1 n1 c1, .slice none 0 0, .int .i64 1, .int .i64 0, .slice none 0 0, .slice none 0 0] 31) = w2 at *
  refine (newE_impl _).mono ?_
  rintro e w3 ⟨⟨g, rfl, hg, bx⟩, hb3⟩
  have hz3 := hb3.size
  have W3 := (W1.below hb3).alloc (.cells #[.int .i64 0, .slice (some ⟨g, 0, none⟩) 5 5, .slice none 0 0, .int .i64 1, .int .i64 0, .slice none 0 0, .slice none 0 0] 31)
  have G3 := Box.new w3 #[.int .i64 0, .slice (some ⟨g, 0, none⟩) 5 5, .slice none 0 0, .int .i64 1, .int .i64 0, .slice none 0 0, .slice none 0 0] 31
  have O3 := owns_below (owns_below O1 hb3) (below_alloc w3 (.cells #[.int .i64 0, .slice (some ⟨g, 0, none⟩) 5 5, .slice none 0 0, .int .i64 1, .int .i64 0, .slice none 0 0, .slice none 0 0] 31))
  have B3 := (B1.trans (hb3.mono B1.size)).alloc (by have := B1.size; omega) (.cells #[.int .i64 0, .slice (some ⟨g, 0, none⟩) 5 5, .slice none 0 0, .int .i64 1, .int .i64 0, .slice none 0 0, .slice none 0 0] 31)
  have bx3 := bx.alloc (.cells #[.int .i64 0, .slice (some ⟨g, 0, none⟩) 5 5, .slice none 0 0, .int .i64 1, .int .i64 0, .slice none 0 0, .slice none 0 0] 31)
  have hgl := bx.1
  have hz4 : (w3.alloc (.cells #[.int .i64 0, .slice (some ⟨g, 0, none⟩) 5 5, .slice none 0 0, .int .i64 1, .int .i64 0, .slice none 0 0, .slice none 0 0] 31)).heap.size = w3.heap.size + 1 := by simp
  have hown1 := owns_lt' O3
  have W3' := W1.below hb3
  obtain ⟨hpp, p0, p1, p2, p3, p4, p5, p6⟩ := W3'.c7
  clear W1 O1 B1 bx hb3 W3'
  obtain rfl := owns_len O3
  go_wp2_with fail
  refine (eqEngine_nil _ _ _ _ _ _ m5 _ (IL_of_box (cap := 5) bx3) (IL_of_owns O3 rfl) (by decide)).mono ?_
  rintro e w5 ⟨rfl, hb5⟩
  have W5 := W3.below hb5
  have G5 := G3.below hb5
  have O5 := owns_below O3 hb5
  have B5 := below_then B3 hb5
  have bx5 := bx3.below hb5
  have hz5 := hb5.size
  clear W3 G3 O3 B3 bx3 hb5 p0 p1 p2 p3 p4 p5 p6
  obtain ⟨_, q0, q1, q2, q3, q4, q5, q6⟩ := G5.c7
  go_wp2_with fail
  refine (markEngine_nil g _ _ bx5 hm').mono ?_
  rintro e w6 ⟨rfl, bx6, hc6⟩
  have W6 := hc6.box W5 (by omega)
  have G6 := hc6.box G5 (by omega)
  have hown5 := owns_lt' O5
  have O6 := hc6.owns O5 (fun b hb h => by have := hown1 b hb; have := hlt1 b hb; omega)
  have B6 := B5.trans (hc6.below (B := w.heap.size) (by have := B5.size; omega) (fun b h => by omega))
  have hz6 := hc6.size
  clear W5 G5 O5 B5 bx5 hc6 q0 q1 q2 q3 q4 q5 q6
  obtain ⟨_, q0, q1, q2, q3, q4, q5, q6⟩ := G6.c7
  go_wp2_with fail
  refine (heldEngine_nil g _ bx6).mono ?_
  rintro e w7 ⟨rfl, hb7⟩
  have W7 := W6.below hb7
  have G7 := G6.below hb7
  have O7 := owns_below O6 hb7
  have B7 := below_then B6 hb7
  have bx7 := bx6.below hb7
  clear W6 G6 O6 B6 bx6 hb7 q0 q1 q2 q3 q4 q5 q6
  go_wp2_with fail
  refine (newE_impl _).mono ?_
  rintro e w8 ⟨⟨g', rfl, hg', by8⟩, hb8⟩
  have W8 := W7.below hb8
  have G8 := G7.below hb8
  have O8 := owns_below O7 hb8
  have B8 := below_then B7 hb8
  have bx8 := bx7.below hb8
  have O9 := owns_below O8 (below_alloc w8 (.cells #[.int .i64 0, .slice (some ⟨g', 0, none⟩) 5 5, .slice none 0 0, .int .i64 1, .int .i64 0, .slice none 0 0, .slice none 0 0] 31))
  have by9 := by8.alloc (.cells #[.int .i64 0, .slice (some ⟨g', 0, none⟩) 5 5, .slice none 0 0, .int .i64 1, .int .i64 0, .slice none 0 0, .slice none 0 0] 31)
  have bx9 := bx8.alloc (.cells #[.int .i64 0, .slice (some ⟨g', 0, none⟩) 5 5, .slice none 0 0, .int .i64 1, .int .i64 0, .slice none 0 0, .slice none 0 0] 31)
  have G9 := G8.alloc (.cells #[.int .i64 0, .slice (some ⟨g', 0, none⟩) 5 5, .slice none 0 0, .int .i64 1, .int .i64 0, .slice none 0 0, .slice none 0 0] 31)
  have B9 := B8.alloc B8.size (.cells #[.int .i64 0, .slice (some ⟨g', 0, none⟩) 5 5, .slice none 0 0, .int .i64 1, .int .i64 0, .slice none 0 0, .slice none 0 0] 31)
  clear W7 G7 O7 B7 bx7 hb8
  obtain ⟨hp8, p0, p1, p2, p3, p4, p5, p6⟩ := W8.c7
  go_wp2_with fail
  refine (eqEngine_nil _ _ _ _ _ _ m5 _ (IL_of_box (cap := 5) by9) (IL_of_owns O9 rfl) (by decide)).mono ?_
  rintro e w10 ⟨rfl, hb10⟩
  have bx10 := bx9.below hb10
  have G10 := G9.below hb10
  have B10 := below_then B9 hb10
  clear W8 G8 O8 B8 bx8 O9 by9 bx9 G9 B9 hb10 p0 p1 p2 p3 p4 p5 p6
  obtain ⟨hq10, q0, q1, q2, q3, q4, q5, q6⟩ := G10.c7
  go_wp2_with fail
  refine (heldEngine_nil g _ bx10).mono ?_
  rintro e w11 ⟨rfl, hb11⟩
  have B11 := below_then B10 hb11
  go_wp2
  go_ret
  exact ⟨rfl, B11⟩
end Go.Proofs.Ytcjkdkaahkphfaa
