/-
  A vote counted where none stood: BinarySearch and Insert on nothing, leading.
  votedBy of one's own vote where none stood.
-/
import Derived.Test.YtapfhhmimkkhnaaQ4ToQ6
namespace Go.Proofs.Ytapfhhmimkkhnaa
open Go.RowKit Go.Maps
set_option linter.unusedVariables false
set_option maxRecDepth 100000

set_option maxHeartbeats 4000000 in
theorem bsNil_any (x : Int) (w : World) : Calls Try.prog 122 #[.slice none 0 0, .int .i64 x] w fun e w' => e = .returned (.tuple #[.int .i64 0, .bool false]) ∧ Below w.heap.size w w' := by
  go_enter Try.func122, Try.ntmps122
  go_wp2
  go_loopw [7, 8] (fun i j wr => i = .int .i64 0 ∧ j = .int .i64 0 ∧ wr = w) (fun _ _ _ => 0)
  case atStart => exact ⟨rfl, rfl, rfl⟩
  case round =>
    obtain ⟨rfl, rfl, rfl⟩ := hrel
    go_wp2
    go_ret2
    exact ⟨rfl, Below.refl _ _⟩

set_option maxHeartbeats 4000000 in
theorem insNil_any (x : Int) (w : World) (b : Nat) (hv : IL w (.slice (some ⟨b, 0, none⟩) 1 1) [x]) : Calls Try.prog 123 #[.slice none 0 0, .int .i64 0, .slice (some ⟨b, 0, none⟩) 1 1] w fun e w' => ∃ u, e = .returned u ∧ w'.ownsRow w.heap.size 3 1 u 1 ([x].map (.int .i64)) ∧ Below w.heap.size w w' := by
  have o0 : w.ownsRow w.heap.size 3 1 (.slice none 0 0) 0 (([] : List Int).map (.int .i64)) := World.ownsRow_nil _ _ _ _
  go_enter Try.func123, Try.ntmps123
  go_wp2_with (at_builtin; refine wpList_append_int _ rfl _ _ rfl rfl w.heap.size _ 0 [] rfl o0 _ [x] rfl hv (by simp) (by simp) ?_; intro v' w' hown hgr; refine StopA.go ?_)
  replace hgr : w.grownBy w' none := hgr
  have hb := (Below.refl w.heap.size w).grown hgr (Nat.le_refl _) (fun j hj => by cases hj)
  obtain ⟨ua, uc, rfl⟩ := owns_shape hown
  unfold StopA
  go_wp2
  go_ret
  exact ⟨_, rfl, hown, hb⟩

theorem mk1_run (w : World) : (Sem.run Try.prog (Instr.makeSlice 24 (.int .i64 1) (.int .i64 1)) w) = .ok (.slice (some ⟨w.heap.size, 0, none⟩) 1 1) (w.alloc (.cells #[.int .i64 0] 3)) := by kernel_rfl
set_option maxHeartbeats 8000000 in
theorem leading_any (te vo co ro : Int) (la : Option Addr) (ln lc : Nat) (va : Option Addr) (vn vc : Nat) (w : World) :
    Calls Try.prog 124 #[.agg #[.int .i64 0, .int .i64 1, .int .i64 te, .int .i64 vo, .slice la ln lc, .int .i64 co, .int .i64 ro, .slice va vn vc, .slice none 0 0]] w fun e w' => ∃ u, e = .returned (.agg #[.int .i64 0, .int .i64 1, .int .i64 te, .int .i64 vo, .slice la ln lc, .int .i64 co, .int .i64 2, .slice none 0 0, u]) ∧ w'.ownsRow w.heap.size 3 1 u 1 ([(ln : Int)].map (.int .i64)) ∧ Below w.heap.size w w' := by
  have MK := mk1_run
  go_enter Try.func124, Try.ntmps124
  go_wp2
  obtain ⟨W0, hW0⟩ : ∃ W0, W0 = (w.alloc (.cells #[.int .i64 0, .int .i64 1, .int .i64 te, .int .i64 vo, .slice la ln lc, .int .i64 co, .int .i64 2, .slice none 0 0, .slice (some ⟨w.heap.size + 1 + 1, 0, none⟩) 1 1] 26)).alloc (.cells #[.int .i64 0, .int .i64 1, .int .i64 te, .int .i64 vo, .slice la ln lc, .int .i64 co, .int .i64 2, .slice none 0 0, .slice (some ⟨w.heap.size + 1 + 1, 0, none⟩) 1 1] 26) := ⟨_, rfl⟩
  have hs : W0.heap.size = w.heap.size + 1 + 1 := by rw [hW0]; simp
  have hb : Below w.heap.size w W0 := by rw [hW0]; exact below2 _ _ _
  have ho := World.ownsRow_lit (base := w.heap.size) (size := 1) (e := 3) W0 #[.int .i64 (ln : Int)] 1 (by omega) (by simp [maxLen]) (by simp)
  rw [hs] at ho
  exact bodyPost_ret (v := .agg #[.int .i64 0, .int .i64 1, .int .i64 te, .int .i64 vo, .slice la ln lc, .int .i64 co, .int .i64 2, .slice none 0 0, .slice (some ⟨w.heap.size + 1 + 1, 0, none⟩) 1 1]) (by simp [results, Try.results124, go_sem]) rfl ⟨_, rfl, by rw [← hW0]; exact ho, by rw [← hW0]; exact below_then hb (below_alloc _ _)⟩
end Go.Proofs.Ytapfhhmimkkhnaa

namespace Go.Proofs.Ytapfhhmimkkhnaa
open Go.RowKit Go.Maps
set_option linter.unusedVariables false
set_option maxRecDepth 100000

/-- One number laid down as a row. -/
theorem IL_one {w : World} {b : Nat} {x : Int} (h : Box w b [.int .i64 x]) : IL w (.slice (some ⟨b, 0, none⟩) 1 1) [x] := by
  refine ⟨_, _, rfl, fun _ => ⟨b, 0, rfl, h.1, fun i hi => ?_⟩⟩
  obtain rfl : i = 0 := by simp at hi; omega
  exact h.2.1 0 _ rfl

set_option maxHeartbeats 8000000 in
theorem votedBy_more (id pe te vo co ro : Int) (la : Option Addr) (ln lc : Nat) (w : World) (h2 : 2 ≤ pe) :
    Calls Try.prog 81 #[.agg #[.int .i64 id, .int .i64 pe, .int .i64 te, .int .i64 vo, .slice la ln lc, .int .i64 co, .int .i64 ro, .slice none 0 0, .slice none 0 0], .int .i64 id] w fun e w' => ∃ u, e = .returned (.agg #[.int .i64 id, .int .i64 pe, .int .i64 te, .int .i64 vo, .slice la ln lc, .int .i64 co, .int .i64 ro, u, .slice none 0 0]) ∧ w'.ownsRow w.heap.size 3 1 u 1 ([id].map (.int .i64)) ∧ Below w.heap.size w w' := by
  have hB := below2 w (.cells #[.int .i64 id, .int .i64 pe, .int .i64 te, .int .i64 vo, .slice la ln lc, .int .i64 co, .int .i64 ro, .slice none 0 0, .slice none 0 0] 26) (.cells #[.int .i64 0, .int .i64 0, .int .i64 0, .int .i64 0, .slice none 0 0, .int .i64 0, .int .i64 0, .slice none 0 0, .slice none 0 0] 26)
  have X := (Box.new w #[.int .i64 id, .int .i64 pe, .int .i64 te, .int .i64 vo, .slice la ln lc, .int .i64 co, .int .i64 ro, .slice none 0 0, .slice none 0 0] 26).below (below_alloc _ (.cells #[.int .i64 0, .int .i64 0, .int .i64 0, .int .i64 0, .slice none 0 0, .int .i64 0, .int .i64 0, .slice none 0 0, .slice none 0 0] 26))
  have Y := Box.new (w.alloc (.cells #[.int .i64 id, .int .i64 pe, .int .i64 te, .int .i64 vo, .slice la ln lc, .int .i64 co, .int .i64 ro, .slice none 0 0, .slice none 0 0] 26)) #[.int .i64 0, .int .i64 0, .int .i64 0, .int .i64 0, .slice none 0 0, .int .i64 0, .int .i64 0, .slice none 0 0, .slice none 0 0] 26
  rw [World.size_alloc] at Y
  go_enter Try.func81, Try.ntmps81
  go_wp2_with fail
  refine (bsNil_any _ _).mono ?_
  rintro e w1 ⟨rfl, hb⟩
  replace hB := below_then hB hb
  replace X := X.below hb
  replace Y := Y.below hb
  clear hb
  have BA := below_alloc w1 (.cells #[.int .i64 id] 3)
  have V := Box.new w1 #[.int .i64 id] 3
  obtain ⟨xl, x0, x1, x2, x3, x4, x5, x6, x7, x8⟩ := X.e9
  have hz1 := hB.size
  have hy1 := Y.1
  go_wp2_with fail
  refine (insNil_any _ _ _ (IL_one V)).mono ?_
  rintro e w2 ⟨u, rfl, hown, hb⟩
  replace hB := below_then (below_then hB BA) hb
  replace X := (X.below BA).below hb
  replace Y := (Y.below BA).below hb
  have hz2 := hb.size
  have gu := owns_ge hown
  simp only [World.size_alloc] at hz2 gu
  clear hb BA V xl x0 x1 x2 x3 x4 x5 x6 x7 x8
  obtain ⟨ua, uc, rfl⟩ := owns_shape hown
  obtain ⟨xl, x0, x1, x2, x3, x4, x5, x6, x7, x8⟩ := X.e9
  obtain ⟨f0, f1, f2, f3, f4, f5, f6, f7, f8⟩ := X.f9
  go_upto_region 4 with fail
  obtain ⟨W2, hW2⟩ : ∃ W, W = w2.setCell ⟨w.heap.size, 7, none⟩ (.slice ua 1 uc) := ⟨_, rfl⟩
  have hC : Chg (fun k => k = w.heap.size) w2 W2 := by rw [hW2]; exact Chg.setCell (S := fun k => k = w.heap.size) (Chg.refl _ _) rfl _
  replace hB := hB.trans (hC.below (B := w.heap.size) hB.size (fun k hk => by omega))
  replace Y := hC.box Y (by omega)
  replace X : Box W2 w.heap.size [.int .i64 id, .int .i64 pe, .int .i64 te, .int .i64 vo, .slice la ln lc, .int .i64 co, .int .i64 ro, .slice ua 1 uc, .slice none 0 0] := by rw [hW2]; exact X.set 7 _ (by simp)
  replace hown := hC.owns hown (fun b hb hh => by have := gu b hb; have hh : b = w.heap.size := hh; omega)
  have hz3 := hC.size
  rw [← hW2]; clear hW2 hC xl x0 x1 x2 x3 x4 x5 x6 x7 x8 f0 f1 f2 f3 f4 f5 f6 f7 f8
  obtain ⟨xl, x0, x1, x2, x3, x4, x5, x6, x7, x8⟩ := X.e9
  go_wp2_with fail
  refine (areMost_any _ _ _ _ _ _ _ _ _ _ _ (by decide) (by decide)).mono ?_
  rintro e w3 ⟨rfl, hb⟩
  replace hB := below_then hB hb
  replace X := X.below hb
  replace Y := Y.below hb
  replace hown := owns_below hown hb
  have hz4 := hb.size
  clear hb xl x0 x1 x2 x3 x4 x5 x6 x7 x8
  obtain ⟨xl, x0, x1, x2, x3, x4, x5, x6, x7, x8⟩ := X.e9
  have hq : decide (pe < 2 * 1) = false := by simp; omega
  rw [hq]
  have hC := put9_chg w3 (w.heap.size + 1) (.int .i64 id) (.int .i64 pe) (.int .i64 te) (.int .i64 vo) (.slice la ln lc) (.int .i64 co) (.int .i64 ro) (.slice ua 1 uc) (.slice none 0 0)
  have Z := put9_box Y (.int .i64 id) (.int .i64 pe) (.int .i64 te) (.int .i64 vo) (.slice la ln lc) (.int .i64 co) (.int .i64 ro) (.slice ua 1 uc) (.slice none 0 0)
  have hBE := hB.trans (hC.below (B := w.heap.size) hB.size (fun k hk => by omega))
  have oE := owns_mono' (hC.owns hown (fun b hb hh => by have := gu b hb; have hh : b = w.heap.size + 1 := hh; omega)) (show w.heap.size ≤ _ from by first | omega | (simp only [World.size_alloc]; omega))
  obtain ⟨ql, q0, q1, q2, q3, q4, q5, q6, q7, q8⟩ := Y.e9
  obtain ⟨h0, h1, h2', h3, h4, h5, h6, h7, h8⟩ := Y.f9
  clear hC hown hB X Y gu
  obtain ⟨hzl, t0, t1, t2, t3, t4, t5, t6, t7, t8⟩ := Z.e9
  clear Z
  unfold put9 at *
  go_wp2
  exact bodyPost_ret (v := .agg #[.int .i64 id, .int .i64 pe, .int .i64 te, .int .i64 vo, .slice la ln lc, .int .i64 co, .int .i64 ro, .slice ua 1 uc, .slice none 0 0]) (by simp [results, Try.results81, go_sem, t0, t1, t2, t3, t4, t5, t6, t7, t8]) rfl ⟨_, rfl, oE, hBE⟩

set_option maxHeartbeats 8000000 in
theorem votedBy_one (te vo co ro : Int) (la : Option Addr) (ln lc : Nat) (w : World) :
    Calls Try.prog 81 #[.agg #[.int .i64 0, .int .i64 1, .int .i64 te, .int .i64 vo, .slice la ln lc, .int .i64 co, .int .i64 ro, .slice none 0 0, .slice none 0 0], .int .i64 0] w fun e w' => ∃ u, e = .returned (.agg #[.int .i64 0, .int .i64 1, .int .i64 te, .int .i64 vo, .slice la ln lc, .int .i64 co, .int .i64 2, .slice none 0 0, u]) ∧ w'.ownsRow w.heap.size 3 1 u 1 ([(ln : Int)].map (.int .i64)) ∧ Below w.heap.size w w' := by
  have hB := below2 w (.cells #[.int .i64 0, .int .i64 1, .int .i64 te, .int .i64 vo, .slice la ln lc, .int .i64 co, .int .i64 ro, .slice none 0 0, .slice none 0 0] 26) (.cells #[.int .i64 0, .int .i64 0, .int .i64 0, .int .i64 0, .slice none 0 0, .int .i64 0, .int .i64 0, .slice none 0 0, .slice none 0 0] 26)
  have X := (Box.new w #[.int .i64 0, .int .i64 1, .int .i64 te, .int .i64 vo, .slice la ln lc, .int .i64 co, .int .i64 ro, .slice none 0 0, .slice none 0 0] 26).below (below_alloc _ (.cells #[.int .i64 0, .int .i64 0, .int .i64 0, .int .i64 0, .slice none 0 0, .int .i64 0, .int .i64 0, .slice none 0 0, .slice none 0 0] 26))
  have Y := Box.new (w.alloc (.cells #[.int .i64 0, .int .i64 1, .int .i64 te, .int .i64 vo, .slice la ln lc, .int .i64 co, .int .i64 ro, .slice none 0 0, .slice none 0 0] 26)) #[.int .i64 0, .int .i64 0, .int .i64 0, .int .i64 0, .slice none 0 0, .int .i64 0, .int .i64 0, .slice none 0 0, .slice none 0 0] 26
  rw [World.size_alloc] at Y
  go_enter Try.func81, Try.ntmps81
  go_wp2_with fail
  refine (bsNil_any _ _).mono ?_
  rintro e w1 ⟨rfl, hb⟩
  replace hB := below_then hB hb
  replace X := X.below hb
  replace Y := Y.below hb
  clear hb
  have BA := below_alloc w1 (.cells #[.int .i64 0] 3)
  have V := Box.new w1 #[.int .i64 0] 3
  obtain ⟨xl, x0, x1, x2, x3, x4, x5, x6, x7, x8⟩ := X.e9
  have hz1 := hB.size
  have hy1 := Y.1
  go_wp2_with fail
  refine (insNil_any _ _ _ (IL_one V)).mono ?_
  rintro e w2 ⟨u, rfl, hown, hb⟩
  replace hB := below_then (below_then hB BA) hb
  replace X := (X.below BA).below hb
  replace Y := (Y.below BA).below hb
  have hz2 := hb.size
  have gu := owns_ge hown
  simp only [World.size_alloc] at hz2 gu
  clear hb BA V xl x0 x1 x2 x3 x4 x5 x6 x7 x8
  obtain ⟨ua, uc, rfl⟩ := owns_shape hown
  obtain ⟨xl, x0, x1, x2, x3, x4, x5, x6, x7, x8⟩ := X.e9
  obtain ⟨f0, f1, f2, f3, f4, f5, f6, f7, f8⟩ := X.f9
  go_upto_region 4 with fail
  obtain ⟨W2, hW2⟩ : ∃ W, W = w2.setCell ⟨w.heap.size, 7, none⟩ (.slice ua 1 uc) := ⟨_, rfl⟩
  have hC : Chg (fun k => k = w.heap.size) w2 W2 := by rw [hW2]; exact Chg.setCell (S := fun k => k = w.heap.size) (Chg.refl _ _) rfl _
  replace hB := hB.trans (hC.below (B := w.heap.size) hB.size (fun k hk => by omega))
  replace Y := hC.box Y (by omega)
  replace X : Box W2 w.heap.size [.int .i64 0, .int .i64 1, .int .i64 te, .int .i64 vo, .slice la ln lc, .int .i64 co, .int .i64 ro, .slice ua 1 uc, .slice none 0 0] := by rw [hW2]; exact X.set 7 _ (by simp)
  replace hown := hC.owns hown (fun b hb hh => by have := gu b hb; have hh : b = w.heap.size := hh; omega)
  have hz3 := hC.size
  rw [← hW2]; clear hW2 hC xl x0 x1 x2 x3 x4 x5 x6 x7 x8 f0 f1 f2 f3 f4 f5 f6 f7 f8
  obtain ⟨xl, x0, x1, x2, x3, x4, x5, x6, x7, x8⟩ := X.e9
  go_wp2_with fail
  refine (areMost_any _ _ _ _ _ _ _ _ _ _ _ (by decide) (by decide)).mono ?_
  rintro e w3 ⟨rfl, hb⟩
  replace hB := below_then hB hb
  replace X := X.below hb
  replace Y := Y.below hb
  replace hown := owns_below hown hb
  have hz4 := hb.size
  clear hb xl x0 x1 x2 x3 x4 x5 x6 x7 x8
  obtain ⟨xl, x0, x1, x2, x3, x4, x5, x6, x7, x8⟩ := X.e9
  have hq : decide ((1 : Int) < 2 * 1) = true := by decide
  rw [hq]
  go_wp2_with fail
  refine (leading_any _ _ _ _ _ _ _ _ _ _ _).mono ?_
  rintro e w4 ⟨u, rfl, hown, hb⟩
  replace hB := below_then hB hb
  replace X := X.below hb
  replace Y := Y.below hb
  have hz5 := hb.size
  replace gu := owns_ge hown
  clear hb xl x0 x1 x2 x3 x4 x5 x6 x7 x8
  obtain ⟨za, zc, rfl⟩ := owns_shape hown
  have hC := put9_chg w4 (w.heap.size + 1) (.int .i64 0) (.int .i64 1) (.int .i64 te) (.int .i64 vo) (.slice la ln lc) (.int .i64 co) (.int .i64 2) (.slice none 0 0) (.slice za 1 zc)
  have Z := put9_box Y (.int .i64 0) (.int .i64 1) (.int .i64 te) (.int .i64 vo) (.slice la ln lc) (.int .i64 co) (.int .i64 2) (.slice none 0 0) (.slice za 1 zc)
  have hBE := hB.trans (hC.below (B := w.heap.size) hB.size (fun k hk => by omega))
  have oE := owns_mono' (hC.owns hown (fun b hb hh => by have := gu b hb; have hh : b = w.heap.size + 1 := hh; omega)) (show w.heap.size ≤ _ from by first | omega | (simp only [World.size_alloc]; omega))
  obtain ⟨ql, q0, q1, q2, q3, q4, q5, q6, q7, q8⟩ := Y.e9
  obtain ⟨h0, h1, h2', h3, h4, h5, h6, h7, h8⟩ := Y.f9
  clear hC hown hB X Y gu
  obtain ⟨hzl, t0, t1, t2, t3, t4, t5, t6, t7, t8⟩ := Z.e9
  clear Z
  unfold put9 at *
  go_wp2
  exact bodyPost_ret (v := .agg #[.int .i64 0, .int .i64 1, .int .i64 te, .int .i64 vo, .slice la ln lc, .int .i64 co, .int .i64 2, .slice none 0 0, .slice za 1 zc]) (by simp [results, Try.results81, go_sem, t0, t1, t2, t3, t4, t5, t6, t7, t8]) rfl ⟨_, rfl, oE, hBE⟩
end Go.Proofs.Ytapfhhmimkkhnaa
