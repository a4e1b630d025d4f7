/-
  NewSkip: both, the helpers of a list without towers, and the law.
-/
import Derived.Test.YtcjkdkaahkphfaaNK2
namespace Go.Proofs.Ytcjkdkaahkphfaa
open Go.RowKit
set_option linter.unusedVariables false
set_option maxRecDepth 100000

theorem eqTowerS_nil (a b : Option Addr) (c d : Nat) (w : World) :
    Calls Try.prog 46 #[.slice a 0 c, .slice b 0 d] w fun e w' => e = .returned (.bool true) ∧ w' = w := by
  go_enter Try.func46, Try.ntmps46
  go_wp2
  refine wp_loop_rounds 1 ?_; rw [rounds_succ]; go_wp2
  go_ret
  exact ⟨rfl, rfl⟩
theorem markTowerS_nil (a : Option Addr) (c : Nat) (k : Int) (w : World) :
    Calls Try.prog 50 #[.slice a 0 c, .int .i64 k] w fun e w' => e = .returned (.int .i64 k) ∧ w' = w := by
  go_enter Try.func50, Try.ntmps50
  go_wp2
  refine wp_loop_rounds 1 ?_; rw [rounds_succ]; go_wp2
  go_ret
  exact ⟨rfl, rfl⟩
theorem heldTowerS_nil (a : Option Addr) (c : Nat) (k : Int) (w : World) :
    Calls Try.prog 54 #[.slice a 0 c, .int .i64 k] w fun e w' => e = .returned (.int .i64 k) ∧ w' = w := by
  go_enter Try.func54, Try.ntmps54
  go_wp2
  refine wp_loop_rounds 1 ?_; rw [rounds_succ]; go_wp2
  go_ret
  exact ⟨rfl, rfl⟩

theorem eqSkip_nil (a1 a2 : Option Addr) (n1 c1 n2 c2 : Nat) (zs : List Int) (w : World) (h1 : IL w (.slice a1 n1 c1) zs) (h2 : IL w (.slice a2 n2 c2) zs) (hn : zs.length ≤ 1048576) :
    Calls Try.prog 23 #[.agg #[.slice a1 n1 c1, .slice none 0 0], .agg #[.slice a2 n2 c2, .slice none 0 0]] w fun e w' => e = .returned (.bool true) ∧ Below w.heap.size w w' := by
  have h1' := (h1.below (below_alloc w (.cells #[.slice a1 n1 c1, .slice none 0 0] 25))).below (below_alloc _ (.cells #[.slice a2 n2 c2, .slice none 0 0] 25))
  have h2' := (h2.below (below_alloc w (.cells #[.slice a1 n1 c1, .slice none 0 0] 25))).below (below_alloc _ (.cells #[.slice a2 n2 c2, .slice none 0 0] 25))
  go_enter Try.func23, Try.ntmps23
  go_wp2_with fail
  refine (eqIntS_same _ _ zs _ h1' h2' hn).mono ?_
  rintro e w1 ⟨rfl, hb1⟩
  have X1 := ((Box.new w #[.slice a1 n1 c1, .slice none 0 0] 25).alloc (.cells #[.slice a2 n2 c2, .slice none 0 0] 25)).below hb1
  have Y1 : Box w1 (w.heap.size + 1) [.slice a2 n2 c2, .slice none 0 0] := by have := (Box.new (w.alloc (.cells #[.slice a1 n1 c1, .slice none 0 0] 25)) #[.slice a2 n2 c2, .slice none 0 0] 25).below hb1; simpa using this
  have hB1 := below_then (below2 _ _ _) hb1
  clear hb1 h1 h2 h1' h2'
  obtain ⟨_, x0, x1⟩ := X1.c2
  obtain ⟨_, y0, y1⟩ := Y1.c2
  go_wp2_with fail
  refine (eqTowerS_nil _ _ _ _ _).mono ?_
  rintro e w2 ⟨rfl, hw⟩
  rw [hw]; clear hw
  go_wp2
  go_ret
  exact ⟨rfl, hB1⟩
theorem markSkip_nil (g n c : Nat) (l : List Value) (k : Int) (w : World) (hx : Box w g l) (hl : l.length = n) (hn : n ≤ 1048576) (hk0 : 0 ≤ k) (hk1 : k ≤ 1073741824) :
    Calls Try.prog 26 #[.agg #[.slice (some ⟨g, 0, none⟩) n c, .slice none 0 0], .int .i64 k] w fun e w' => e = .returned (.int .i64 (k + n)) ∧ Box w' g (mkI k n) ∧ Chg (· = g) w w' := by
  have hx' := hx.alloc (.cells #[.slice (some ⟨g, 0, none⟩) n c, .slice none 0 0] 25)
  have hgl := hx.1
  go_enter Try.func26, Try.ntmps26
  go_wp2_with fail
  refine (markIntS_any g c n l k _ hx' hl hn hk0 hk1).mono ?_
  rintro e w1 ⟨rfl, bx1, hc1⟩
  have X1 := hc1.box (Box.new w #[.slice (some ⟨g, 0, none⟩) n c, .slice none 0 0] 25) (by omega)
  have hC1 : Chg (· = g) w w1 := (Chg.of_below (below_alloc _ _)).trans hc1
  clear hc1 hx hx'
  obtain ⟨_, x0, x1⟩ := X1.c2
  go_wp2_with fail
  refine (markTowerS_nil _ _ _ _).mono ?_
  rintro e w2 ⟨rfl, hw⟩
  rw [hw]; clear hw
  go_wp2
  go_ret
  exact ⟨rfl, bx1, hC1⟩
theorem heldSkip_nil (g n c : Nat) (k : Int) (w : World) (hx : Box w g (mkI k n)) (hn : n ≤ 1048576) (hk0 : 0 ≤ k) (hk1 : k ≤ 1073741824) :
    Calls Try.prog 29 #[.agg #[.slice (some ⟨g, 0, none⟩) n c, .slice none 0 0], .int .i64 k] w fun e w' => e = .returned (.int .i64 (k + n)) ∧ Below w.heap.size w w' := by
  have hx' := hx.alloc (.cells #[.slice (some ⟨g, 0, none⟩) n c, .slice none 0 0] 25)
  go_enter Try.func29, Try.ntmps29
  go_wp2_with fail
  refine (heldIntS_any g c n k _ hx' hn hk0 hk1).mono ?_
  rintro e w1 ⟨rfl, hw⟩
  rw [hw]; clear hw
  go_wp2_with fail
  refine (heldTowerS_nil _ _ _ _).mono ?_
  rintro e w2 ⟨rfl, hw⟩
  rw [hw]; clear hw
  go_wp2
  go_ret
  exact ⟨rfl, below_alloc _ _⟩

def m5 : List Int := [-1, -1, -1, -1, -1]

set_option maxHeartbeats 1000000 in
theorem implNew_any (w : World) :
    Calls Try.prog 21 #[] w fun e w' => (∃ g, e = .returned (.agg #[.slice (some ⟨g, 0, none⟩) 5 5, .slice none 0 0]) ∧ w.heap.size ≤ g ∧ Box w' g (m5.map (.int .i64))) ∧ Below w.heap.size w w' := by
  have hc0 : ((w.alloc (.cells #[.slice none 0 0, .slice none 0 0] 25)).alloc (.cells #[.int .i64 (-1)] 3)).cell? ⟨w.heap.size + 1, 0, none⟩ = some (.int .i64 (-1)) := by simp
  go_enter Try.func21, Try.ntmps21
  go_wp2_with fail
  refine (repeat_five (w.heap.size + 1) _ (by simp) hc0).mono ?_
  rintro e w1 ⟨⟨g, rfl, hg, bx⟩, hb1⟩
  have X1 := ((Box.new w #[.slice none 0 0, .slice none 0 0] 25).alloc (.cells #[.int .i64 (-1)] 3)).below hb1
  have hB1 := below_then (below2 _ _ _) hb1
  have hg' : w.heap.size + 2 ≤ g := by simp at hg; omega
  clear hb1 hc0 hg
  obtain ⟨hzz, x0, x1⟩ := X1.c2
  have f0 := X1.2.2 0
  have f1 := X1.2.2 1
  go_wp2
  have Z := (X1.set 0 (.slice (some ⟨g, 0, none⟩) 5 5) (by simp)).set 1 (.slice none 0 0) (by simp)
  have hB2 := (hB1.setCell (p := ⟨w.heap.size, 0, none⟩) (Nat.le_refl _) (.slice (some ⟨g, 0, none⟩) 5 5)).setCell (p := ⟨w.heap.size, 1, none⟩) (Nat.le_refl _) (.slice none 0 0)
  have B2 := (bx.setOther ⟨w.heap.size, 0, none⟩ (.slice (some ⟨g, 0, none⟩) 5 5) (by simp; omega)).setOther ⟨w.heap.size, 1, none⟩ (.slice none 0 0) (by simp; omega)
  generalize (w1.setCell ⟨w.heap.size, 0, none⟩ (.slice (some ⟨g, 0, none⟩) 5 5)).setCell ⟨w.heap.size, 1, none⟩ (.slice none 0 0) = w3 at *
  obtain ⟨_, z0, z1⟩ := Z.c2
  exact bodyPost_ret (v := .agg #[.slice (some ⟨g, 0, none⟩) 5 5, .slice none 0 0]) (by simp [results, Try.results21, go_sem, z0, z1]) rfl ⟨⟨g, rfl, by omega, B2⟩, hB2⟩
end Go.Proofs.Ytcjkdkaahkphfaa
