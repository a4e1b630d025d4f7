/-
  A vote counted where none stood: BinarySearch and Insert on nothing, leading.
-/
import Derived.Test.YtapfhhmimkkhnaaQ6
namespace Go.Proofs.Ytapfhhmimkkhnaa
open Go.RowKit Go.Maps
set_option linter.unusedVariables false
set_option maxRecDepth 100000

set_option maxHeartbeats 4000000 in
theorem bsNil_any (x : Int) (w : World) : Calls Try.prog 122 #[.slice none 0 0, .int .i64 x] w fun e w' => e = .returned (.tuple #[.int .i64 0, .bool false]) ∧ Below w.heap.size w w' := by
  go_enter Try.func122, Try.ntmps122
  go_wp2
  go_loopw [7, 8] (fun i j wr => i = .int .i64 0 ∧ j = .int .i64 0 ∧ wr = w) (fun _ _ _ => 0)
  case atStart => exact ⟨rfl, rfl, rfl⟩
  case round =>
    obtain ⟨rfl, rfl, rfl⟩ := hrel
    go_wp2
    go_ret2
    exact ⟨rfl, Below.refl _ _⟩

set_option maxHeartbeats 4000000 in
theorem insNil_any (x : Int) (w : World) (b : Nat) (hv : IL w (.slice (some ⟨b, 0, none⟩) 1 1) [x]) : Calls Try.prog 123 #[.slice none 0 0, .int .i64 0, .slice (some ⟨b, 0, none⟩) 1 1] w fun e w' => ∃ u, e = .returned u ∧ w'.ownsRow w.heap.size 3 1 u 1 ([x].map (.int .i64)) ∧ Below w.heap.size w w' := by
  have o0 : w.ownsRow w.heap.size 3 1 (.slice none 0 0) 0 (([] : List Int).map (.int .i64)) := World.ownsRow_nil _ _ _ _
  go_enter Try.func123, Try.ntmps123
  go_wp2_with (at_builtin; refine wpList_append_int _ rfl _ _ rfl rfl w.heap.size _ 0 [] rfl o0 _ [x] rfl hv (by simp) (by simp) ?_; intro v' w' hown hgr; refine StopA.go ?_)
  replace hgr : w.grownBy w' none := hgr
  have hb := (Below.refl w.heap.size w).grown hgr (Nat.le_refl _) (fun j hj => by cases hj)
  obtain ⟨ua, uc, rfl⟩ := owns_shape hown
  unfold StopA
  go_wp2
  go_ret
  exact ⟨_, rfl, hown, hb⟩

theorem mk1_run (w : World) : (Sem.run Try.prog (Instr.makeSlice 24 (.int .i64 1) (.int .i64 1)) w) = .ok (.slice (some ⟨w.heap.size, 0, none⟩) 1 1) (w.alloc (.cells #[.int .i64 0] 3)) := by kernel_rfl
set_option maxHeartbeats 8000000 in
theorem leading_any (te vo co ro : Int) (la : Option Addr) (ln lc : Nat) (va : Option Addr) (vn vc : Nat) (w : World) :
    Calls Try.prog 124 #[.agg #[.int .i64 0, .int .i64 1, .int .i64 te, .int .i64 vo, .slice la ln lc, .int .i64 co, .int .i64 ro, .slice va vn vc, .slice none 0 0]] w fun e w' => ∃ u, e = .returned (.agg #[.int .i64 0, .int .i64 1, .int .i64 te, .int .i64 vo, .slice la ln lc, .int .i64 co, .int .i64 2, .slice none 0 0, u]) ∧ w'.ownsRow w.heap.size 3 1 u 1 ([(ln : Int)].map (.int .i64)) ∧ Below w.heap.size w w' := by
  have MK := mk1_run
  go_enter Try.func124, Try.ntmps124
  go_wp2
  obtain ⟨W0, hW0⟩ : ∃ W0, W0 = (w.alloc (.cells #[.int .i64 0, .int .i64 1, .int .i64 te, .int .i64 vo, .slice la ln lc, .int .i64 co, .int .i64 2, .slice none 0 0, .slice (some ⟨w.heap.size + 1 + 1, 0, none⟩) 1 1] 26)).alloc (.cells #[.int .i64 0, .int .i64 1, .int .i64 te, .int .i64 vo, .slice la ln lc, .int .i64 co, .int .i64 2, .slice none 0 0, .slice (some ⟨w.heap.size + 1 + 1, 0, none⟩) 1 1] 26) := ⟨_, rfl⟩
  have hs : W0.heap.size = w.heap.size + 1 + 1 := by rw [hW0]; simp
  have hb : Below w.heap.size w W0 := by rw [hW0]; exact below2 _ _ _
  have ho := World.ownsRow_lit (base := w.heap.size) (size := 1) (e := 3) W0 #[.int .i64 (ln : Int)] 1 (by omega) (by simp [maxLen]) (by simp)
  rw [hs] at ho
  exact bodyPost_ret (v := .agg #[.int .i64 0, .int .i64 1, .int .i64 te, .int .i64 vo, .slice la ln lc, .int .i64 co, .int .i64 2, .slice none 0 0, .slice (some ⟨w.heap.size + 1 + 1, 0, none⟩) 1 1]) (by simp [results, Try.results124, go_sem]) rfl ⟨_, rfl, by rw [← hW0]; exact ho, by rw [← hW0]; exact below_then hb (below_alloc _ _)⟩
end Go.Proofs.Ytapfhhmimkkhnaa
