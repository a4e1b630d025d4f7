/-
  impl: mayFollow.
-/
import Derived.Test.YtdaldkcildbcmaaDoorG5ToG6
namespace Go.Proofs.YtdaldkcildbcmaaDoor
open Go.RowKit
set_option linter.unusedVariables false
set_option maxRecDepth 100000

theorem TW.cells {w : World} {y : Value} {ts : List Tw} (h : TW w y ts) (i : Nat) (hi : i < ts.length) : ∃ b off cap u, y = .slice (some ⟨b, off, none⟩) ts.length cap ∧ b < w.heap.size ∧ (w.cell? ⟨b, off + i * 5, none⟩ = some (.string (tw ts i).key) ∧ w.cell? ⟨b, off + i * 5 + 1, none⟩ = some (.int .i64 (tw ts i).seq) ∧ w.cell? ⟨b, off + i * 5 + 2, none⟩ = some (.int .i64 (tw ts i).kind) ∧ w.cell? ⟨b, off + i * 5 + 3, none⟩ = some (.string (tw ts i).val) ∧ w.cell? ⟨b, off + i * 5 + 4, none⟩ = some u) ∧ IL w u (tw ts i).next := by
  obtain ⟨a, cap, rfl, hc⟩ := h
  obtain ⟨b, off, rfl, hbl, hcell⟩ := hc (by intro e; simp [e] at hi)
  obtain ⟨u, hz, hu⟩ := hcell i hi
  rw [show ts[i] = tw ts i from by simp [tw, List.getD, hi]] at hz hu
  exact ⟨b, off, cap, u, rfl, hbl, hz, hu⟩

set_option maxHeartbeats 4000000 in
theorem mayFollow_first (x y : Value) (ts : List Tw) (lv : Nat) (at_ : Int) (w : World) (hy : TW w y ts) (hn : ts.length ≤ 1048576) (hl : lv ≤ 5) (hf : ∀ i : Nat, i < ts.length → (tw ts i).next.length ≤ 1048576) :
    Calls Tryd.prog 87 #[.agg #[x, y], .int .i64 (-1), .int .i64 at_, .int .i64 lv] w fun e w' => e = .returned (.bool (mayB ts lv (-1) at_)) ∧ Below w.heap.size w w' := by
  have HM : Hid (mayB ts lv (-1) at_ = (decide (0 ≤ at_) && decide (at_ < ts.length) && decide (lv < (tw ts at_).next.length) && true)) := rfl
  generalize mayB ts lv (-1) at_ = M at *
  by_cases h0 : at_ < 0
  · obtain rfl : M = false := by rw [HM.out]; simp; omega
    obtain ⟨a, cap, rfl, hc⟩ := hy
    clear HM hc
    go_enter Tryd.func87, Tryd.ntmps87
    go_wp2
    go_ret
    exact ⟨rfl, below_alloc _ _⟩
  · obtain ⟨i, rfl⟩ := Int.eq_ofNat_of_zero_le (show 0 ≤ at_ by omega)
    by_cases h1 : i < ts.length
    · obtain ⟨b, off, cap, u, rfl, hbl, ⟨z0, z1, z2, z3, z4⟩, hu⟩ := hy.cells i h1
      have hfi := hf i h1
      have h1' : ¬ (ts.length : Int) ≤ i := by omega
      have hm : M = decide (lv < (tw ts i).next.length) := by rw [HM.out]; simp; omega
      clear HM hy hf
      generalize tw ts i = s at *
      obtain ⟨sk, sn, sd, sv, sx⟩ := s
      dsimp only at z0 z1 z2 z3 hfi hu hm
      obtain ⟨a', cap', hue, _⟩ := hu
      subst hue
      have hmt := method_links sk sv sn sd (.slice a' sx.length cap')
      by_cases hle : lv < sx.length
      · obtain rfl : M = true := by rw [hm]; simp [hle]
        have hle' : ¬ (sx.length : Int) ≤ lv := by omega
        clear hm
        go_enter Tryd.func87, Tryd.ntmps87
        go_wp2_with fail
        refine (links_any sk sv sn sd (.slice a' sx.length cap') _).mono ?_
        rintro e w1 ⟨rfl, hb1⟩
        have hB1 := below_then (below_alloc _ _) hb1
        clear hb1 hmt
        go_wp2_with fail
        go_quiet (fail)
        go_wp2
        go_ret
        exact ⟨rfl, below_drewN hB1 _⟩
      · obtain rfl : M = false := by rw [hm]; simp [hle]
        have hle' : (sx.length : Int) ≤ lv := by omega
        clear hm
        go_enter Tryd.func87, Tryd.ntmps87
        go_wp2_with fail
        refine (links_any sk sv sn sd (.slice a' sx.length cap') _).mono ?_
        rintro e w1 ⟨rfl, hb1⟩
        have hB1 := below_then (below_alloc _ _) hb1
        clear hb1 hmt
        go_wp2
        go_ret
        exact ⟨rfl, hB1⟩
    · obtain rfl : M = false := by rw [HM.out]; simp; omega
      obtain ⟨a, cap, rfl, hc⟩ := hy
      have h1' : (ts.length : Int) ≤ i := by omega
      clear HM hc
      go_enter Tryd.func87, Tryd.ntmps87
      go_wp2
      go_ret
      exact ⟨rfl, below_alloc _ _⟩
end Go.Proofs.YtdaldkcildbcmaaDoor
