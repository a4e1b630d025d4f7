/-
  spec.NewSkip; the walk of the law laws.FnExactNewSkip.
-/
import Derived.Test.YtcjkdkaahkphfaaNK3
namespace Go.Proofs.Ytcjkdkaahkphfaa
open Go.RowKit
set_option linter.unusedVariables false
set_option maxRecDepth 100000

theorem owns_slice {w : World} {base e s n : Nat} {v : Value} {xs : List Value} (h : w.ownsRow base e s v n xs) : ∃ a m c, v = .slice a m c := by
  rcases h.2 with ⟨rfl, h0⟩ | ⟨g, cap, cur, rfl, _⟩
  · exact ⟨_, _, _, rfl⟩
  · exact ⟨_, _, _, rfl⟩
theorem owns_ge {w : World} {base : Nat} {e : TypeId} {size : Nat} {v : Value} {n : Nat} {xs : List Value} (h : w.ownsRow base e size v n xs) : ∀ b, v.ownBlock = some b → base ≤ b := by
  intro b hb
  rcases h.2 with ⟨rfl, h0⟩ | ⟨g, cap, cur, rfl, hg, hh, _⟩
  · cases hb
  · simp only [Value.ownBlock, Option.some.injEq] at hb
    omega
theorem owns_lt' {w : World} {base e s n : Nat} {v : Value} {xs : List Value} (h : w.ownsRow base e s v n xs) : ∀ g, v.ownBlock = some g → g < w.heap.size := by
  intro b hb
  rcases h.2 with ⟨rfl, h0⟩ | ⟨g, cap, cur, rfl, _, hh, _⟩
  · cases hb
  · simp only [Value.ownBlock, Option.some.injEq] at hb
    subst hb
    exact (Array.getElem?_eq_some_iff.1 hh).1
set_option maxHeartbeats 2000000 in
theorem specNew_any (w : World) :
    Calls Try.prog 19 #[] w fun e w' => (∃ a n c, e = .returned (.agg #[.slice a n c, .slice none 0 0]) ∧ w'.ownsRow (w.heap.size + 2) 3 1 (.slice a n c) 5 (m5.map (.int .i64))) ∧ Below w.heap.size w w' := by
  obtain ⟨i0, hi, hz0, hzs, hzb⟩ := info_parts Try.info3
  go_enter Try.func19, Try.ntmps19
  go_wp2
  go_loopw [2] (fun i wr => ∃ (k : Nat) (a : Option Addr) (n c : Nat), k ≤ 5 ∧ i = .int .i64 k ∧ Box wr w.heap.size [.slice none 0 0, .slice none 0 0] ∧ Box wr (w.heap.size + 1) [.slice a n c, .slice none 0 0] ∧ wr.ownsRow (w.heap.size + 2) 3 1 (.slice a n c) k (List.replicate k (.int .i64 (-1))) ∧ Below w.heap.size w wr) (fun i _ => 5 - (intOf i).toNat)
  case atStart =>
    refine ⟨0, none, 0, 0, Nat.zero_le _, rfl, (Box.new w #[.slice none 0 0, .slice none 0 0] 25).alloc _, ?_, World.ownsRow_nil _ _ _ _, below2 _ _ _⟩
    have := Box.new (w.alloc (.cells #[.slice none 0 0, .slice none 0 0] 25)) #[.slice none 0 0, .slice none 0 0] 25
    simpa using this
  case round =>
    obtain ⟨k, a, n, c, hk, rfl, X, Y, ho, hb⟩ := hrel
    by_cases hlt : k < 5
    · obtain ⟨hyl, y0, y1⟩ := Y.c2
      have fy := Y.2.2 0
      have hne := World.new_ne wr ⟨w.heap.size + 1, 0, none⟩ y0
      go_wp2_with (at_builtin; refine wpList_append_own _ rfl _ _ 22 rfl (w.heap.size + 2) 3 i0 (.int .i64 0) 1 8 Try.underlying22 hi hz0 hzs hzb rfl (by decide) (.slice a n c) k (List.replicate k (.int .i64 (-1))) rfl (owns_below ho (below_alloc _ _)) ⟨wr.heap.size, 0, none⟩ 1 1 [.int .i64 (-1)] rfl rfl (by intro j u hj; match j, hj with | 0, hj => simp at hj; subst hj; simp [Addr.add]) (by intro u hu; simp at hu; subst hu; rfl) (by unfold maxLen; omega) (by omega) (by simp; omega) ?_; intro v' w2 hown2 hgrow2 hsl; refine Stop.go ?_)
      have hB2 : Below (w.heap.size + 2) wr w2 := ((Below.refl _ _).alloc (by omega) _).grown hgrow2 (by simp; omega) (owns_ge ho)
      have X2 := X.under hB2 (by omega)
      have Y2 := Y.under hB2 (by omega)
      have hbb := hb.trans (hB2.mono (by omega))
      obtain ⟨a', n', c', rfl⟩ := owns_slice hown2
      clear y0 y1 fy hne hgrow2 hB2 X Y hb ho
      obtain ⟨hyl2, y0, y1⟩ := Y2.c2
      have fy := Y2.2.2 0
      have hge := owns_ge hown2
      have Y3 := Y2.set 0 (.slice a' n' c') (by simp)
      have hC : Chg (· = w.heap.size + 1) w2 (w2.setCell ⟨w.heap.size + 1, 0, none⟩ (.slice a' n' c')) := (Chg.refl (· = w.heap.size + 1) w2).setCell (p := ⟨w.heap.size + 1, 0, none⟩) rfl _
      have X3 := hC.box X2 (by omega)
      have o3 := hC.owns hown2 (fun g hg h => by have := hge g hg; omega)
      have b3 := hbb.trans (hC.below (B := w.heap.size) (by omega) (fun k h => by omega))
      clear hC hge Y2 X2 hown2 hbb
      unfold Stop
      go_wp2
      go_roundw
      case rel => exact ⟨k + 1, a', n', c', by omega, by go_num, X3, Y3, by rw [List.replicate_succ']; exact o3, b3⟩
      case measure => simp [intOf]; omega
    · obtain rfl : k = 5 := by omega
      obtain ⟨hxl, x0, x1⟩ := X.c2
      obtain ⟨hyl, y0, y1⟩ := Y.c2
      have f0 := X.2.2 0
      have f1 := X.2.2 1
      have X2 := (X.set 0 (.slice a n c) (by simp)).set 1 (.slice none 0 0) (by simp)
      have hge := owns_ge ho
      have hC : Chg (· = w.heap.size) wr ((wr.setCell ⟨w.heap.size, 0, none⟩ (.slice a n c)).setCell ⟨w.heap.size, 1, none⟩ (.slice none 0 0)) := ((Chg.refl (· = w.heap.size) wr).setCell (p := ⟨w.heap.size, 0, none⟩) rfl _).setCell (p := ⟨w.heap.size, 1, none⟩) rfl _
      have o3 := hC.owns ho (fun g hg h => by have := hge g hg; omega)
      have b3 := hb.trans (hC.below (B := w.heap.size) (by omega) (fun k h => by omega))
      clear hC
      go_wp2
      generalize (wr.setCell ⟨w.heap.size, 0, none⟩ (.slice a n c)).setCell ⟨w.heap.size, 1, none⟩ (.slice none 0 0) = w3 at *
      obtain ⟨_, z0, z1⟩ := X2.c2
      exact bodyPost_ret (v := .agg #[.slice a n c, .slice none 0 0]) (by simp [results, Try.results19, go_sem, z0, z1]) rfl ⟨⟨a, n, c, rfl, o3⟩, b3⟩

theorem owns_len {w : World} {base e n m c : Nat} {a : Option Addr} {xs : List Value} (h : w.ownsRow base e 1 (.slice a m c) n xs) : m = n := by
  rcases h.2 with ⟨h, h0⟩ | ⟨g, cap, cur, h, _⟩
  · simp only [Value.slice.injEq] at h; omega
  · simp only [Value.slice.injEq] at h; omega

end Go.Proofs.Ytcjkdkaahkphfaa
