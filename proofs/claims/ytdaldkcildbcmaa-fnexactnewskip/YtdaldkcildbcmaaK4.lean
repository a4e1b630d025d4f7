/-
  spec.NewSkip; the walk of the law laws.FnExactNewSkip.
-/
import Derived.Test.YtdaldkcildbcmaaK3
namespace Go.Proofs.Ytdaldkcildbcmaa
open Go.RowKit
set_option linter.unusedVariables false
set_option maxRecDepth 100000

theorem owns_slice {w : World} {base e s n : Nat} {v : Value} {xs : List Value} (h : w.ownsRow base e s v n xs) : ∃ a m c, v = .slice a m c := by
  rcases h.2 with ⟨rfl, h0⟩ | ⟨g, cap, cur, rfl, _⟩
  · exact ⟨_, _, _, rfl⟩
  · exact ⟨_, _, _, rfl⟩
theorem owns_ge {w : World} {base : Nat} {e : TypeId} {size : Nat} {v : Value} {n : Nat} {xs : List Value} (h : w.ownsRow base e size v n xs) : ∀ b, v.ownBlock = some b → base ≤ b := by
  intro b hb
  rcases h.2 with ⟨rfl, h0⟩ | ⟨g, cap, cur, rfl, hg, hh, _⟩
  · cases hb
  · simp only [Value.ownBlock, Option.some.injEq] at hb
    omega
theorem owns_lt' {w : World} {base e s n : Nat} {v : Value} {xs : List Value} (h : w.ownsRow base e s v n xs) : ∀ g, v.ownBlock = some g → g < w.heap.size := by
  intro b hb
  rcases h.2 with ⟨rfl, h0⟩ | ⟨g, cap, cur, rfl, _, hh, _⟩
  · cases hb
  · simp only [Value.ownBlock, Option.some.injEq] at hb
    subst hb
    exact (Array.getElem?_eq_some_iff.1 hh).1
set_option maxHeartbeats 2000000 in
theorem specNew_any (w : World) :
    Calls Try.prog 12 #[] w fun e w' => (∃ a n c, e = .returned (.agg #[.slice a n c, .slice none 0 0]) ∧ w'.ownsRow (w.heap.size + 2) 3 1 (.slice a n c) 5 (m5.map (.int .i64))) ∧ Below w.heap.size w w' := by
  obtain ⟨i0, hi, hz0, hzs, hzb⟩ := info_parts Try.info3
  go_enter Try.func12, Try.ntmps12
  go_wp2
  go_loopw [2] (fun i wr => ∃ (k : Nat) (a : Option Addr) (n c : Nat), k ≤ 5 ∧ i = .int .i64 k ∧ Box wr w.heap.size [.slice none 0 0, .slice none 0 0] ∧ Box wr (w.heap.size + 1) [.slice a n c, .slice none 0 0] ∧ wr.ownsRow (w.heap.size + 2) 3 1 (.slice a n c) k (List.replicate k (.int .i64 (-1))) ∧ Below w.heap.size w wr) (fun i _ => 5 - (intOf i).toNat)
  case atStart =>
    refine ⟨0, none, 0, 0, Nat.zero_le _, rfl, (Box.new w #[.slice none 0 0, .slice none 0 0] 35).alloc _, ?_, World.ownsRow_nil _ _ _ _, below2 _ _ _⟩
    have := Box.new (w.alloc (.cells #[.slice none 0 0, .slice none 0 0] 35)) #[.slice none 0 0, .slice none 0 0] 35
    simpa using this
  case round =>
    obtain ⟨k, a, n, c, hk, rfl, X, Y, ho, hb⟩ := hrel
    by_cases hlt : k < 5
    · obtain ⟨hyl, y0, y1⟩ := Y.c2
      have fy := Y.2.2 0
      have hne := World.new_ne wr ⟨w.heap.size + 1, 0, none⟩ y0
      go_wp2_with (at_builtin; refine wpList_append_own _ rfl _ _ 32 rfl (w.heap.size + 2) 3 i0 (.int .i64 0) 1 8 Try.underlying32 hi hz0 hzs hzb rfl (by decide) (.slice a n c) k (List.replicate k (.int .i64 (-1))) rfl (owns_below ho (below_alloc _ _)) ⟨wr.heap.size, 0, none⟩ 1 1 [.int .i64 (-1)] rfl rfl (by intro j u hj; match j, hj with | 0, hj => simp at hj; subst hj; simp [Addr.add]) (by intro u hu; simp at hu; subst hu; rfl) (by unfold maxLen; omega) (by omega) (by simp; omega) ?_; intro v' w2 hown2 hgrow2 hsl; refine Stop.go ?_)
      have hB2 : Below (w.heap.size + 2) wr w2 := ((Below.refl _ _).alloc (by omega) _).grown hgrow2 (by simp; omega) (owns_ge ho)
      have X2 := X.under hB2 (by omega)
      have Y2 := Y.under hB2 (by omega)
      have hbb := hb.trans (hB2.mono (by omega))
      obtain ⟨a', n', c', rfl⟩ := owns_slice hown2
      clear y0 y1 fy hne hgrow2 hB2 X Y hb ho
      obtain ⟨hyl2, y0, y1⟩ := Y2.c2
      have fy := Y2.2.2 0
      have hge := owns_ge hown2
      have Y3 := Y2.set 0 (.slice a' n' c') (by simp)
      have hC : Chg (· = w.heap.size + 1) w2 (w2.setCell ⟨w.heap.size + 1, 0, none⟩ (.slice a' n' c')) := (Chg.refl (· = w.heap.size + 1) w2).setCell (p := ⟨w.heap.size + 1, 0, none⟩) rfl _
      have X3 := hC.box X2 (by omega)
      have o3 := hC.owns hown2 (fun g hg h => by have := hge g hg; omega)
      have b3 := hbb.trans (hC.below (B := w.heap.size) (by omega) (fun k h => by omega))
      clear hC hge Y2 X2 hown2 hbb
      unfold Stop
      go_wp2
      go_roundw
      case rel => exact ⟨k + 1, a', n', c', by omega, by go_num, X3, Y3, by rw [List.replicate_succ']; exact o3, b3⟩
      case measure => simp [intOf]; omega
    · obtain rfl : k = 5 := by omega
      obtain ⟨hxl, x0, x1⟩ := X.c2
      obtain ⟨hyl, y0, y1⟩ := Y.c2
      have f0 := X.2.2 0
      have f1 := X.2.2 1
      have X2 := (X.set 0 (.slice a n c) (by simp)).set 1 (.slice none 0 0) (by simp)
      have hge := owns_ge ho
      have hC : Chg (· = w.heap.size) wr ((wr.setCell ⟨w.heap.size, 0, none⟩ (.slice a n c)).setCell ⟨w.heap.size, 1, none⟩ (.slice none 0 0)) := ((Chg.refl (· = w.heap.size) wr).setCell (p := ⟨w.heap.size, 0, none⟩) rfl _).setCell (p := ⟨w.heap.size, 1, none⟩) rfl _
      have o3 := hC.owns ho (fun g hg h => by have := hge g hg; omega)
      have b3 := hb.trans (hC.below (B := w.heap.size) (by omega) (fun k h => by omega))
      clear hC
      go_wp2
      generalize (wr.setCell ⟨w.heap.size, 0, none⟩ (.slice a n c)).setCell ⟨w.heap.size, 1, none⟩ (.slice none 0 0) = w3 at *
      obtain ⟨_, z0, z1⟩ := X2.c2
      exact bodyPost_ret (v := .agg #[.slice a n c, .slice none 0 0]) (by simp [results, Try.results12, go_sem, z0, z1]) rfl ⟨⟨a, n, c, rfl, o3⟩, b3⟩

theorem owns_len {w : World} {base e n m c : Nat} {a : Option Addr} {xs : List Value} (h : w.ownsRow base e 1 (.slice a m c) n xs) : m = n := by
  rcases h.2 with ⟨h, h0⟩ | ⟨g, cap, cur, h, _⟩
  · simp only [Value.slice.injEq] at h; omega
  · simp only [Value.slice.injEq] at h; omega

set_option maxHeartbeats 2000000 in
theorem lawNew (w : World) :
    Calls Try.prog 5 #[] w fun e w' => e = .returned (.bool true) ∧ Below w.heap.size w w' := by
  have hm : m5.length = 5 := rfl
  have hm' : (m5.map (Value.int .i64)).length = 5 := rfl
  go_enter Try.func5, Try.ntmps5
  go_wp2_with fail
  refine (specNew_any _).mono ?_
  rintro e w1 ⟨⟨a1, n1, c1, rfl, o1⟩, hb1⟩
  have hz1 := hb1.size
  have hlt1 := owns_lt' o1
  have W1 := Box.new w1 #[.slice a1 n1 c1, .slice none 0 0] 35
  have O1 := owns_below o1 (below_alloc w1 (.cells #[.slice a1 n1 c1, .slice none 0 0] 35))
  have B1 := hb1.alloc hz1 (.cells #[.slice a1 n1 c1, .slice none 0 0] 35)
  have hzz : (w1.alloc (.cells #[.slice a1 n1 c1, .slice none 0 0] 35)).heap.size = w1.heap.size + 1 := by simp
  clear o1 hb1
  go_wp2_with fail
  generalize w1.alloc (.cells #[.slice a1 n1 c1, .slice none 0 0] 35) = w2 at *
  refine (implNew_any _).mono ?_
  rintro e w3 ⟨⟨g, rfl, hg, bx⟩, hb3⟩
  have hz3 := hb3.size
  have W3 := (W1.below hb3).alloc (.cells #[.slice (some ⟨g, 0, none⟩) 5 5, .slice none 0 0] 35)
  have G3 := Box.new w3 #[.slice (some ⟨g, 0, none⟩) 5 5, .slice none 0 0] 35
  have O3 := owns_below (owns_below O1 hb3) (below_alloc w3 (.cells #[.slice (some ⟨g, 0, none⟩) 5 5, .slice none 0 0] 35))
  have B3 := (B1.trans (hb3.mono B1.size)).alloc (by have := B1.size; omega) (.cells #[.slice (some ⟨g, 0, none⟩) 5 5, .slice none 0 0] 35)
  have bx3 := bx.alloc (.cells #[.slice (some ⟨g, 0, none⟩) 5 5, .slice none 0 0] 35)
  have hgl := bx.1
  have hz4 : (w3.alloc (.cells #[.slice (some ⟨g, 0, none⟩) 5 5, .slice none 0 0] 35)).heap.size = w3.heap.size + 1 := by simp
  have hown1 := owns_lt' O3
  have W3' := W1.below hb3
  obtain ⟨hpp, p0, p1⟩ := W3'.c2
  clear W1 O1 B1 bx hb3 W3'
  obtain rfl := owns_len O3
  go_wp2_with fail
  refine (eqSkip_nil _ _ _ _ _ _ m5 _ (IL_of_box (cap := 5) bx3) (IL_of_owns O3 rfl) (by decide)).mono ?_
  rintro e w5 ⟨rfl, hb5⟩
  have W5 := W3.below hb5
  have G5 := G3.below hb5
  have O5 := owns_below O3 hb5
  have B5 := below_then B3 hb5
  have bx5 := bx3.below hb5
  have hz5 := hb5.size
  clear W3 G3 O3 B3 bx3 hb5 p0 p1
  obtain ⟨_, p0, p1⟩ := W5.c2
  obtain ⟨_, q0, q1⟩ := G5.c2
  go_wp2_with fail
  refine (markSkip_nil g 5 5 _ 1 _ bx5 hm' (by decide) (by decide) (by decide)).mono ?_
  rintro e w6 ⟨rfl, bx6, hc6⟩
  have W6 := hc6.box W5 (by omega)
  have G6 := hc6.box G5 (by omega)
  have hown5 := owns_lt' O5
  have O6 := hc6.owns O5 (fun b hb h => by have := hown1 b hb; have := hlt1 b hb; omega)
  have B6 := B5.trans (hc6.below (B := w.heap.size) (by have := B5.size; omega) (fun b h => by omega))
  have hz6 := hc6.size
  clear W5 G5 O5 B5 bx5 hc6 p0 p1 q0 q1
  obtain ⟨_, q0, q1⟩ := G6.c2
  go_wp2_with fail
  refine (heldSkip_nil g 5 5 1 _ bx6 (by decide) (by decide) (by decide)).mono ?_
  rintro e w7 ⟨rfl, hb7⟩
  have W7 := W6.below hb7
  have G7 := G6.below hb7
  have O7 := owns_below O6 hb7
  have B7 := below_then B6 hb7
  have bx7 := bx6.below hb7
  clear W6 G6 O6 B6 bx6 hb7 q0 q1
  obtain ⟨hp7, p0, p1⟩ := W7.c2
  obtain ⟨hq7, q0, q1⟩ := G7.c2
  go_wp2_with fail
  refine (implNew_any _).mono ?_
  rintro e w8 ⟨⟨g', rfl, hg', by8⟩, hb8⟩
  have W8 := W7.below hb8
  have G8 := G7.below hb8
  have O8 := owns_below O7 hb8
  have B8 := below_then B7 hb8
  have bx8 := bx7.below hb8
  have O9 := owns_below O8 (below_alloc w8 (.cells #[.slice (some ⟨g', 0, none⟩) 5 5, .slice none 0 0] 35))
  have by9 := by8.alloc (.cells #[.slice (some ⟨g', 0, none⟩) 5 5, .slice none 0 0] 35)
  have bx9 := bx8.alloc (.cells #[.slice (some ⟨g', 0, none⟩) 5 5, .slice none 0 0] 35)
  have G9 := G8.alloc (.cells #[.slice (some ⟨g', 0, none⟩) 5 5, .slice none 0 0] 35)
  have B9 := B8.alloc B8.size (.cells #[.slice (some ⟨g', 0, none⟩) 5 5, .slice none 0 0] 35)
  clear W7 G7 O7 B7 bx7 hb8 p0 p1 q0 q1
  obtain ⟨hp8, p0, p1⟩ := W8.c2
  go_wp2_with fail
  refine (eqSkip_nil _ _ _ _ _ _ m5 _ (IL_of_box (cap := 5) by9) (IL_of_owns O9 rfl) (by decide)).mono ?_
  rintro e w10 ⟨rfl, hb10⟩
  have bx10 := bx9.below hb10
  have G10 := G9.below hb10
  have B10 := below_then B9 hb10
  clear W8 G8 O8 B8 bx8 O9 by9 bx9 G9 B9 hb10 p0 p1
  obtain ⟨hq10, q0, q1⟩ := G10.c2
  go_wp2_with fail
  refine (heldSkip_nil g 5 5 1 _ bx10 (by decide) (by decide) (by decide)).mono ?_
  rintro e w11 ⟨rfl, hb11⟩
  have B11 := below_then B10 hb11
  go_wp2
  go_ret
  exact ⟨rfl, B11⟩
end Go.Proofs.Ytdaldkcildbcmaa
