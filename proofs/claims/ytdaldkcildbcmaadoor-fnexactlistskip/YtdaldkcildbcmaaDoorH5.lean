/-
  The walk of the law FnExactGoodSkip.
-/
import Derived.Test.YtdaldkcildbcmaaDoorH4
namespace Go.Proofs.YtdaldkcildbcmaaDoor
open Go.RowKit
set_option linter.unusedVariables false
set_option maxRecDepth 100000

theorem toSkip_il (x y : Value) (hs : List Int) (ts : List Tw) (w : World) (hx : IL w x hs) (hy : TW w y ts) (hn : hs.length ≤ 1048576) (hm : ts.length ≤ 1048576) (hf : ∀ i (h : i < ts.length), ts[i].next.length ≤ 1048576) :
    Calls Tryd.prog 26 #[.agg #[x, y]] w fun e w' => (∃ (g1 g2 : Nat), e = .returned (.agg #[.slice (some ⟨g1, 0, none⟩) hs.length hs.length, .slice (some ⟨g2, 0, none⟩) ts.length ts.length]) ∧
      IL w' (.slice (some ⟨g1, 0, none⟩) hs.length hs.length) hs ∧ TW w' (.slice (some ⟨g2, 0, none⟩) ts.length ts.length) ts) ∧ Below w.heap.size w w' :=
  (toSkip_any x y hs ts w hx hy hn hm hf).mono fun e w' ⟨⟨g1, g2, gs, _, _, hg, he, o1, o2, hL⟩, hb⟩ => ⟨⟨g1, g2, he, IL_of_owns o1 rfl, TW_of_rows o2 hL hg⟩, hb⟩
theorem fits_of_tot {ts : List Tw} (h : totT ts ≤ 1048576) (i : Nat) (hi : i < ts.length) : ts[i].next.length ≤ 1048576 ∧ ts[i].key.size ≤ 1048576 ∧ ts[i].val.size ≤ 1048576 := by
  have := totT_mem ts i hi
  unfold Tw.big at this
  omega

set_option maxHeartbeats 4000000 in
theorem lawGoodSkip (x y : Value) (hs : List Int) (ts : List Tw) (w : World) (hx : IL w x hs) (hy : TW w y ts) (hn : hs.length ≤ maxLen) (hm : ts.length ≤ maxLen) (hf : ∀ i (h : i < ts.length), ts[i].fits) (ht : Tabs w) :
    Calls Tryd.prog 6 #[.agg #[x, y]] w fun e w' => e = .returned (.bool true) ∧ Below w.heap.size w w' := by
  obtain ⟨ax, cx, hxe, _⟩ := id hx
  subst hxe
  obtain ⟨ay, cy, hye, _⟩ := id hy
  subst hye
  go_enter Tryd.func6, Tryd.ntmps6
  go_wp2_with fail
  refine (szSkip_any _ _ hs ts _ (hx.below (below_alloc _ _)) (hy.below (below_alloc _ _)) hn hm hf).mono ?_
  rintro e w1 ⟨⟨q, rfl, hq⟩, hb1⟩
  have hB1 := below_then (below_alloc _ _) hb1
  have X1 := (Box.new w #[.slice ax hs.length cx, .slice ay ts.length cy] 50).below hb1
  clear hb1
  rcases hq with rfl | ⟨hq0, hqe⟩
  · go_wp2
    go_ret
    exact ⟨rfl, hB1⟩
  · have m1 : hs.length ≤ 1048576 := by omega
    have m2 : ts.length ≤ 1048576 := by omega
    have m3 : totT ts ≤ 1048576 := by omega
    have F1 := fits_of_tot m3
    have F2 : ∀ i (h : i < ts.length), ts[i].next.length ≤ 1048576 := fun i h => (F1 i h).1
    have F3 : ∀ i : Nat, i < ts.length → (tw ts i).next.length ≤ 1048576 ∧ (tw ts i).key.size ≤ 1048576 ∧ (tw ts i).val.size ≤ 1048576 := fun i h => by rw [tw_at ts i h]; exact F1 i h
    have hq' : ¬ q < 0 := by omega
    have KT := fun w hx hy => toSkip_il (.slice ax hs.length cx) (.slice ay ts.length cy) hs ts w hx hy m1 m2 F2
    have KS := fun g1 g2 w hx hy => specGoodSkip_any (.slice (some ⟨g1, 0, none⟩) hs.length hs.length) (some ⟨g2, 0, none⟩) ts.length hs ts w hx hy (Nat.le_refl _) m2 m1 F3
    have KI := fun g1 g2 w hx hy ht => implGoodSkip_any (.slice (some ⟨g1, 0, none⟩) hs.length hs.length) (.slice (some ⟨g2, 0, none⟩) ts.length ts.length) hs ts w hx hy m1 m2 ht F3
    have KE := fun x y x' y' w hx hy hx' hy' => eqSkip_same x y x' y' hs ts w hx hy hx' hy' m1 m2 F2
    clear hqe hf F1 F2 F3
    obtain ⟨_, p0, p1⟩ := X1.c2
    go_wp2_with fail
    refine (KT _ (hx.below hB1) (hy.below hB1)).mono ?_
    rintro e w2 ⟨⟨g1, g2, rfl, o1, o2⟩, hb2⟩
    have hB2 := below_then hB1 hb2
    have X2 := X1.below hb2
    clear p0 p1 X1 hb2
    go_wp2_with fail
    refine (KS g1 g2 _ o1 o2).mono ?_
    rintro e w3 ⟨⟨c1, rfl, hc1⟩, hb3⟩
    have hB3 := below_then hB2 hb3
    have X3 := X2.below hb3
    clear X2 hb3 o1 o2
    obtain ⟨_, p0, p1⟩ := X3.c2
    go_wp2_with fail
    refine (KT _ (hx.below hB3) (hy.below hB3)).mono ?_
    rintro e w4 ⟨⟨g3, g4, rfl, o1, o2⟩, hb4⟩
    have hB4 := below_then hB3 hb4
    have X4 := X3.below hb4
    clear p0 p1 X3 hb4
    go_wp2_with fail
    have BX : Below w4.heap.size w4 (w4.alloc (.cells #[.slice (some ⟨g3, 0, none⟩) hs.length hs.length, .slice (some ⟨g4, 0, none⟩) ts.length ts.length] 26)) := below_alloc _ _
    refine (KI g3 g4 _ (o1.below BX) (o2.below BX) (ht.below (below_then hB4 BX))).mono ?_
    rintro e w5 ⟨⟨c2, rfl, hc2⟩, hb5⟩
    have hB5' := below_then BX hb5
    have hB5 := below_then hB4 hB5'
    have X5 := X4.below hB5'
    have Y5 := (Box.new w4 #[.slice (some ⟨g3, 0, none⟩) hs.length hs.length, .slice (some ⟨g4, 0, none⟩) ts.length ts.length] 26).below hb5
    have l1 := o1.below hB5'
    have l2 := o2.below hB5'
    have hcc : c1 = c2 := by rw [Bool.eq_iff_iff, hc1, hc2]; exact (good_same hs ts).symm
    subst hcc
    clear X4 hb5 o1 o2 hc1 hc2 hB5' BX
    obtain ⟨hz1, p0, p1⟩ := X5.c2
    obtain ⟨hz2, q0, q1⟩ := Y5.c2
    cases c1
    all_goals
      go_wp2_with fail
      go_region_held3 (fun w' => w'.cell? ⟨w.heap.size, 0, none⟩ = some (.slice ax hs.length cx) ∧ w'.cell? ⟨w.heap.size, 1, none⟩ = some (.slice ay ts.length cy) ∧ w'.cell? ⟨w4.heap.size, 0, none⟩ = some (.slice (some ⟨g3, 0, none⟩) hs.length hs.length) ∧ w'.cell? ⟨w4.heap.size, 1, none⟩ = some (.slice (some ⟨g4, 0, none⟩) ts.length ts.length)) (go_keep) (first | (go_at_call 26; refine (KT _ (hx.below hB5.drew) (hy.below hB5.drew)).mono ?_; rintro e w6 ⟨⟨g5, g6, rfl, o1, o2⟩, hb6'⟩; have hb6 := below_undrew hb6'; obtain ⟨_, p0, p1⟩ := (X5.below hb6).c2; obtain ⟨_, q0, q1⟩ := (Y5.below hb6).c2) | (go_at_call 27; refine (KE _ _ _ _ _ (l1.below hb6) (l2.below hb6) o1 o2).mono ?_; rintro e w7 ⟨rfl, hb7⟩; obtain ⟨_, p0, p1⟩ := ((X5.below hb6).below hb7).c2; obtain ⟨_, q0, q1⟩ := ((Y5.below hb6).below hb7).c2))
      all_goals
        go_wp2
        go_ret
        exact ⟨rfl, below_then (below_then hB5 hb6) hb7⟩
end Go.Proofs.YtdaldkcildbcmaaDoor
