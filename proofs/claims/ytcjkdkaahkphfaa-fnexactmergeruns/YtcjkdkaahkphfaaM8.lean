/-
  A run as a struct: mayMerge, l8Run, and the law's own szRun, toRun, eqRun, markRun, heldRun.
-/
import Derived.Test.YtcjkdkaahkphfaaN1
import Derived.Test.YtcjkdkaahkphfaaQ1
import Derived.Test.YtcjkdkaahkphfaaP8
namespace Go.Proofs.Ytcjkdkaahkphfaa
open Go.RowKit
set_option linter.unusedVariables false
set_option maxRecDepth 100000

set_option maxHeartbeats 1000000 in
theorem mayMerge_any (v : Value) (l : List It) (w : World) (hv : IR w v l) (hn : l.length ≤ 1048576) (hs : ∀ i (h : i < l.length), l[i].k.size ≤ 1048576 ∧ l[i].v.size ≤ 1048576) :
    Calls Try.prog 61 #[.agg #[v]] w fun e w' => e = .returned (.bool (mayM l)) ∧ Below w.heap.size w w' := by
  have hv1 := hv.below (below_alloc w (.cells #[v] 40))
  have K := implRun_any v l _ hv1 hn hs
  have HM : Hid (mayM l = (decide (l.length ≤ 400) && goodR l)) := rfl
  obtain ⟨a, cap, rfl, _⟩ := hv
  generalize goodR l = g at *
  generalize mayM l = m at *
  by_cases hl : (l.length : Int) ≤ 400
  · have HM2 : Hid (m = g) := by show _ = _; rw [HM.out, decide_eq_true (show l.length ≤ 400 from by omega)]; rfl
    clear hv1 HM hs
    go_enter Try.func61, Try.ntmps61
    go_wp2_with fail
    refine K.mono ?_
    rintro e w1 ⟨rfl, hb⟩
    go_wp2
    go_ret
    exact ⟨by rw [HM2.out]; rfl, below_then (below_alloc _ _) hb⟩
  · have HM2 : Hid (m = false) := by show _ = _; rw [HM.out, decide_eq_false (show ¬ l.length ≤ 400 from by omega)]; rfl
    clear hv1 HM hs K
    go_enter Try.func61, Try.ntmps61
    go_wp2
    go_ret
    exact ⟨by rw [HM2.out]; rfl, below_alloc _ _⟩

set_option maxHeartbeats 1000000 in
theorem l8Run_any (v : Value) (l : List It) (w : World) (hv : IR w v l) (hn : l.length ≤ 1048576) (hs : ∀ i (h : i < l.length), l[i].k.size ≤ 1048576 ∧ l[i].v.size ≤ 1048576) :
    Calls Try.prog 57 #[.agg #[v]] w fun e w' => e = .returned (.bool (mayM l)) ∧ Below w.heap.size w w' := by
  have hv1 := hv.below (below_alloc w (.cells #[v] 40))
  have K := specRun_any v l _ hv1 hn hs
  have HM : Hid (mayM l = (decide (l.length ≤ 400) && goodR l)) := rfl
  obtain ⟨a, cap, rfl, _⟩ := hv
  generalize goodR l = g at *
  generalize mayM l = m at *
  have X := Box.new w #[.slice a l.length cap] 40
  clear hv1 hs
  by_cases hl : (l.length : Int) ≤ 400
  · have HM2 : Hid (m = g) := by show _ = _; rw [HM.out, decide_eq_true (show l.length ≤ 400 from by omega)]; rfl
    clear HM
    go_enter Try.func57, Try.ntmps57
    go_wp2_with fail
    refine K.mono ?_
    rintro e w1 ⟨rfl, hb⟩
    have c0 := (X.below hb).2.1 0 _ rfl
    have hb1 := below_then (below_alloc w (.cells #[.slice a l.length cap] 40)) hb
    clear X hb
    cases g
    all_goals
      go_wp2
      go_ret
      exact ⟨by rw [HM2.out]; rfl, hb1⟩
  · have HM2 : Hid (m = false) := by show _ = _; rw [HM.out, decide_eq_false (show ¬ l.length ≤ 400 from by omega)]; rfl
    have hd := decide_eq_false hl
    clear HM
    go_enter Try.func57, Try.ntmps57
    go_wp2_with fail
    refine K.mono ?_
    rintro e w1 ⟨rfl, hb⟩
    have c0 := (X.below hb).2.1 0 _ rfl
    have hb1 := below_then (below_alloc w (.cells #[.slice a l.length cap] 40)) hb
    clear X hb
    cases g
    all_goals
      go_wp2
      go_ret
      exact ⟨by rw [HM2.out]; first | rfl | (rw [hd]; rfl), hb1⟩

set_option maxHeartbeats 1000000 in
theorem szRun_any (v : Value) (l : List It) (left : Int) (w : World) (hv : IR w v l) (h0 : 0 ≤ left) (h1 : left ≤ 1048576) (hn : l.length ≤ maxLen) (hs : ∀ i (h : i < l.length), l[i].k.size ≤ maxLen ∧ l[i].v.size ≤ maxLen) :
    Calls Try.prog 32 #[.agg #[v], .int .i64 left] w fun e w' => (∃ r : Int, e = .returned (.int .i64 r) ∧ (r = -1 ∨ (0 ≤ r ∧ (tot4 l : Int) + l.length + r = left))) ∧ Below w.heap.size w w' := by
  have hv1 := hv.below (below_alloc w (.cells #[v] 61))
  have K := szItemS_any v l left _ hv1 h0 h1 hn hs
  obtain ⟨a, cap, rfl, _⟩ := hv
  clear hv1 hs
  go_enter Try.func32, Try.ntmps32
  go_wp2_with fail
  refine K.mono ?_
  rintro e w1 ⟨⟨r, rfl, hr⟩, hb⟩
  have hb1 := below_then (below_alloc w (.cells #[.slice a l.length cap] 61)) hb
  clear hb
  rcases hr with rfl | ⟨hr, he⟩
  · go_wp2
    go_ret
    exact ⟨⟨-1, rfl, .inl rfl⟩, hb1⟩
  · have HE : Hid ((tot4 l : Int) + l.length + r = left) := he
    clear he
    go_wp2
    go_ret
    exact ⟨⟨r, rfl, .inr ⟨hr, HE.out⟩⟩, hb1⟩

set_option maxHeartbeats 1000000 in
theorem toRun_any (v : Value) (l : List It) (w : World) (hv : IR w v l) (hn : l.length ≤ 1048576) :
    Calls Try.prog 35 #[.agg #[v]] w fun e w' => ∃ g, e = .returned (.agg #[.slice (some ⟨g, 0, none⟩) l.length l.length]) ∧ w'.ownsRow w.heap.size 68 4 (.slice (some ⟨g, 0, none⟩) l.length l.length) l.length (flat4 l) ∧ Below w.heap.size w w' := by
  have hB : Below w.heap.size w (((w.alloc (.cells #[v] 61)).alloc (.cells #[.slice none 0 0] 40)).alloc (.cells #[.slice none 0 0] 40)) := below3 _ _ _ _
  have hv1 := hv.below hB
  have K := toItemS_any v l _ hv1 hn
  obtain ⟨a, cap, rfl, _⟩ := hv
  have X1 : Box (((w.alloc (.cells #[.slice a l.length cap] 61)).alloc (.cells #[.slice none 0 0] 40)).alloc (.cells #[.slice none 0 0] 40)) (w.heap.size + 1) [.slice none 0 0] := by
    have := (Box.new (w.alloc (.cells #[.slice a l.length cap] 61)) #[.slice none 0 0] 40).alloc (.cells #[.slice none 0 0] 40)
    simpa using this
  have X2 : Box (((w.alloc (.cells #[.slice a l.length cap] 61)).alloc (.cells #[.slice none 0 0] 40)).alloc (.cells #[.slice none 0 0] 40)) (w.heap.size + 1 + 1) [.slice none 0 0] := by
    have := Box.new ((w.alloc (.cells #[.slice a l.length cap] 61)).alloc (.cells #[.slice none 0 0] 40)) #[.slice none 0 0] 40
    simpa using this
  clear hv1
  go_enter Try.func35, Try.ntmps35
  go_wp2_with fail
  refine K.mono ?_
  rintro e w1 ⟨rfl, ho, hb⟩
  have Y1 := X1.below hb
  have Y2 := X2.below hb
  have hb1 := below_then hB hb
  clear X1 X2 hb hB K
  simp only [World.size_alloc] at ho ⊢
  have ho2 := owns_base ho (base' := w.heap.size) (by omega)
  have hg := (owns_lt ho).2
  obtain ⟨_, p1, f1⟩ := Y1
  obtain ⟨_, p2, f2⟩ := Y2
  have q1 := p1 0 _ rfl
  have q2 := p2 0 _ rfl
  have g1 := f1 0
  have g2 := f2 0
  have hC : Below w.heap.size w ((w1.setCell ⟨w.heap.size + 1 + 1, 0, none⟩ (.slice (some ⟨w.heap.size + 1 + 1 + 1, 0, none⟩) l.length l.length)).setCell ⟨w.heap.size + 1, 0, none⟩ (.slice (some ⟨w.heap.size + 1 + 1 + 1, 0, none⟩) l.length l.length)) := (hb1.setCell (by simp; omega) _).setCell (by simp) _
  have hO : ((w1.setCell ⟨w.heap.size + 1 + 1, 0, none⟩ (.slice (some ⟨w.heap.size + 1 + 1 + 1, 0, none⟩) l.length l.length)).setCell ⟨w.heap.size + 1, 0, none⟩ (.slice (some ⟨w.heap.size + 1 + 1 + 1, 0, none⟩) l.length l.length)).ownsRow w.heap.size 68 4 (.slice (some ⟨w.heap.size + 1 + 1 + 1, 0, none⟩) l.length l.length) l.length (flat4 l) := by
    have c : Chg (fun k => k = w.heap.size + 1 + 1 ∨ k = w.heap.size + 1) w1 ((w1.setCell ⟨w.heap.size + 1 + 1, 0, none⟩ (.slice (some ⟨w.heap.size + 1 + 1 + 1, 0, none⟩) l.length l.length)).setCell ⟨w.heap.size + 1, 0, none⟩ (.slice (some ⟨w.heap.size + 1 + 1 + 1, 0, none⟩) l.length l.length)) := ((Chg.refl _ _).setCell (.inl rfl) _).setCell (.inr rfl) _
    refine c.owns ho2 ?_
    intro b hb hh
    have : b = w.heap.size + 1 + 1 + 1 := by simpa [Value.ownBlock] using hb.symm
    omega
  have hz := hb1.size
  have h3 : w.heap.size + 1 < w1.heap.size := by omega
  have h4 : w.heap.size + 1 + 1 < w1.heap.size := by omega
  clear ho ho2 hb1 p1 p2 f1 f2
  go_wp2
  exact bodyPost_ret (v := .agg #[.slice (some ⟨w.heap.size + 1 + 1 + 1, 0, none⟩) l.length l.length]) (by simp [results, Try.results35, go_sem, q1]) rfl ⟨_, rfl, hO, hC⟩

set_option maxHeartbeats 1000000 in
theorem eqRun_same (u v : Value) (l : List It) (w : World) (hu : IR w u l) (hv : IR w v l) (hn : l.length ≤ 1048576) :
    Calls Try.prog 14 #[.agg #[u], .agg #[v]] w fun e w' => e = .returned (.bool true) ∧ Below w.heap.size w w' := by
  have hB := below2 w (.cells #[u] 40) (.cells #[v] 40)
  have K := eqItemS_same u v l _ (hu.below hB) (hv.below hB) hn
  obtain ⟨a, cap, rfl, _⟩ := hu
  obtain ⟨a', cap', rfl, _⟩ := hv
  go_enter Try.func14, Try.ntmps14
  go_wp2_with fail
  refine K.mono ?_
  rintro e w1 ⟨rfl, hb⟩
  have hb1 := below_then hB hb
  clear K hB hb
  go_wp2
  go_ret
  exact ⟨rfl, hb1⟩
set_option maxHeartbeats 1000000 in
theorem markRun_at (g cap base : Nat) (l : List It) (k : Int) (w : World) (ho : w.ownsRow base 68 4 (.slice (some ⟨g, 0, none⟩) l.length cap) l.length (flat4 l)) (hn : l.length ≤ 1048576) (h1 : 1 ≤ k) (h2 : k ≤ 1000) :
    Calls Try.prog 17 #[.agg #[.slice (some ⟨g, 0, none⟩) l.length cap], .int .i64 k] w fun e w' => e = .returned (.int .i64 (k + 4 * l.length)) ∧ w'.ownsRow base 68 4 (.slice (some ⟨g, 0, none⟩) l.length cap) l.length (flat4 (mkIts k l.length)) ∧ Chg (fun b => b = g ∨ w.heap.size ≤ b) w w' := by
  have hB0 := below_alloc w (.cells #[.slice (some ⟨g, 0, none⟩) l.length cap] 40)
  have K := markItemS_at g cap base l k _ (owns_below ho hB0) hn h1 h2
  clear ho
  go_enter Try.func17, Try.ntmps17
  go_wp2_with fail
  refine K.mono ?_
  rintro e w1 ⟨rfl, ho, hc⟩
  have hC : Chg (fun b => b = g ∨ w.heap.size ≤ b) w w1 := (Chg.of_below hB0).trans (hc.mono fun b h => .inl h)
  clear K hc hB0
  go_wp2
  go_ret
  exact ⟨rfl, ho, hC⟩
set_option maxHeartbeats 1000000 in
theorem heldRun_at (v : Value) (n : Nat) (k : Int) (w : World) (hv : IR w v (mkIts k n)) (hn : n ≤ 1000) (h1 : 1 ≤ k) (h2 : k ≤ 1000) :
    Calls Try.prog 18 #[.agg #[v], .int .i64 k] w fun e w' => e = .returned (.int .i64 (k + 4 * n)) ∧ Below w.heap.size w w' := by
  have hB0 := below_alloc w (.cells #[v] 40)
  have K := heldItemS_at v n k _ (hv.below hB0) hn h1 h2
  obtain ⟨a, cap, rfl, _⟩ := hv
  go_enter Try.func18, Try.ntmps18
  go_wp2_with fail
  refine K.mono ?_
  rintro e w1 ⟨rfl, hb⟩
  have hB1 := below_then hB0 hb
  clear K hb hB0
  go_wp2
  go_ret
  exact ⟨rfl, hB1⟩
set_option maxHeartbeats 1000000 in
theorem markRun_nil (k : Int) (w : World) (h1 : 1 ≤ k) (h2 : k ≤ 1000) : Calls Try.prog 17 #[.agg #[.slice none 0 0], .int .i64 k] w fun e w' => e = .returned (.int .i64 k) ∧ Below w.heap.size w w' := by
  have K := markItemS_nil k (w.alloc (.cells #[.slice none 0 0] 40)) h1 h2
  go_enter Try.func17, Try.ntmps17
  go_wp2_with fail
  refine K.mono ?_
  rintro e w1 ⟨rfl, hw⟩
  subst hw
  clear K
  go_wp2
  go_ret
  exact ⟨rfl, below_alloc _ _⟩

end Go.Proofs.Ytcjkdkaahkphfaa
