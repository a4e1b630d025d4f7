/-
  impl.MergeRuns, walked.
-/
import Derived.Test.YtcjkdkaahkphfaaV9
import Derived.Test.YtcjkdkaahkphfaaY9
namespace Go.Proofs.Ytcjkdkaahkphfaa
open Go.RowKit
set_option linter.unusedVariables false
set_option maxRecDepth 100000

set_option maxHeartbeats 8000000 in
theorem mergedItems_any (v : Value) (R : List (List It)) (w : World) (hv : RL w v R) (hn : R.length ≤ 1000) (hs : ∀ i (h : i < R.length), R[i].length ≤ 400) (hml : (mrg R (List.replicate R.length 0)).length ≤ 4000) :
    Calls Try.prog 39 #[v] w fun e w' => ∃ u, e = .returned u ∧ w'.ownsRow w.heap.size 68 4 u (mrg R (List.replicate R.length 0)).length (flat4 (mrg R (List.replicate R.length 0))) ∧ Below w.heap.size w w' := by
  have hvv := hv
  obtain ⟨a, cap, rfl, _⟩ := hv
  obtain ⟨j0, hj, hy0, hy1, hy2⟩ := info_parts Try.info3
  go_enter Try.func39, Try.ntmps39
  go_wp2_with (at_make; refine wpList_make_full _ rfl _ _ 22 rfl w.heap.size 3 j0 _ 1 Try.underlying22 hj hy0 hy1 .i64 .i64 _ _ R.length rfl rfl rfl rfl (by rw [hy2]; omega) (by unfold maxLen; omega) (Nat.le_refl _) ?_; intro w3 hown3 hgr3)
  rw [madeI] at hown3
  have hb3 : Below w.heap.size w w3 := (Below.refl _ _).grown hgr3 (Nat.le_refl _) (by simp)
  have hA3 := AT_of_made hown3
  have hcel3 : ∃ ob, w3.heap[w.heap.size]? = some ob ∧ ob.isCells = true := by
    rcases hown3.2 with ⟨h1, _⟩ | ⟨g', c, cur, h1, h2, h3, _⟩
    · simp at h1
    · simp only [Value.slice.injEq, Option.some.injEq, Addr.mk.injEq, and_true, true_and] at h1
      obtain ⟨rfl, rfl⟩ := h1
      exact ⟨_, h3, rfl⟩
  have hfz3 : ∀ i, w3.frozen? ⟨w.heap.size, i, none⟩ = false := fun i => hown3.frozenAt i
  have hg3 := hA3.1
  obtain ⟨V, hV⟩ : ∃ V, V = Value.slice a R.length cap := ⟨_, rfl⟩
  have hb4 := below_alloc w3 (.cells #[V, .slice (some ⟨w.heap.size, 0, none⟩) R.length R.length] 90)
  rw [← hV]
  refine (rising_any _ _ _).mono ?_
  rintro e w5 ⟨rfl, hw5⟩
  have hb5 : Below w3.heap.size w3 w5 := by rw [hw5]; exact below_then hb4 (below_alloc _ _)
  have hz4 : (w3.alloc (.cells #[V, .slice (some ⟨w.heap.size, 0, none⟩) R.length R.length] 90)).heap.size = w3.heap.size + 1 := by simp
  have hz5 : w5.heap.size = w3.heap.size + 2 := by rw [hw5]; simp
  have X5 : Box w5 (w3.heap.size + 1) [V, .slice (some ⟨w.heap.size, 0, none⟩) R.length R.length] := by
    have := Box.new (w3.alloc (.cells #[V, .slice (some ⟨w.heap.size, 0, none⟩) R.length R.length] 90)) #[V, .slice (some ⟨w.heap.size, 0, none⟩) R.length R.length] 90
    rw [hz4] at this
    rw [hw5]; exact this
  rw [hz4]
  have hbb5 := below_then hb3 hb5
  have hRd : Ready w V R w.heap.size R.length (w3.heap.size + 1) (List.replicate R.length 0) w5 :=
    ⟨Lies.below ⟨Nat.le_refl _, fun k o h _ => h⟩ hbb5, hA3.below hb5, by simp, fun i h => by simp, by obtain ⟨ob, q1, q2⟩ := hcel3; exact ⟨ob, (hb5.block _ hg3).trans q1, q2⟩, fun i => (hb5.frozen (p := ⟨w.heap.size, i, none⟩) hg3).trans (hfz3 i), X5.2.1 0 _ rfl, X5.2.1 1 _ rfl⟩
  have KC := collectIt_any w V R w.heap.size R.length (w3.heap.size + 1) (List.replicate R.length 0) w5 hn hs hml (by rw [hV]; exact hvv) (Nat.le_refl _) (by omega) (by omega) (by omega) (by omega) hRd
  clear hRd X5 hfz3 hcel3 hA3 hown3 hgr3 hb3 hb4 hb5 hw5 hz4 hj hy0 hy1 hy2 hvv
  obtain ⟨Z, HZ⟩ : ∃ Z, Hid (mrg R (List.replicate R.length 0) = Z) := ⟨mrg R (List.replicate R.length 0), rfl⟩
  rw [HZ.out] at KC hml
  go_wp2_with fail
  refine KC.mono ?_
  rintro e w6 ⟨u6, rfl, ho6, hc6⟩
  have hz6 := hc6.size
  have hB6 := hbb5.trans (hc6.below (B := w.heap.size) (by omega) (fun k hk => by omega))
  replace ho6 := owns_lower (base := w5.heap.size) (base' := w.heap.size) ho6 (by omega)
  clear KC hc6
  go_wp2
  go_ret
  exact ⟨_, rfl, by rw [HZ.out]; exact ho6, hB6⟩

set_option maxHeartbeats 8000000 in
theorem implMerge_any (v : Value) (R : List (List It)) (w : World) (hv : RL w v R) (hn : R.length ≤ 1048576) (hs : ∀ i (h : i < R.length), R[i].length ≤ 1048576 ∧ ∀ j (hj : j < R[i].length), R[i][j].k.size ≤ 1048576 ∧ R[i][j].v.size ≤ 1048576) :
    Calls Try.prog 13 #[v] w fun e w' => ∃ u, e = .returned (.tuple #[.agg #[u], .bool (mgB R)]) ∧ w'.ownsRow w.heap.size 68 4 u (mgL R).length (flat4 (mgL R)) ∧ Below w.heap.size w w' := by
  have hB0 := below_alloc w (.cells #[.slice none 0 0] 40)
  have b1 := Boxed.new w 40 (.slice none 0 0)
  have hv1 := hv.below hB0
  have KA := allMay_any v R _ hv1 hn hs
  have KT := fun w' (hr : RL w' v R) => itemsTog_any v R w' hr hn (fun i h => (hs i h).1)
  have hTle := totR_le R (fun i h => (hs i h).1) R.length (Nat.le_refl _)
  have HS4 : Hid (allM R R.length = true → ∀ i (h : i < R.length), R[i].length ≤ 400) := fun h i hi => by
    have := (mayM_good (allM_at R R.length h i hi)).2; rw [getD_in R i [] hi] at this; exact this
  have HML : Hid ((mrg R (List.replicate R.length 0)).length ≤ totR R R.length) := by
    show _ ≤ _
    have e : remTo R (List.replicate R.length 0) R.length = totR R R.length := remTo_zero R R.length R.length
    have h2 := mrg_len R _ (List.replicate R.length 0) (by simp) rfl
    omega
  have HV : Hid (mgL R = if mgB R then cmpL (mrg R (List.replicate R.length 0)) else []) := rfl
  have HB : Hid (mgB R = (decide (R.length ≤ 12) && allM R R.length && decide (totR R R.length ≤ 400))) := rfl
  generalize mgL R = VL at *
  generalize mgB R = VB at *
  generalize allM R R.length = am at *
  generalize totR R R.length = tt at *
  have hvv := hv
  obtain ⟨a, cap, rfl, _⟩ := hv
  obtain ⟨j0, hj, hy0, hy1, hy2⟩ := info_parts Try.info3
  have n1 := b1.lt
  clear hs
  by_cases h12 : R.length ≤ 12
  · go_enter Try.func13, Try.ntmps13
    go_wp2_with fail
    refine KA.mono ?_
    rintro e w1 ⟨rfl, hb1⟩
    have e1 : Boxed w1 w.heap.size 40 (.slice none 0 0) := (hb1.block _ b1.lt).trans b1
    have hB1 := below_then hB0 hb1
    have hv2 := hv1.below hb1
    have hz1 := hb1.size
    clear KA b1 hv1 hB0 hb1
    cases am with
    | false =>
      obtain rfl : VB = false := by rw [HB.out]; simp
      obtain rfl : VL = [] := HV.out
      have c1 := e1.cell
      have f1 := e1.frozen
      have n1 := e1.lt
      clear HV HB KT HS4 HML hj hy0 hy1 hy2
      go_wp2
      exact bodyPost_ret (v := .tuple #[.agg #[.slice none 0 0], .bool false]) (by simp [results, Try.results13, go_sem, c1]) rfl ⟨_, rfl, World.ownsRow_nil _ _ _ _, hB1.setCell (by simp) _⟩
    | true =>
      have KT1 := KT w1 hv2
      have HS5 := HS4.out rfl
      clear KT HS4
      go_wp2_with fail
      refine KT1.mono ?_
      rintro e w2 ⟨rfl, hb2⟩
      have e2 : Boxed w2 w.heap.size 40 (.slice none 0 0) := (hb2.block _ e1.lt).trans e1
      have hB2 := below_then hB1 hb2
      have hv3 := hv2.below hb2
      have c1 := e2.cell
      have f1 := e2.frozen
      have n1 := e2.lt
      clear KT1 e1 hv2 hB1 hb2
      by_cases ht : tt ≤ 400
      · obtain rfl : VB = true := by rw [HB.out]; simp [h12, ht]
        obtain rfl : VL = cmpL (mrg R (List.replicate R.length 0)) := HV.out
        have hml : (mrg R (List.replicate R.length 0)).length ≤ 400 := by have := HML.out; omega
        clear HV HB HML
        have KC := mergedItems_any (.slice a R.length cap) R w2 hv3 (by omega) HS5 (by omega)
        obtain ⟨Z, HZ⟩ : ∃ Z, Hid (mrg R (List.replicate R.length 0) = Z) := ⟨mrg R (List.replicate R.length 0), rfl⟩
        rw [HZ.out] at KC hml
        clear c1 f1 hv3 hvv hj hy0 hy1 hy2
        go_wp2_with fail
        refine KC.mono ?_
        rintro e w6 ⟨u6, rfl, ho6, hb6⟩
        have e6 : Boxed w6 w.heap.size 40 (.slice none 0 0) := (hb6.block _ e2.lt).trans e2
        have hB6 := below_then hB2 hb6
        have hz6 := hb6.size
        have KP := compact_any u6 w2.heap.size Z w6 ho6 hml hz6
        clear KC ho6 hb6 e2 hB2
        go_wp2_with fail
        refine KP.mono ?_
        rintro e w7 ⟨u7, rfl, ho7, hb7⟩
        have e7 : Boxed w7 w.heap.size 40 (.slice none 0 0) := (hb7.block _ (by omega)).trans e6
        have hB7 := hB6.trans (hb7.mono (by omega))
        clear KP e6 hB6 hb7
        obtain ⟨VL, HVL⟩ : ∃ VL, Hid (cmpL Z = VL) := ⟨cmpL Z, rfl⟩
        rw [HVL.out] at ho7
        obtain ⟨av, cv, rfl, _⟩ := IR_of_owns ho7 rfl
        have c3 := e7.cell
        have f3 := e7.frozen
        have n3 := e7.lt
        have hO : (w7.setCell ⟨w.heap.size, 0, none⟩ (.slice av VL.length cv)).ownsRow w.heap.size 68 4 (.slice av VL.length cv) VL.length (flat4 VL) := by
          refine owns_lower (base := w2.heap.size) ?_ (by omega)
          have c : Chg (fun k => k = w.heap.size) w7 (w7.setCell ⟨w.heap.size, 0, none⟩ (.slice av VL.length cv)) := (Chg.refl (fun k => k = w.heap.size) w7).setCell (p := ⟨w.heap.size, 0, none⟩) rfl _
          exact c.owns ho7 (fun b hb hh => by have := owns_ge ho7 b hb; omega)
        have hC : Below w.heap.size w (w7.setCell ⟨w.heap.size, 0, none⟩ (.slice av VL.length cv)) := hB7.setCell (by simp) _
        clear ho7 e7 hB7
        go_wp2
        exact bodyPost_ret (v := .tuple #[.agg #[.slice av VL.length cv], .bool true]) (by simp [results, Try.results13, go_sem, c3]) rfl ⟨_, rfl, by rw [HZ.out, HVL.out]; exact hO, hC⟩
      · obtain rfl : VB = false := by rw [HB.out]; simp [ht]
        obtain rfl : VL = [] := HV.out
        clear HV HB HML hj hy0 hy1 hy2
        go_wp2
        exact bodyPost_ret (v := .tuple #[.agg #[.slice none 0 0], .bool false]) (by simp [results, Try.results13, go_sem, c1]) rfl ⟨_, rfl, World.ownsRow_nil _ _ _ _, hB2.setCell (by simp) _⟩
  · obtain rfl : VB = false := by rw [HB.out]; simp [h12]
    obtain rfl : VL = [] := HV.out
    have c1 := b1.cell
    have f1 := b1.frozen
    clear HV HB HML KA KT HS4 hj hy0 hy1 hy2
    go_enter Try.func13, Try.ntmps13
    go_wp2
    exact bodyPost_ret (v := .tuple #[.agg #[.slice none 0 0], .bool false]) (by simp [results, Try.results13, go_sem, c1]) rfl ⟨_, rfl, World.ownsRow_nil _ _ _ _, hB0⟩
end Go.Proofs.Ytcjkdkaahkphfaa
