/-
  An item put into a run: spec.l6Put.
-/
import Derived.Test.YtjenogmpmkkbiaaX2
import Derived.Test.YtjenogmpmkkbiaaK3
import Derived.Laws.AppendOwnNone
namespace Go.Proofs.Ytjenogmpmkkbiaa
open Go.RowKit
set_option linter.unusedVariables false
set_option maxRecDepth 100000

theorem flat4_one (l : List It) : ∀ u ∈ flat4 l, u.oneCell' = true := by
  intro u hu
  induction l with
  | nil => simp [flat4] at hu
  | cons x r ih =>
    simp only [flat4, List.mem_cons] at hu
    rcases hu with rfl | rfl | rfl | rfl | hu
    · rfl
    · rfl
    · rfl
    · rfl
    · exact ih hu
/-- A part of a row. -/
theorem row_part {w : World} {base g cap : Nat} {L : List It} (h : w.ownsRow base 83 4 (.slice (some ⟨g, 0, none⟩) L.length cap) L.length (flat4 L)) (a m : Nat) (ham : a + m ≤ L.length) :
    ∀ j u, (flat4 ((L.drop a).take m))[j]? = some u → w.cell? ((⟨g, a * 4, none⟩ : Addr).add j) = some u := by
  intro j u hj
  have hlen : j < ((L.drop a).take m).length * 4 := by
    have := (List.getElem?_eq_some_iff.1 hj).1
    rwa [flat4_length] at this
  rw [List.length_take, List.length_drop] at hlen
  have hsplit : flat4 L = flat4 (L.take a) ++ (flat4 ((L.drop a).take m) ++ flat4 ((L.drop a).drop m)) := by
    rw [← flat4_append, List.take_append_drop, ← flat4_append, List.take_append_drop]
  rw [show (⟨g, a * 4, none⟩ : Addr).add j = ⟨g, a * 4 + j, none⟩ from by by_cases h0 : j = 0 <;> simp [Addr.add, h0], h.cellAt (a * 4 + j) (by omega), hsplit]
  rw [List.getElem?_append_right (by rw [flat4_length, List.length_take]; omega)]
  rw [flat4_length, List.length_take, show min a L.length = a from by omega, Nat.add_sub_cancel_left]
  rw [List.getElem?_append_left (by rw [flat4_length, List.length_take, List.length_drop]; omega)]
  exact hj
def small (L : List It) : Prop := ∀ i (h : i < L.length), L[i].k.size ≤ 17 ∧ L[i].v.size ≤ 41
theorem small_mem {L : List It} (h : small L) : ∀ x ∈ L, x.k.size ≤ 17 ∧ x.v.size ≤ 41 := by
  intro x hx
  obtain ⟨i, hi, rfl⟩ := List.getElem_of_mem hx
  exact h i hi
theorem small_of {L : List It} (h : ∀ x ∈ L, x.k.size ≤ 17 ∧ x.v.size ≤ 41) : small L := fun i hi => h _ (List.getElem_mem hi)
def PutPost (L : List It) (w : World) (base : Nat) (e : Ending) (w' : World) : Prop :=
  ∃ v' L', e = .returned v' ∧ w'.ownsRow base 83 4 v' L'.length (flat4 L') ∧ L' ≠ [] ∧ L'.length ≤ L.length + 1 ∧ small L' ∧ Below w.heap.size w w'
theorem PutPost.mk {L L' : List It} {w w' : World} {base : Nat} {v' : Value} (h1 : w'.ownsRow base 83 4 v' L'.length (flat4 L')) (h2 : L' ≠ []) (h3 : L'.length ≤ L.length + 1) (h4 : small L') (h5 : Below w.heap.size w w') : PutPost L w base (.returned v') w' := ⟨v', L', rfl, h1, h2, h3, h4, h5⟩

set_option maxHeartbeats 4000000 in
theorem l6Put_nil (x : It) (w : World) (base : Nat) (hbase : base ≤ w.heap.size) (hx : x.k.size ≤ 17 ∧ x.v.size ≤ 41) :
    Calls Try.prog 101 #[.slice none 0 0, .agg #[.string x.k, .int .i64 x.n, .int .i64 x.d, .string x.v]] w fun e w' => PutPost [] w base e w' := by
  obtain ⟨i0, hi, hz0, hzs, hzb⟩ := info_parts Try.info83
  have KS := fun w => l6Seek_any (.slice none 0 0) [] x.k x.v x.n x.d w (IR_nil _) (by simp)
  have hS : seekF [] x = 0 := by have := seekF_le [] x; simpa using this
  rw [show seekF [] ⟨x.k, x.n, x.d, x.v⟩ = 0 from hS, show ((0 : Nat) : Int) = 0 from rfl] at KS
  have hsm : small [x] := small_of (fun y hy => by simp at hy; subst hy; exact hx)
  obtain ⟨xk, xn, xd, xv⟩ := x
  dsimp only at *
  clear hS
  go_enter Try.func101, Try.ntmps101
  go_wp2_with fail
  refine (KS _).mono ?_
  rintro e w1 ⟨rfl, hb1⟩
  have X1 := (Box.new w #[.string xk, .int .i64 xn, .int .i64 xd, .string xv] 83).below hb1
  have hB1 := below_then (below_alloc _ _) hb1
  have hne : Nonempty (WC w1.heap.size w1) := ⟨⟨_, Below.refl _ _⟩⟩
  clear KS hb1
  go_wp2_with fail
  refine wp_region_calm (B := w1.heap.size) (W := w1) (by kernel_rfl) (by kernel_rfl) (Below.refl _ _) ?_
  repeat (go_big_quiet_step (fail))
  refine wpQuiet_nil ?_
  intro _ hw'
  obtain ⟨y, hy⟩ := hw'
  subst hy
  have hB2 := below_then hB1 (y.ok.mono (Nat.le_refl _))
  have X2 := X1.below y.ok
  clear hne X1 hB1
  generalize y.w = w2 at *
  clear y
  obtain ⟨_, x0, x1, x2, x3⟩ := X2.c4
  have hz2 := hB2.size
  clear x0 x1 x2 x3
  obtain ⟨_, x0, x1, x2, x3⟩ := X2.c4
  go_wp2_with (at_builtin; first
    | (refine wpList_append_own_none rfl _ _ 23 rfl w.heap.size 83 i0 4 Try.underlying23 hi (.slice none 0 0) 0 [] rfl (World.ownsRow_nil _ _ _ _) rfl ?_)
    | (refine wpList_append_own _ rfl _ _ 23 rfl w.heap.size 83 i0 (.agg #[.string ⟨#[]⟩, .int .i64 0, .int .i64 0, .string ⟨#[]⟩]) 4 48 Try.underlying23 hi hz0 hzs hzb rfl (by decide) (.slice none 0 0) 0 [] rfl (World.ownsRow_nil _ _ _ _) ⟨w2.heap.size, 0, none⟩ 1 1 (flat4 [(⟨xk, xn, xd, xv⟩ : It)]) rfl rfl (cells_new4 w2 (⟨xk, xn, xd, xv⟩ : It)) (one4 _) (by unfold maxLen; omega) (by omega) (by simp; omega) ?_; intro v' w3 hown3 hgrow3 _)
    | (refine wpList_append_own_none rfl _ _ 23 rfl w.heap.size 83 i0 4 Try.underlying23 hi v' 1 (flat4 [(⟨xk, xn, xd, xv⟩ : It)]) rfl hown3 rfl ?_))
  have hB3 : Below w.heap.size w w3 := (hB2.alloc hz2 _).grown hgrow3 (by simp; omega) (by intro g hg; simp [Value.ownBlock] at hg)
  go_ret
  exact PutPost.mk (L' := [(⟨xk, xn, xd, xv⟩ : It)]) (owns_mono hown3 hbase) (by simp) (by simp) hsm hB3

set_option maxHeartbeats 8000000 in
theorem l6Put_some (x : It) (L : List It) (g cap : Nat) (w : World) (base : Nat) (hbase : base ≤ w.heap.size) (hx : x.k.size ≤ 17 ∧ x.v.size ≤ 41) (hL : L ≠ []) (hn : L.length ≤ 1000) (hs : small L)
    (ho : w.ownsRow base 83 4 (.slice (some ⟨g, 0, none⟩) L.length cap) L.length (flat4 L)) :
    Calls Try.prog 101 #[.slice (some ⟨g, 0, none⟩) L.length cap, .agg #[.string x.k, .int .i64 x.n, .int .i64 x.d, .string x.v]] w fun e w' => PutPost L w base e w' := by
  obtain ⟨i0, hi, hz0, hzs, hzb⟩ := info_parts Try.info83
  have hlen : L.length ≤ cap := by
    rcases ho.2 with ⟨h, _⟩ | ⟨g', c', cur, h, _, _, hc, _⟩
    · cases h
    · simp only [Value.slice.injEq] at h; omega
  have KS := fun w h => l6Seek_any (.slice (some ⟨g, 0, none⟩) L.length cap) L x.k x.v x.n x.d w h (by omega)
  have hkl := seekF_le L x
  rw [show (⟨x.k, x.n, x.d, x.v⟩ : It) = x from rfl] at KS
  generalize seekF L x = k at *
  obtain ⟨xk, xn, xd, xv⟩ := x
  dsimp only at *
  have b0 := below_alloc w (.cells #[.string xk, .int .i64 xn, .int .i64 xd, .string xv] 83)
  have o0 := owns_below ho b0
  go_enter Try.func101, Try.ntmps101
  go_wp2_with fail
  refine (KS _ (IR_of_owns o0 rfl)).mono ?_
  rintro e w1 ⟨rfl, hb1⟩
  have X1 := (Box.new w #[.string xk, .int .i64 xn, .int .i64 xd, .string xv] 83).below hb1
  have hB1 := below_then b0 hb1
  have o1 := owns_below o0 hb1
  have hne : Nonempty (WC w1.heap.size w1) := ⟨⟨_, Below.refl _ _⟩⟩
  have p0 := fun x : WC w1.heap.size w1 => (X1.below x.ok).2.1 0 _ rfl
  have p1 := fun x : WC w1.heap.size w1 => (X1.below x.ok).2.1 1 _ rfl
  have p2 := fun x : WC w1.heap.size w1 => (X1.below x.ok).2.1 2 _ rfl
  have p3 := fun x : WC w1.heap.size w1 => (X1.below x.ok).2.1 3 _ rfl
  have hz1 := hB1.size
  clear KS hb1 b0 o0
  by_cases hk : k < L.length
  · obtain ⟨a', c', hv', hc⟩ := IR_of_owns o1 rfl
    simp only [Value.slice.injEq, true_and] at hv'
    obtain ⟨rfl, rfl⟩ := hv'
    obtain ⟨b', off, hb', hbl, hcell⟩ := hc hL
    simp only [Option.some.injEq, Addr.mk.injEq, and_true] at hb'
    obtain ⟨rfl, rfl⟩ := hb'
    have q0 := fun x : WC w1.heap.size w1 => (x.ok.cell (p := ⟨g, 0 + k * 4, none⟩) hbl).trans (hcell k hk).1
    have q1 := fun x : WC w1.heap.size w1 => (x.ok.cell (p := ⟨g, 0 + k * 4 + 1, none⟩) hbl).trans (hcell k hk).2.1
    have q2 := fun x : WC w1.heap.size w1 => (x.ok.cell (p := ⟨g, 0 + k * 4 + 2, none⟩) hbl).trans (hcell k hk).2.2.1
    have q3 := fun x : WC w1.heap.size w1 => (x.ok.cell (p := ⟨g, 0 + k * 4 + 3, none⟩) hbl).trans (hcell k hk).2.2.2
    simp only [Nat.zero_add] at q0 q1 q2 q3
    have KO := fun w => l4Compare_any L[k].k L[k].v xk xv L[k].n L[k].d xn xd w
    clear hc hcell
    by_cases hcz : cIt L[k].k xk L[k].n xn = 0
    · rw [hcz] at KO
      clear hcz
      generalize L[k] = s at *
      obtain ⟨sk, sn, sd, sv⟩ := s
      dsimp only at *
      go_wp2_with fail
      refine wp_region_calm (B := w1.heap.size) (W := w1) (by kernel_rfl) (by kernel_rfl) (Below.refl _ _) ?_
      repeat (go_big_quiet_step (first | (go_at_call 87; with_reducible exact calm_of_below (Nat.le_refl _) (KO _))))
      refine wpQuiet_nil ?_
      intro _ hw'
      obtain ⟨y, hy⟩ := hw'
      subst hy
      have hB2 := below_then hB1 y.ok
      have o2 := owns_below o1 y.ok
      clear hne X1 hB1 p0 p1 p2 p3 q0 q1 q2 q3 KO o1
      generalize y.w = w2 at *
      clear y
      go_wp2
      go_ret
      exact PutPost.mk (L' := L) o2 hL (by omega) hs hB2
    · have hcb : (cIt L[k].k xk L[k].n xn == 0) = false := by simp [hcz]
      generalize cIt L[k].k xk L[k].n xn = c at *
      generalize L[k] = s at *
      obtain ⟨sk, sn, sd, sv⟩ := s
      dsimp only at *
      go_wp2_with fail
      refine wp_region_calm (B := w1.heap.size) (W := w1) (by kernel_rfl) (by kernel_rfl) (Below.refl _ _) ?_
      repeat (go_big_quiet_step (first | (go_at_call 87; with_reducible exact calm_of_below (Nat.le_refl _) (KO _))))
      refine wpQuiet_nil ?_
      intro _ hw'
      obtain ⟨y, hy⟩ := hw'
      subst hy
      have hB2 := below_then hB1 y.ok
      have o2 := owns_below o1 y.ok
      have X2 := X1.below y.ok
      clear hne X1 hB1 p0 p1 p2 p3 q0 q1 q2 q3 KO o1 hcz hcb
      generalize y.w = w2 at *
      clear y
      have hz2 := hB2.size
      have hsm2 : small (L.take k ++ [(⟨xk, xn, xd, xv⟩ : It)] ++ L.drop k) := small_of (fun y hy => by
        simp only [List.mem_append, List.mem_singleton] at hy
        rcases hy with (hy | rfl) | hy
        · exact small_mem hs y (List.mem_of_mem_take hy)
        · exact hx
        · exact small_mem hs y (List.mem_of_mem_drop hy))
      have hT1 : (flat4 (L.take k)).length = k * 4 := by rw [flat4_length, List.length_take]; omega
      have hN1 := row_part o2 0 k (by omega)
      rw [List.drop_zero, Nat.zero_mul] at hN1
      have HD3 : Hid ((flat4 (L.drop k)).length = (L.length - k) * 4) := by show _ = _; rw [flat4_length, List.length_drop]
      have HLE : Hid (k + 1 + (L.length - k) = (L.take k ++ [(⟨xk, xn, xd, xv⟩ : It)] ++ L.drop k).length) := by show _ = _; simp <;> omega
      have HFL : Hid (flat4 (L.take k) ++ flat4 [(⟨xk, xn, xd, xv⟩ : It)] ++ flat4 (L.drop k) = flat4 (L.take k ++ [(⟨xk, xn, xd, xv⟩ : It)] ++ L.drop k)) := by show _ = _; rw [flat4_append, flat4_append]
      have hgw := owns_below_lt o2
      have hgl : g < w2.heap.size := hgw g rfl
      have HR3 : ∀ W, Below w2.heap.size w2 W → ∀ j u, (flat4 (L.drop k))[j]? = some u → W.cell? ((⟨g, k * 4, none⟩ : Addr).add j) = some u := fun W hW => by
        have := row_part (owns_below o2 hW) k (L.length - k) (by omega)
        rw [List.take_of_length_le (by rw [List.length_drop]; exact Nat.le_refl _)] at this
        exact this
      have HR3h : Hid (∀ W, Below w2.heap.size w2 W → ∀ j u, (flat4 (L.drop k))[j]? = some u → W.cell? ((⟨g, k * 4, none⟩ : Addr).add j) = some u) := HR3
      clear HR3
      have hkc : k < cap := by omega
      have hgw0 : g < w.heap.size := owns_below_lt ho g rfl
      have HR4 : ∀ (w4 : World) {w3 : World} {v3 : Value} {ys : List Value} {o : Obj} {n3 : Nat}, w2.grownBy w3 (Value.slice none 0 0).ownBlock → w3.ownsRow w.heap.size 83 4 v3 n3 ys → (w3.alloc o).grownBy w4 v3.ownBlock → ∀ j u, (flat4 (L.drop k))[j]? = some u → w4.cell? ((⟨g, k * 4, none⟩ : Addr).add j) = some u := by
        intro w4 w3 v3 ys o n3 h23 h3 h34 j u hj
        have c0 := HR3h.out w2 (Below.refl _ _) j u hj
        have hg3 : w3.heap[g]? = w2.heap[g]? := h23.block g hgl (by simp [Value.ownBlock])
        have hgl3 : g < w3.heap.size := Nat.lt_of_lt_of_le hgl h23.size
        have hg4 : w4.heap[g]? = (w3.alloc o).heap[g]? := h34.block g (by simp; omega) (fun e => by have := owns_ge h3 g e.symm; omega)
        have hg5 : (w3.alloc o).heap[g]? = w3.heap[g]? := (below_alloc w3 o).block g hgl3
        have he : w4.heap[g]? = w2.heap[g]? := hg4.trans (hg5.trans hg3)
        rw [show (⟨g, k * 4, none⟩ : Addr).add j = ⟨g, k * 4 + j, none⟩ from by by_cases h0 : j = 0 <;> simp [Addr.add, h0]] at c0 ⊢
        rw [← c0]
        simp [World.cell?, he]
      clear HR3h o2
      obtain ⟨_, x0, x1, x2, x3⟩ := X2.c4
      go_wp2_with (at_builtin; first
        | (refine wpList_append_own _ rfl _ _ 23 rfl w.heap.size 83 i0 (.agg #[.string ⟨#[]⟩, .int .i64 0, .int .i64 0, .string ⟨#[]⟩]) 4 48 Try.underlying23 hi hz0 hzs hzb rfl (by decide) (.slice none 0 0) 0 [] rfl (World.ownsRow_nil _ _ _ _) ⟨g, 0, none⟩ k cap (flat4 (L.take k)) rfl hT1 hN1 (flat4_one _) (by unfold maxLen; omega) (by omega) (by omega) ?_; intro v3 w3 hown3 hgrow3 _; have hb23 : Below w2.heap.size w2 w3 := (Below.refl _ _).grown hgrow3 (Nat.le_refl _) (by intro j hj; simp [Value.ownBlock] at hj); have hz3 := hb23.size; have X3 := X2.below hb23; obtain ⟨_, y0, y1, y2, y3⟩ := X3.c4)
        | (refine wpList_append_own _ rfl _ _ 23 rfl w.heap.size 83 i0 (.agg #[.string ⟨#[]⟩, .int .i64 0, .int .i64 0, .string ⟨#[]⟩]) 4 48 Try.underlying23 hi hz0 hzs hzb rfl (by decide) v3 (0 + k) ([] ++ flat4 (L.take k)) rfl (owns_below hown3 (below_alloc _ _)) ⟨w3.heap.size, 0, none⟩ 1 1 (flat4 [(⟨xk, xn, xd, xv⟩ : It)]) rfl rfl (cells_new4 w3 (⟨xk, xn, xd, xv⟩ : It)) (one4 _) (by unfold maxLen; omega) (by omega) (by simp; omega) ?_; intro v4 w4 hown4 hgrow4 _; have hb24 : Below w.heap.size w w4 := (((hB2.grown hgrow3 hz2 (by intro j hj; simp [Value.ownBlock] at hj))).alloc (by omega) _).grown hgrow4 (by simp; omega) (owns_ge hown3); have hz4 := hgrow4.size)
        | (refine wpList_append_own _ rfl _ _ 23 rfl w.heap.size 83 i0 (.agg #[.string ⟨#[]⟩, .int .i64 0, .int .i64 0, .string ⟨#[]⟩]) 4 48 Try.underlying23 hi hz0 hzs hzb rfl (by decide) v4 (0 + k + 1) ([] ++ flat4 (L.take k) ++ flat4 [(⟨xk, xn, xd, xv⟩ : It)]) rfl hown4 ⟨g, k * 4, none⟩ (L.length - k) (cap - k) (flat4 (L.drop k)) rfl (HD3.out.trans (by omega)) (HR4 w4 hgrow3 hown3 hgrow4) (flat4_one _) (by unfold maxLen; omega) (by omega) (by simp at hz4; omega) ?_; intro v5 w5 hown5 hgrow5 _))
      have hB5 : Below w.heap.size w w5 := hb24.grown hgrow5 (by simp at hz4; omega) (owns_ge hown4)
      have ho5 : w5.ownsRow base 83 4 v5 (L.take k ++ [(⟨xk, xn, xd, xv⟩ : It)] ++ L.drop k).length (flat4 (L.take k ++ [(⟨xk, xn, xd, xv⟩ : It)] ++ L.drop k)) := by
        rw [← HLE.out, ← HFL.out]
        have h9 := owns_mono hown5 hbase
        rw [List.nil_append, show 0 + k + 1 + (L.length - k) = k + 1 + (L.length - k) from by omega] at h9
        exact h9
      go_ret
      exact PutPost.mk (L' := L.take k ++ [(⟨xk, xn, xd, xv⟩ : It)] ++ L.drop k) ho5 (by simp) (by rw [← HLE.out]; omega) hsm2 hB5
  · obtain rfl : k = L.length := by omega
    go_wp2_with fail
    refine wp_region_calm (B := w1.heap.size) (W := w1) (by kernel_rfl) (by kernel_rfl) (Below.refl _ _) ?_
    repeat (go_big_quiet_step (fail))
    refine wpQuiet_nil ?_
    intro _ hw'
    obtain ⟨y, hy⟩ := hw'
    subst hy
    have hB2 := below_then hB1 y.ok
    have o2 := owns_below o1 y.ok
    have X2 := X1.below y.ok
    clear hne X1 hB1 p0 p1 p2 p3 o1
    generalize y.w = w2 at *
    clear y
    by_cases hkc0 : L.length < cap
    · skip
      have hz2 := hB2.size
      have hsm2 : small (L.take L.length ++ [(⟨xk, xn, xd, xv⟩ : It)] ++ L.drop L.length) := small_of (fun y hy => by
        simp only [List.mem_append, List.mem_singleton] at hy
        rcases hy with (hy | rfl) | hy
        · exact small_mem hs y (List.mem_of_mem_take hy)
        · exact hx
        · exact small_mem hs y (List.mem_of_mem_drop hy))
      have hT1 : (flat4 (L.take L.length)).length = L.length * 4 := by rw [flat4_length, List.length_take]; omega
      have hN1 := row_part o2 0 L.length (by omega)
      rw [List.drop_zero, Nat.zero_mul] at hN1
      have HD3 : Hid ((flat4 (L.drop L.length)).length = (L.length - L.length) * 4) := by show _ = _; rw [flat4_length, List.length_drop]
      have HLE : Hid (L.length + 1 + (L.length - L.length) = (L.take L.length ++ [(⟨xk, xn, xd, xv⟩ : It)] ++ L.drop L.length).length) := by show _ = _; simp <;> omega
      have HFL : Hid (flat4 (L.take L.length) ++ flat4 [(⟨xk, xn, xd, xv⟩ : It)] ++ flat4 (L.drop L.length) = flat4 (L.take L.length ++ [(⟨xk, xn, xd, xv⟩ : It)] ++ L.drop L.length)) := by show _ = _; rw [flat4_append, flat4_append]
      have hgw := owns_below_lt o2
      have hgl : g < w2.heap.size := hgw g rfl
      have HR3 : ∀ W, Below w2.heap.size w2 W → ∀ j u, (flat4 (L.drop L.length))[j]? = some u → W.cell? ((⟨g, L.length * 4, none⟩ : Addr).add j) = some u := fun W hW => by
        intro j u hj
        rw [List.drop_length] at hj
        simp [flat4] at hj
      have HR3h : Hid (∀ W, Below w2.heap.size w2 W → ∀ j u, (flat4 (L.drop L.length))[j]? = some u → W.cell? ((⟨g, L.length * 4, none⟩ : Addr).add j) = some u) := HR3
      clear HR3
      have hkc : L.length < cap := by omega
      have hgw0 : g < w.heap.size := owns_below_lt ho g rfl
      have HR4 : ∀ (w4 : World) {w3 : World} {v3 : Value} {ys : List Value} {o : Obj} {n3 : Nat}, w2.grownBy w3 (Value.slice none 0 0).ownBlock → w3.ownsRow w.heap.size 83 4 v3 n3 ys → (w3.alloc o).grownBy w4 v3.ownBlock → ∀ j u, (flat4 (L.drop L.length))[j]? = some u → w4.cell? ((⟨g, L.length * 4, none⟩ : Addr).add j) = some u := by
        intro w4 w3 v3 ys o n3 h23 h3 h34 j u hj
        have c0 := HR3h.out w2 (Below.refl _ _) j u hj
        have hg3 : w3.heap[g]? = w2.heap[g]? := h23.block g hgl (by simp [Value.ownBlock])
        have hgl3 : g < w3.heap.size := Nat.lt_of_lt_of_le hgl h23.size
        have hg4 : w4.heap[g]? = (w3.alloc o).heap[g]? := h34.block g (by simp; omega) (fun e => by have := owns_ge h3 g e.symm; omega)
        have hg5 : (w3.alloc o).heap[g]? = w3.heap[g]? := (below_alloc w3 o).block g hgl3
        have he : w4.heap[g]? = w2.heap[g]? := hg4.trans (hg5.trans hg3)
        rw [show (⟨g, L.length * 4, none⟩ : Addr).add j = ⟨g, L.length * 4 + j, none⟩ from by by_cases h0 : j = 0 <;> simp [Addr.add, h0]] at c0 ⊢
        rw [← c0]
        simp [World.cell?, he]
      clear HR3h o2
      obtain ⟨_, x0, x1, x2, x3⟩ := X2.c4
      go_wp2_with (at_builtin; first
        | (refine wpList_append_own _ rfl _ _ 23 rfl w.heap.size 83 i0 (.agg #[.string ⟨#[]⟩, .int .i64 0, .int .i64 0, .string ⟨#[]⟩]) 4 48 Try.underlying23 hi hz0 hzs hzb rfl (by decide) (.slice none 0 0) 0 [] rfl (World.ownsRow_nil _ _ _ _) ⟨g, 0, none⟩ L.length cap (flat4 (L.take L.length)) rfl hT1 hN1 (flat4_one _) (by unfold maxLen; omega) (by omega) (by omega) ?_; intro v3 w3 hown3 hgrow3 _; have hb23 : Below w2.heap.size w2 w3 := (Below.refl _ _).grown hgrow3 (Nat.le_refl _) (by intro j hj; simp [Value.ownBlock] at hj); have hz3 := hb23.size; have X3 := X2.below hb23; obtain ⟨_, y0, y1, y2, y3⟩ := X3.c4)
        | (refine wpList_append_own _ rfl _ _ 23 rfl w.heap.size 83 i0 (.agg #[.string ⟨#[]⟩, .int .i64 0, .int .i64 0, .string ⟨#[]⟩]) 4 48 Try.underlying23 hi hz0 hzs hzb rfl (by decide) v3 (0 + L.length) ([] ++ flat4 (L.take L.length)) rfl (owns_below hown3 (below_alloc _ _)) ⟨w3.heap.size, 0, none⟩ 1 1 (flat4 [(⟨xk, xn, xd, xv⟩ : It)]) rfl rfl (cells_new4 w3 (⟨xk, xn, xd, xv⟩ : It)) (one4 _) (by unfold maxLen; omega) (by omega) (by simp; omega) ?_; intro v4 w4 hown4 hgrow4 _; have hb24 : Below w.heap.size w w4 := (((hB2.grown hgrow3 hz2 (by intro j hj; simp [Value.ownBlock] at hj))).alloc (by omega) _).grown hgrow4 (by simp; omega) (owns_ge hown3); have hz4 := hgrow4.size)
        | (refine wpList_append_own _ rfl _ _ 23 rfl w.heap.size 83 i0 (.agg #[.string ⟨#[]⟩, .int .i64 0, .int .i64 0, .string ⟨#[]⟩]) 4 48 Try.underlying23 hi hz0 hzs hzb rfl (by decide) v4 (0 + L.length + 1) ([] ++ flat4 (L.take L.length) ++ flat4 [(⟨xk, xn, xd, xv⟩ : It)]) rfl hown4 ⟨g, L.length * 4, none⟩ (0) (cap - L.length) (flat4 (L.drop L.length)) rfl (HD3.out.trans (by omega)) (HR4 w4 hgrow3 hown3 hgrow4) (flat4_one _) (by unfold maxLen; omega) (by omega) (by simp at hz4; omega) ?_; intro v5 w5 hown5 hgrow5 _))
      have hB5 : Below w.heap.size w w5 := hb24.grown hgrow5 (by simp at hz4; omega) (owns_ge hown4)
      have ho5 : w5.ownsRow base 83 4 v5 (L.take L.length ++ [(⟨xk, xn, xd, xv⟩ : It)] ++ L.drop L.length).length (flat4 (L.take L.length ++ [(⟨xk, xn, xd, xv⟩ : It)] ++ L.drop L.length)) := by
        rw [← HLE.out, ← HFL.out]
        have h9 := owns_mono hown5 hbase
        rw [List.nil_append, show 0 + L.length + 1 + (0) = L.length + 1 + (L.length - L.length) from by omega] at h9
        exact h9
      go_ret
      exact PutPost.mk (L' := L.take L.length ++ [(⟨xk, xn, xd, xv⟩ : It)] ++ L.drop L.length) ho5 (by simp) (by rw [← HLE.out]; omega) hsm2 hB5
    · obtain rfl : cap = L.length := by omega
      have hz2 := hB2.size
      have hsm2 : small (L.take L.length ++ [(⟨xk, xn, xd, xv⟩ : It)] ++ L.drop L.length) := small_of (fun y hy => by
        simp only [List.mem_append, List.mem_singleton] at hy
        rcases hy with (hy | rfl) | hy
        · exact small_mem hs y (List.mem_of_mem_take hy)
        · exact hx
        · exact small_mem hs y (List.mem_of_mem_drop hy))
      have hT1 : (flat4 (L.take L.length)).length = L.length * 4 := by rw [flat4_length, List.length_take]; omega
      have hN1 := row_part o2 0 L.length (by omega)
      rw [List.drop_zero, Nat.zero_mul] at hN1
      have HD3 : Hid ((flat4 (L.drop L.length)).length = (L.length - L.length) * 4) := by show _ = _; rw [flat4_length, List.length_drop]
      have HLE : Hid (L.length + 1 + (L.length - L.length) = (L.take L.length ++ [(⟨xk, xn, xd, xv⟩ : It)] ++ L.drop L.length).length) := by show _ = _; simp <;> omega
      have HFL : Hid (flat4 (L.take L.length) ++ flat4 [(⟨xk, xn, xd, xv⟩ : It)] ++ flat4 (L.drop L.length) = flat4 (L.take L.length ++ [(⟨xk, xn, xd, xv⟩ : It)] ++ L.drop L.length)) := by show _ = _; rw [flat4_append, flat4_append]
      have hgw := owns_below_lt o2
      have hgl : g < w2.heap.size := hgw g rfl
      have HR3 : ∀ W, Below w2.heap.size w2 W → ∀ j u, (flat4 (L.drop L.length))[j]? = some u → W.cell? ((⟨g, 0, none⟩ : Addr).add j) = some u := fun W hW => by
        intro j u hj
        rw [List.drop_length] at hj
        simp [flat4] at hj
      have HR3h : Hid (∀ W, Below w2.heap.size w2 W → ∀ j u, (flat4 (L.drop L.length))[j]? = some u → W.cell? ((⟨g, 0, none⟩ : Addr).add j) = some u) := HR3
      clear HR3
      have hgw0 : g < w.heap.size := owns_below_lt ho g rfl
      have HR4 : ∀ (w4 : World) {w3 : World} {v3 : Value} {ys : List Value} {o : Obj} {n3 : Nat}, w2.grownBy w3 (Value.slice none 0 0).ownBlock → w3.ownsRow w.heap.size 83 4 v3 n3 ys → (w3.alloc o).grownBy w4 v3.ownBlock → ∀ j u, (flat4 (L.drop L.length))[j]? = some u → w4.cell? ((⟨g, 0, none⟩ : Addr).add j) = some u := by
        intro w4 w3 v3 ys o n3 h23 h3 h34 j u hj
        have c0 := HR3h.out w2 (Below.refl _ _) j u hj
        have hg3 : w3.heap[g]? = w2.heap[g]? := h23.block g hgl (by simp [Value.ownBlock])
        have hgl3 : g < w3.heap.size := Nat.lt_of_lt_of_le hgl h23.size
        have hg4 : w4.heap[g]? = (w3.alloc o).heap[g]? := h34.block g (by simp; omega) (fun e => by have := owns_ge h3 g e.symm; omega)
        have hg5 : (w3.alloc o).heap[g]? = w3.heap[g]? := (below_alloc w3 o).block g hgl3
        have he : w4.heap[g]? = w2.heap[g]? := hg4.trans (hg5.trans hg3)
        rw [show (⟨g, 0, none⟩ : Addr).add j = ⟨g, 0 + j, none⟩ from by by_cases h0 : j = 0 <;> simp [Addr.add, h0]] at c0 ⊢
        rw [← c0]
        simp [World.cell?, he]
      clear HR3h o2
      obtain ⟨_, x0, x1, x2, x3⟩ := X2.c4
      go_wp2_with (at_builtin; first
        | (refine wpList_append_own _ rfl _ _ 23 rfl w.heap.size 83 i0 (.agg #[.string ⟨#[]⟩, .int .i64 0, .int .i64 0, .string ⟨#[]⟩]) 4 48 Try.underlying23 hi hz0 hzs hzb rfl (by decide) (.slice none 0 0) 0 [] rfl (World.ownsRow_nil _ _ _ _) ⟨g, 0, none⟩ L.length L.length (flat4 (L.take L.length)) rfl hT1 hN1 (flat4_one _) (by unfold maxLen; omega) (by omega) (by omega) ?_; intro v3 w3 hown3 hgrow3 _; have hb23 : Below w2.heap.size w2 w3 := (Below.refl _ _).grown hgrow3 (Nat.le_refl _) (by intro j hj; simp [Value.ownBlock] at hj); have hz3 := hb23.size; have X3 := X2.below hb23; obtain ⟨_, y0, y1, y2, y3⟩ := X3.c4)
        | (refine wpList_append_own _ rfl _ _ 23 rfl w.heap.size 83 i0 (.agg #[.string ⟨#[]⟩, .int .i64 0, .int .i64 0, .string ⟨#[]⟩]) 4 48 Try.underlying23 hi hz0 hzs hzb rfl (by decide) v3 (0 + L.length) ([] ++ flat4 (L.take L.length)) rfl (owns_below hown3 (below_alloc _ _)) ⟨w3.heap.size, 0, none⟩ 1 1 (flat4 [(⟨xk, xn, xd, xv⟩ : It)]) rfl rfl (cells_new4 w3 (⟨xk, xn, xd, xv⟩ : It)) (one4 _) (by unfold maxLen; omega) (by omega) (by simp; omega) ?_; intro v4 w4 hown4 hgrow4 _; have hb24 : Below w.heap.size w w4 := (((hB2.grown hgrow3 hz2 (by intro j hj; simp [Value.ownBlock] at hj))).alloc (by omega) _).grown hgrow4 (by simp; omega) (owns_ge hown3); have hz4 := hgrow4.size)
        | (refine wpList_append_own _ rfl _ _ 23 rfl w.heap.size 83 i0 (.agg #[.string ⟨#[]⟩, .int .i64 0, .int .i64 0, .string ⟨#[]⟩]) 4 48 Try.underlying23 hi hz0 hzs hzb rfl (by decide) v4 (0 + L.length + 1) ([] ++ flat4 (L.take L.length) ++ flat4 [(⟨xk, xn, xd, xv⟩ : It)]) rfl hown4 ⟨g, 0, none⟩ (0) (0) (flat4 (L.drop L.length)) rfl (HD3.out.trans (by omega)) (HR4 w4 hgrow3 hown3 hgrow4) (flat4_one _) (by unfold maxLen; omega) (by omega) (by simp at hz4; omega) ?_; intro v5 w5 hown5 hgrow5 _))
      have hB5 : Below w.heap.size w w5 := hb24.grown hgrow5 (by simp at hz4; omega) (owns_ge hown4)
      have ho5 : w5.ownsRow base 83 4 v5 (L.take L.length ++ [(⟨xk, xn, xd, xv⟩ : It)] ++ L.drop L.length).length (flat4 (L.take L.length ++ [(⟨xk, xn, xd, xv⟩ : It)] ++ L.drop L.length)) := by
        rw [← HLE.out, ← HFL.out]
        have h9 := owns_mono hown5 hbase
        rw [List.nil_append, show 0 + L.length + 1 + (0) = L.length + 1 + (L.length - L.length) from by omega] at h9
        exact h9
      go_ret
      exact PutPost.mk (L' := L.take L.length ++ [(⟨xk, xn, xd, xv⟩ : It)] ++ L.drop L.length) ho5 (by simp) (by rw [← HLE.out]; omega) hsm2 hB5
end Go.Proofs.Ytjenogmpmkkbiaa
