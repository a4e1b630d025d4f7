/-
  spec.l1Own, spec.l1Put, spec.l1Without.
-/
import Derived.Test.YtbgemebpfcbloaaQ6
import Derived.Laws.AppendOwnNone
namespace Go.Proofs.Ytbgemebpfcbloaa
open Go.RowKit Go.Maps
set_option linter.unusedVariables false
set_option maxRecDepth 100000

/-- A slice of pairs: nil, or with its address. -/
def PZ (w : World) (v : Value) (l : List (ByteArray × Int)) : Prop := PL w v l ∧ (v = .slice none 0 0 ∨ ∃ b off c, v = .slice (some ⟨b, off, none⟩) l.length c)
theorem PZ.below {w w' : World} {v : Value} {l : List (ByteArray × Int)} (h : PZ w v l) (hb : Below w.heap.size w w') : PZ w' v l := ⟨h.1.below hb, h.2⟩
theorem PZ_of_owns {w : World} {base : Nat} {e : TypeId} {v : Value} {l : List (ByteArray × Int)} (h : w.ownsRow base e 2 v l.length (flat l)) : PZ w v l := by
  refine ⟨PL_of_owns h, ?_⟩
  rcases h.2 with ⟨rfl, h0⟩ | ⟨g, cap, cur, rfl, _⟩
  · exact .inl rfl
  · exact .inr ⟨g, 0, cap, rfl⟩
theorem PZ.px {w : World} {v : Value} {l : List (ByteArray × Int)} (h : PZ w v l) : PX w v l := by
  refine ⟨h.1, ?_⟩
  rcases h.2 with rfl | ⟨b, off, c, rfl⟩
  · left
    obtain ⟨a, cap, hv, _⟩ := h.1
    simp only [Value.slice.injEq] at hv
    exact ⟨0, by rw [← hv.2.1]⟩
  · exact .inr ⟨b, off, c, rfl⟩
theorem PZ_nil {w : World} {l : List (ByteArray × Int)} (h : PZ w (.slice none 0 0) l) : l = [] := by
  obtain ⟨a, cap, hv, _⟩ := h.1
  simp only [Value.slice.injEq] at hv
  exact List.length_eq_zero_iff.1 hv.2.1.symm
theorem PZ.shape {w : World} {v : Value} {l : List (ByteArray × Int)} (h : PZ w v l) : ∃ a c, v = .slice a l.length c := by
  rcases h.2 with rfl | ⟨b, off, c, rfl⟩
  · rw [PZ_nil h]; exact ⟨_, _, rfl⟩
  · exact ⟨_, _, rfl⟩

/-- 'append(s, l...)': a row of the call's own and any slice of pairs. -/
theorem append_px {w : World} {ops : Array Oper} {rest : List Oper} {o : Oper} {a : Act} {Q : Exit → Act → World → Prop} (hgd : o.guard = none) (s x : Operand) (t : TypeId)
    (ho : o.op = .call { callee := .builtin .append, args := #[s, x], argTypes := #[t, t] }) (base : Nat) (e : TypeId) (i : TypeInfo) (ht : Try.prog.underlying t = some (.slice e)) (hi : Try.prog.info? e = some i) (hz : i.zero = some (.agg #[.string ⟨#[]⟩, .int .i64 0])) (hsize : i.size = 2) (hby : i.bytes = 24)
    (v : Value) (n : Nat) (xs : List Value) (hs : a.eval s = v) (hown : w.ownsRow base e 2 v n xs) (hne : v ≠ .slice none 0 0) (u : Value) (l : List (ByteArray × Int)) (hx : a.eval x = u) (hu : PZ w u l) (hn : n + l.length ≤ 1048576) (hbase : base ≤ w.heap.size)
    (h : ∀ g c w', w'.ownsRow base e 2 (.slice (some ⟨g, 0, none⟩) (n + l.length) c) (n + l.length) (xs ++ flat l) → w.grownBy w' v.ownBlock → wpList Try.prog ops Q rest (a.put o.dst (.slice (some ⟨g, 0, none⟩) (n + l.length) c)) w') : wpList Try.prog ops Q (o :: rest) a w := by
  rcases hu.2 with rfl | ⟨b, off, c, rfl⟩
  · have hl := PZ_nil hu
    subst hl
    refine wpList_append_own_none hgd s x t ho base e i 2 ht hi v n xs hs hown hx ?_
    rcases hown.2 with ⟨h0, _⟩ | ⟨g, cap, cur, rfl, _⟩
    · exact absurd h0 hne
    · exact h g cap w (by simpa [flat] using hown) ⟨rfl, rfl, rfl, Nat.le_refl _, fun _ _ _ => rfl⟩
  · refine wpList_append_own w hgd s x t ho base e i _ 2 24 ht hi hz hsize hby rfl (by decide) v n xs hs hown ⟨b, off, none⟩ l.length c (flat l) hx (flat_length l) (fun j u hj => by rw [Addr.add_lit]; exact PL_flat hu.1 j u hj) (flat_one l) (by unfold maxLen; omega) (by omega) hbase ?_
    intro v' w' ho' hg' hnil
    rcases ho'.2 with ⟨h0, _⟩ | ⟨g, cap, cur, rfl, _⟩
    · exact absurd (hnil.1 h0).1 hne
    · exact h g cap w' ho' hg'

/-- A walk that stands still here. -/
def Stop (p : Prop) : Prop := p
theorem Stop.go {p : Prop} (h : Stop p) : p := h

/-- A disk that was made, none of its lists nil. -/
def MadeS (base : Nat) (w : World) (g1 c1 g2 c2 g3 c3 : Nat) (bl lv sf : List (ByteArray × Int)) : Prop :=
  Made base w (.slice (some ⟨g1, 0, none⟩) bl.length c1) (.slice (some ⟨g2, 0, none⟩) lv.length c2) (.slice (some ⟨g3, 0, none⟩) sf.length c3) bl lv sf

set_option maxHeartbeats 4000000 in
theorem l1Own_any (v1 v2 v3 : Value) (bl lv sf : List (ByteArray × Int)) (r : Int) (w : World) (h1 : PZ w v1 bl) (h2 : PZ w v2 lv) (h3 : PZ w v3 sf) (hn1 : bl.length ≤ 1048576) (hn2 : lv.length ≤ 1048576) (hn3 : sf.length ≤ 1048576) :
    Calls Try.prog 57 #[.agg #[v1, v2, v3, .int .i64 r]] w fun e w' => (∃ g1 c1 g2 c2 g3 c3, e = .returned (.agg #[.slice (some ⟨g1, 0, none⟩) bl.length c1, .slice (some ⟨g2, 0, none⟩) lv.length c2, .slice (some ⟨g3, 0, none⟩) sf.length c3, .int .i64 r]) ∧ MadeS w.heap.size w' g1 c1 g2 c2 g3 c3 bl lv sf) ∧ Below w.heap.size w w' := by
  obtain ⟨i0, hi, hz0, hzs, hzb⟩ := info_parts Try.info43
  obtain ⟨j0, hj, kz0, kzs, kzb⟩ := info_parts Try.info39
  obtain ⟨a1, c1, rfl⟩ := h1.shape
  obtain ⟨a2, c2, rfl⟩ := h2.shape
  obtain ⟨a3, c3, rfl⟩ := h3.shape
  obtain ⟨W0, hW0⟩ : ∃ W0, W0 = ((w.alloc (.cells #[.slice a1 bl.length c1, .slice a2 lv.length c2, .slice a3 sf.length c3, .int .i64 r] 26)).alloc (.cells #[.slice none 0 0, .slice none 0 0, .slice none 0 0, .int .i64 0] 26)).alloc (.cells #[] 43) := ⟨_, rfl⟩
  have hB0 : Below w.heap.size w W0 := by rw [hW0]; exact below3 _ _ _ _
  have X0 : Box W0 w.heap.size [.slice a1 bl.length c1, .slice a2 lv.length c2, .slice a3 sf.length c3, .int .i64 r] := by rw [hW0]; exact ((Box.new w _ _).alloc _).alloc _
  have Z0 : Box W0 (w.heap.size + 1) [.slice none 0 0, .slice none 0 0, .slice none 0 0, .int .i64 0] := by
    rw [hW0]
    have := (Box.new (w.alloc (.cells #[.slice a1 bl.length c1, .slice a2 lv.length c2, .slice a3 sf.length c3, .int .i64 r] 26)) #[.slice none 0 0, .slice none 0 0, .slice none 0 0, .int .i64 0] 26).alloc (.cells #[] 43)
    simpa using this
  have hzW : W0.heap.size = w.heap.size + 3 := by rw [hW0]; simp
  have E0 : W0.ownsRow (w.heap.size + 2) 43 2 (.slice (some ⟨w.heap.size + 1 + 1, 0, none⟩) 0 0) 0 [] := by
    rw [hW0]
    have := World.ownsRow_made (base := w.heap.size + 2) (e := 43) (size := 2) ((w.alloc (.cells #[.slice a1 bl.length c1, .slice a2 lv.length c2, .slice a3 sf.length c3, .int .i64 r] 26)).alloc (.cells #[.slice none 0 0, .slice none 0 0, .slice none 0 0, .int .i64 0] 26)) #[] 0 (by simp) (Nat.zero_le _) (by simp)
    simpa using this
  obtain ⟨_, x0, x1, x2, x3⟩ := X0.c4
  have b0 := owns_lt E0
  go_enter Try.func57, Try.ntmps57
  go_wp2_with (at_builtin; rw [← hW0]; refine append_px rfl _ _ 23 rfl (w.heap.size + 2) 43 i0 Try.underlying23 hi hz0 hzs hzb (.slice (some ⟨w.heap.size + 1 + 1, 0, none⟩) 0 0) 0 [] rfl E0 (by simp) (.slice a1 bl.length c1) bl rfl (h1.below hB0) (by omega) (by omega) ?_; intro g1 d1 w1 o1 hg1; refine Stop.go ?_)
  rw [Nat.zero_add, List.nil_append] at o1
  have hC1 := chg_grown hg1
  have z1 := hg1.size
  have Y1 := hC1.box X0 (fun e => by simp only [Value.ownBlock, Option.some.injEq] at e; omega)
  have X1 := Y1.set 0 (.slice (some ⟨g1, 0, none⟩) bl.length d1) (by simp)
  have Z1 := hC1.box Z0 (fun e => by simp only [Value.ownBlock, Option.some.injEq] at e; omega)
  have q1 := owns_lt o1
  have hS1 : Chg (· = w.heap.size) w1 (w1.setCell ⟨w.heap.size, 0, none⟩ (.slice (some ⟨g1, 0, none⟩) bl.length d1)) := (Chg.refl (· = w.heap.size) w1).setCell (p := ⟨w.heap.size, 0, none⟩) rfl _
  have hB1 : Below w.heap.size w (w1.setCell ⟨w.heap.size, 0, none⟩ (.slice (some ⟨g1, 0, none⟩) bl.length d1)) := (hB0.trans (hC1.below (by omega) (fun k h => by simp only [Value.ownBlock, Option.some.injEq] at h; omega))).trans (hS1.below (by omega) (fun k h => by omega))
  have O1 := hS1.owns o1 (fun g hg h => by simp only [Value.ownBlock, Option.some.injEq] at hg; omega)
  have Z1' := hS1.box Z1 (by omega)
  obtain ⟨W2, hW2⟩ : ∃ W2, W2 = (w1.setCell ⟨w.heap.size, 0, none⟩ (.slice (some ⟨g1, 0, none⟩) bl.length d1)).alloc (.cells #[] 39) := ⟨_, rfl⟩
  have E2 : W2.ownsRow w1.heap.size 39 2 (.slice (some ⟨w1.heap.size, 0, none⟩) 0 0) 0 [] := by
    rw [hW2]
    have := World.ownsRow_made (base := w1.heap.size) (e := 39) (size := 2) (w1.setCell ⟨w.heap.size, 0, none⟩ (.slice (some ⟨g1, 0, none⟩) bl.length d1)) #[] 0 (by simp) (Nat.zero_le _) (by simp)
    simpa using this
  have hB2 : Below w.heap.size w W2 := by rw [hW2]; exact hB1.alloc hB1.size _
  have X2 : Box W2 w.heap.size [.slice (some ⟨g1, 0, none⟩) bl.length d1, .slice a2 lv.length c2, .slice a3 sf.length c3, .int .i64 r] := by rw [hW2]; exact X1.alloc _
  have Z2 := Z1'.alloc (.cells #[] 39)
  rw [← hW2] at Z2
  have P1 := owns_below O1 (below_alloc _ (.cells #[] 39))
  rw [← hW2] at P1
  have hz2 : W2.heap.size = w1.heap.size + 1 := by rw [hW2]; simp
  clear hW0 x0 x1 x2 x3
  obtain ⟨_, x0, x1, x2, x3⟩ := Y1.c4
  have f0 := Y1.2.2 0
  clear X0 Z0 hB0 E0 X1 Z1 Z1' o1 O1 hB1 hS1 hC1 Y1
  unfold Stop
  try simp only [Nat.zero_add]
  go_wp2_with (at_builtin; rw [← hW2]; refine append_px rfl _ _ 24 rfl w1.heap.size 39 j0 Try.underlying24 hj kz0 kzs kzb (.slice (some ⟨w1.heap.size, 0, none⟩) 0 0) 0 [] rfl E2 (by simp) (.slice a2 lv.length c2) lv rfl (h2.below hB2) (by omega) (by omega) ?_; intro g2 d2 w3 o2 hg3; refine Stop.go ?_)
  rw [Nat.zero_add, List.nil_append] at o2
  have hC3 := chg_grown hg3
  have z3 := hg3.size
  have Y3 := hC3.box X2 (fun e => by simp only [Value.ownBlock, Option.some.injEq] at e; omega)
  have X3 := Y3.set 1 (.slice (some ⟨g2, 0, none⟩) lv.length d2) (by simp)
  have Z3 := hC3.box Z2 (fun e => by simp only [Value.ownBlock, Option.some.injEq] at e; omega)
  have p1 := owns_lt P1
  have R1 := hC3.owns P1 (fun g hg h => by simp only [Value.ownBlock, Option.some.injEq] at hg h; omega)
  have q2 := owns_lt o2
  have hS3 : Chg (· = w.heap.size) w3 (w3.setCell ⟨w.heap.size, 1, none⟩ (.slice (some ⟨g2, 0, none⟩) lv.length d2)) := (Chg.refl (· = w.heap.size) w3).setCell (p := ⟨w.heap.size, 1, none⟩) rfl _
  have hB3 : Below w.heap.size w (w3.setCell ⟨w.heap.size, 1, none⟩ (.slice (some ⟨g2, 0, none⟩) lv.length d2)) := (hB2.trans (hC3.below (by omega) (fun k h => by simp only [Value.ownBlock, Option.some.injEq] at h; omega))).trans (hS3.below (by omega) (fun k h => by omega))
  have O2 := hS3.owns o2 (fun g hg h => by simp only [Value.ownBlock, Option.some.injEq] at hg; omega)
  have T1 := hS3.owns R1 (fun g hg h => by simp only [Value.ownBlock, Option.some.injEq] at hg; omega)
  have Z3' := hS3.box Z3 (by omega)
  obtain ⟨W4, hW4⟩ : ∃ W4, W4 = (w3.setCell ⟨w.heap.size, 1, none⟩ (.slice (some ⟨g2, 0, none⟩) lv.length d2)).alloc (.cells #[] 39) := ⟨_, rfl⟩
  have E4 : W4.ownsRow w3.heap.size 39 2 (.slice (some ⟨w3.heap.size, 0, none⟩) 0 0) 0 [] := by
    rw [hW4]
    have := World.ownsRow_made (base := w3.heap.size) (e := 39) (size := 2) (w3.setCell ⟨w.heap.size, 1, none⟩ (.slice (some ⟨g2, 0, none⟩) lv.length d2)) #[] 0 (by simp) (Nat.zero_le _) (by simp)
    simpa using this
  have hB4 : Below w.heap.size w W4 := by rw [hW4]; exact hB3.alloc hB3.size _
  have X4 : Box W4 w.heap.size [.slice (some ⟨g1, 0, none⟩) bl.length d1, .slice (some ⟨g2, 0, none⟩) lv.length d2, .slice a3 sf.length c3, .int .i64 r] := by rw [hW4]; exact X3.alloc _
  have Z4 := Z3'.alloc (.cells #[] 39)
  rw [← hW4] at Z4
  have P1' := owns_below T1 (below_alloc _ (.cells #[] 39))
  rw [← hW4] at P1'
  have P2 := owns_below O2 (below_alloc _ (.cells #[] 39))
  rw [← hW4] at P2
  have hz4 : W4.heap.size = w3.heap.size + 1 := by rw [hW4]; simp
  clear hW2 x0 x1 x2 x3 f0
  obtain ⟨_, x0, x1, x2, x3⟩ := Y3.c4
  have f1 := Y3.2.2 1
  clear X2 Z2 hB2 E2 X3 Z3 Z3' o2 O2 hB3 hS3 hC3 Y3 R1 T1 P1
  unfold Stop
  go_wp2_with (at_builtin; rw [← hW4]; refine append_px rfl _ _ 24 rfl w3.heap.size 39 j0 Try.underlying24 hj kz0 kzs kzb (.slice (some ⟨w3.heap.size, 0, none⟩) 0 0) 0 [] rfl E4 (by simp) (.slice a3 sf.length c3) sf rfl (h3.below hB4) (by omega) (by omega) ?_; intro g3 d3 w5 o3 hg5; refine Stop.go ?_)
  rw [Nat.zero_add, List.nil_append] at o3
  have hC5 := chg_grown hg5
  have z5 := hg5.size
  have Y5 := hC5.box X4 (fun e => by simp only [Value.ownBlock, Option.some.injEq] at e; omega)
  have X5 := Y5.set 2 (.slice (some ⟨g3, 0, none⟩) sf.length d3) (by simp)
  have Z5 := hC5.box Z4 (fun e => by simp only [Value.ownBlock, Option.some.injEq] at e; omega)
  have p1' := owns_lt P1'
  have p2' := owns_lt P2
  have q3 := owns_lt o3
  have R1 := hC5.owns P1' (fun g hg h => by simp only [Value.ownBlock, Option.some.injEq] at hg h; omega)
  have R2 := hC5.owns P2 (fun g hg h => by simp only [Value.ownBlock, Option.some.injEq] at hg h; omega)
  have hS5 : Chg (· = w.heap.size) w5 (w5.setCell ⟨w.heap.size, 2, none⟩ (.slice (some ⟨g3, 0, none⟩) sf.length d3)) := (Chg.refl (· = w.heap.size) w5).setCell (p := ⟨w.heap.size, 2, none⟩) rfl _
  have hB5 : Below w.heap.size w (w5.setCell ⟨w.heap.size, 2, none⟩ (.slice (some ⟨g3, 0, none⟩) sf.length d3)) := (hB4.trans (hC5.below (by omega) (fun k h => by simp only [Value.ownBlock, Option.some.injEq] at h; omega))).trans (hS5.below (by omega) (fun k h => by omega))
  have Z6 := hS5.box Z5 (by omega)
  have hM : Made w.heap.size (w5.setCell ⟨w.heap.size, 2, none⟩ (.slice (some ⟨g3, 0, none⟩) sf.length d3)) (.slice (some ⟨g1, 0, none⟩) bl.length d1) (.slice (some ⟨g2, 0, none⟩) lv.length d2) (.slice (some ⟨g3, 0, none⟩) sf.length d3) bl lv sf :=
    ⟨owns_wk (hS5.owns R1 (fun g hg h => by simp only [Value.ownBlock, Option.some.injEq] at hg; omega)) (by omega), owns_wk (hS5.owns R2 (fun g hg h => by simp only [Value.ownBlock, Option.some.injEq] at hg; omega)) (by omega), owns_wk (hS5.owns o3 (fun g hg h => by simp only [Value.ownBlock, Option.some.injEq] at hg; omega)) (by omega),
      fun b h h' => by simp only [Value.ownBlock, Option.some.injEq] at h h'; omega, fun b h h' => by simp only [Value.ownBlock, Option.some.injEq] at h h'; omega, fun b h h' => by simp only [Value.ownBlock, Option.some.injEq] at h h'; omega⟩
  have hE := put4_box Z6 (.slice (some ⟨g1, 0, none⟩) bl.length d1) (.slice (some ⟨g2, 0, none⟩) lv.length d2) (.slice (some ⟨g3, 0, none⟩) sf.length d3) (.int .i64 r)
  have hC := put4_chg (w5.setCell ⟨w.heap.size, 2, none⟩ (.slice (some ⟨g3, 0, none⟩) sf.length d3)) (w.heap.size + 1) (.slice (some ⟨g1, 0, none⟩) bl.length d1) (.slice (some ⟨g2, 0, none⟩) lv.length d2) (.slice (some ⟨g3, 0, none⟩) sf.length d3) (.int .i64 r)
  have hM6 : Made w.heap.size (put4 (w5.setCell ⟨w.heap.size, 2, none⟩ (.slice (some ⟨g3, 0, none⟩) sf.length d3)) (w.heap.size + 1) (.slice (some ⟨g1, 0, none⟩) bl.length d1) (.slice (some ⟨g2, 0, none⟩) lv.length d2) (.slice (some ⟨g3, 0, none⟩) sf.length d3) (.int .i64 r)) (.slice (some ⟨g1, 0, none⟩) bl.length d1) (.slice (some ⟨g2, 0, none⟩) lv.length d2) (.slice (some ⟨g3, 0, none⟩) sf.length d3) bl lv sf :=
    ⟨hC.owns hM.1 (fun g hg h => by simp only [Value.ownBlock, Option.some.injEq] at hg; omega), hC.owns hM.2.1 (fun g hg h => by simp only [Value.ownBlock, Option.some.injEq] at hg; omega), hC.owns hM.2.2.1 (fun g hg h => by simp only [Value.ownBlock, Option.some.injEq] at hg; omega), hM.2.2.2⟩
  have hB6 := hB5.trans (hC.below hB5.size (fun b h => by omega))
  clear hW4 x0 x1 x2 x3 f1
  obtain ⟨_, x0, x1, x2, x3⟩ := Y5.c4
  have f2 := Y5.2.2 2
  obtain ⟨_, y0, y1, y2, y3⟩ := Z5.c4
  have e0 := Z5.2.2 0
  have e1 := Z5.2.2 1
  have e2 := Z5.2.2 2
  have e3 := Z5.2.2 3
  clear X4 Z4 hB4 E4 X5 o3 hS5 hC5 Y5 R1 R2 P1' P2 hM Z6 hB5 hC Z5
  unfold Stop
  go_wp2
  change bodyPost _ _ _ _ _ (put4 (w5.setCell ⟨w.heap.size, 2, none⟩ (.slice (some ⟨g3, 0, none⟩) sf.length d3)) (w.heap.size + 1) (.slice (some ⟨g1, 0, none⟩) bl.length d1) (.slice (some ⟨g2, 0, none⟩) lv.length d2) (.slice (some ⟨g3, 0, none⟩) sf.length d3) (.int .i64 r))
  generalize put4 (w5.setCell ⟨w.heap.size, 2, none⟩ (.slice (some ⟨g3, 0, none⟩) sf.length d3)) (w.heap.size + 1) (.slice (some ⟨g1, 0, none⟩) bl.length d1) (.slice (some ⟨g2, 0, none⟩) lv.length d2) (.slice (some ⟨g3, 0, none⟩) sf.length d3) (.int .i64 r) = W at *
  obtain ⟨_, t0, t1, t2, t3⟩ := hE.c4
  exact bodyPost_ret (v := .agg #[.slice (some ⟨g1, 0, none⟩) bl.length d1, .slice (some ⟨g2, 0, none⟩) lv.length d2, .slice (some ⟨g3, 0, none⟩) sf.length d3, .int .i64 r]) (by simp [results, Try.results57, go_sem, t0, t1, t2, t3]) rfl ⟨⟨_, _, _, _, _, _, rfl, hM6⟩, hB6⟩
end Go.Proofs.Ytbgemebpfcbloaa
