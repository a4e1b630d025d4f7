/-
  impl.changeDisk, a kind of step at a time.
-/
import Derived.Test.YtbgemebpfcbloaaQ4ToQ1
import Derived.Test.YtbgemebpfcbloaaM2
namespace Go.Proofs.Ytbgemebpfcbloaa
open Go.RowKit Go.Maps
set_option linter.unusedVariables false
set_option maxRecDepth 100000

/-- A disk that was made: its three lists in memory of their own. -/
def Made (base : Nat) (w : World) (x1 x2 x3 : Value) (bl lv sf : List (ByteArray × Int)) : Prop :=
  w.ownsRow base 43 2 x1 bl.length (flat bl) ∧ w.ownsRow base 39 2 x2 lv.length (flat lv) ∧ w.ownsRow base 39 2 x3 sf.length (flat sf) ∧
  (∀ b, x1.ownBlock = some b → x2.ownBlock ≠ some b) ∧ (∀ b, x1.ownBlock = some b → x3.ownBlock ≠ some b) ∧ (∀ b, x2.ownBlock = some b → x3.ownBlock ≠ some b)
theorem map_chg {S : Nat → Prop} {w w' : World} {b n : Nat} {D : DataW Unit} (hc : Chg S w w') (h : w.ownsMap Try.prog 9 (plainElem Try.prog 3) b n D) (hs : ¬ S b) : w'.ownsMap Try.prog 9 (plainElem Try.prog 3) b n D := by
  have hlt := h.lt
  obtain ⟨es, clock, hh, F, h1, hD⟩ := h
  exact ⟨es, clock, by rw [hc.block b hlt hs]; exact hh, F, h1, hD⟩
/-- The block of a map is no block of cells. -/
theorem map_ne_row {w : World} {b n base : Nat} {D : DataW Unit} {e : TypeId} {size : Nat} {v : Value} {m : Nat} {xs : List Value} (h : w.ownsMap Try.prog 9 (plainElem Try.prog 3) b n D) (ho : w.ownsRow base e size v m xs) : v.ownBlock ≠ some b := by
  obtain ⟨es, clock, hh, _⟩ := h
  rcases ho.2 with ⟨rfl, _⟩ | ⟨g, cap, cur, rfl, _, hg, _⟩
  · simp [Value.ownBlock]
  · intro e
    simp only [Value.ownBlock, Option.some.injEq] at e
    subst e
    rw [hh] at hg; cases hg
theorem chg_grown {w w' : World} {g : Option Nat} (h : w.grownBy w' g) : Chg (fun k => g = some k) w w' := ⟨h.os, h.tape, h.output, h.size, fun k hk hs => h.block k hk (fun e => hs e.symm)⟩
theorem flat_set0 (l : List (ByteArray × Int)) (i : Nat) (h : i < l.length) (s : ByteArray) : (flat l).set (i * 2) (.string s) = flat (l.set i (s, l[i].2)) := by
  rw [← flat_set l i s l[i].2]
  apply List.ext_getElem?
  intro j
  by_cases hj : j = i * 2 + 1
  · subst hj
    rw [List.getElem?_set_ne (by omega), List.getElem?_set_self (by rw [List.length_set, flat_length]; omega), flat_get1 l i h]
  · rw [List.getElem?_set_ne (l := (flat l).set (i * 2) (.string s)) (by omega)]
theorem flat_set1 (l : List (ByteArray × Int)) (i : Nat) (h : i < l.length) (m : Int) : (flat l).set (i * 2 + 1) (.int .i64 m) = flat (l.set i (l[i].1, m)) := by
  rw [← flat_set l i l[i].1 m]
  apply List.ext_getElem?
  intro j
  by_cases hj : j = i * 2
  · subst hj
    rw [List.getElem?_set_ne (by omega), List.getElem?_set_ne (by omega), List.getElem?_set_self (by rw [flat_length]; omega), flat_get0 l i h]
  · by_cases hk : j = i * 2 + 1
    · subst hk
      rw [List.getElem?_set_self (by rw [flat_length]; omega), List.getElem?_set_self (by rw [List.length_set, flat_length]; omega)]
    · rw [List.getElem?_set_ne (by omega), List.getElem?_set_ne (by omega), List.getElem?_set_ne (by omega)]

theorem owns_shape {w : World} {base : Nat} {e : TypeId} {size : Nat} {v : Value} {n : Nat} {xs : List Value} (h : w.ownsRow base e size v n xs) : ∃ a c, v = .slice a n c := by
  rcases h.2 with ⟨rfl, h0⟩ | ⟨g, cap, cur, rfl, _⟩
  · exact ⟨none, 0, by rw [h0]⟩
  · exact ⟨_, _, rfl⟩
/-- The world that changeDisk leaves. -/
def endW (w w3 : World) (x1 x4 x3 : Value) (r : Int) : World :=
  ((((w3.setCell ⟨w.heap.size, 1, none⟩ x4).setCell ⟨w.heap.size + 1 + 1, 0, none⟩ x1).setCell ⟨w.heap.size + 1 + 1, 1, none⟩ x4).setCell ⟨w.heap.size + 1 + 1, 2, none⟩ x3).setCell ⟨w.heap.size + 1 + 1, 3, none⟩ (.int .i64 r)
theorem end_made {w w3 : World} {base : Nat} {x1 x4 x3 y0 y1 y2 y3 : Value} {bl lv sf : List (ByteArray × Int)} (r : Int) (hB3 : Below base w w3) (hbase : base ≤ w.heap.size) (Z3 : Box w3 (w.heap.size + 1 + 1) [y0, y1, y2, y3])
    (P1 : w3.ownsRow base 43 2 x1 bl.length (flat bl)) (P4 : w3.ownsRow base 39 2 x4 lv.length (flat lv)) (P3 : w3.ownsRow base 39 2 x3 sf.length (flat sf))
    (s1 : ∀ g, x1.ownBlock = some g → g < w.heap.size ∨ w.heap.size + 2 < g) (s4 : ∀ g, x4.ownBlock = some g → g < w.heap.size ∨ w.heap.size + 2 < g) (s3 : ∀ g, x3.ownBlock = some g → g < w.heap.size ∨ w.heap.size + 2 < g)
    (d14 : ∀ b, x1.ownBlock = some b → x4.ownBlock ≠ some b) (d13 : ∀ b, x1.ownBlock = some b → x3.ownBlock ≠ some b) (d43 : ∀ b, x4.ownBlock = some b → x3.ownBlock ≠ some b) :
    Made base (endW w w3 x1 x4 x3 r) x1 x4 x3 bl lv sf ∧ Below base w (endW w w3 x1 x4 x3 r) ∧ Box (endW w w3 x1 x4 x3 r) (w.heap.size + 1 + 1) [x1, x4, x3, .int .i64 r] := by
  have hc : Chg (fun k => k = w.heap.size ∨ k = w.heap.size + 1 + 1) w3 (endW w w3 x1 x4 x3 r) :=
    (((((Chg.refl (fun k => k = w.heap.size ∨ k = w.heap.size + 1 + 1) w3).setCell (p := ⟨w.heap.size, 1, none⟩) (.inl rfl) _).setCell (p := ⟨w.heap.size + 1 + 1, 0, none⟩) (.inr rfl) _).setCell (p := ⟨w.heap.size + 1 + 1, 1, none⟩) (.inr rfl) _).setCell (p := ⟨w.heap.size + 1 + 1, 2, none⟩) (.inr rfl) _).setCell (p := ⟨w.heap.size + 1 + 1, 3, none⟩) (.inr rfl) _
  have hz := hB3.size
  refine ⟨⟨hc.owns P1 (fun g hg h => by have := s1 g hg; omega), hc.owns P4 (fun g hg h => by have := s4 g hg; omega), hc.owns P3 (fun g hg h => by have := s3 g hg; omega), d14, d13, d43⟩, hB3.trans (hc.below (by omega) (fun k h => by omega)), ?_⟩
  exact ((((Z3.setOther ⟨w.heap.size, 1, none⟩ x4 (by simp; omega)).set 0 x1 (by simp)).set 1 x4 (by simp)).set 2 x3 (by simp)).set 3 (.int .i64 r) (by simp)

theorem rows_ne {w : World} {b b' : Nat} {e e' : TypeId} {s s' : Nat} {v v' : Value} {n n' : Nat} {xs xs' : List Value} (h : w.ownsRow b e s v n xs) (h' : w.ownsRow b' e' s' v' n' xs') (hne : e ≠ e') : ∀ g, v.ownBlock = some g → v'.ownBlock ≠ some g := by
  intro g hg hg'
  rcases h.2 with ⟨rfl, _⟩ | ⟨g1, cap, cur, rfl, _, hh, _⟩
  · simp [Value.ownBlock] at hg
  · rcases h'.2 with ⟨rfl, _⟩ | ⟨g2, cap', cur', rfl, _, hh', _⟩
    · simp [Value.ownBlock] at hg'
    · simp only [Value.ownBlock, Option.some.injEq] at hg hg'
      subst hg hg'
      rw [hh] at hh'
      simp only [Option.some.injEq, Obj.cells.injEq] at hh'
      exact hne hh'.2.1

set_option maxHeartbeats 2000000 in
theorem change_1 (u1 u2 u3 : Value) (bl lv sf : List (ByteArray × Int)) (r : Int) (b base : Nat) (nm ot da : ByteArray) (kp : Int) (w : World) (hM : Made base w u1 u2 u3 bl lv sf) (hbase : base ≤ w.heap.size) (hbb : base ≤ b)
    (hg : goodD bl lv sf r = true) (hm : w.ownsMap Try.prog 9 (plainElem Try.prog 3) b lv.length (mapD lv)) (hnm : nm.size ≤ 1048576) (hot : ot.size ≤ 1048576) (hda : da.size ≤ 1048576) :
    Calls Try.prog 55 #[.agg #[u1, u2, u3, .int .i64 r], .map (some b), .agg #[.int .i64 1, .string nm, .string ot, .string da, .int .i64 kp]] w fun e w' => (∃ x1 x2 x3, e = .returned (.agg #[x1, x2, x3, .int .i64 r]) ∧ Made base w' x1 x2 x3 (bl ++ [(⟨#[]⟩, 0)]) (putL lv nm bl.length) sf) ∧ Below base w w' := by
  obtain ⟨i0, hi, hz0, hzs, hzb⟩ := info_parts Try.info43
  obtain ⟨G1, G2, G3, G4, G5, G6⟩ := (goodD_iff _ _ _ _).1 hg
  have hr := ris_of_ok G3
  have hl20 := ((okNs_iff _ _).1 G3).2.2
  have hs20 := ((okNs_iff _ _).1 G4).2.2
  obtain ⟨o1, o2, o3, d12, d13, d23⟩ := hM
  have b1 := owns_blk o1
  have b3 := owns_blk o3
  have n1 := map_ne_row hm o1
  have n3 := map_ne_row hm o3
  have hmlt := hm.lt
  obtain ⟨a1, c1, rfl⟩ := owns_shape o1
  obtain ⟨a2, c2, rfl⟩ := owns_shape o2
  obtain ⟨a3, c3, rfl⟩ := owns_shape o3
  have hkey := key9 nm hnm
  have hkey2 := key9 ot hot
  obtain ⟨W0, hW0⟩ : ∃ W0, W0 = ((w.alloc (.cells #[.slice a1 bl.length c1, .slice a2 lv.length c2, .slice a3 sf.length c3, .int .i64 r] 26)).alloc (.cells #[.int .i64 1, .string nm, .string ot, .string da, .int .i64 kp] 28)).alloc (.cells #[.slice none 0 0, .slice none 0 0, .slice none 0 0, .int .i64 0] 26) := ⟨_, rfl⟩
  have hB0 : Below w.heap.size w W0 := by rw [hW0]; exact below3 _ _ _ _
  have X0 : Box W0 w.heap.size [.slice a1 bl.length c1, .slice a2 lv.length c2, .slice a3 sf.length c3, .int .i64 r] := by rw [hW0]; exact ((Box.new w _ _).alloc _).alloc _
  have Y0 : Box W0 (w.heap.size + 1) [.int .i64 1, .string nm, .string ot, .string da, .int .i64 kp] := by
    rw [hW0]
    have := (Box.new (w.alloc (.cells #[.slice a1 bl.length c1, .slice a2 lv.length c2, .slice a3 sf.length c3, .int .i64 r] 26)) #[.int .i64 1, .string nm, .string ot, .string da, .int .i64 kp] 28).alloc (.cells #[.slice none 0 0, .slice none 0 0, .slice none 0 0, .int .i64 0] 26)
    simpa using this
  have Z0 : Box W0 (w.heap.size + 1 + 1) [.slice none 0 0, .slice none 0 0, .slice none 0 0, .int .i64 0] := by
    rw [hW0]
    have := Box.new ((w.alloc (.cells #[.slice a1 bl.length c1, .slice a2 lv.length c2, .slice a3 sf.length c3, .int .i64 r] 26)).alloc (.cells #[.int .i64 1, .string nm, .string ot, .string da, .int .i64 kp] 28)) #[.slice none 0 0, .slice none 0 0, .slice none 0 0, .int .i64 0] 26
    simpa using this
  have hzW : W0.heap.size = w.heap.size + 3 := by rw [hW0]; simp
  have hm0 := map_below hm hB0
  have O1 := owns_below o1 hB0
  have O3 := owns_below o3 hB0
  have HG : Hid (goodD bl lv sf r = true) := hg
  have HR : Hid (Ris lv) := hr
  have hz3 : w.heap.size + 2 < W0.heap.size := by omega
  clear o1 o2 o3 G1 G3 G4 hg hr
  obtain ⟨_, x0, x1, x2, x3⟩ := X0.c4
  obtain ⟨_, y0, y1, y2, y3, y4⟩ := Y0.c5
  have fX := X0.2.2

  go_enter Try.func55, Try.ntmps55
  go_wp2_with (first | (at_lookup; refine wpList_lookup_own_int _ rfl _ _ 94 rfl 9 3 .i64 law9 Try.underlying94 Try.underlying3 (zero3 _) b lv.length _ rfl (((hm.alloc _).alloc _).alloc _) _ _ rfl hkey ?_; intro c hat hwc; rw [← hW0]; clear hW0) | (at_mapUpdate; refine wpList_mapUpdate_own _ rfl _ _ _ 94 rfl 9 3 law9 Try.underlying94 _ b lv.length _ rfl hm0 (by unfold maxLen; omega) _ _ _ rfl rfl hkey _ [] (plainElem_int Try.underlying3 (WalkArith.wf_i64 (by omega))) ?_; intro w5 hm5 hg5; have hC5 := chg_grown hg5; have X5 := hC5.box X0 (fun e => by have := Option.some.inj e; omega); have Q5 := hC5.owns O1 (fun g hg h => n1 (by rw [hg, Option.some.inj h])); have z5 := hg5.size; clear x0 x1 x2 x3; obtain ⟨_, x0, x1, x2, x3⟩ := X5.c4) | (at_builtin; refine wpList_append_own _ rfl _ _ 23 rfl base 43 i0 (.agg #[.string ⟨#[]⟩, .int .i64 0]) 2 24 Try.underlying23 hi hz0 hzs hzb rfl (by decide) _ bl.length (flat bl) rfl (Q5.alloc _) ⟨w5.heap.size, 0, none⟩ 1 1 [.string ⟨#[]⟩, .int .i64 0] rfl rfl (by intro j u hj; match j, hj with | 0, hj => simp at hj; subst hj; simp [Addr.add] | 1, hj => simp at hj; subst hj; simp [Addr.add]) (by intro u hu; simp at hu; rcases hu with rfl | rfl <;> rfl) (by unfold maxLen; omega) (by omega) (by simp; omega) ?_; intro v6 w6 hown6 hgrow6 hnil6; obtain ⟨a6, c6, rfl⟩ := owns_shape hown6; have hC6 := (Chg.of_below (below_alloc w5 (.cells #[.string ⟨#[]⟩, .int .i64 0] 43))).trans (chg_grown hgrow6); have X6 := hC6.box X5 (fun e => by have := b1 _ e; omega); clear x0 x1 x2 x3; obtain ⟨_, x0, x1, x2, x3⟩ := X6.c4; have f0 := X6.2.2 0))
  have Q6 : w6.ownsRow base 43 2 (.slice a6 (bl.length + 1) c6) (bl ++ [((⟨#[]⟩ : ByteArray), (0 : Int))]).length (flat (bl ++ [((⟨#[]⟩ : ByteArray), (0 : Int))])) := by
    rw [flat_append, List.length_append]; exact hown6
  have R6 := hC6.owns (hC5.owns O3 (fun g hg h => n3 (by rw [hg, Option.some.inj h]))) (fun g hg h => d13 g h hg)
  have Y6 := hC6.box (hC5.box Y0 (fun e => by have := Option.some.inj e; omega)) (fun e => by have := b1 _ e; omega)
  have Z6 := hC6.box (hC5.box Z0 (fun e => by have := Option.some.inj e; omega)) (fun e => by have := b1 _ e; omega)
  have hm6 := map_chg hC6 hm5 (fun e => n1 e)
  have hB6 : Below base w w6 := ((hB0.mono hbase).trans (hC5.below (by omega) (fun k h => by have := Option.some.inj h; omega))).trans (hC6.below (by omega) (fun k h => owns_ge O1 k h))
  have s6 : ∀ g, (Value.slice a6 (bl.length + 1) c6).ownBlock = some g → g < w.heap.size ∨ w.heap.size + 2 < g := by
    intro g hg
    have hcl : w6.cell? ⟨g, 0, none⟩ = some (.string ((bl ++ [((⟨#[]⟩ : ByteArray), (0 : Int))])[0]'(by simp)).1) := by
      rcases Q6.2 with ⟨h, _⟩ | ⟨g', cap', cur', h, _⟩
      · rw [h] at hg; simp [Value.ownBlock] at hg
      · have hQ := Q6
        rw [h] at hQ hg
        simp only [Value.ownBlock, Option.some.injEq] at hg
        subst hg
        rw [hQ.cellAt 0 (by simp)]
        exact flat_get0 _ 0 (by simp)
    rcases Nat.lt_or_ge g w.heap.size with h | h
    · exact .inl h
    · rcases Nat.lt_or_ge (w.heap.size + 2) g with h' | h'
      · exact .inr h'
      · exfalso
        obtain rfl | rfl | rfl : g = w.heap.size ∨ g = w.heap.size + 1 ∨ g = w.heap.size + 1 + 1 := by omega
        · rw [X6.c4.2.1] at hcl; cases hcl
        · rw [Y6.c5.2.1] at hcl; cases hcl
        · rw [Z6.c4.2.1] at hcl; cases hcl
  have d6 := rows_ne Q6 R6 (by decide)
  have z6 := hC6.size
  have X1 := X6.set 0 (.slice a6 (bl.length + 1) c6) (by simp)
  have hC1 : Chg (fun k => k = w.heap.size) w6 (w6.setCell ⟨w.heap.size, 0, none⟩ (.slice a6 (bl.length + 1) c6)) := (Chg.refl (fun k => k = w.heap.size) w6).setCell (p := ⟨w.heap.size, 0, none⟩) rfl _
  have Z1 := hC1.box Z6 (by omega)
  have Q1 := hC1.owns Q6 (fun g hg h => by have := s6 g hg; omega)
  have Q3 := hC1.owns R6 (fun g hg h => by have := b3 g hg; omega)
  have hB1 := hB6.trans (hC1.below (by omega) (fun k h => by omega))
  have hm1 := map_chg hC1 hm6 (by omega)
  clear hm hm0 hm5 hm6 hg5 hgrow6 hC5 hC6 hC1 X0 Y0 Z0 O1 O3 X5 Q5 X6 Y6 Z6 Q6 R6 hB6 x0 x1 x2 x3 y0 y1 y2 y3 y4 hat f0 hown6 hnil6 fX
  generalize w6.setCell ⟨w.heap.size, 0, none⟩ (.slice a6 (bl.length + 1) c6) = w1 at *
  refine (rising_any b (lv.length + 1) _ (putL lv nm bl.length) w1 hm1 (mean_put (mean_mapD lv) HR.out nm bl.length) (ris_put HR.out nm bl.length) (by omega)).mono ?_
  rintro e w3 ⟨v4, rfl, ov, hb3⟩
  obtain ⟨a4, c4, rfl⟩ := owns_shape ov
  have g4 := owns_ge ov
  have X3 := X1.below hb3
  have Z3 := Z1.below hb3
  have L1 := owns_blk Q1
  have L3 := owns_blk Q3
  have P1 := owns_below Q1 hb3
  have P3 := owns_below Q3 hb3
  have zz := hB1.size
  have zw := (Z1).1
  have hB3 : Below base w w3 := hB1.trans (hb3.mono (by omega))
  obtain ⟨hzx, x0, x1, x2, x3⟩ := X3.c4
  obtain ⟨hzz, z0, z1, z2, z3⟩ := Z3.c4
  have f1 := X3.2.2 1
  have e0 := Z3.2.2 0
  have e1 := Z3.2.2 1
  have e2 := Z3.2.2 2
  have e3 := Z3.2.2 3
  have hE := end_made r hB3 hbase Z3 P1 (owns_wk ov (by omega)) P3 s6 (fun g hg => by have := g4 g hg; omega) (fun g hg => .inl (b3 g hg)) (fun k h h' => by have := L1 k h; have := g4 k h'; omega) d6 (fun k h h' => by have := L3 k h'; have := g4 k h; omega)
  clear P1 P3 ov
  go_wp2
  change bodyPost _ _ _ _ _ (endW w w3 (.slice a6 (bl.length + 1) c6) (.slice a4 (putL lv nm bl.length).length c4) (.slice a3 sf.length c3) r)
  obtain ⟨hMd, hBw, hBx⟩ := hE
  generalize endW w w3 (.slice a6 (bl.length + 1) c6) (.slice a4 (putL lv nm bl.length).length c4) (.slice a3 sf.length c3) r = W at *
  obtain ⟨_, t0, t1, t2, t3⟩ := hBx.c4
  exact bodyPost_ret (v := .agg #[.slice a6 (bl.length + 1) c6, .slice a4 (putL lv nm bl.length).length c4, .slice a3 sf.length c3, .int .i64 r]) (by simp [results, Try.results55, go_sem, t0, t1, t2, t3]) rfl ⟨⟨_, _, _, rfl, hMd⟩, hBw⟩

set_option maxHeartbeats 2000000 in
theorem change_2 (u1 u2 u3 : Value) (bl lv sf : List (ByteArray × Int)) (r : Int) (b base : Nat) (nm ot da : ByteArray) (kp : Int) (w : World) (hM : Made base w u1 u2 u3 bl lv sf) (hbase : base ≤ w.heap.size) (hbb : base ≤ b)
    (hg : goodD bl lv sf r = true) (hm : w.ownsMap Try.prog 9 (plainElem Try.prog 3) b lv.length (mapD lv)) (hnm : nm.size ≤ 1048576) (hot : ot.size ≤ 1048576) (hda : da.size ≤ 1048576) (cb : Nat) (hlk : lkp nm none lv = some (cb : Int)) (hcb : cb < bl.length) :
    Calls Try.prog 55 #[.agg #[u1, u2, u3, .int .i64 r], .map (some b), .agg #[.int .i64 2, .string nm, .string ot, .string da, .int .i64 kp]] w fun e w' => (∃ x1 x2 x3, e = .returned (.agg #[x1, x2, x3, .int .i64 r]) ∧ Made base w' x1 x2 x3 (bl.set cb (bl[cb].1 ++ da, bl[cb].2)) lv sf) ∧ Below base w w' := by
  obtain ⟨i0, hi, hz0, hzs, hzb⟩ := info_parts Try.info43
  obtain ⟨G1, G2, G3, G4, G5, G6⟩ := (goodD_iff _ _ _ _).1 hg
  have hr := ris_of_ok G3
  have hl20 := ((okNs_iff _ _).1 G3).2.2
  have hs20 := ((okNs_iff _ _).1 G4).2.2
  obtain ⟨o1, o2, o3, d12, d13, d23⟩ := hM
  have b1 := owns_blk o1
  have b3 := owns_blk o3
  have n1 := map_ne_row hm o1
  have n3 := map_ne_row hm o3
  have hmlt := hm.lt
  obtain ⟨a1, c1, rfl⟩ := owns_shape o1
  obtain ⟨a2, c2, rfl⟩ := owns_shape o2
  obtain ⟨a3, c3, rfl⟩ := owns_shape o3
  have hkey := key9 nm hnm
  have hkey2 := key9 ot hot
  obtain ⟨W0, hW0⟩ : ∃ W0, W0 = ((w.alloc (.cells #[.slice a1 bl.length c1, .slice a2 lv.length c2, .slice a3 sf.length c3, .int .i64 r] 26)).alloc (.cells #[.int .i64 2, .string nm, .string ot, .string da, .int .i64 kp] 28)).alloc (.cells #[.slice none 0 0, .slice none 0 0, .slice none 0 0, .int .i64 0] 26) := ⟨_, rfl⟩
  have hB0 : Below w.heap.size w W0 := by rw [hW0]; exact below3 _ _ _ _
  have X0 : Box W0 w.heap.size [.slice a1 bl.length c1, .slice a2 lv.length c2, .slice a3 sf.length c3, .int .i64 r] := by rw [hW0]; exact ((Box.new w _ _).alloc _).alloc _
  have Y0 : Box W0 (w.heap.size + 1) [.int .i64 2, .string nm, .string ot, .string da, .int .i64 kp] := by
    rw [hW0]
    have := (Box.new (w.alloc (.cells #[.slice a1 bl.length c1, .slice a2 lv.length c2, .slice a3 sf.length c3, .int .i64 r] 26)) #[.int .i64 2, .string nm, .string ot, .string da, .int .i64 kp] 28).alloc (.cells #[.slice none 0 0, .slice none 0 0, .slice none 0 0, .int .i64 0] 26)
    simpa using this
  have Z0 : Box W0 (w.heap.size + 1 + 1) [.slice none 0 0, .slice none 0 0, .slice none 0 0, .int .i64 0] := by
    rw [hW0]
    have := Box.new ((w.alloc (.cells #[.slice a1 bl.length c1, .slice a2 lv.length c2, .slice a3 sf.length c3, .int .i64 r] 26)).alloc (.cells #[.int .i64 2, .string nm, .string ot, .string da, .int .i64 kp] 28)) #[.slice none 0 0, .slice none 0 0, .slice none 0 0, .int .i64 0] 26
    simpa using this
  have hzW : W0.heap.size = w.heap.size + 3 := by rw [hW0]; simp
  have hm0 := map_below hm hB0
  have O1 := owns_below o1 hB0
  have O3 := owns_below o3 hB0
  have HG : Hid (goodD bl lv sf r = true) := hg
  have HR : Hid (Ris lv) := hr
  have hz3 : w.heap.size + 2 < W0.heap.size := by omega
  clear o1 o2 o3 G1 G3 G4 hg hr
  obtain ⟨_, x0, x1, x2, x3⟩ := X0.c4
  obtain ⟨_, y0, y1, y2, y3, y4⟩ := Y0.c5
  have fX := X0.2.2
  have HAT : Hid (∀ c : Int, (mapD lv).atKey (keyL nm) (.lit (.int .i64 0)) = .lit (.int .i64 c) → c = (cb : Int)) := by
    intro c h; rw [mapD_at nm lv _ hlk] at h; injection h with h; injection h with _ h; exact h.symm
  obtain ⟨g, rfl⟩ : ∃ g, a1 = some ⟨g, 0, none⟩ := by
    rcases O1.2 with ⟨h, _⟩ | ⟨g, cap, cur, h, _⟩
    · simp only [Value.slice.injEq] at h; omega
    · simp only [Value.slice.injEq] at h; exact ⟨g, h.1⟩
  have bg := b1 g rfl
  have hgb : g ≠ b := fun e => n1 (by rw [← e]; rfl)
  have hzg := (owns_lt O1).1
  obtain ⟨s, hse⟩ : ∃ s, s = bl[cb].1 := ⟨_, rfl⟩
  obtain ⟨sm, hsm⟩ : ∃ sm, sm = bl[cb].2 := ⟨_, rfl⟩
  obtain ⟨k0, k1, j0, j1⟩ := owns_at O1 cb hcb (Nat.le_refl _)
  rw [← hse] at k0
  rw [← hsm] at k1
  have hBk := (okBs_iff _).1 ((goodD_iff _ _ _ _).1 HG.out).1 bl[cb] (List.getElem_mem _)
  rw [← hse, ← hsm] at hBk
  have hcbi : (cb : Int) < bl.length := by omega
  have HSE : Hid (s = bl[cb].1 ∧ sm = bl[cb].2) := ⟨hse, hsm⟩
  clear hse hsm
  go_enter Try.func55, Try.ntmps55
  go_wp2_with (at_lookup; refine wpList_lookup_own_int _ rfl _ _ 94 rfl 9 3 .i64 law9 Try.underlying94 Try.underlying3 (zero3 _) b lv.length _ rfl (((hm.alloc _).alloc _).alloc _) _ _ rfl hkey ?_; intro c hat hwc; have hce := HAT.out c hat; subst hce; rw [← hW0]; clear hW0)
  go_region
  all_goals
    have hO := (O1.stored (cb * 2) (.string (s ++ da))).1
    rw [flat_set0 bl cb hcb] at hO
    have hC1 : Chg (· = g) W0 ((W0.setCell ⟨g, cb * 2, none⟩ (.string (s ++ da))).drew) := (((Chg.refl (· = g) W0).setCell (p := ⟨g, cb * 2, none⟩) rfl _)).trans (Chg.of_below (Below.refl _ _).drew)
    have X1 := hC1.box X0 (by omega)
    have Z1 := hC1.box Z0 (by omega)
    have Q1 := owns_below hO (Below.refl _ _).drew
    have Q3 := hC1.owns O3 (fun k hk h => by subst h; exact d13 k rfl hk)
    have hB1 : Below base w ((W0.setCell ⟨g, cb * 2, none⟩ (.string (s ++ da))).drew) := (hB0.mono hbase).trans (hC1.below (by omega) (fun k h => by omega))
    have hm1 := map_chg hC1 hm0 (fun e => hgb e.symm)
    have Q1' : ((W0.setCell ⟨g, cb * 2, none⟩ (.string (s ++ da))).drew).ownsRow base 43 2 (.slice (some ⟨g, 0, none⟩) bl.length c1) (bl.set cb (bl[cb].1 ++ da, bl[cb].2)).length (flat (bl.set cb (bl[cb].1 ++ da, bl[cb].2))) := by
      rw [List.length_set, ← HSE.out.1]; exact Q1
    clear hm hm0 hC1 X0 Y0 Z0 O1 O3 x0 x1 x2 x3 y0 y1 y2 y3 y4 hat fX k0 k1 j0 j1 Q1 hO
    generalize ((W0.setCell ⟨g, cb * 2, none⟩ (.string (s ++ da))).drew) = w1 at *
    go_wp2_with fail
    refine (rising_any b lv.length _ (lv) w1 hm1 (mean_mapD lv) HR.out (by omega)).mono ?_
    rintro e w3 ⟨v4, rfl, ov, hb3⟩
    obtain ⟨a4, c4, rfl⟩ := owns_shape ov
    have g4 := owns_ge ov
    have X3 := X1.below hb3
    have Z3 := Z1.below hb3
    have L1 := owns_blk Q1'
    have L3 := owns_blk Q3
    have P1 := owns_below Q1' hb3
    have P3 := owns_below Q3 hb3
    have zz := hB1.size
    have zw := (Z1).1
    have hB3 : Below base w w3 := hB1.trans (hb3.mono (by omega))
    obtain ⟨hzx, x0, x1, x2, x3⟩ := X3.c4
    obtain ⟨hzz, z0, z1, z2, z3⟩ := Z3.c4
    have f1 := X3.2.2 1
    have e0 := Z3.2.2 0
    have e1 := Z3.2.2 1
    have e2 := Z3.2.2 2
    have e3 := Z3.2.2 3
    have hE := end_made r hB3 hbase Z3 P1 (owns_wk ov (by omega)) P3 (fun g hg => .inl (b1 g hg)) (fun g hg => by have := g4 g hg; omega) (fun g hg => .inl (b3 g hg)) (fun k h h' => by have := L1 k h; have := g4 k h'; omega) d13 (fun k h h' => by have := L3 k h'; have := g4 k h; omega)
    clear P1 P3 ov
    go_wp2
    change bodyPost _ _ _ _ _ (endW w w3 (.slice (some ⟨g, 0, none⟩) bl.length c1) (.slice a4 lv.length c4) (.slice a3 sf.length c3) r)
    obtain ⟨hMd, hBw, hBx⟩ := hE
    generalize endW w w3 (.slice (some ⟨g, 0, none⟩) bl.length c1) (.slice a4 lv.length c4) (.slice a3 sf.length c3) r = W at *
    obtain ⟨_, t0, t1, t2, t3⟩ := hBx.c4
    exact bodyPost_ret (v := .agg #[.slice (some ⟨g, 0, none⟩) bl.length c1, .slice a4 lv.length c4, .slice a3 sf.length c3, .int .i64 r]) (by simp [results, Try.results55, go_sem, t0, t1, t2, t3]) rfl ⟨⟨_, _, _, rfl, hMd⟩, hBw⟩

set_option maxHeartbeats 2000000 in
theorem change_3 (u1 u2 u3 : Value) (bl lv sf : List (ByteArray × Int)) (r : Int) (b base : Nat) (nm ot da : ByteArray) (kp : Int) (w : World) (hM : Made base w u1 u2 u3 bl lv sf) (hbase : base ≤ w.heap.size) (hbb : base ≤ b)
    (hg : goodD bl lv sf r = true) (hm : w.ownsMap Try.prog 9 (plainElem Try.prog 3) b lv.length (mapD lv)) (hnm : nm.size ≤ 1048576) (hot : ot.size ≤ 1048576) (hda : da.size ≤ 1048576) (cb : Nat) (hlk : lkp nm none lv = some (cb : Int)) (hcb : cb < bl.length) :
    Calls Try.prog 55 #[.agg #[u1, u2, u3, .int .i64 r], .map (some b), .agg #[.int .i64 3, .string nm, .string ot, .string da, .int .i64 kp]] w fun e w' => (∃ x1 x2 x3, e = .returned (.agg #[x1, x2, x3, .int .i64 r]) ∧ Made base w' x1 x2 x3 (bl.set cb (bl[cb].1, bl[cb].1.size)) lv sf) ∧ Below base w w' := by
  obtain ⟨i0, hi, hz0, hzs, hzb⟩ := info_parts Try.info43
  obtain ⟨G1, G2, G3, G4, G5, G6⟩ := (goodD_iff _ _ _ _).1 hg
  have hr := ris_of_ok G3
  have hl20 := ((okNs_iff _ _).1 G3).2.2
  have hs20 := ((okNs_iff _ _).1 G4).2.2
  obtain ⟨o1, o2, o3, d12, d13, d23⟩ := hM
  have b1 := owns_blk o1
  have b3 := owns_blk o3
  have n1 := map_ne_row hm o1
  have n3 := map_ne_row hm o3
  have hmlt := hm.lt
  obtain ⟨a1, c1, rfl⟩ := owns_shape o1
  obtain ⟨a2, c2, rfl⟩ := owns_shape o2
  obtain ⟨a3, c3, rfl⟩ := owns_shape o3
  have hkey := key9 nm hnm
  have hkey2 := key9 ot hot
  obtain ⟨W0, hW0⟩ : ∃ W0, W0 = ((w.alloc (.cells #[.slice a1 bl.length c1, .slice a2 lv.length c2, .slice a3 sf.length c3, .int .i64 r] 26)).alloc (.cells #[.int .i64 3, .string nm, .string ot, .string da, .int .i64 kp] 28)).alloc (.cells #[.slice none 0 0, .slice none 0 0, .slice none 0 0, .int .i64 0] 26) := ⟨_, rfl⟩
  have hB0 : Below w.heap.size w W0 := by rw [hW0]; exact below3 _ _ _ _
  have X0 : Box W0 w.heap.size [.slice a1 bl.length c1, .slice a2 lv.length c2, .slice a3 sf.length c3, .int .i64 r] := by rw [hW0]; exact ((Box.new w _ _).alloc _).alloc _
  have Y0 : Box W0 (w.heap.size + 1) [.int .i64 3, .string nm, .string ot, .string da, .int .i64 kp] := by
    rw [hW0]
    have := (Box.new (w.alloc (.cells #[.slice a1 bl.length c1, .slice a2 lv.length c2, .slice a3 sf.length c3, .int .i64 r] 26)) #[.int .i64 3, .string nm, .string ot, .string da, .int .i64 kp] 28).alloc (.cells #[.slice none 0 0, .slice none 0 0, .slice none 0 0, .int .i64 0] 26)
    simpa using this
  have Z0 : Box W0 (w.heap.size + 1 + 1) [.slice none 0 0, .slice none 0 0, .slice none 0 0, .int .i64 0] := by
    rw [hW0]
    have := Box.new ((w.alloc (.cells #[.slice a1 bl.length c1, .slice a2 lv.length c2, .slice a3 sf.length c3, .int .i64 r] 26)).alloc (.cells #[.int .i64 3, .string nm, .string ot, .string da, .int .i64 kp] 28)) #[.slice none 0 0, .slice none 0 0, .slice none 0 0, .int .i64 0] 26
    simpa using this
  have hzW : W0.heap.size = w.heap.size + 3 := by rw [hW0]; simp
  have hm0 := map_below hm hB0
  have O1 := owns_below o1 hB0
  have O3 := owns_below o3 hB0
  have HG : Hid (goodD bl lv sf r = true) := hg
  have HR : Hid (Ris lv) := hr
  have hz3 : w.heap.size + 2 < W0.heap.size := by omega
  clear o1 o2 o3 G1 G3 G4 hg hr
  obtain ⟨_, x0, x1, x2, x3⟩ := X0.c4
  obtain ⟨_, y0, y1, y2, y3, y4⟩ := Y0.c5
  have fX := X0.2.2
  have HAT : Hid (∀ c : Int, (mapD lv).atKey (keyL nm) (.lit (.int .i64 0)) = .lit (.int .i64 c) → c = (cb : Int)) := by
    intro c h; rw [mapD_at nm lv _ hlk] at h; injection h with h; injection h with _ h; exact h.symm
  obtain ⟨g, rfl⟩ : ∃ g, a1 = some ⟨g, 0, none⟩ := by
    rcases O1.2 with ⟨h, _⟩ | ⟨g, cap, cur, h, _⟩
    · simp only [Value.slice.injEq] at h; omega
    · simp only [Value.slice.injEq] at h; exact ⟨g, h.1⟩
  have bg := b1 g rfl
  have hgb : g ≠ b := fun e => n1 (by rw [← e]; rfl)
  have hzg := (owns_lt O1).1
  obtain ⟨s, hse⟩ : ∃ s, s = bl[cb].1 := ⟨_, rfl⟩
  obtain ⟨sm, hsm⟩ : ∃ sm, sm = bl[cb].2 := ⟨_, rfl⟩
  obtain ⟨k0, k1, j0, j1⟩ := owns_at O1 cb hcb (Nat.le_refl _)
  rw [← hse] at k0
  rw [← hsm] at k1
  have hBk := (okBs_iff _).1 ((goodD_iff _ _ _ _).1 HG.out).1 bl[cb] (List.getElem_mem _)
  rw [← hse, ← hsm] at hBk
  have hcbi : (cb : Int) < bl.length := by omega
  have HSE : Hid (s = bl[cb].1 ∧ sm = bl[cb].2) := ⟨hse, hsm⟩
  clear hse hsm
  go_enter Try.func55, Try.ntmps55
  go_wp2_with (at_lookup; refine wpList_lookup_own_int _ rfl _ _ 94 rfl 9 3 .i64 law9 Try.underlying94 Try.underlying3 (zero3 _) b lv.length _ rfl (((hm.alloc _).alloc _).alloc _) _ _ rfl hkey ?_; intro c hat hwc; have hce := HAT.out c hat; subst hce; rw [← hW0]; clear hW0)
  go_region
  all_goals
    have hO := (O1.stored (cb * 2 + 1) (.int .i64 (s.size : Nat))).1
    rw [flat_set1 bl cb hcb] at hO
    have hC1 : Chg (· = g) W0 ((W0.setCell ⟨g, cb * 2 + 1, none⟩ (.int .i64 (s.size : Nat))).drew) := (((Chg.refl (· = g) W0).setCell (p := ⟨g, cb * 2 + 1, none⟩) rfl _)).trans (Chg.of_below (Below.refl _ _).drew)
    have X1 := hC1.box X0 (by omega)
    have Z1 := hC1.box Z0 (by omega)
    have Q1 := owns_below hO (Below.refl _ _).drew
    have Q3 := hC1.owns O3 (fun k hk h => by subst h; exact d13 k rfl hk)
    have hB1 : Below base w ((W0.setCell ⟨g, cb * 2 + 1, none⟩ (.int .i64 (s.size : Nat))).drew) := (hB0.mono hbase).trans (hC1.below (by omega) (fun k h => by omega))
    have hm1 := map_chg hC1 hm0 (fun e => hgb e.symm)
    have Q1' : ((W0.setCell ⟨g, cb * 2 + 1, none⟩ (.int .i64 (s.size : Nat))).drew).ownsRow base 43 2 (.slice (some ⟨g, 0, none⟩) bl.length c1) (bl.set cb (bl[cb].1, bl[cb].1.size)).length (flat (bl.set cb (bl[cb].1, bl[cb].1.size))) := by
      rw [List.length_set, ← HSE.out.1]; rw [← HSE.out.1] at Q1; exact Q1
    clear hm hm0 hC1 X0 Y0 Z0 O1 O3 x0 x1 x2 x3 y0 y1 y2 y3 y4 hat fX k0 k1 j0 j1 Q1 hO
    generalize ((W0.setCell ⟨g, cb * 2 + 1, none⟩ (.int .i64 (s.size : Nat))).drew) = w1 at *
    go_wp2_with fail
    refine (rising_any b lv.length _ (lv) w1 hm1 (mean_mapD lv) HR.out (by omega)).mono ?_
    rintro e w3 ⟨v4, rfl, ov, hb3⟩
    obtain ⟨a4, c4, rfl⟩ := owns_shape ov
    have g4 := owns_ge ov
    have X3 := X1.below hb3
    have Z3 := Z1.below hb3
    have L1 := owns_blk Q1'
    have L3 := owns_blk Q3
    have P1 := owns_below Q1' hb3
    have P3 := owns_below Q3 hb3
    have zz := hB1.size
    have zw := (Z1).1
    have hB3 : Below base w w3 := hB1.trans (hb3.mono (by omega))
    obtain ⟨hzx, x0, x1, x2, x3⟩ := X3.c4
    obtain ⟨hzz, z0, z1, z2, z3⟩ := Z3.c4
    have f1 := X3.2.2 1
    have e0 := Z3.2.2 0
    have e1 := Z3.2.2 1
    have e2 := Z3.2.2 2
    have e3 := Z3.2.2 3
    have hE := end_made r hB3 hbase Z3 P1 (owns_wk ov (by omega)) P3 (fun g hg => .inl (b1 g hg)) (fun g hg => by have := g4 g hg; omega) (fun g hg => .inl (b3 g hg)) (fun k h h' => by have := L1 k h; have := g4 k h'; omega) d13 (fun k h h' => by have := L3 k h'; have := g4 k h; omega)
    clear P1 P3 ov
    go_wp2
    change bodyPost _ _ _ _ _ (endW w w3 (.slice (some ⟨g, 0, none⟩) bl.length c1) (.slice a4 lv.length c4) (.slice a3 sf.length c3) r)
    obtain ⟨hMd, hBw, hBx⟩ := hE
    generalize endW w w3 (.slice (some ⟨g, 0, none⟩) bl.length c1) (.slice a4 lv.length c4) (.slice a3 sf.length c3) r = W at *
    obtain ⟨_, t0, t1, t2, t3⟩ := hBx.c4
    exact bodyPost_ret (v := .agg #[.slice (some ⟨g, 0, none⟩) bl.length c1, .slice a4 lv.length c4, .slice a3 sf.length c3, .int .i64 r]) (by simp [results, Try.results55, go_sem, t0, t1, t2, t3]) rfl ⟨⟨_, _, _, rfl, hMd⟩, hBw⟩

set_option maxHeartbeats 2000000 in
theorem change_4 (u1 u2 u3 : Value) (bl lv sf : List (ByteArray × Int)) (r : Int) (b base : Nat) (nm ot da : ByteArray) (kp : Int) (w : World) (hM : Made base w u1 u2 u3 bl lv sf) (hbase : base ≤ w.heap.size) (hbb : base ≤ b)
    (hg : goodD bl lv sf r = true) (hm : w.ownsMap Try.prog 9 (plainElem Try.prog 3) b lv.length (mapD lv)) (hnm : nm.size ≤ 1048576) (hot : ot.size ≤ 1048576) (hda : da.size ≤ 1048576) (cb : Nat) (hlk : lkp nm none lv = some (cb : Int)) (hcb : cb < bl.length) :
    Calls Try.prog 55 #[.agg #[u1, u2, u3, .int .i64 r], .map (some b), .agg #[.int .i64 4, .string nm, .string ot, .string da, .int .i64 kp]] w fun e w' => (∃ x1 x2 x3, e = .returned (.agg #[x1, x2, x3, .int .i64 r]) ∧ Made base w' x1 x2 x3 bl (putL (woutL lv nm) ot cb) sf) ∧ Below base w w' := by
  obtain ⟨i0, hi, hz0, hzs, hzb⟩ := info_parts Try.info43
  obtain ⟨G1, G2, G3, G4, G5, G6⟩ := (goodD_iff _ _ _ _).1 hg
  have hr := ris_of_ok G3
  have hl20 := ((okNs_iff _ _).1 G3).2.2
  have hs20 := ((okNs_iff _ _).1 G4).2.2
  obtain ⟨o1, o2, o3, d12, d13, d23⟩ := hM
  have b1 := owns_blk o1
  have b3 := owns_blk o3
  have n1 := map_ne_row hm o1
  have n3 := map_ne_row hm o3
  have hmlt := hm.lt
  obtain ⟨a1, c1, rfl⟩ := owns_shape o1
  obtain ⟨a2, c2, rfl⟩ := owns_shape o2
  obtain ⟨a3, c3, rfl⟩ := owns_shape o3
  have hkey := key9 nm hnm
  have hkey2 := key9 ot hot
  obtain ⟨W0, hW0⟩ : ∃ W0, W0 = ((w.alloc (.cells #[.slice a1 bl.length c1, .slice a2 lv.length c2, .slice a3 sf.length c3, .int .i64 r] 26)).alloc (.cells #[.int .i64 4, .string nm, .string ot, .string da, .int .i64 kp] 28)).alloc (.cells #[.slice none 0 0, .slice none 0 0, .slice none 0 0, .int .i64 0] 26) := ⟨_, rfl⟩
  have hB0 : Below w.heap.size w W0 := by rw [hW0]; exact below3 _ _ _ _
  have X0 : Box W0 w.heap.size [.slice a1 bl.length c1, .slice a2 lv.length c2, .slice a3 sf.length c3, .int .i64 r] := by rw [hW0]; exact ((Box.new w _ _).alloc _).alloc _
  have Y0 : Box W0 (w.heap.size + 1) [.int .i64 4, .string nm, .string ot, .string da, .int .i64 kp] := by
    rw [hW0]
    have := (Box.new (w.alloc (.cells #[.slice a1 bl.length c1, .slice a2 lv.length c2, .slice a3 sf.length c3, .int .i64 r] 26)) #[.int .i64 4, .string nm, .string ot, .string da, .int .i64 kp] 28).alloc (.cells #[.slice none 0 0, .slice none 0 0, .slice none 0 0, .int .i64 0] 26)
    simpa using this
  have Z0 : Box W0 (w.heap.size + 1 + 1) [.slice none 0 0, .slice none 0 0, .slice none 0 0, .int .i64 0] := by
    rw [hW0]
    have := Box.new ((w.alloc (.cells #[.slice a1 bl.length c1, .slice a2 lv.length c2, .slice a3 sf.length c3, .int .i64 r] 26)).alloc (.cells #[.int .i64 4, .string nm, .string ot, .string da, .int .i64 kp] 28)) #[.slice none 0 0, .slice none 0 0, .slice none 0 0, .int .i64 0] 26
    simpa using this
  have hzW : W0.heap.size = w.heap.size + 3 := by rw [hW0]; simp
  have hm0 := map_below hm hB0
  have O1 := owns_below o1 hB0
  have O3 := owns_below o3 hB0
  have HG : Hid (goodD bl lv sf r = true) := hg
  have HR : Hid (Ris lv) := hr
  have hz3 : w.heap.size + 2 < W0.heap.size := by omega
  clear o1 o2 o3 G1 G3 G4 hg hr
  obtain ⟨_, x0, x1, x2, x3⟩ := X0.c4
  obtain ⟨_, y0, y1, y2, y3, y4⟩ := Y0.c5
  have fX := X0.2.2
  have HAT : Hid (∀ c : Int, (mapD lv).atKey (keyL nm) (.lit (.int .i64 0)) = .lit (.int .i64 c) → c = (cb : Int)) := by
    intro c h; rw [mapD_at nm lv _ hlk] at h; injection h with h; injection h with _ h; exact h.symm
  go_enter Try.func55, Try.ntmps55
  go_wp2_with (first | (at_lookup; refine wpList_lookup_own_int _ rfl _ _ 94 rfl 9 3 .i64 law9 Try.underlying94 Try.underlying3 (zero3 _) b lv.length _ rfl (((hm.alloc _).alloc _).alloc _) _ _ rfl hkey ?_; intro c hat hwc; have hce := HAT.out c hat; subst hce; rw [← hW0]; clear hW0) | (at_delete; refine wpList_delete_own _ rfl _ _ 94 9 rfl 3 law9 Try.underlying94 _ b lv.length _ rfl hm0 _ _ rfl hkey ?_; intro w5 hm5 ht5; have hC5 := chg_grown ht5.grown; have Y5 := hC5.box Y0 (fun e => by have := Option.some.inj e; omega); obtain ⟨_, y0, y1, y2, y3, y4⟩ := Y5.c5) | (at_mapUpdate; refine wpList_mapUpdate_own _ rfl _ _ _ 94 rfl 9 3 law9 Try.underlying94 _ b lv.length _ rfl hm5 (by unfold maxLen; omega) _ _ _ rfl rfl hkey2 _ [] (plainElem_int Try.underlying3 (WalkArith.wf_i64 (by omega))) ?_; intro w1 hm1 hg1))
  have hC1 := hC5.trans (chg_grown hg1)
  have X1 := hC1.box X0 (fun e => by have := Option.some.inj e; omega)
  have Z1 := hC1.box Z0 (fun e => by have := Option.some.inj e; omega)
  have Q1 := hC1.owns O1 (fun g hg h => n1 (by rw [hg, Option.some.inj h]))
  have Q3 := hC1.owns O3 (fun g hg h => n3 (by rw [hg, Option.some.inj h]))
  have hB1 : Below base w w1 := (hB0.mono hbase).trans (hC1.below (by omega) (fun k h => by have := Option.some.inj h; omega))
  clear hC5 Y5 ht5 hm5
  clear hm hm0 hg1 hC1 X0 Y0 Z0 O1 O3 x0 x1 x2 x3 y0 y1 y2 y3 y4 hat
  refine (rising_any b (lv.length + 1) _ (putL (woutL lv nm) ot cb) w1 hm1 (mean_put (mean_del (mean_mapD lv) HR.out nm) (ris_wout HR.out nm) ot cb) (ris_put (ris_wout HR.out nm) ot cb) (by omega)).mono ?_
  rintro e w3 ⟨v4, rfl, ov, hb3⟩
  obtain ⟨a4, c4, rfl⟩ := owns_shape ov
  have g4 := owns_ge ov
  have X3 := X1.below hb3
  have Z3 := Z1.below hb3
  have L1 := owns_blk Q1
  have L3 := owns_blk Q3
  have P1 := owns_below Q1 hb3
  have P3 := owns_below Q3 hb3
  have zz := hB1.size
  have zw := (Z1).1
  have hB3 : Below base w w3 := hB1.trans (hb3.mono (by omega))
  obtain ⟨hzx, x0, x1, x2, x3⟩ := X3.c4
  obtain ⟨hzz, z0, z1, z2, z3⟩ := Z3.c4
  have f1 := X3.2.2 1
  have e0 := Z3.2.2 0
  have e1 := Z3.2.2 1
  have e2 := Z3.2.2 2
  have e3 := Z3.2.2 3
  have hE := end_made r hB3 hbase Z3 P1 (owns_wk ov (by omega)) P3 (fun g hg => .inl (b1 g hg)) (fun g hg => by have := g4 g hg; omega) (fun g hg => .inl (b3 g hg)) (fun k h h' => by have := L1 k h; have := g4 k h'; omega) d13 (fun k h h' => by have := L3 k h'; have := g4 k h; omega)
  clear P1 P3 ov
  go_wp2
  change bodyPost _ _ _ _ _ (endW w w3 (.slice a1 bl.length c1) (.slice a4 (putL (woutL lv nm) ot cb).length c4) (.slice a3 sf.length c3) r)
  obtain ⟨hMd, hBw, hBx⟩ := hE
  generalize endW w w3 (.slice a1 bl.length c1) (.slice a4 (putL (woutL lv nm) ot cb).length c4) (.slice a3 sf.length c3) r = W at *
  obtain ⟨_, t0, t1, t2, t3⟩ := hBx.c4
  exact bodyPost_ret (v := .agg #[.slice a1 bl.length c1, .slice a4 (putL (woutL lv nm) ot cb).length c4, .slice a3 sf.length c3, .int .i64 r]) (by simp [results, Try.results55, go_sem, t0, t1, t2, t3]) rfl ⟨⟨_, _, _, rfl, hMd⟩, hBw⟩

set_option maxHeartbeats 2000000 in
theorem change_5 (u1 u2 u3 : Value) (bl lv sf : List (ByteArray × Int)) (r : Int) (b base : Nat) (nm ot da : ByteArray) (kp : Int) (w : World) (hM : Made base w u1 u2 u3 bl lv sf) (hbase : base ≤ w.heap.size) (hbb : base ≤ b)
    (hg : goodD bl lv sf r = true) (hm : w.ownsMap Try.prog 9 (plainElem Try.prog 3) b lv.length (mapD lv)) (hnm : nm.size ≤ 1048576) (hot : ot.size ≤ 1048576) (hda : da.size ≤ 1048576) (cb : Nat) (hlk : lkp nm none lv = some (cb : Int)) (hcb : cb < bl.length) :
    Calls Try.prog 55 #[.agg #[u1, u2, u3, .int .i64 r], .map (some b), .agg #[.int .i64 5, .string nm, .string ot, .string da, .int .i64 kp]] w fun e w' => (∃ x1 x2 x3, e = .returned (.agg #[x1, x2, x3, .int .i64 r]) ∧ Made base w' x1 x2 x3 bl (putL lv ot cb) sf) ∧ Below base w w' := by
  obtain ⟨i0, hi, hz0, hzs, hzb⟩ := info_parts Try.info43
  obtain ⟨G1, G2, G3, G4, G5, G6⟩ := (goodD_iff _ _ _ _).1 hg
  have hr := ris_of_ok G3
  have hl20 := ((okNs_iff _ _).1 G3).2.2
  have hs20 := ((okNs_iff _ _).1 G4).2.2
  obtain ⟨o1, o2, o3, d12, d13, d23⟩ := hM
  have b1 := owns_blk o1
  have b3 := owns_blk o3
  have n1 := map_ne_row hm o1
  have n3 := map_ne_row hm o3
  have hmlt := hm.lt
  obtain ⟨a1, c1, rfl⟩ := owns_shape o1
  obtain ⟨a2, c2, rfl⟩ := owns_shape o2
  obtain ⟨a3, c3, rfl⟩ := owns_shape o3
  have hkey := key9 nm hnm
  have hkey2 := key9 ot hot
  obtain ⟨W0, hW0⟩ : ∃ W0, W0 = ((w.alloc (.cells #[.slice a1 bl.length c1, .slice a2 lv.length c2, .slice a3 sf.length c3, .int .i64 r] 26)).alloc (.cells #[.int .i64 5, .string nm, .string ot, .string da, .int .i64 kp] 28)).alloc (.cells #[.slice none 0 0, .slice none 0 0, .slice none 0 0, .int .i64 0] 26) := ⟨_, rfl⟩
  have hB0 : Below w.heap.size w W0 := by rw [hW0]; exact below3 _ _ _ _
  have X0 : Box W0 w.heap.size [.slice a1 bl.length c1, .slice a2 lv.length c2, .slice a3 sf.length c3, .int .i64 r] := by rw [hW0]; exact ((Box.new w _ _).alloc _).alloc _
  have Y0 : Box W0 (w.heap.size + 1) [.int .i64 5, .string nm, .string ot, .string da, .int .i64 kp] := by
    rw [hW0]
    have := (Box.new (w.alloc (.cells #[.slice a1 bl.length c1, .slice a2 lv.length c2, .slice a3 sf.length c3, .int .i64 r] 26)) #[.int .i64 5, .string nm, .string ot, .string da, .int .i64 kp] 28).alloc (.cells #[.slice none 0 0, .slice none 0 0, .slice none 0 0, .int .i64 0] 26)
    simpa using this
  have Z0 : Box W0 (w.heap.size + 1 + 1) [.slice none 0 0, .slice none 0 0, .slice none 0 0, .int .i64 0] := by
    rw [hW0]
    have := Box.new ((w.alloc (.cells #[.slice a1 bl.length c1, .slice a2 lv.length c2, .slice a3 sf.length c3, .int .i64 r] 26)).alloc (.cells #[.int .i64 5, .string nm, .string ot, .string da, .int .i64 kp] 28)) #[.slice none 0 0, .slice none 0 0, .slice none 0 0, .int .i64 0] 26
    simpa using this
  have hzW : W0.heap.size = w.heap.size + 3 := by rw [hW0]; simp
  have hm0 := map_below hm hB0
  have O1 := owns_below o1 hB0
  have O3 := owns_below o3 hB0
  have HG : Hid (goodD bl lv sf r = true) := hg
  have HR : Hid (Ris lv) := hr
  have hz3 : w.heap.size + 2 < W0.heap.size := by omega
  clear o1 o2 o3 G1 G3 G4 hg hr
  obtain ⟨_, x0, x1, x2, x3⟩ := X0.c4
  obtain ⟨_, y0, y1, y2, y3, y4⟩ := Y0.c5
  have fX := X0.2.2
  have HAT : Hid (∀ c : Int, (mapD lv).atKey (keyL nm) (.lit (.int .i64 0)) = .lit (.int .i64 c) → c = (cb : Int)) := by
    intro c h; rw [mapD_at nm lv _ hlk] at h; injection h with h; injection h with _ h; exact h.symm
  go_enter Try.func55, Try.ntmps55
  go_wp2_with (first | (at_lookup; refine wpList_lookup_own_int _ rfl _ _ 94 rfl 9 3 .i64 law9 Try.underlying94 Try.underlying3 (zero3 _) b lv.length _ rfl (((hm.alloc _).alloc _).alloc _) _ _ rfl hkey ?_; intro c hat hwc; have hce := HAT.out c hat; subst hce; rw [← hW0]; clear hW0) | (at_mapUpdate; refine wpList_mapUpdate_own _ rfl _ _ _ 94 rfl 9 3 law9 Try.underlying94 _ b lv.length _ rfl hm0 (by unfold maxLen; omega) _ _ _ rfl rfl hkey2 _ [] (plainElem_int Try.underlying3 (WalkArith.wf_i64 (by omega))) ?_; intro w1 hm1 hg1))
  have hC1 := chg_grown hg1
  have X1 := hC1.box X0 (fun e => by have := Option.some.inj e; omega)
  have Z1 := hC1.box Z0 (fun e => by have := Option.some.inj e; omega)
  have Q1 := hC1.owns O1 (fun g hg h => n1 (by rw [hg, Option.some.inj h]))
  have Q3 := hC1.owns O3 (fun g hg h => n3 (by rw [hg, Option.some.inj h]))
  have hB1 : Below base w w1 := (hB0.mono hbase).trans (hC1.below (by omega) (fun k h => by have := Option.some.inj h; omega))
  clear hm hm0 hg1 hC1 X0 Y0 Z0 O1 O3 x0 x1 x2 x3 y0 y1 y2 y3 y4 hat
  refine (rising_any b (lv.length + 1) _ (putL lv ot cb) w1 hm1 (mean_put (mean_mapD lv) HR.out ot cb) (ris_put HR.out ot cb) (by omega)).mono ?_
  rintro e w3 ⟨v4, rfl, ov, hb3⟩
  obtain ⟨a4, c4, rfl⟩ := owns_shape ov
  have g4 := owns_ge ov
  have X3 := X1.below hb3
  have Z3 := Z1.below hb3
  have L1 := owns_blk Q1
  have L3 := owns_blk Q3
  have P1 := owns_below Q1 hb3
  have P3 := owns_below Q3 hb3
  have zz := hB1.size
  have zw := (Z1).1
  have hB3 : Below base w w3 := hB1.trans (hb3.mono (by omega))
  obtain ⟨hzx, x0, x1, x2, x3⟩ := X3.c4
  obtain ⟨hzz, z0, z1, z2, z3⟩ := Z3.c4
  have f1 := X3.2.2 1
  have e0 := Z3.2.2 0
  have e1 := Z3.2.2 1
  have e2 := Z3.2.2 2
  have e3 := Z3.2.2 3
  have hE := end_made r hB3 hbase Z3 P1 (owns_wk ov (by omega)) P3 (fun g hg => .inl (b1 g hg)) (fun g hg => by have := g4 g hg; omega) (fun g hg => .inl (b3 g hg)) (fun k h h' => by have := L1 k h; have := g4 k h'; omega) d13 (fun k h h' => by have := L3 k h'; have := g4 k h; omega)
  clear P1 P3 ov
  go_wp2
  change bodyPost _ _ _ _ _ (endW w w3 (.slice a1 bl.length c1) (.slice a4 (putL lv ot cb).length c4) (.slice a3 sf.length c3) r)
  obtain ⟨hMd, hBw, hBx⟩ := hE
  generalize endW w w3 (.slice a1 bl.length c1) (.slice a4 (putL lv ot cb).length c4) (.slice a3 sf.length c3) r = W at *
  obtain ⟨_, t0, t1, t2, t3⟩ := hBx.c4
  exact bodyPost_ret (v := .agg #[.slice a1 bl.length c1, .slice a4 (putL lv ot cb).length c4, .slice a3 sf.length c3, .int .i64 r]) (by simp [results, Try.results55, go_sem, t0, t1, t2, t3]) rfl ⟨⟨_, _, _, rfl, hMd⟩, hBw⟩

set_option maxHeartbeats 2000000 in
theorem change_6 (u1 u2 u3 : Value) (bl lv sf : List (ByteArray × Int)) (r : Int) (b base : Nat) (nm ot da : ByteArray) (kp : Int) (w : World) (hM : Made base w u1 u2 u3 bl lv sf) (hbase : base ≤ w.heap.size) (hbb : base ≤ b)
    (hg : goodD bl lv sf r = true) (hm : w.ownsMap Try.prog 9 (plainElem Try.prog 3) b lv.length (mapD lv)) (hnm : nm.size ≤ 1048576) (hot : ot.size ≤ 1048576) (hda : da.size ≤ 1048576) :
    Calls Try.prog 55 #[.agg #[u1, u2, u3, .int .i64 r], .map (some b), .agg #[.int .i64 6, .string nm, .string ot, .string da, .int .i64 kp]] w fun e w' => (∃ x1 x2 x3, e = .returned (.agg #[x1, x2, x3, .int .i64 r]) ∧ Made base w' x1 x2 x3 bl (woutL lv nm) sf) ∧ Below base w w' := by
  obtain ⟨i0, hi, hz0, hzs, hzb⟩ := info_parts Try.info43
  obtain ⟨G1, G2, G3, G4, G5, G6⟩ := (goodD_iff _ _ _ _).1 hg
  have hr := ris_of_ok G3
  have hl20 := ((okNs_iff _ _).1 G3).2.2
  have hs20 := ((okNs_iff _ _).1 G4).2.2
  obtain ⟨o1, o2, o3, d12, d13, d23⟩ := hM
  have b1 := owns_blk o1
  have b3 := owns_blk o3
  have n1 := map_ne_row hm o1
  have n3 := map_ne_row hm o3
  have hmlt := hm.lt
  obtain ⟨a1, c1, rfl⟩ := owns_shape o1
  obtain ⟨a2, c2, rfl⟩ := owns_shape o2
  obtain ⟨a3, c3, rfl⟩ := owns_shape o3
  have hkey := key9 nm hnm
  have hkey2 := key9 ot hot
  obtain ⟨W0, hW0⟩ : ∃ W0, W0 = ((w.alloc (.cells #[.slice a1 bl.length c1, .slice a2 lv.length c2, .slice a3 sf.length c3, .int .i64 r] 26)).alloc (.cells #[.int .i64 6, .string nm, .string ot, .string da, .int .i64 kp] 28)).alloc (.cells #[.slice none 0 0, .slice none 0 0, .slice none 0 0, .int .i64 0] 26) := ⟨_, rfl⟩
  have hB0 : Below w.heap.size w W0 := by rw [hW0]; exact below3 _ _ _ _
  have X0 : Box W0 w.heap.size [.slice a1 bl.length c1, .slice a2 lv.length c2, .slice a3 sf.length c3, .int .i64 r] := by rw [hW0]; exact ((Box.new w _ _).alloc _).alloc _
  have Y0 : Box W0 (w.heap.size + 1) [.int .i64 6, .string nm, .string ot, .string da, .int .i64 kp] := by
    rw [hW0]
    have := (Box.new (w.alloc (.cells #[.slice a1 bl.length c1, .slice a2 lv.length c2, .slice a3 sf.length c3, .int .i64 r] 26)) #[.int .i64 6, .string nm, .string ot, .string da, .int .i64 kp] 28).alloc (.cells #[.slice none 0 0, .slice none 0 0, .slice none 0 0, .int .i64 0] 26)
    simpa using this
  have Z0 : Box W0 (w.heap.size + 1 + 1) [.slice none 0 0, .slice none 0 0, .slice none 0 0, .int .i64 0] := by
    rw [hW0]
    have := Box.new ((w.alloc (.cells #[.slice a1 bl.length c1, .slice a2 lv.length c2, .slice a3 sf.length c3, .int .i64 r] 26)).alloc (.cells #[.int .i64 6, .string nm, .string ot, .string da, .int .i64 kp] 28)) #[.slice none 0 0, .slice none 0 0, .slice none 0 0, .int .i64 0] 26
    simpa using this
  have hzW : W0.heap.size = w.heap.size + 3 := by rw [hW0]; simp
  have hm0 := map_below hm hB0
  have O1 := owns_below o1 hB0
  have O3 := owns_below o3 hB0
  have HG : Hid (goodD bl lv sf r = true) := hg
  have HR : Hid (Ris lv) := hr
  have hz3 : w.heap.size + 2 < W0.heap.size := by omega
  clear o1 o2 o3 G1 G3 G4 hg hr
  obtain ⟨_, x0, x1, x2, x3⟩ := X0.c4
  obtain ⟨_, y0, y1, y2, y3, y4⟩ := Y0.c5
  have fX := X0.2.2

  go_enter Try.func55, Try.ntmps55
  go_wp2_with (first | (at_lookup; refine wpList_lookup_own_int _ rfl _ _ 94 rfl 9 3 .i64 law9 Try.underlying94 Try.underlying3 (zero3 _) b lv.length _ rfl (((hm.alloc _).alloc _).alloc _) _ _ rfl hkey ?_; intro c hat hwc; rw [← hW0]; clear hW0) | (at_delete; refine wpList_delete_own _ rfl _ _ 94 9 rfl 3 law9 Try.underlying94 _ b lv.length _ rfl hm0 _ _ rfl hkey ?_; intro w1 hm1 ht1))
  have hC1 := chg_grown ht1.grown
  have X1 := hC1.box X0 (fun e => by have := Option.some.inj e; omega)
  have Z1 := hC1.box Z0 (fun e => by have := Option.some.inj e; omega)
  have Q1 := hC1.owns O1 (fun g hg h => n1 (by rw [hg, Option.some.inj h]))
  have Q3 := hC1.owns O3 (fun g hg h => n3 (by rw [hg, Option.some.inj h]))
  have hB1 : Below base w w1 := (hB0.mono hbase).trans (hC1.below (by omega) (fun k h => by have := Option.some.inj h; omega))
  clear hm hm0 ht1 hC1 X0 Y0 Z0 O1 O3 x0 x1 x2 x3 y0 y1 y2 y3 y4 hat
  refine (rising_any b lv.length _ (woutL lv nm) w1 hm1 (mean_del (mean_mapD lv) HR.out nm) (ris_wout HR.out nm) (by omega)).mono ?_
  rintro e w3 ⟨v4, rfl, ov, hb3⟩
  obtain ⟨a4, c4, rfl⟩ := owns_shape ov
  have g4 := owns_ge ov
  have X3 := X1.below hb3
  have Z3 := Z1.below hb3
  have L1 := owns_blk Q1
  have L3 := owns_blk Q3
  have P1 := owns_below Q1 hb3
  have P3 := owns_below Q3 hb3
  have zz := hB1.size
  have zw := (Z1).1
  have hB3 : Below base w w3 := hB1.trans (hb3.mono (by omega))
  obtain ⟨hzx, x0, x1, x2, x3⟩ := X3.c4
  obtain ⟨hzz, z0, z1, z2, z3⟩ := Z3.c4
  have f1 := X3.2.2 1
  have e0 := Z3.2.2 0
  have e1 := Z3.2.2 1
  have e2 := Z3.2.2 2
  have e3 := Z3.2.2 3
  have hE := end_made r hB3 hbase Z3 P1 (owns_wk ov (by omega)) P3 (fun g hg => .inl (b1 g hg)) (fun g hg => by have := g4 g hg; omega) (fun g hg => .inl (b3 g hg)) (fun k h h' => by have := L1 k h; have := g4 k h'; omega) d13 (fun k h h' => by have := L3 k h'; have := g4 k h; omega)
  clear P1 P3 ov
  go_wp2
  change bodyPost _ _ _ _ _ (endW w w3 (.slice a1 bl.length c1) (.slice a4 (woutL lv nm).length c4) (.slice a3 sf.length c3) r)
  obtain ⟨hMd, hBw, hBx⟩ := hE
  generalize endW w w3 (.slice a1 bl.length c1) (.slice a4 (woutL lv nm).length c4) (.slice a3 sf.length c3) r = W at *
  obtain ⟨_, t0, t1, t2, t3⟩ := hBx.c4
  exact bodyPost_ret (v := .agg #[.slice a1 bl.length c1, .slice a4 (woutL lv nm).length c4, .slice a3 sf.length c3, .int .i64 r]) (by simp [results, Try.results55, go_sem, t0, t1, t2, t3]) rfl ⟨⟨_, _, _, rfl, hMd⟩, hBw⟩

set_option maxHeartbeats 2000000 in
theorem change_7 (u1 u2 u3 : Value) (bl lv sf : List (ByteArray × Int)) (r : Int) (b base : Nat) (nm ot da : ByteArray) (kp : Int) (w : World) (hM : Made base w u1 u2 u3 bl lv sf) (hbase : base ≤ w.heap.size) (hbb : base ≤ b)
    (hg : goodD bl lv sf r = true) (hm : w.ownsMap Try.prog 9 (plainElem Try.prog 3) b lv.length (mapD lv)) (hnm : nm.size ≤ 1048576) (hot : ot.size ≤ 1048576) (hda : da.size ≤ 1048576) :
    Calls Try.prog 55 #[.agg #[u1, u2, u3, .int .i64 r], .map (some b), .agg #[.int .i64 7, .string nm, .string ot, .string da, .int .i64 kp]] w fun e w' => (∃ x1 x2 x3, e = .returned (.agg #[x1, x2, x3, .int .i64 r]) ∧ Made base w' x1 x2 x3 bl lv lv) ∧ Below base w w' := by
  obtain ⟨i0, hi, hz0, hzs, hzb⟩ := info_parts Try.info43
  obtain ⟨G1, G2, G3, G4, G5, G6⟩ := (goodD_iff _ _ _ _).1 hg
  have hr := ris_of_ok G3
  have hl20 := ((okNs_iff _ _).1 G3).2.2
  have hs20 := ((okNs_iff _ _).1 G4).2.2
  obtain ⟨o1, o2, o3, d12, d13, d23⟩ := hM
  have b1 := owns_blk o1
  have b3 := owns_blk o3
  have n1 := map_ne_row hm o1
  have n3 := map_ne_row hm o3
  have hmlt := hm.lt
  obtain ⟨a1, c1, rfl⟩ := owns_shape o1
  obtain ⟨a2, c2, rfl⟩ := owns_shape o2
  obtain ⟨a3, c3, rfl⟩ := owns_shape o3
  have hkey := key9 nm hnm
  have hkey2 := key9 ot hot
  obtain ⟨W0, hW0⟩ : ∃ W0, W0 = ((w.alloc (.cells #[.slice a1 bl.length c1, .slice a2 lv.length c2, .slice a3 sf.length c3, .int .i64 r] 26)).alloc (.cells #[.int .i64 7, .string nm, .string ot, .string da, .int .i64 kp] 28)).alloc (.cells #[.slice none 0 0, .slice none 0 0, .slice none 0 0, .int .i64 0] 26) := ⟨_, rfl⟩
  have hB0 : Below w.heap.size w W0 := by rw [hW0]; exact below3 _ _ _ _
  have X0 : Box W0 w.heap.size [.slice a1 bl.length c1, .slice a2 lv.length c2, .slice a3 sf.length c3, .int .i64 r] := by rw [hW0]; exact ((Box.new w _ _).alloc _).alloc _
  have Y0 : Box W0 (w.heap.size + 1) [.int .i64 7, .string nm, .string ot, .string da, .int .i64 kp] := by
    rw [hW0]
    have := (Box.new (w.alloc (.cells #[.slice a1 bl.length c1, .slice a2 lv.length c2, .slice a3 sf.length c3, .int .i64 r] 26)) #[.int .i64 7, .string nm, .string ot, .string da, .int .i64 kp] 28).alloc (.cells #[.slice none 0 0, .slice none 0 0, .slice none 0 0, .int .i64 0] 26)
    simpa using this
  have Z0 : Box W0 (w.heap.size + 1 + 1) [.slice none 0 0, .slice none 0 0, .slice none 0 0, .int .i64 0] := by
    rw [hW0]
    have := Box.new ((w.alloc (.cells #[.slice a1 bl.length c1, .slice a2 lv.length c2, .slice a3 sf.length c3, .int .i64 r] 26)).alloc (.cells #[.int .i64 7, .string nm, .string ot, .string da, .int .i64 kp] 28)) #[.slice none 0 0, .slice none 0 0, .slice none 0 0, .int .i64 0] 26
    simpa using this
  have hzW : W0.heap.size = w.heap.size + 3 := by rw [hW0]; simp
  have hm0 := map_below hm hB0
  have O1 := owns_below o1 hB0
  have O3 := owns_below o3 hB0
  have HG : Hid (goodD bl lv sf r = true) := hg
  have HR : Hid (Ris lv) := hr
  have hz3 : w.heap.size + 2 < W0.heap.size := by omega
  clear o1 o2 o3 G1 G3 G4 hg hr
  obtain ⟨_, x0, x1, x2, x3⟩ := X0.c4
  obtain ⟨_, y0, y1, y2, y3, y4⟩ := Y0.c5
  have fX := X0.2.2

  go_enter Try.func55, Try.ntmps55
  go_wp2_with (at_lookup; refine wpList_lookup_own_int _ rfl _ _ 94 rfl 9 3 .i64 law9 Try.underlying94 Try.underlying3 (zero3 _) b lv.length _ rfl (((hm.alloc _).alloc _).alloc _) _ _ rfl hkey ?_; intro c hat hwc; rw [← hW0]; clear hW0)
  refine (rising_any b lv.length _ lv W0 hm0 (mean_mapD lv) HR.out (by omega)).mono ?_
  rintro e w5 ⟨v5, rfl, ov5, hb5⟩
  obtain ⟨a5, c5, rfl⟩ := owns_shape ov5
  have g5 := owns_ge ov5
  have X5 := X0.below hb5
  have Z5 := Z0.below hb5
  have Q5 := owns_below O1 hb5
  have hm5 := map_below hm0 hb5
  have f2 := X5.2.2 2
  have z5 := hb5.size
  have hB5 : Below base w w5 := (hB0.mono hbase).trans (hb5.mono (by omega))
  clear hm hm0 hb5 X0 Y0 Z0 O1 O3 x0 x1 x2 x3 y0 y1 y2 y3 y4 hat fX
  obtain ⟨_, x0, x1, x2, x3⟩ := X5.c4
  go_wp2_with fail
  have X1 := X5.set 2 (.slice a5 lv.length c5) (by simp)
  have hC1 : Chg (· = w.heap.size) w5 (w5.setCell ⟨w.heap.size, 2, none⟩ (.slice a5 lv.length c5)) := (Chg.refl (· = w.heap.size) w5).setCell (p := ⟨w.heap.size, 2, none⟩) rfl _
  have Z1 := hC1.box Z5 (by omega)
  have Q1 := hC1.owns Q5 (fun g hg h => by have := b1 g hg; omega)
  have Q3 := hC1.owns ov5 (fun g hg h => by have := g5 g hg; omega)
  have hB1 := hB5.trans (hC1.below (by omega) (fun k h => by omega))
  have hm1 := map_chg hC1 hm5 (by omega)
  have Q3' := owns_wk (base' := base) Q3 (by omega)
  clear hC1 X5 Z5 Q5 ov5 hB5 hm5 Q3 x0 x1 x2 x3 f2
  generalize w5.setCell ⟨w.heap.size, 2, none⟩ (.slice a5 lv.length c5) = w1 at *
  refine (rising_any b lv.length _ (lv) w1 hm1 (mean_mapD lv) HR.out (by omega)).mono ?_
  rintro e w3 ⟨v4, rfl, ov, hb3⟩
  obtain ⟨a4, c4, rfl⟩ := owns_shape ov
  have g4 := owns_ge ov
  have X3 := X1.below hb3
  have Z3 := Z1.below hb3
  have L1 := owns_blk Q1
  have L3 := owns_blk Q3'
  have P1 := owns_below Q1 hb3
  have P3 := owns_below Q3' hb3
  have zz := hB1.size
  have zw := (Z1).1
  have hB3 : Below base w w3 := hB1.trans (hb3.mono (by omega))
  obtain ⟨hzx, x0, x1, x2, x3⟩ := X3.c4
  obtain ⟨hzz, z0, z1, z2, z3⟩ := Z3.c4
  have f1 := X3.2.2 1
  have e0 := Z3.2.2 0
  have e1 := Z3.2.2 1
  have e2 := Z3.2.2 2
  have e3 := Z3.2.2 3
  have hE := end_made r hB3 hbase Z3 P1 (owns_wk ov (by omega)) P3 (fun g hg => .inl (b1 g hg)) (fun g hg => by have := g4 g hg; omega) (fun g hg => by have := g5 g hg; omega) (fun k h h' => by have := L1 k h; have := g4 k h'; omega) (fun k h h' => by have := b1 k h; have := g5 k h'; omega) (fun k h h' => by have := L3 k h'; have := g4 k h; omega)
  clear P1 P3 ov
  go_wp2
  change bodyPost _ _ _ _ _ (endW w w3 (.slice a1 bl.length c1) (.slice a4 lv.length c4) (.slice a5 lv.length c5) r)
  obtain ⟨hMd, hBw, hBx⟩ := hE
  generalize endW w w3 (.slice a1 bl.length c1) (.slice a4 lv.length c4) (.slice a5 lv.length c5) r = W at *
  obtain ⟨_, t0, t1, t2, t3⟩ := hBx.c4
  exact bodyPost_ret (v := .agg #[.slice a1 bl.length c1, .slice a4 lv.length c4, .slice a5 lv.length c5, .int .i64 r]) (by simp [results, Try.results55, go_sem, t0, t1, t2, t3]) rfl ⟨⟨_, _, _, rfl, hMd⟩, hBw⟩

set_option maxHeartbeats 2000000 in
theorem change_8 (u1 u2 u3 : Value) (bl lv sf : List (ByteArray × Int)) (r : Int) (b base : Nat) (nm ot da : ByteArray) (kp : Int) (w : World) (hM : Made base w u1 u2 u3 bl lv sf) (hbase : base ≤ w.heap.size) (hbb : base ≤ b)
    (hg : goodD bl lv sf r = true) (hm : w.ownsMap Try.prog 9 (plainElem Try.prog 3) b lv.length (mapD lv)) (hnm : nm.size ≤ 1048576) (hot : ot.size ≤ 1048576) (hda : da.size ≤ 1048576) (kn : Nat) (hkp : kp = kn) (hkn : kn ≤ 4000) :
    Calls Try.prog 55 #[.agg #[u1, u2, u3, .int .i64 r], .map (some b), .agg #[.int .i64 8, .string nm, .string ot, .string da, .int .i64 kp]] w fun e w' => (∃ x1 x2 x3, e = .returned (.agg #[x1, x2, x3, .int .i64 r]) ∧ Made base w' x1 x2 x3 (bl.map (crB kn)) sf sf) ∧ Below base w w' := by
  obtain ⟨i0, hi, hz0, hzs, hzb⟩ := info_parts Try.info43
  obtain ⟨G1, G2, G3, G4, G5, G6⟩ := (goodD_iff _ _ _ _).1 hg
  have hr := ris_of_ok G3
  have hl20 := ((okNs_iff _ _).1 G3).2.2
  have hs20 := ((okNs_iff _ _).1 G4).2.2
  obtain ⟨o1, o2, o3, d12, d13, d23⟩ := hM
  have b1 := owns_blk o1
  have b3 := owns_blk o3
  have n1 := map_ne_row hm o1
  have n3 := map_ne_row hm o3
  have hmlt := hm.lt
  obtain ⟨a1, c1, rfl⟩ := owns_shape o1
  obtain ⟨a2, c2, rfl⟩ := owns_shape o2
  obtain ⟨a3, c3, rfl⟩ := owns_shape o3
  have hkey := key9 nm hnm
  have hkey2 := key9 ot hot
  obtain ⟨W0, hW0⟩ : ∃ W0, W0 = ((w.alloc (.cells #[.slice a1 bl.length c1, .slice a2 lv.length c2, .slice a3 sf.length c3, .int .i64 r] 26)).alloc (.cells #[.int .i64 8, .string nm, .string ot, .string da, .int .i64 kp] 28)).alloc (.cells #[.slice none 0 0, .slice none 0 0, .slice none 0 0, .int .i64 0] 26) := ⟨_, rfl⟩
  have hB0 : Below w.heap.size w W0 := by rw [hW0]; exact below3 _ _ _ _
  have X0 : Box W0 w.heap.size [.slice a1 bl.length c1, .slice a2 lv.length c2, .slice a3 sf.length c3, .int .i64 r] := by rw [hW0]; exact ((Box.new w _ _).alloc _).alloc _
  have Y0 : Box W0 (w.heap.size + 1) [.int .i64 8, .string nm, .string ot, .string da, .int .i64 kp] := by
    rw [hW0]
    have := (Box.new (w.alloc (.cells #[.slice a1 bl.length c1, .slice a2 lv.length c2, .slice a3 sf.length c3, .int .i64 r] 26)) #[.int .i64 8, .string nm, .string ot, .string da, .int .i64 kp] 28).alloc (.cells #[.slice none 0 0, .slice none 0 0, .slice none 0 0, .int .i64 0] 26)
    simpa using this
  have Z0 : Box W0 (w.heap.size + 1 + 1) [.slice none 0 0, .slice none 0 0, .slice none 0 0, .int .i64 0] := by
    rw [hW0]
    have := Box.new ((w.alloc (.cells #[.slice a1 bl.length c1, .slice a2 lv.length c2, .slice a3 sf.length c3, .int .i64 r] 26)).alloc (.cells #[.int .i64 8, .string nm, .string ot, .string da, .int .i64 kp] 28)) #[.slice none 0 0, .slice none 0 0, .slice none 0 0, .int .i64 0] 26
    simpa using this
  have hzW : W0.heap.size = w.heap.size + 3 := by rw [hW0]; simp
  have hm0 := map_below hm hB0
  have O1 := owns_below o1 hB0
  have O3 := owns_below o3 hB0
  have HG : Hid (goodD bl lv sf r = true) := hg
  have HR : Hid (Ris lv) := hr
  have hz3 : w.heap.size + 2 < W0.heap.size := by omega
  clear o1 o2 o3 G1 G3 G4 hg hr
  obtain ⟨_, x0, x1, x2, x3⟩ := X0.c4
  obtain ⟨_, y0, y1, y2, y3, y4⟩ := Y0.c5
  have fX := X0.2.2
  subst hkp
  have HBS : Hid (okBs bl = true) := ((goodD_iff _ _ _ _).1 HG.out).1
  have HRS : Hid (Ris sf) := ris_of_ok ((goodD_iff _ _ _ _).1 HG.out).2.2.2.1
  have HSZ : Hid (∀ i (h : i < sf.length), sf[i].1.size ≤ 1048576) := fun i h => by
    have := (((okNs_iff _ _).1 ((goodD_iff _ _ _ _).1 HG.out).2.2.2.1).2.1 sf[i] (List.getElem_mem _)).1
    simp only [okN, Bool.and_eq_true, decide_eq_true_eq] at this; omega
  have HRG : Hid (∀ i (h : i < sf.length), 0 ≤ sf[i].2 ∧ sf[i].2 ≤ 1048576) := fun i h => by
    have := (((okNs_iff _ _).1 ((goodD_iff _ _ _ _).1 HG.out).2.2.2.1).2.1 sf[i] (List.getElem_mem _)).2; omega
  go_enter Try.func55, Try.ntmps55
  go_wp2_with (at_lookup; refine wpList_lookup_own_int _ rfl _ _ 94 rfl 9 3 .i64 law9 Try.underlying94 Try.underlying3 (zero3 _) b lv.length _ rfl (((hm.alloc _).alloc _).alloc _) _ _ rfl hkey ?_; intro c hat hwc; rw [← hW0]; clear hW0)
  refine (meaningOf_any _ sf W0 (PL_of_owns O3) (by omega) HSZ.out HRG.out).mono ?_
  rintro e w5 ⟨rfl, hm5, hb5⟩
  have X5 := X0.below hb5
  have Y5 := Y0.below hb5
  have Z5 := Z0.below hb5
  have Q5 := owns_below O1 hb5
  have R5 := owns_below O3 hb5
  have z5 := hb5.size
  have hB5 : Below base w w5 := (hB0.mono hbase).trans (hb5.mono (by omega))
  clear hm hm0 hb5 X0 Y0 Z0 O1 O3 x0 x1 x2 x3 y0 y1 y2 y3 y4 hat fX
  obtain ⟨_, x0, x1, x2, x3⟩ := X5.c4
  obtain ⟨_, y0, y1, y2, y3, y4⟩ := Y5.c5
  go_wp2_with fail
  refine (crashedFiles_any _ bl kn w5 (PL_of_owns Q5) (by omega)).mono ?_
  rintro e w6 ⟨v6, rfl, ov6, hb6⟩
  have X6 := X5.below hb6
  have Z6 := Z5.below hb6
  have R6 := owns_below R5 hb6
  have hm6 := map_below hm5 hb6
  have z6 := hb6.size
  have hB6 : Below base w w6 := hB5.trans (hb6.mono (by omega))
  clear hm5 hb6 X5 Y5 Z5 Q5 R5 hB5 x0 x1 x2 x3 y0 y1 y2 y3 y4
  go_wp2_with fail
  refine (blobsOf_any _ bl _ kn w6 ov6 (by omega) (by omega) HBS.out).mono ?_
  rintro e w7 ⟨v7, rfl, ov7, hb7⟩
  obtain ⟨a7, c7, rfl⟩ := owns_shape ov7
  have g7 := owns_ge ov7
  have X7 := X6.below hb7
  have Z7 := Z6.below hb7
  have R7 := owns_below R6 hb7
  have hm7 := map_below hm6 hb7
  have z7 := hb7.size
  have hB7 : Below base w w7 := hB6.trans (hb7.mono (by omega))
  have f0 := X7.2.2 0
  clear hm6 hb7 X6 Z6 R6 hB6 ov6
  obtain ⟨_, x0, x1, x2, x3⟩ := X7.c4
  go_wp2_with fail
  have X1 := X7.set 0 (.slice a7 bl.length c7) (by simp)
  have hC1 : Chg (· = w.heap.size) w7 (w7.setCell ⟨w.heap.size, 0, none⟩ (.slice a7 bl.length c7)) := (Chg.refl (· = w.heap.size) w7).setCell (p := ⟨w.heap.size, 0, none⟩) rfl _
  have Z1 := hC1.box Z7 (by omega)
  have Q0 := hC1.owns ov7 (fun g hg h => by have := g7 g hg; omega)
  have Q3 := hC1.owns R7 (fun g hg h => by have := b3 g hg; omega)
  have hB1 := hB7.trans (hC1.below (by omega) (fun k h => by omega))
  have hm1 := map_chg hC1 hm7 (by omega)
  have Q1 : (w7.setCell ⟨w.heap.size, 0, none⟩ (.slice a7 bl.length c7)).ownsRow base 43 2 (.slice a7 bl.length c7) (bl.map (crB kn)).length (flat (bl.map (crB kn))) := by rw [List.length_map]; exact owns_wk Q0 (by omega)
  clear hC1 X7 Z7 R7 ov7 hB7 hm7 Q0 x0 x1 x2 x3 f0
  generalize w7.setCell ⟨w.heap.size, 0, none⟩ (.slice a7 bl.length c7) = w1 at *
  rw [hzW] at hm1
  refine (rising_any (w.heap.size + 3) sf.length _ (sf) w1 hm1 (mean_mapD sf) HRS.out (by omega)).mono ?_
  rintro e w3 ⟨v4, rfl, ov, hb3⟩
  obtain ⟨a4, c4, rfl⟩ := owns_shape ov
  have g4 := owns_ge ov
  have X3 := X1.below hb3
  have Z3 := Z1.below hb3
  have L1 := owns_blk Q1
  have L3 := owns_blk Q3
  have P1 := owns_below Q1 hb3
  have P3 := owns_below Q3 hb3
  have zz := hB1.size
  have zw := (Z1).1
  have hB3 : Below base w w3 := hB1.trans (hb3.mono (by omega))
  obtain ⟨hzx, x0, x1, x2, x3⟩ := X3.c4
  obtain ⟨hzz, z0, z1, z2, z3⟩ := Z3.c4
  have f1 := X3.2.2 1
  have e0 := Z3.2.2 0
  have e1 := Z3.2.2 1
  have e2 := Z3.2.2 2
  have e3 := Z3.2.2 3
  have hE := end_made r hB3 hbase Z3 P1 (owns_wk ov (by omega)) P3 (fun g hg => by have := g7 g hg; omega) (fun g hg => by have := g4 g hg; omega) (fun g hg => .inl (b3 g hg)) (fun k h h' => by have := L1 k h; have := g4 k h'; omega) (fun k h h' => by have := g7 k h; have := b3 k h'; omega) (fun k h h' => by have := L3 k h'; have := g4 k h; omega)
  clear P1 P3 ov
  go_wp2
  change bodyPost _ _ _ _ _ (endW w w3 (.slice a7 bl.length c7) (.slice a4 sf.length c4) (.slice a3 sf.length c3) r)
  obtain ⟨hMd, hBw, hBx⟩ := hE
  generalize endW w w3 (.slice a7 bl.length c7) (.slice a4 sf.length c4) (.slice a3 sf.length c3) r = W at *
  obtain ⟨_, t0, t1, t2, t3⟩ := hBx.c4
  exact bodyPost_ret (v := .agg #[.slice a7 bl.length c7, .slice a4 sf.length c4, .slice a3 sf.length c3, .int .i64 r]) (by simp [results, Try.results55, go_sem, t0, t1, t2, t3]) rfl ⟨⟨_, _, _, rfl, hMd⟩, hBw⟩
end Go.Proofs.Ytbgemebpfcbloaa
