/-
  States: szKvState, toKvState, eqKvState.
-/
import Derived.Test.YthlllegedfjhlaaRS
import Derived.Maps.AppendAt
namespace Go.Proofs.Ythlllegedfjhlaa
open Go.RowKit
set_option linter.unusedVariables false
set_option maxRecDepth 100000

theorem owns_shape {w : World} {base : Nat} {e : TypeId} {size : Nat} {v : Value} {n : Nat} {xs : List Value} (h : w.ownsRow base e size v n xs) : ∃ x y, v = .slice x n y := by
  rcases h.2 with ⟨rfl, h0⟩ | ⟨g, cap, cur, rfl, _⟩
  · exact ⟨_, _, by rw [h0]⟩
  · exact ⟨_, _, rfl⟩
theorem owns_mono' {w : World} {base base' : Nat} {e : TypeId} {size : Nat} {v : Value} {n : Nat} {xs : List Value} (h : w.ownsRow base e size v n xs) (hb : base' ≤ base) : w.ownsRow base' e size v n xs := by
  refine ⟨h.1, ?_⟩
  rcases h.2 with h0 | ⟨g, cap, cur, hv, hbg, r⟩
  · exact .inl h0
  · exact .inr ⟨g, cap, cur, hv, Nat.le_trans hb hbg, r⟩
/-- A state of one's own, made since base. -/
structure OS (w : World) (base : Nat) (a c : Value) (W : List Pr) (G : List Ss) : Prop where
  a : w.ownsRow base 49 2 a W.length (flP W)
  c : w.ownsRow base 38 4 c G.length (flS G)
theorem OS.below {w w' : World} {base : Nat} {a c : Value} {W : List Pr} {G : List Ss} (h : OS w base a c W G) (hb : Below w.heap.size w w') : OS w' base a c W G := ⟨owns_below h.a hb, owns_below h.c hb⟩
theorem OS.mono {w : World} {base base' : Nat} {a c : Value} {W : List Pr} {G : List Ss} (h : OS w base a c W G) (hb : base' ≤ base) : OS w base' a c W G := ⟨owns_mono' h.a hb, owns_mono' h.c hb⟩
theorem OS.nil (w : World) (base : Nat) : OS w base (.slice none 0 0) (.slice none 0 0) [] [] := ⟨World.ownsRow_nil _ _ _ _, World.ownsRow_nil _ _ _ _⟩
theorem OS.shapes {w : World} {base : Nat} {a c : Value} {W : List Pr} {G : List Ss} (h : OS w base a c W G) : (∃ x y, a = .slice x W.length y) ∧ ∃ x y, c = .slice x G.length y := ⟨owns_shape h.a, owns_shape h.c⟩
/-- The state in memory. -/
def KR (w : World) (a c : Value) (W : List Pr) (G : List Ss) : Prop := PR w a W ∧ SR w c G
theorem KR.below {w w' : World} {a c : Value} {W : List Pr} {G : List Ss} (h : KR w a c W G) (hb : Below w.heap.size w w') : KR w' a c W G := ⟨h.1.below hb, h.2.below hb⟩
theorem OS.kr {w : World} {base : Nat} {a c : Value} {W : List Pr} {G : List Ss} (h : OS w base a c W G) : KR w a c W G := ⟨PR_of_owns h.a rfl, SR_of_owns h.c rfl⟩

set_option maxHeartbeats 4000000 in
theorem szKvState_any (a c : Value) (W : List Pr) (G : List Ss) (left : Int) (w : World) (h : KR w a c W G) (h0 : 0 ≤ left) (h1 : left ≤ 1048576) (hn : W.length ≤ maxLen) (hm : G.length ≤ maxLen) (hp : ∀ i (h : i < W.length), W[i].k.size ≤ maxLen ∧ W[i].v.size ≤ maxLen) (hs : ∀ i (h : i < G.length), G[i].v.size ≤ maxLen) :
    Calls Try.prog 6 #[.agg #[a, c], .int .i64 left] w fun e w' => (∃ r : Int, e = .returned (.int .i64 r) ∧ (r = -1 ∨ (0 ≤ r ∧ (totP W : Int) + W.length + (totS G : Int) + G.length + r = left))) ∧ Below w.heap.size w w' := by
  have KW := fun W' (hb : Below w.heap.size w W') => szPairS_any a W left W' (h.1.below hb) h0 h1 hn hp
  have KG := fun W' (hb : Below w.heap.size w W') l h0 h1 => szSessionS_any c G l W' (h.2.below hb) h0 h1 hm hs
  obtain ⟨⟨x, y, rfl, _⟩, p, q, rfl, _⟩ := h
  clear hs hp hn hm
  have X0 := Box.new w #[.slice x W.length y, .slice p G.length q] 25
  have B0 := below_alloc w (.cells #[.slice x W.length y, .slice p G.length q] 25)
  go_enter Try.func6, Try.ntmps6
  go_wp2_with fail
  refine (KW _ B0).mono ?_
  rintro e w1 ⟨⟨r, rfl, hr⟩, hb1⟩
  replace X0 := X0.below hb1
  replace B0 := below_then B0 hb1
  clear hb1 KW
  obtain ⟨hx, x0, x1⟩ := X0.c2
  rcases hr with rfl | ⟨hr0, hr1⟩
  · clear X0
    go_wp2
    go_ret
    exact ⟨⟨-1, rfl, .inl rfl⟩, B0⟩
  · have K2 := KG _ B0 r hr0 (by omega)
    clear KG X0
    go_wp2_with fail
    refine K2.mono ?_
    rintro e w2 ⟨⟨q, rfl, hq⟩, hb2⟩
    have B2 := below_then B0 hb2
    clear K2 hb2 hx x0 x1
    rcases hq with rfl | ⟨hq0, hq1⟩
    · go_wp2
      go_ret
      exact ⟨⟨-1, rfl, .inl rfl⟩, B2⟩
    · go_wp2
      go_ret
      exact ⟨⟨q, rfl, .inr (by omega)⟩, B2⟩

set_option maxHeartbeats 4000000 in
theorem eqKvState_same (a c a' c' : Value) (W : List Pr) (G : List Ss) (w : World) (h : KR w a c W G) (h' : KR w a' c' W G) (hn : W.length ≤ 1048576) (hm : G.length ≤ 1048576) :
    Calls Try.prog 10 #[.agg #[a, c], .agg #[a', c']] w fun e w' => e = .returned (.bool true) ∧ Below w.heap.size w w' := by
  have KW := fun W' (hb : Below w.heap.size w W') => eqPairS_same a a' W W' (h.1.below hb) (h'.1.below hb) hn
  have KG := fun W' (hb : Below w.heap.size w W') => eqSessionS_same c c' G W' (h.2.below hb) (h'.2.below hb) hm
  obtain ⟨⟨x, y, rfl, _⟩, p, q, rfl, _⟩ := h
  obtain ⟨⟨x', y', rfl, _⟩, p', q', rfl, _⟩ := h'
  have X0 := (Box.new w #[.slice x W.length y, .slice p G.length q] 31).alloc (.cells #[.slice x' W.length y', .slice p' G.length q'] 31)
  have Y0 := Box.new (w.alloc (.cells #[.slice x W.length y, .slice p G.length q] 31)) #[.slice x' W.length y', .slice p' G.length q'] 31
  have B0 := below2 w (.cells #[.slice x W.length y, .slice p G.length q] 31) (.cells #[.slice x' W.length y', .slice p' G.length q'] 31)
  simp only [World.size_alloc] at Y0
  go_enter Try.func10, Try.ntmps10
  go_wp2_with fail
  refine (KW _ B0).mono ?_
  rintro e w1 ⟨rfl, hb1⟩
  replace X0 := X0.below hb1
  replace Y0 := Y0.below hb1
  replace B0 := below_then B0 hb1
  clear hb1 KW
  obtain ⟨hx, x0, x1⟩ := X0.c2
  obtain ⟨hy, y0, y1⟩ := Y0.c2
  clear X0 Y0
  go_wp2_with fail
  refine (KG _ B0).mono ?_
  rintro e w2 ⟨rfl, hb2⟩
  have B2 := below_then B0 hb2
  clear KG hb2 hx x0 x1 hy y0 y1 B0
  go_wp2
  go_ret
  exact ⟨rfl, B2⟩

set_option maxHeartbeats 4000000 in
theorem toKvState_any (a c : Value) (W : List Pr) (G : List Ss) (w : World) (h : KR w a c W G) (hn : W.length ≤ 1048576) (hm : G.length ≤ 1048576) :
    Calls Try.prog 8 #[.agg #[a, c]] w fun e w' => ∃ a' c', e = .returned (.agg #[a', c']) ∧ OS w' w.heap.size a' c' W G ∧ Below w.heap.size w w' := by
  have KW := fun W' (hb : Below w.heap.size w W') => toPairS_any a W W' (h.1.below hb) hn
  have KG := fun W' (hb : Below w.heap.size w W') => toSessionS_any c G W' (h.2.below hb) hm
  obtain ⟨⟨x, y, rfl, _⟩, p, q, rfl, _⟩ := h
  have X0 := ((Box.new w #[.slice x W.length y, .slice p G.length q] 25).alloc (.cells #[.slice none 0 0, .slice none 0 0] 31)).alloc (.cells #[.slice none 0 0, .slice none 0 0] 31)
  have Y0 := (Box.new (w.alloc (.cells #[.slice x W.length y, .slice p G.length q] 25)) #[.slice none 0 0, .slice none 0 0] 31).alloc (.cells #[.slice none 0 0, .slice none 0 0] 31)
  have Z0 := Box.new ((w.alloc (.cells #[.slice x W.length y, .slice p G.length q] 25)).alloc (.cells #[.slice none 0 0, .slice none 0 0] 31)) #[.slice none 0 0, .slice none 0 0] 31
  have B0 := below3 w (.cells #[.slice x W.length y, .slice p G.length q] 25) (.cells #[.slice none 0 0, .slice none 0 0] 31) (.cells #[.slice none 0 0, .slice none 0 0] 31)
  simp only [World.size_alloc] at Y0 Z0
  go_enter Try.func8, Try.ntmps8
  go_wp2_with fail
  refine (KW _ B0).mono ?_
  rintro e w1 ⟨rfl, O1, hb1⟩
  replace X0 := X0.below hb1
  replace Y0 := Y0.below hb1
  replace Z0 := Z0.below hb1
  replace B0 := below_then B0 hb1
  have hz1 := hb1.size
  simp only [World.size_alloc] at O1 hz1 ⊢
  clear hb1 KW
  obtain ⟨hx, x0, x1⟩ := X0.c2
  obtain ⟨hzl, z0, z1⟩ := Z0.c2
  have zf0 := Z0.2.2 0
  have X1 := X0.setOther ⟨w.heap.size + 1 + 1, 0, none⟩ (.slice (some ⟨w.heap.size + 1 + 1 + 1, 0, none⟩) W.length W.length) (by simp; omega)
  have Y1 := Y0.setOther ⟨w.heap.size + 1 + 1, 0, none⟩ (.slice (some ⟨w.heap.size + 1 + 1 + 1, 0, none⟩) W.length W.length) (by simp)
  have Z1 := Z0.set 0 (.slice (some ⟨w.heap.size + 1 + 1 + 1, 0, none⟩) W.length W.length) (by simp)
  have B1 := B0.setCell (p := ⟨w.heap.size + 1 + 1, 0, none⟩) (by simp; omega) (.slice (some ⟨w.heap.size + 1 + 1 + 1, 0, none⟩) W.length W.length)
  have O2 := ownsRow_setCell_below O1 (a := ⟨w.heap.size + 1 + 1, 0, none⟩) (by simp) (.slice (some ⟨w.heap.size + 1 + 1 + 1, 0, none⟩) W.length W.length)
  clear O1 B0 Z0 Y0 X0
  go_wp2_with fail
  refine (KG _ B1).mono ?_
  rintro e w2 ⟨rfl, O3, hb2⟩
  replace X1 := X1.below hb2
  replace Y1 := Y1.below hb2
  replace Z1 := Z1.below hb2
  replace B1 := below_then B1 hb2
  replace O2 := owns_below O2 hb2
  have hz2 := hb2.size
  simp only [World.size_setCell] at O3 hz2 ⊢
  clear hb2 KG hx x0 x1 hzl z0 z1 zf0
  obtain ⟨hy, y0, y1⟩ := Y1.c2
  obtain ⟨hzl, z0, z1⟩ := Z1.c2
  have zf1 := Z1.2.2 1
  have yf0 := Y1.2.2 0
  have yf1 := Y1.2.2 1
  have O4 := ownsRow_setCell_below (ownsRow_setCell_below (ownsRow_setCell_below O2 (a := ⟨w.heap.size + 1 + 1, 1, none⟩) (by simp <;> omega) (.slice (some ⟨w1.heap.size, 0, none⟩) G.length G.length)) (a := ⟨w.heap.size + 1, 0, none⟩) (by simp <;> omega) (.slice (some ⟨w.heap.size + 1 + 1 + 1, 0, none⟩) W.length W.length)) (a := ⟨w.heap.size + 1, 1, none⟩) (by simp <;> omega) (.slice (some ⟨w1.heap.size, 0, none⟩) G.length G.length)
  have O5 := ownsRow_setCell_below (ownsRow_setCell_below (ownsRow_setCell_below O3 (a := ⟨w.heap.size + 1 + 1, 1, none⟩) (by simp <;> omega) (.slice (some ⟨w1.heap.size, 0, none⟩) G.length G.length)) (a := ⟨w.heap.size + 1, 0, none⟩) (by simp <;> omega) (.slice (some ⟨w.heap.size + 1 + 1 + 1, 0, none⟩) W.length W.length)) (a := ⟨w.heap.size + 1, 1, none⟩) (by simp <;> omega) (.slice (some ⟨w1.heap.size, 0, none⟩) G.length G.length)
  have B5 := ((B1.setCell (p := ⟨w.heap.size + 1 + 1, 1, none⟩) (by simp <;> omega) (.slice (some ⟨w1.heap.size, 0, none⟩) G.length G.length)).setCell (p := ⟨w.heap.size + 1, 0, none⟩) (by simp <;> omega) (.slice (some ⟨w.heap.size + 1 + 1 + 1, 0, none⟩) W.length W.length)).setCell (p := ⟨w.heap.size + 1, 1, none⟩) (by simp <;> omega) (.slice (some ⟨w1.heap.size, 0, none⟩) G.length G.length)
  have HO4 : Hid _ := O4
  have HO5 : Hid _ := O5
  clear X1 Y1 Z1 O2 O3 O4 O5 B1
  go_wp2
  exact bodyPost_ret (v := .agg #[.slice (some ⟨w.heap.size + 1 + 1 + 1, 0, none⟩) W.length W.length, .slice (some ⟨w1.heap.size, 0, none⟩) G.length G.length]) (by simp [results, Try.results8, go_sem, y0, y1]) rfl ⟨_, _, rfl, ⟨owns_mono' HO4.out (by omega), owns_mono' HO5.out (by omega)⟩, B5⟩

end Go.Proofs.Ythlllegedfjhlaa
