/-
  Takings: szTaking, toTaking, eqTaking, markTaking, heldTaking.
-/
import Derived.Test.YtocaigffikdlhaaWQ
import Derived.Test.YtocaigffikdlhaaG1ToD5
namespace Go.Proofs.Ytocaigffikdlhaa
open Go.RowKit Go.Maps
set_option linter.unusedVariables false
set_option maxRecDepth 100000

/-- A taking of one's own, made since base. -/
structure OT (w : World) (base : Nat) (a c : Value) (W : List Wt) (G : List Ck) : Prop where
  a : w.ownsRow base 54 2 a W.length (flat2 W)
  c : w.ownsRow base 37 4 c G.length (flat4 G)
theorem OT.below {w w' : World} {base : Nat} {a c : Value} {W : List Wt} {G : List Ck} (h : OT w base a c W G) (hb : Below w.heap.size w w') : OT w' base a c W G := ⟨owns_below h.a hb, owns_below h.c hb⟩
theorem OT.mono {w : World} {base base' : Nat} {a c : Value} {W : List Wt} {G : List Ck} (h : OT w base a c W G) (hb : base' ≤ base) : OT w base' a c W G := ⟨owns_mono' h.a hb, owns_mono' h.c hb⟩
theorem OT.chg {S : Nat → Prop} {w w' : World} {base : Nat} {a c : Value} {W : List Wt} {G : List Ck} (h : OT w base a c W G) (hc : Chg S w w') (hs : ∀ g, a.ownBlock = some g ∨ c.ownBlock = some g → ¬ S g) : OT w' base a c W G :=
  ⟨hc.owns h.a fun g hg => hs g (.inl hg), hc.owns h.c fun g hg => hs g (.inr hg)⟩
theorem OT.nil (w : World) (base : Nat) : OT w base (.slice none 0 0) (.slice none 0 0) [] [] := ⟨World.ownsRow_nil _ _ _ _, World.ownsRow_nil _ _ _ _⟩
theorem OT.shapes {w : World} {base : Nat} {a c : Value} {W : List Wt} {G : List Ck} (h : OT w base a c W G) : (∃ x y, a = .slice x W.length y) ∧ ∃ x y, c = .slice x G.length y := ⟨owns_shape h.a, owns_shape h.c⟩
theorem OT.lt {w : World} {base : Nat} {a c : Value} {W : List Wt} {G : List Ck} (h : OT w base a c W G) : ∀ g, a.ownBlock = some g ∨ c.ownBlock = some g → g < w.heap.size := fun g hg => hg.elim (owns_below_lt h.a g) (owns_below_lt h.c g)
theorem OT.ge {w : World} {base : Nat} {a c : Value} {W : List Wt} {G : List Ck} (h : OT w base a c W G) : ∀ g, a.ownBlock = some g ∨ c.ownBlock = some g → base ≤ g := fun g hg => hg.elim (owns_ge h.a g) (owns_ge h.c g)
/-- The taking in memory. -/
def TR (w : World) (a c : Value) (W : List Wt) (G : List Ck) : Prop := WR w a W ∧ IR w c G
theorem TR.below {w w' : World} {a c : Value} {W : List Wt} {G : List Ck} (h : TR w a c W G) (hb : Below w.heap.size w w') : TR w' a c W G := ⟨h.1.below hb, h.2.below hb⟩
theorem OT.tr {w : World} {base : Nat} {a c : Value} {W : List Wt} {G : List Ck} (h : OT w base a c W G) : TR w a c W G := ⟨WR_of_owns h.a rfl, IR_of_owns h.c rfl⟩

set_option maxHeartbeats 4000000 in
theorem szTaking_any (a c : Value) (W : List Wt) (G : List Ck) (left : Int) (w : World) (h : TR w a c W G) (h0 : 0 ≤ left) (h1 : left ≤ 1048576) (hn : W.length ≤ maxLen) (hm : G.length ≤ maxLen) (hs : ∀ i (h : i < G.length), G[i].k.size ≤ maxLen) :
    Calls Try.prog 51 #[.agg #[a, c], .int .i64 left] w fun e w' => (∃ r : Int, e = .returned (.int .i64 r) ∧ (r = -1 ∨ (0 ≤ r ∧ (W.length : Int) + (tot4 G : Int) + G.length + r = left))) ∧ Below w.heap.size w w' := by
  have KW := fun W' (hb : Below w.heap.size w W') => szWantedS_any a W left W' (h.1.below hb) h0 h1 hn
  have KG := fun W' (hb : Below w.heap.size w W') l h0 h1 => szChunkS_any c G l W' (h.2.below hb) h0 h1 hm hs
  obtain ⟨⟨x, y, rfl, _⟩, p, q, rfl, _⟩ := h
  clear hs hn hm
  have X0 := Box.new w #[.slice x W.length y, .slice p G.length q] 73
  have B0 := below_alloc w (.cells #[.slice x W.length y, .slice p G.length q] 73)
  go_enter Try.func51, Try.ntmps51
  go_wp2_with fail
  refine (KW _ B0).mono ?_
  rintro e w1 ⟨⟨r, rfl, hr⟩, hw1⟩
  rw [← hw1] at X0 B0
  clear hw1 KW
  obtain ⟨hx, x0, x1⟩ := X0.c2
  rcases hr with rfl | ⟨hr0, hr1⟩
  · clear X0
    go_wp2
    go_ret
    exact ⟨⟨-1, rfl, .inl rfl⟩, B0⟩
  · have K2 := KG _ B0 r hr0 (by omega)
    clear KG X0
    go_wp2_with fail
    refine K2.mono ?_
    rintro e w2 ⟨⟨q, rfl, hq⟩, hb2⟩
    have B2 := below_then B0 hb2
    clear K2 hb2 hx x0 x1
    rcases hq with rfl | ⟨hq0, hq1⟩
    · go_wp2
      go_ret
      exact ⟨⟨-1, rfl, .inl rfl⟩, B2⟩
    · go_wp2
      go_ret
      exact ⟨⟨q, rfl, .inr (by omega)⟩, B2⟩

set_option maxHeartbeats 4000000 in
theorem eqTaking_same (a c a' c' : Value) (W : List Wt) (G : List Ck) (w : World) (h : TR w a c W G) (h' : TR w a' c' W G) (hn : W.length ≤ 1048576) (hm : G.length ≤ 1048576) :
    Calls Try.prog 48 #[.agg #[a, c], .agg #[a', c']] w fun e w' => e = .returned (.bool true) ∧ Below w.heap.size w w' := by
  have KW := fun W' (hb : Below w.heap.size w W') => eqWantedS_same a a' W W' (h.1.below hb) (h'.1.below hb) hn
  have KG := fun W' (hb : Below w.heap.size w W') => eqChunkS_same c c' G W' (h.2.below hb) (h'.2.below hb) hm
  obtain ⟨⟨x, y, rfl, _⟩, p, q, rfl, _⟩ := h
  obtain ⟨⟨x', y', rfl, _⟩, p', q', rfl, _⟩ := h'
  have X0 := (Box.new w #[.slice x W.length y, .slice p G.length q] 41).alloc (.cells #[.slice x' W.length y', .slice p' G.length q'] 41)
  have Y0 := Box.new (w.alloc (.cells #[.slice x W.length y, .slice p G.length q] 41)) #[.slice x' W.length y', .slice p' G.length q'] 41
  have B0 := below2 w (.cells #[.slice x W.length y, .slice p G.length q] 41) (.cells #[.slice x' W.length y', .slice p' G.length q'] 41)
  simp only [World.size_alloc] at Y0
  go_enter Try.func48, Try.ntmps48
  go_wp2_with fail
  refine (KW _ B0).mono ?_
  rintro e w1 ⟨rfl, hb1⟩
  replace X0 := X0.below hb1
  replace Y0 := Y0.below hb1
  replace B0 := below_then B0 hb1
  clear hb1 KW
  obtain ⟨hx, x0, x1⟩ := X0.c2
  obtain ⟨hy, y0, y1⟩ := Y0.c2
  clear X0 Y0
  go_wp2_with fail
  refine (KG _ B0).mono ?_
  rintro e w2 ⟨rfl, hb2⟩
  have B2 := below_then B0 hb2
  clear KG hb2 hx x0 x1 hy y0 y1 B0
  go_wp2
  go_ret
  exact ⟨rfl, B2⟩

set_option maxHeartbeats 4000000 in
theorem toTaking_any (a c : Value) (W : List Wt) (G : List Ck) (w : World) (h : TR w a c W G) (hn : W.length ≤ 1048576) (hm : G.length ≤ 1048576) :
    Calls Try.prog 53 #[.agg #[a, c]] w fun e w' => ∃ a' c', e = .returned (.agg #[a', c']) ∧ OT w' w.heap.size a' c' W G ∧ Below w.heap.size w w' := by
  have KW := fun W' (hb : Below w.heap.size w W') => toWantedS_any a W W' (h.1.below hb) hn
  have KG := fun W' (hb : Below w.heap.size w W') => toChunkS_any c G W' (h.2.below hb) hm
  obtain ⟨⟨x, y, rfl, _⟩, p, q, rfl, _⟩ := h
  have X0 := ((Box.new w #[.slice x W.length y, .slice p G.length q] 73).alloc (.cells #[.slice none 0 0, .slice none 0 0] 41)).alloc (.cells #[.slice none 0 0, .slice none 0 0] 41)
  have Y0 := (Box.new (w.alloc (.cells #[.slice x W.length y, .slice p G.length q] 73)) #[.slice none 0 0, .slice none 0 0] 41).alloc (.cells #[.slice none 0 0, .slice none 0 0] 41)
  have Z0 := Box.new ((w.alloc (.cells #[.slice x W.length y, .slice p G.length q] 73)).alloc (.cells #[.slice none 0 0, .slice none 0 0] 41)) #[.slice none 0 0, .slice none 0 0] 41
  have B0 := below3 w (.cells #[.slice x W.length y, .slice p G.length q] 73) (.cells #[.slice none 0 0, .slice none 0 0] 41) (.cells #[.slice none 0 0, .slice none 0 0] 41)
  simp only [World.size_alloc] at Y0 Z0
  go_enter Try.func53, Try.ntmps53
  go_wp2_with fail
  refine (KW _ B0).mono ?_
  rintro e w1 ⟨rfl, O1, hb1⟩
  replace X0 := X0.below hb1
  replace Y0 := Y0.below hb1
  replace Z0 := Z0.below hb1
  replace B0 := below_then B0 hb1
  have hz1 := hb1.size
  simp only [World.size_alloc] at O1 hz1 ⊢
  clear hb1 KW
  obtain ⟨hx, x0, x1⟩ := X0.c2
  obtain ⟨hzl, z0, z1⟩ := Z0.c2
  have zf0 := Z0.2.2 0
  have X1 := X0.setOther ⟨w.heap.size + 1 + 1, 0, none⟩ (.slice (some ⟨w.heap.size + 1 + 1 + 1, 0, none⟩) W.length W.length) (by simp; omega)
  have Y1 := Y0.setOther ⟨w.heap.size + 1 + 1, 0, none⟩ (.slice (some ⟨w.heap.size + 1 + 1 + 1, 0, none⟩) W.length W.length) (by simp)
  have Z1 := Z0.set 0 (.slice (some ⟨w.heap.size + 1 + 1 + 1, 0, none⟩) W.length W.length) (by simp)
  have B1 := B0.setCell (p := ⟨w.heap.size + 1 + 1, 0, none⟩) (by simp; omega) (.slice (some ⟨w.heap.size + 1 + 1 + 1, 0, none⟩) W.length W.length)
  have O2 := ownsRow_setCell_below O1 (a := ⟨w.heap.size + 1 + 1, 0, none⟩) (by simp) (.slice (some ⟨w.heap.size + 1 + 1 + 1, 0, none⟩) W.length W.length)
  clear O1 B0 Z0 Y0 X0
  go_wp2_with fail
  refine (KG _ B1).mono ?_
  rintro e w2 ⟨rfl, O3, hb2⟩
  replace X1 := X1.below hb2
  replace Y1 := Y1.below hb2
  replace Z1 := Z1.below hb2
  replace B1 := below_then B1 hb2
  replace O2 := owns_below O2 hb2
  have hz2 := hb2.size
  simp only [World.size_setCell] at O3 hz2 ⊢
  clear hb2 KG hx x0 x1 hzl z0 z1 zf0
  obtain ⟨hy, y0, y1⟩ := Y1.c2
  obtain ⟨hzl, z0, z1⟩ := Z1.c2
  have zf1 := Z1.2.2 1
  have yf0 := Y1.2.2 0
  have yf1 := Y1.2.2 1
  have O4 := ownsRow_setCell_below (ownsRow_setCell_below (ownsRow_setCell_below O2 (a := ⟨w.heap.size + 1 + 1, 1, none⟩) (by simp <;> omega) (.slice (some ⟨w1.heap.size, 0, none⟩) G.length G.length)) (a := ⟨w.heap.size + 1, 0, none⟩) (by simp <;> omega) (.slice (some ⟨w.heap.size + 1 + 1 + 1, 0, none⟩) W.length W.length)) (a := ⟨w.heap.size + 1, 1, none⟩) (by simp <;> omega) (.slice (some ⟨w1.heap.size, 0, none⟩) G.length G.length)
  have O5 := ownsRow_setCell_below (ownsRow_setCell_below (ownsRow_setCell_below O3 (a := ⟨w.heap.size + 1 + 1, 1, none⟩) (by simp <;> omega) (.slice (some ⟨w1.heap.size, 0, none⟩) G.length G.length)) (a := ⟨w.heap.size + 1, 0, none⟩) (by simp <;> omega) (.slice (some ⟨w.heap.size + 1 + 1 + 1, 0, none⟩) W.length W.length)) (a := ⟨w.heap.size + 1, 1, none⟩) (by simp <;> omega) (.slice (some ⟨w1.heap.size, 0, none⟩) G.length G.length)
  have B5 := ((B1.setCell (p := ⟨w.heap.size + 1 + 1, 1, none⟩) (by simp <;> omega) (.slice (some ⟨w1.heap.size, 0, none⟩) G.length G.length)).setCell (p := ⟨w.heap.size + 1, 0, none⟩) (by simp <;> omega) (.slice (some ⟨w.heap.size + 1 + 1 + 1, 0, none⟩) W.length W.length)).setCell (p := ⟨w.heap.size + 1, 1, none⟩) (by simp <;> omega) (.slice (some ⟨w1.heap.size, 0, none⟩) G.length G.length)
  have HO4 : Hid _ := O4
  have HO5 : Hid _ := O5
  clear X1 Y1 Z1 O2 O3 O4 O5 B1
  go_wp2
  exact bodyPost_ret (v := .agg #[.slice (some ⟨w.heap.size + 1 + 1 + 1, 0, none⟩) W.length W.length, .slice (some ⟨w1.heap.size, 0, none⟩) G.length G.length]) (by simp [results, Try.results53, go_sem, y0, y1]) rfl ⟨_, _, rfl, ⟨owns_mono' HO4.out (by omega), owns_mono' HO5.out (by omega)⟩, B5⟩

set_option maxHeartbeats 4000000 in
theorem markTaking_own (a c : Value) (base : Nat) (W : List Wt) (G : List Ck) (k : Int) (w : World) (h : OT w base a c W G) (hn : W.length ≤ 1048576) (hm : G.length ≤ 1048576) (h1 : 1 ≤ k) (h2 : k ≤ 10000000) :
    Calls Try.prog 49 #[.agg #[a, c], .int .i64 k] w fun e w' => e = .returned (.int .i64 (k + 2 * W.length + 4 * G.length)) ∧ OT w' base a c (mkWs k W.length) (mkIts (k + 2 * W.length) G.length) ∧ Chg (fun b => a.ownBlock = some b ∨ c.ownBlock = some b) w w' := by
  have hne := owns_type_ne h.a h.c (by decide)
  have hlt := h.lt
  have KW := fun W' (hb : Below w.heap.size w W') => markWantedS_own a base W k W' (owns_below h.a hb) hn h1 (by omega)
  have hc0 := h.c
  have KG := fun W' (ho : W'.ownsRow base 37 4 c G.length (flat4 G)) => markChunkS_own c base G (k + 2 * W.length) W' ho hm (by omega) (by omega)
  have HL1 : Hid ((mkWs k W.length).length = W.length) := mkWs_length _ _
  have HL2 : Hid ((mkIts (k + 2 * W.length) G.length).length = G.length) := mkIts_length _ _
  obtain ⟨⟨x, y, rfl⟩, p, q, rfl⟩ := h.shapes
  clear h
  have X0 := Box.new w #[.slice x W.length y, .slice p G.length q] 41
  have B0 := below_alloc w (.cells #[.slice x W.length y, .slice p G.length q] 41)
  go_enter Try.func49, Try.ntmps49
  go_wp2_with fail
  refine (KW _ B0).mono ?_
  rintro e w1 ⟨rfl, O1, hc1⟩
  replace hc0 := hc1.owns (owns_below hc0 B0) (fun b hb hh => hne b hh hb)
  replace X0 := hc1.box X0 (fun hh => by have := hlt _ (.inl hh); omega)
  have C1 : Chg (fun b => (Value.slice x W.length y).ownBlock = some b ∨ (Value.slice p G.length q).ownBlock = some b) w w1 := (Chg.of_below B0).trans (hc1.mono fun b hb => .inl hb)
  clear hc1 KW B0
  obtain ⟨hx, x0, x1⟩ := X0.c2
  go_wp2_with fail
  refine (KG _ hc0).mono ?_
  rintro e w2 ⟨rfl, O2, hc2⟩
  have O1' := hc2.owns O1 (fun b hb hh => hne b hb hh)
  have C2 := C1.trans (hc2.mono fun b hb => .inr hb)
  clear hc2 KG hc0 hx x0 x1 X0 O1 C1
  go_wp2
  go_ret
  exact ⟨rfl, ⟨by rw [HL1.out]; exact O1', by rw [HL2.out]; exact O2⟩, C2⟩

set_option maxHeartbeats 4000000 in
theorem heldTaking_at (a c : Value) (n m : Nat) (k : Int) (w : World) (h : TR w a c (mkWs k n) (mkIts (k + 2 * n) m)) (hn : n ≤ 1048576) (hm : m ≤ 1048576) (h1 : 1 ≤ k) (h2 : k ≤ 10000000) :
    Calls Try.prog 50 #[.agg #[a, c], .int .i64 k] w fun e w' => e = .returned (.int .i64 (k + 2 * n + 4 * m)) ∧ Below w.heap.size w w' := by
  have KW := fun W' (hb : Below w.heap.size w W') => heldWantedS_at a n k W' (h.1.below hb) hn h1 (by omega)
  have KG := fun W' (hb : Below w.heap.size w W') => heldChunkS_at c m (k + 2 * n) W' (h.2.below hb) hm (by omega) (by omega)
  obtain ⟨⟨x, y, rfl, _⟩, p, q, rfl, _⟩ := h
  rw [mkWs_length, mkIts_length] at *
  have X0 := Box.new w #[.slice x n y, .slice p m q] 41
  have B0 := below_alloc w (.cells #[.slice x n y, .slice p m q] 41)
  go_enter Try.func50, Try.ntmps50
  go_wp2_with fail
  refine (KW _ B0).mono ?_
  rintro e w1 ⟨rfl, hb1⟩
  replace X0 := X0.below hb1
  replace B0 := below_then B0 hb1
  clear hb1 KW
  obtain ⟨hx, x0, x1⟩ := X0.c2
  go_wp2_with fail
  refine (KG _ B0).mono ?_
  rintro e w2 ⟨rfl, hb2⟩
  have B2 := below_then B0 hb2
  clear KG hb2 hx x0 x1 X0 B0
  go_wp2
  go_ret
  exact ⟨rfl, B2⟩
end Go.Proofs.Ytocaigffikdlhaa
