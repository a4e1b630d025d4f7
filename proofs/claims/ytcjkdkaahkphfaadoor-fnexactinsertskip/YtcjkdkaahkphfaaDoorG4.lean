/-
  toTowerS, toSkip: new rows all.
-/
import Derived.Test.YtcjkdkaahkphfaaDoorG3
namespace Go.Proofs.YtcjkdkaahkphfaaDoor
open Go.RowKit
set_option linter.unusedVariables false
set_option maxRecDepth 100000

/-- A tower's row, its links in the block g. -/
def rowT (t : Tw) (g : Nat) : Tc := ⟨t.key, t.seq, t.kind, t.val, .slice (some ⟨g, 0, none⟩) t.next.length t.next.length⟩
def partT (ts : List Tw) (gs : List Nat) : List Tc := List.zipWith rowT ts gs ++ List.replicate (ts.length - gs.length) Tc.zero
theorem zip_snoc (ts : List Tw) (gs : List Nat) (g : Nat) (h : gs.length < ts.length) : List.zipWith rowT ts (gs ++ [g]) = List.zipWith rowT ts gs ++ [rowT ts[gs.length] g] := by
  induction gs generalizing ts with
  | nil =>
    cases ts with
    | nil => simp at h
    | cons t r => simp
  | cons a gs ih =>
    cases ts with
    | nil => simp at h
    | cons t r =>
      have := ih r (by simpa using h)
      simp only [List.cons_append, List.zipWith_cons_cons, this, List.length_cons, List.getElem_cons_succ]
theorem partT_length (ts : List Tw) (gs : List Nat) (h : gs.length ≤ ts.length) : (partT ts gs).length = ts.length := by
  simp [partT]; omega
theorem partT_zero (ts : List Tw) : partT ts [] = List.replicate ts.length Tc.zero := by simp [partT]
theorem partT_all (ts : List Tw) (gs : List Nat) (h : gs.length = ts.length) : partT ts gs = List.zipWith rowT ts gs := by simp [partT, h]
theorem partT_set (ts : List Tw) (gs : List Nat) (g : Nat) (h : gs.length < ts.length) : (partT ts gs).set gs.length (rowT ts[gs.length] g) = partT ts (gs ++ [g]) := by
  unfold partT
  rw [zip_snoc ts gs g h]
  have h1 : (List.zipWith rowT ts gs).length = gs.length := by simp; omega
  obtain ⟨m, hm⟩ : ∃ m, ts.length - gs.length = m + 1 := ⟨ts.length - gs.length - 1, by omega⟩
  rw [List.set_append_right _ _ (by omega), h1, Nat.sub_self, hm, List.replicate_succ, List.set_cons_zero, List.length_append, show ts.length - (gs.length + [g].length) = m from by simp; omega, List.append_assoc]
  rfl
theorem zip_at (ts : List Tw) (gs : List Nat) (i : Nat) (h : i < ts.length) (h' : i < gs.length) : (List.zipWith rowT ts gs)[i]? = some (rowT ts[i] gs[i]) := by
  simp [List.getElem?_zipWith, h, h']
/-- The links of the towers ts lie in the blocks gs, one each, all behind base. -/
def Lnk (w : World) (base : Nat) (ts : List Tw) (gs : List Nat) : Prop :=
  gs.length ≤ ts.length ∧ gs.Pairwise (· < ·) ∧ ∀ i (h : i < gs.length) (h' : i < ts.length), base < gs[i] ∧ w.ownsRow gs[i] 3 1 (.slice (some ⟨gs[i], 0, none⟩) ts[i].next.length ts[i].next.length) ts[i].next.length (ts[i].next.map (.int .i64))
theorem Lnk.below {w w' : World} {base : Nat} {ts : List Tw} {gs : List Nat} (h : Lnk w base ts gs) (hb : Below w.heap.size w w') : Lnk w' base ts gs :=
  ⟨h.1, h.2.1, fun i hi hi' => ⟨(h.2.2 i hi hi').1, owns_below (h.2.2 i hi hi').2 hb⟩⟩
theorem Lnk.setCell {w : World} {base : Nat} {ts : List Tw} {gs : List Nat} (h : Lnk w base ts gs) {a : Addr} (ha : a.block ≤ base) (u : Value) : Lnk (w.setCell a u) base ts gs :=
  ⟨h.1, h.2.1, fun i hi hi' => ⟨(h.2.2 i hi hi').1, ownsRow_setCell_below (h.2.2 i hi hi').2 (by have := (h.2.2 i hi hi').1; omega) u⟩⟩
theorem Lnk.lt {w : World} {base : Nat} {ts : List Tw} {gs : List Nat} (h : Lnk w base ts gs) {g : Nat} (hg : g ∈ gs) : g < w.heap.size := by
  obtain ⟨i, hi, rfl⟩ := List.getElem_of_mem hg
  exact (owns_lt (h.2.2 i hi (Nat.lt_of_lt_of_le hi h.1)).2).2
theorem Lnk.snoc {w : World} {base : Nat} {ts : List Tw} {gs : List Nat} {g : Nat} (h : Lnk w base ts gs) (hl : gs.length < ts.length) (hg : base < g) (hall : ∀ x ∈ gs, x < g)
    (ho : w.ownsRow g 3 1 (.slice (some ⟨g, 0, none⟩) ts[gs.length].next.length ts[gs.length].next.length) ts[gs.length].next.length (ts[gs.length].next.map (.int .i64))) : Lnk w base ts (gs ++ [g]) := by
  refine ⟨by simp; omega, List.pairwise_append.2 ⟨h.2.1, by simp, fun a ha b hb => ?_⟩, fun i hi hi' => ?_⟩
  · rw [List.mem_singleton.1 hb]; exact hall a ha
  · by_cases e : i < gs.length
    · rw [List.getElem_append_left e]; exact h.2.2 i e hi'
    · have hi2 : i = gs.length := by simp at hi; omega
      subst hi2
      rw [List.getElem_append_right (by omega)]
      simpa using ⟨hg, ho⟩
theorem Lnk.il {w : World} {base : Nat} {ts : List Tw} {gs : List Nat} (h : Lnk w base ts gs) (i : Nat) (hi : i < gs.length) (hi' : i < ts.length) : IL w (.slice (some ⟨gs[i], 0, none⟩) ts[i].next.length ts[i].next.length) ts[i].next :=
  IL_of_owns (h.2.2 i hi hi').2 rfl
theorem TW_of_rows {w : World} {base base' : Nat} {e : TypeId} {v : Value} {ts : List Tw} {gs : List Nat} (h : w.ownsRow base e 5 v ts.length (flat5 (List.zipWith rowT ts gs))) (hL : Lnk w base' ts gs) (hg : gs.length = ts.length) : TW w v ts := by
  have hl : (List.zipWith rowT ts gs).length = ts.length := by simp; omega
  have F : FL w v (List.zipWith rowT ts gs) := FL_of_owns (e := e) (base := base) (by rw [hl]; exact h)
  obtain ⟨a, cap, hv, hc⟩ := F
  refine ⟨a, cap, by rw [hv, hl], fun hne => ?_⟩
  obtain ⟨b, off, ha, hbl, hcell⟩ := hc (by intro e; rw [e] at hl; simp at hl; exact hne (List.length_eq_zero_iff.1 (by omega)))
  refine ⟨b, off, ha, hbl, fun i hi => ?_⟩
  have hi1 : i < (List.zipWith rowT ts gs).length := by omega
  have hz : (List.zipWith rowT ts gs)[i] = rowT ts[i] gs[i] := by simp
  have := hcell i hi1
  rw [hz] at this
  exact ⟨_, this, hL.il i (by omega) hi⟩

set_option maxHeartbeats 2000000 in
theorem toTowerS_any (v : Value) (ts : List Tw) (w : World) (hv : TW w v ts) (hn : ts.length ≤ 1048576) (hf : ∀ i (h : i < ts.length), ts[i].next.length ≤ 1048576) :
    Calls Tryd.prog 22 #[v] w fun e w' => (∃ gs : List Nat, gs.length = ts.length ∧ e = .returned (.slice (some ⟨w.heap.size, 0, none⟩) ts.length ts.length) ∧ w'.ownsRow w.heap.size 49 5 (.slice (some ⟨w.heap.size, 0, none⟩) ts.length ts.length) ts.length (flat5 (List.zipWith rowT ts gs)) ∧ Lnk w' w.heap.size ts gs) ∧ Below w.heap.size w w' := by
  obtain ⟨a, cap, rfl, hc⟩ := hv
  obtain ⟨i0, hi, hz0, hz1, hz2⟩ := info_parts Tryd.info49
  go_enter Tryd.func22, Tryd.ntmps22
  go_wp2_with (at_make; refine wpList_make_full _ rfl _ _ 30 rfl w.heap.size 49 i0 _ 5 Tryd.underlying30 hi hz0 hz1 .i64 .i64 _ _ ts.length rfl rfl rfl rfl (by rw [hz2]; omega) (by unfold maxLen; omega) (Nat.le_refl _) ?_; intro w0 hown0 hgr0)
  rw [flat5_zeros, ← partT_zero] at hown0
  have hb0 : Below w.heap.size w w0 := (Below.refl _ _).grown hgr0 (Nat.le_refl _) (by simp)
  clear hgr0 hi hz0 hz1 hz2
  go_loopw [4] (fun i wr => ∃ gs : List Nat, Lnk wr w.heap.size ts gs ∧ i = .int .i64 gs.length ∧ wr.ownsRow w.heap.size 49 5 (.slice (some ⟨w.heap.size, 0, none⟩) ts.length ts.length) ts.length (flat5 (partT ts gs)) ∧ Below w.heap.size w wr) (fun i _ => ts.length - (intOf i).toNat)
  case atStart => exact ⟨[], ⟨by simp, by simp, fun i h => by simp at h⟩, rfl, hown0, hb0⟩
  case round =>
    obtain ⟨gs, hL, rfl, hown, hb⟩ := hrel
    clear hown0 hb0
    have hk : gs.length ≤ ts.length := hL.1
    have hlt1 : w.heap.size < wr.heap.size := (owns_lt hown).2
    by_cases hlt : gs.length < ts.length
    · obtain ⟨b, off, rfl, hbl, hcell⟩ := hc (by intro e; simp [e] at hlt)
      obtain ⟨u, ⟨z0, z1, z2, z3, z4⟩, hu⟩ := hcell gs.length hlt
      have hc0 := (hb.cell (p := ⟨b, off + gs.length * 5, none⟩) hbl).trans z0
      have hc1 := (hb.cell (p := ⟨b, off + gs.length * 5 + 1, none⟩) hbl).trans z1
      have hc2 := (hb.cell (p := ⟨b, off + gs.length * 5 + 2, none⟩) hbl).trans z2
      have hc3 := (hb.cell (p := ⟨b, off + gs.length * 5 + 3, none⟩) hbl).trans z3
      have hc4 := (hb.cell (p := ⟨b, off + gs.length * 5 + 4, none⟩) hbl).trans z4
      have hu1 := hu.below hb
      have hfk := hf gs.length hlt
      have HS : Hid (∀ g, (partT ts gs).set gs.length (rowT ts[gs.length] g) = partT ts (gs ++ [g])) := fun g => partT_set ts gs g hlt
      have HN : Hid (∀ (w : World) (g : Nat), Lnk w w.heap.size ts gs → True) := fun _ _ _ => trivial
      have HL : Hid (∀ (W : World) (g : Nat), Lnk W w.heap.size ts gs → w.heap.size < g → (∀ x ∈ gs, x < g) → W.ownsRow g 3 1 (.slice (some ⟨g, 0, none⟩) ts[gs.length].next.length ts[gs.length].next.length) ts[gs.length].next.length (ts[gs.length].next.map (.int .i64)) → Lnk W w.heap.size ts (gs ++ [g])) := fun W g h1 h2 h3 h4 => h1.snoc hlt h2 h3 h4
      clear hcell hc hu z0 z1 z2 z3 z4 HN hf
      have hz := hb.size
      generalize ts[gs.length] = s at *
      obtain ⟨sk, sn, sd, sv, sx⟩ := s
      dsimp only at hc0 hc1 hc2 hc3 hc4 hu1 hfk
      obtain ⟨k, hkk⟩ : ∃ k, k = gs.length := ⟨_, rfl⟩
      rw [← hkk] at hc0 hc1 hc2 hc3 hc4 hk hlt
      have HK : Hid (k = gs.length) := hkk
      rw [← hkk]
      clear hkk
      go_wp2_with fail
      refine (toTower_any sk sn sd sv sx u _ hu1 hfk).mono ?_
      rintro e w1 ⟨⟨g, hg, rfl, hog⟩, hb1⟩
      have hown1 := owns_below hown hb1
      have hL1 := hL.below hb1
      have hall : ∀ x ∈ gs, x < g := fun x hx => Nat.lt_of_lt_of_le (hL.lt hx) hg
      obtain ⟨⟨u0, d0⟩, f0⟩ := owns5_at hown1 k hlt 0 (by omega)
      obtain ⟨⟨u1, d1⟩, f1⟩ := owns5_at hown1 k hlt 1 (by omega)
      obtain ⟨⟨u2, d2⟩, f2⟩ := owns5_at hown1 k hlt 2 (by omega)
      obtain ⟨⟨u3, d3⟩, f3⟩ := owns5_at hown1 k hlt 3 (by omega)
      obtain ⟨⟨u4, d4⟩, f4⟩ := owns5_at hown1 k hlt 4 (by omega)
      rw [Nat.add_zero] at d0 f0
      have hz1 := hb1.size
      have HO : Hid _ := (((((hown1.stored (k * 5) (.string sk)).1.stored (k * 5 + 1) (.int .i64 sn)).1.stored (k * 5 + 2) (.int .i64 sd)).1.stored (k * 5 + 3) (.string sv)).1.stored (k * 5 + 4) (.slice (some ⟨g, 0, none⟩) sx.length sx.length)).1
      have HL2 : Hid _ := HL.out _ g (((((hL1.setCell (a := ⟨w.heap.size, k * 5, none⟩) (Nat.le_refl _) (.string sk)).setCell (a := ⟨w.heap.size, k * 5 + 1, none⟩) (Nat.le_refl _) (.int .i64 sn)).setCell (a := ⟨w.heap.size, k * 5 + 2, none⟩) (Nat.le_refl _) (.int .i64 sd)).setCell (a := ⟨w.heap.size, k * 5 + 3, none⟩) (Nat.le_refl _) (.string sv)).setCell (a := ⟨w.heap.size, k * 5 + 4, none⟩) (Nat.le_refl _) (.slice (some ⟨g, 0, none⟩) sx.length sx.length)) (by omega) hall
        (ownsRow_setCell_below (ownsRow_setCell_below (ownsRow_setCell_below (ownsRow_setCell_below (ownsRow_setCell_below hog (by simp; omega) _) (by simp; omega) _) (by simp; omega) _) (by simp; omega) _) (by simp; omega) _)
      clear hown hown1 hL hL1 hog HL hall
      go_wp2
      go_roundw
      case rel =>
        refine ⟨gs ++ [g], HL2.out, by rw [List.length_append, HK.out]; go_num, ?_, ?_⟩
        · have := HO.out
          have e5 : (((((flat5 (partT ts gs)).set (k * 5) (.string sk)).set (k * 5 + 1) (.int .i64 sn)).set (k * 5 + 2) (.int .i64 sd)).set (k * 5 + 3) (.string sv)).set (k * 5 + 4) (.slice (some ⟨g, 0, none⟩) sx.length sx.length) = flat5 ((partT ts gs).set k (rowT ⟨sk, sn, sd, sv, sx⟩ g)) := flat5_set _ k (rowT ⟨sk, sn, sd, sv, sx⟩ g)
          rw [e5] at this
          have e6 := HS.out g
          rw [← HK.out] at e6
          rw [e6] at this
          exact this
        · exact (((((hb.trans (hb1.mono hz)).setCell (by simp) _).setCell (by simp) _).setCell (by simp) _).setCell (by simp) _).setCell (by simp) _
      case measure => simp [intOf]; have := HK.out; omega
    · go_wp2
      go_ret
      have e : gs.length = ts.length := by omega
      rw [partT_all ts gs e] at hown
      exact ⟨⟨gs, e, rfl, hown, hL⟩, hb⟩

set_option maxHeartbeats 2000000 in
theorem toSkip_any (x y : Value) (hs : List Int) (ts : List Tw) (w : World) (hx : IL w x hs) (hy : TW w y ts) (hn : hs.length ≤ 1048576) (hm : ts.length ≤ 1048576) (hf : ∀ i (h : i < ts.length), ts[i].next.length ≤ 1048576) :
    Calls Tryd.prog 7 #[.agg #[x, y]] w fun e w' => (∃ (g1 g2 : Nat) (gs : List Nat), w.heap.size ≤ g1 ∧ g1 < g2 ∧ gs.length = ts.length ∧ e = .returned (.agg #[.slice (some ⟨g1, 0, none⟩) hs.length hs.length, .slice (some ⟨g2, 0, none⟩) ts.length ts.length]) ∧
      w'.ownsRow g1 3 1 (.slice (some ⟨g1, 0, none⟩) hs.length hs.length) hs.length (hs.map (.int .i64)) ∧ w'.ownsRow g2 49 5 (.slice (some ⟨g2, 0, none⟩) ts.length ts.length) ts.length (flat5 (List.zipWith rowT ts gs)) ∧ Lnk w' g2 ts gs) ∧ Below w.heap.size w w' := by
  go_enter Tryd.func7, Tryd.ntmps7
  go_wp2_with fail
  refine (toIntS_ex x hs _ (hx.below (below3 _ _ _ _)) hn).mono ?_
  rintro e w1 ⟨g1, hg1, rfl, hown1, hb1⟩
  simp only [World.size_alloc] at hg1
  have hB1 := below_then (below3 _ _ _ _) hb1
  have X1 := (((Box.new w #[x, y] 25).alloc (.cells #[.slice none 0 0, .slice none 0 0] 32)).alloc (.cells #[.slice none 0 0, .slice none 0 0] 32)).below hb1
  have Y1 := ((Box.new (w.alloc (.cells #[x, y] 25)) #[.slice none 0 0, .slice none 0 0] 32).alloc (.cells #[.slice none 0 0, .slice none 0 0] 32)).below hb1
  have Z1 := (Box.new ((w.alloc (.cells #[x, y] 25)).alloc (.cells #[.slice none 0 0, .slice none 0 0] 32)) #[.slice none 0 0, .slice none 0 0] 32).below hb1
  simp only [World.size_alloc] at Y1 Z1
  clear hb1
  obtain ⟨_, p0, p1⟩ := X1.c2
  obtain ⟨_, q0, q1⟩ := Z1.c2
  have qf := Z1.2.2
  go_wp2_with fail
  have hS1 : Below w.heap.size w (w1.setCell ⟨w.heap.size + 1 + 1, 0, none⟩ (.slice (some ⟨g1, 0, none⟩) hs.length hs.length)) := hB1.setCell (by simp; omega) _
  refine (toTowerS_any y ts _ (hy.below hS1) hm hf).mono ?_
  rintro e w2 ⟨⟨gs, hgl, rfl, hown2, hL2⟩, hb2⟩
  have hB2 := below_then hS1 hb2
  have Y2 := (Y1.setOther ⟨w.heap.size + 1 + 1, 0, none⟩ (.slice (some ⟨g1, 0, none⟩) hs.length hs.length) (by simp)).below hb2
  have Z2 := (Z1.set 0 (.slice (some ⟨g1, 0, none⟩) hs.length hs.length) (by simp)).below hb2
  simp only [List.set_cons_zero] at Z2
  have ho1 := owns_below (ownsRow_setCell_below hown1 (a := ⟨w.heap.size + 1 + 1, 0, none⟩) (by simp; omega) (.slice (some ⟨g1, 0, none⟩) hs.length hs.length)) hb2
  have hlt1 := (owns_lt hown1).2
  simp only [World.size_setCell] at hown2 hL2 ⊢
  obtain ⟨g2, hg2⟩ : ∃ g2, g2 = w1.heap.size := ⟨_, rfl⟩
  rw [← hg2] at hown2 hL2 hlt1 ⊢
  have hgt : w.heap.size + 1 + 1 < g2 := by have := Z1.1; omega
  clear p0 p1 q0 q1 qf X1 Y1 Z1 hb2 hown1 hg2
  obtain ⟨_, q0, q1⟩ := Z2.c2
  have qf := Z2.2.2
  obtain ⟨_, y0, y1⟩ := Y2.c2
  have yf := Y2.2.2
  have HL : Hid (Lnk w2 g2 ts gs) := hL2
  clear hL2
  go_wp2
  refine bodyPost_ret (v := .agg #[(.slice (some ⟨g1, 0, none⟩) hs.length hs.length), (.slice (some ⟨g2, 0, none⟩) ts.length ts.length)]) ?_ rfl ⟨⟨g1, g2, gs, by omega, by omega, hgl, rfl, ?_, ?_, ?_⟩, ?_⟩
  · have F := (((Y2.setOther ⟨w.heap.size + 1 + 1, 1, none⟩ (.slice (some ⟨g2, 0, none⟩) ts.length ts.length) (by simp)).set 0 (.slice (some ⟨g1, 0, none⟩) hs.length hs.length) (by simp)).set 1 (.slice (some ⟨g2, 0, none⟩) ts.length ts.length) (by simp))
    simp only [List.set_cons_zero, List.set_cons_succ] at F
    obtain ⟨_, t0, t1⟩ := F.c2
    simp [results, Tryd.results7, go_sem, t0, t1]
  · iterate 3 (refine ownsRow_setCell_below ?_ (by simp; omega) _)
    exact ho1
  · iterate 3 (refine ownsRow_setCell_below ?_ (by simp; omega) _)
    exact hown2
  · iterate 3 (refine Lnk.setCell ?_ (by simp; omega) _)
    exact HL.out
  · iterate 3 (refine Below.setCell ?_ (by simp; try omega) _)
    exact hB2
end Go.Proofs.YtcjkdkaahkphfaaDoor
