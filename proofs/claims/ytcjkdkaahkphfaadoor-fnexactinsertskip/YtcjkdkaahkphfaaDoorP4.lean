/-
  impl.copySkip, walked.
-/
import Derived.Test.YtcjkdkaahkphfaaDoorP3
namespace Go.Proofs.YtcjkdkaahkphfaaDoor
open Go.RowKit
set_option linter.unusedVariables false
set_option maxRecDepth 100000

/-- A list of one's own: the towers in vT, the heads in block g1 with room c1, the links in blocks gs with room cs. -/
structure OwnSk (w : World) (base : Nat) (hs : List Int) (ts : List Tw) (us : List Value) (vT : Value) (g1 c1 : Nat) (gs cs : List Nat) : Prop where
  len : gs.length = ts.length
  rows : w.ownsRow base 49 5 vT ts.length (flat5 (List.zipWith rowU ts (mixU ts us gs cs)))
  lnk : LnkC w base ts gs cs
  head : w.ownsRow g1 3 1 (.slice (some ⟨g1, 0, none⟩) hs.length c1) hs.length (hs.map (.int .i64))
  up1 : ∀ g, vT.ownBlock = some g → ∀ x ∈ gs, g < x
  up2 : ∀ x ∈ gs, x < g1
  up3 : ∀ g, vT.ownBlock = some g → g < g1
  lo : base ≤ g1

theorem flat5_set4 (l : List Tc) (i : Nat) (u : Value) (h : i < l.length) : (flat5 l).set (i * 5 + 4) u = flat5 (l.set i ⟨l[i].k, l[i].s, l[i].d, l[i].v, u⟩) := by
  induction l generalizing i with
  | nil => simp at h
  | cons x r ih =>
    cases i with
    | zero => simp [flat5]
    | succ i =>
      rw [show (i + 1) * 5 + 4 = i * 5 + 4 + 1 + 1 + 1 + 1 + 1 from by omega]
      simp only [flat5, List.set_cons_succ, List.getElem_cons_succ]
      rw [ih i (by simpa using h)]
theorem mix_put (ts : List Tw) (us : List Value) (gs cs : List Nat) (g c : Nat) (hu : us.length = ts.length) (hc : cs.length = gs.length) (hg : gs.length < ts.length) :
    (flat5 (List.zipWith rowU ts (mixU ts us gs cs))).set (gs.length * 5 + 4) (lnkV ts[gs.length] g c) = flat5 (List.zipWith rowU ts (mixU ts us (gs ++ [g]) (cs ++ [c]))) := by
  have hml := mixU_len ts us gs cs hu hc (by omega)
  have hzl : gs.length < (List.zipWith rowU ts (mixU ts us gs cs)).length := by simp; omega
  rw [flat5_set4 _ _ _ hzl]
  have e := (List.getElem_eq_iff hzl).2 (zipU_at ts (mixU ts us gs cs) gs.length hg (by omega))
  rw [e, ← mixU_set ts us gs cs g c hu hc hg, ← zipU_set ts _ _ _ hg]
  rfl
theorem mix_at (ts : List Tw) (us : List Value) (gs cs : List Nat) (hu : us.length = ts.length) (hc : cs.length = gs.length) (hg : gs.length < ts.length) :
    let L := flat5 (List.zipWith rowU ts (mixU ts us gs cs))
    L[gs.length * 5]? = some (.string ts[gs.length].key) ∧ L[gs.length * 5 + 1]? = some (.int .i64 ts[gs.length].seq) ∧ L[gs.length * 5 + 2]? = some (.int .i64 ts[gs.length].kind) ∧ L[gs.length * 5 + 3]? = some (.string ts[gs.length].val) ∧ L[gs.length * 5 + 4]? = some (us[gs.length]'(by omega)) := by
  have hml := mixU_len ts us gs cs hu hc (by omega)
  have hzl : gs.length < (List.zipWith rowU ts (mixU ts us gs cs)).length := by simp; omega
  have e := (List.getElem_eq_iff hzl).2 (zipU_at ts (mixU ts us gs cs) gs.length hg (by omega))
  have e2 := (List.getElem_eq_iff (by omega)).2 (mixU_at ts us gs cs hu hc hg)
  obtain ⟨h0, h1, h2, h3, h4⟩ := flat5_get (List.zipWith rowU ts (mixU ts us gs cs)) gs.length hzl
  rw [e] at h0 h1 h2 h3 h4
  refine ⟨h0, h1, h2, h3, ?_⟩
  rw [h4, ← e2]
  rfl

set_option maxHeartbeats 8000000 in
theorem copySkip_any (x : Value) (b off cap : Nat) (hs : List Int) (ts : List Tw) (us : List Value) (w : World) (hx : IL w x hs) (h5 : 0 < hs.length) (h6 : hs.length ≤ 1048576) (hl : us.length = ts.length) (hu : ∀ i (hi : i < ts.length) (h' : i < us.length), IL w us[i] ts[i].next) (hc : ∀ j u, (flat5 (List.zipWith rowU ts us))[j]? = some u → w.cell? ⟨b, off + j, none⟩ = some u) (hbw : b < w.heap.size) (hn : ts.length ≤ 60)
    (hf : ∀ i (h : i < ts.length), 0 < ts[i].next.length ∧ ts[i].next.length ≤ 1048576) :
    Calls Tryd.prog 27 #[.agg #[x, .slice (some ⟨b, off, none⟩) ts.length cap]] w fun e w' => (∃ vT g1 c1 gs cs, e = .returned (.agg #[.slice (some ⟨g1, 0, none⟩) hs.length c1, vT]) ∧ OwnSk w' w.heap.size hs ts us vT g1 c1 gs cs) ∧ Below w.heap.size w w' := by
  obtain ⟨ax, cx, hxe, _⟩ := id hx
  subst hxe
  have hb0 := below2 w (.cells #[.slice ax hs.length cx, .slice (some ⟨b, off, none⟩) ts.length cap] 32) (.cells #[.slice none 0 0, .slice none 0 0] 32)
  have X0 := (Box.new w #[.slice ax hs.length cx, .slice (some ⟨b, off, none⟩) ts.length cap] 32).alloc (.cells #[.slice none 0 0, .slice none 0 0] 32)
  have Y0 := Box.new (w.alloc (.cells #[.slice ax hs.length cx, .slice (some ⟨b, off, none⟩) ts.length cap] 32)) #[.slice none 0 0, .slice none 0 0] 32
  simp only [World.size_alloc] at Y0
  have KC := cloneTower_any b off cap ts us _ hl (fun i h1 h2 => (hu i h1 h2).below hb0) (fun j u hj => (hb0.cell (p := ⟨b, off + j, none⟩) hbw).trans (hc j u hj)) (by omega)
  have KI := fun w' (hb : Below w.heap.size w w') i (h1 : i < ts.length) (h2 : i < us.length) => cloneInt_any us[i] ts[i].next w' ((hu i h1 h2).below hb) (hf i h1).2 (hf i h1).1
  have KH := fun w' (hb : Below w.heap.size w w') => cloneInt_any _ hs w' (hx.below hb) h6 h5
  clear hc
  go_enter Tryd.func27, Tryd.ntmps27
  go_wp2_with fail
  refine KC.mono ?_
  rintro e w1 ⟨vT, rfl, hoT, hb1⟩
  have hB1 := below_then hb0 hb1
  have X1 := X0.below hb1
  have Y1 := Y0.below hb1
  have hz1 := hB1.size
  have hz2 : w.heap.size + 2 ≤ w1.heap.size := by have := Y1.1; omega
  simp only [World.size_alloc] at hoT
  have hgeT := owns_ge hoT
  have hltT := owns_below_lt hoT
  clear KC hb0 hb1 X0 Y0
  rw [← mixU_nil ts us] at hoT
  have hsl : ∃ aT cT, vT = .slice aT ts.length cT := by
    rcases hoT.2 with ⟨rfl, h0⟩ | ⟨g, c, cur, rfl, _⟩
    · exact ⟨none, 0, by rw [← h0]⟩
    · exact ⟨_, _, rfl⟩
  obtain ⟨aT, cT, rfl⟩ := hsl
  go_wp2
  go_loopw [11] (fun i wr => ∃ gs cs : List Nat, i = .int .i64 (gs.length : Nat) ∧ gs.length ≤ ts.length ∧ cs.length = gs.length ∧ wr.ownsRow (w.heap.size + 2) 49 5 (.slice aT ts.length cT) ts.length (flat5 (List.zipWith rowU ts (mixU ts us gs cs))) ∧ LnkC wr (w1.heap.size - 1) ts gs cs ∧ Box wr w.heap.size [.slice ax hs.length cx, .slice (some ⟨b, off, none⟩) ts.length cap] ∧ Box wr (w.heap.size + 1) [.slice none 0 0, .slice none 0 0] ∧ w1.heap.size ≤ wr.heap.size ∧ Below w.heap.size w wr) (fun i _ => ts.length - (intOf i).toNat)
  case atStart => exact ⟨[], [], rfl, by simp, rfl, hoT, LnkC.nil _ _ _, X1, Y1, Nat.le_refl _, hB1⟩
  case round =>
    clear X1 Y1 hB1 hoT
    obtain ⟨gs, cs, rfl, hk, hcs, hown, hL, X, Y, hzz, hB⟩ := hrel
    have hz := hB.size
    obtain ⟨_, x0, x1⟩ := X.c2
    by_cases hlt : gs.length < ts.length
    · obtain ⟨e0, e1, e2, e3, e4⟩ := mix_at ts us gs cs hl hcs hlt
      have HMP : Hid (∀ g c, (flat5 (List.zipWith rowU ts (mixU ts us gs cs))).set (gs.length * 5 + 4) (lnkV ts[gs.length] g c) = flat5 (List.zipWith rowU ts (mixU ts us (gs ++ [g]) (cs ++ [c])))) := fun g c => mix_put ts us gs cs g c hl hcs hlt
      rcases hown.2 with ⟨_, h0⟩ | ⟨gT, cT', cur, hv, hgT, _⟩
      · omega
      · simp only [Value.slice.injEq, true_and] at hv
        obtain ⟨rfl, rfl⟩ := hv
        have hgT2 := hltT gT rfl
        have d0 := (hown.cellAt (gs.length * 5) (by omega)).trans e0
        have d1 := (hown.cellAt (gs.length * 5 + 1) (by omega)).trans e1
        have d2 := (hown.cellAt (gs.length * 5 + 2) (by omega)).trans e2
        have d3 := (hown.cellAt (gs.length * 5 + 3) (by omega)).trans e3
        have d4 := (hown.cellAt (gs.length * 5 + 4) (by omega)).trans e4
        have hfn := (hf _ hlt).1
        have hil := hu _ hlt (by omega)
        have KIk := KI (wr.alloc (.cells #[.string ts[gs.length].key, .int .i64 ts[gs.length].seq, .int .i64 ts[gs.length].kind, .string ts[gs.length].val, us[gs.length]'(by omega)] 49)) (hB.alloc hz _) gs.length hlt (by omega)
        have hbA := below_alloc wr (.cells #[.string ts[gs.length].key, .int .i64 ts[gs.length].seq, .int .i64 ts[gs.length].kind, .string ts[gs.length].val, us[gs.length]'(by omega)] 49)
        have HSN : Hid (∀ W g c, LnkC W (w1.heap.size - 1) ts gs cs → w1.heap.size - 1 < g → (∀ x ∈ gs, x < g) → W.ownsRow g 3 1 (lnkV ts[gs.length] g c) ts[gs.length].next.length (ts[gs.length].next.map (.int .i64)) → LnkC W (w1.heap.size - 1) ts (gs ++ [g]) (cs ++ [c])) := fun W g c h1 h2 h3 h4 => h1.snoc hlt h2 h3 h4
        have HLV : Hid (∀ g c, lnkV ts[gs.length] g c = .slice (some ⟨g, 0, none⟩) ts[gs.length].next.length c) := fun _ _ => rfl
        have hgsl : ∀ x ∈ gs, x < wr.heap.size := fun x hx => hL.lt hx
        have hgTW : gT < wr.heap.size := by omega
        clear e0 e1 e2 e3 e4 KI KH hf hu
        obtain ⟨ua, uc, hue, hdrop⟩ := hil
        clear hdrop
        rw [hue] at d4 KIk hbA
        clear hue
        generalize ts[gs.length] = tk at *
        obtain ⟨tkk, tkn, tkd, tkv, tkx⟩ := tk
        dsimp only at *
        generalize hgl : gs.length = kk at *
        go_wp2_with fail
        refine KIk.mono ?_
        rintro e w3 ⟨u3, rfl, ho3, hb3⟩
        simp only [World.size_alloc] at ho3
        rcases ho3.2 with ⟨_, h0⟩ | ⟨g, c, cur3, rfl, hgg, hh3, _⟩
        · omega
        · have hbb := below_then hbA hb3
          have hB3 := below_then hB hbb
          have hz3 := hbb.size
          have hzA := hb3.size
          simp only [World.size_alloc] at hzA
          have ho3' : w3.ownsRow g 3 1 (.slice (some ⟨g, 0, none⟩) tkx.length c) tkx.length (tkx.map (.int .i64)) := by
            refine ⟨ho3.1, .inr ⟨g, c, cur3, rfl, Nat.le_refl _, ?_⟩⟩
            rcases ho3.2 with ⟨h1, _⟩ | ⟨g', c', cur', h1, h2, h3⟩
            · simp at h1
            · simp only [Value.slice.injEq, Option.some.injEq, Addr.mk.injEq, and_true, true_and] at h1
              obtain ⟨rfl, rfl⟩ := h1
              have : cur' = cur3 := by
                have e := h3.1.symm.trans hh3
                simpa using e
              subst this
              exact h3
          have hown3 := owns_below hown hbb
          have hL3 := hL.below hbb
          have X3 := X.below hbb
          have Y3 := Y.below hbb
          have hst := (hown3.stored (kk * 5 + 4) (.slice (some ⟨g, 0, none⟩) tkx.length c)).1
          rw [← HLV.out g c, HMP.out g c, HLV.out g c] at hst
          have hL4 := HSN.out _ g c (hL3.setCell (a := ⟨gT, kk * 5 + 4, none⟩) (by simp; omega) (.slice (some ⟨g, 0, none⟩) tkx.length c)) (by omega) (fun x hx => by have := hgsl x hx; omega) (by rw [HLV.out]; exact ownsRow_setCell_below ho3' (by simp; omega) _)
          obtain ⟨⟨uo, do4⟩, fo4⟩ : (∃ u, w3.cell? ⟨gT, kk * 5 + 4, none⟩ = some u) ∧ w3.frozen? ⟨gT, kk * 5 + 4, none⟩ = false := ⟨⟨_, (hbb.cell (p := ⟨gT, kk * 5 + 4, none⟩) hgTW).trans d4⟩, hown3.frozenAt _⟩
          have X4 := ((Chg.refl (· = gT) w3).setCell (p := ⟨gT, kk * 5 + 4, none⟩) rfl (.slice (some ⟨g, 0, none⟩) tkx.length c)).box X3 (by omega)
          have Y4 := ((Chg.refl (· = gT) w3).setCell (p := ⟨gT, kk * 5 + 4, none⟩) rfl (.slice (some ⟨g, 0, none⟩) tkx.length c)).box Y3 (by omega)
          have hB4 : Below w.heap.size w (w3.setCell ⟨gT, kk * 5 + 4, none⟩ (.slice (some ⟨g, 0, none⟩) tkx.length c)) := hB3.setCell (by simp; omega) _
          have hgT3 : gT < w3.heap.size := by omega
          have HS : Hid _ := hst
          have HL4 : Hid _ := hL4
          clear hst hL4 ho3 ho3' hown hown3 hL hL3 X X3 Y Y3 hB hB3 hbA hb3 hbb d0 d1 d2 d3 d4 KIk HMP HSN hh3 x0 x1
          go_wp2
          go_roundw
          case rel => exact ⟨gs ++ [g], cs ++ [c], by rw [List.length_append, hgl]; go_num, by rw [List.length_append, hgl]; simp; omega, by rw [List.length_append, List.length_append, hcs, hgl]; rfl, HS.out, HL4.out, X4, Y4, by simp; omega, hB4⟩
          case measure => simp [intOf]; omega
    · have hE : gs.length = ts.length := by omega
      have KHw := KH wr hB
      clear KH KI
      go_wp2_with fail
      refine KHw.mono ?_
      rintro e w3 ⟨u3, rfl, ho3, hb3⟩
      rcases ho3.2 with ⟨_, h0⟩ | ⟨g1, c1, cur3, rfl, hgg, hh3, _⟩
      · omega
      · have hB3 := below_then hB hb3
        have X3 := X.below hb3
        have Y3 := Y.below hb3
        have hz3 := hb3.size
        have hg1 := owns_below_lt ho3 g1 rfl
        have hltw : ∀ g, (Value.slice aT ts.length cT).ownBlock = some g → g < wr.heap.size := owns_below_lt hown
        have hheadb : w3.ownsRow g1 3 1 (.slice (some ⟨g1, 0, none⟩) hs.length c1) hs.length (hs.map (.int .i64)) := by
          refine ⟨ho3.1, .inr ⟨g1, c1, cur3, rfl, Nat.le_refl _, ?_⟩⟩
          rcases ho3.2 with ⟨h1, _⟩ | ⟨g', c', cur', h1, h2, h3⟩
          · simp at h1
          · simp only [Value.slice.injEq, Option.some.injEq, Addr.mk.injEq, and_true, true_and] at h1
            obtain ⟨rfl, rfl⟩ := h1
            have : cur' = cur3 := by
              have e := h3.1.symm.trans hh3
              simpa using e
            subst this
            exact h3
        have hown3 := owns_below hown hb3
        have hL3 := hL.below hb3
        have HSK : Hid (∀ u v, OwnSk ((w3.setCell ⟨w.heap.size + 1, 0, none⟩ u).setCell ⟨w.heap.size + 1, 1, none⟩ v) w.heap.size hs ts us (.slice aT ts.length cT) g1 c1 gs cs) := fun u v =>
          ⟨hE, owns_lower (ownsRow_setCell_below (ownsRow_setCell_below hown3 (by simp) u) (by simp) v) (by omega),
            ⟨hL3.1, hL3.2.1, hL3.2.2.1, fun i h1 h2 h3 => ⟨by have := (hL3.2.2.2 i h1 h2 h3).1; omega, ownsRow_setCell_below (ownsRow_setCell_below (hL3.2.2.2 i h1 h2 h3).2 (by have := (hL3.2.2.2 i h1 h2 h3).1; simp; omega) u) (by have := (hL3.2.2.2 i h1 h2 h3).1; simp; omega) v⟩⟩,
            ownsRow_setCell_below (ownsRow_setCell_below hheadb (by simp; omega) u) (by simp; omega) v,
            fun g hg x hx => by
              have := hltT g hg
              obtain ⟨i, hi, rfl⟩ := List.getElem_of_mem hx
              have := (hL3.2.2.2 i hi (by omega) (by omega)).1
              omega,
            fun x hx => by have := hL.lt hx; omega,
            fun g hg => by have := hltT g hg; omega,
            by omega⟩
        have hBf : ∀ u v, Below w.heap.size w ((w3.setCell ⟨w.heap.size + 1, 0, none⟩ u).setCell ⟨w.heap.size + 1, 1, none⟩ v) := fun u v => (hB3.setCell (by simp) _).setCell (by simp) _
        obtain ⟨hyl, y0, y1⟩ := Y3.c2
        have y2 := Y3.2.2 0
        have y3 := Y3.2.2 1
        have Y5 := (Y3.set 0 (.slice (some ⟨g1, 0, none⟩) hs.length c1) (by simp)).set 1 (.slice aT ts.length cT) (by simp)
        obtain ⟨_, z0, z1⟩ := Y5.c2
        clear ho3 hheadb hown hown3 hL hL3 X X3 Y hB hB3 hb3 KHw hh3 x0 x1 hltw Y5
        go_wp2
        exact bodyPost_ret (v := .agg #[.slice (some ⟨g1, 0, none⟩) hs.length c1, .slice aT ts.length cT]) (by simp [results, Tryd.results27, go_sem, z0, z1]) rfl ⟨⟨_, _, _, _, _, rfl, HSK.out _ _⟩, hBf _ _⟩
end Go.Proofs.YtcjkdkaahkphfaaDoor
