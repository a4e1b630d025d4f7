/-
  impl: a tower put into a list of one's own (ladder.with), walked.
-/
import Derived.Test.YtcjkdkaahkphfaaDoorW1
import Derived.Test.YtcjkdkaahkphfaaDoorO3
namespace Go.Proofs.YtcjkdkaahkphfaaDoor
open Go.RowKit
set_option linter.unusedVariables false
set_option maxRecDepth 100000

set_option maxHeartbeats 16000000 in
theorem with_any (hs : List Int) (ts : List Tw) (t : Tw) (aT : Option Addr) (cT g1 c1 base go co n : Nat) (gs cs : List Nat) (w : World)
    (h : OwnS w base hs ts (.slice aT ts.length cT) g1 c1 gs cs) (G : GoodI hs ts) (hn : n ≤ 5)
    (ho : w.ownsRow base 3 1 (.slice (some ⟨go, 0, none⟩) n co) n ((List.replicate n 0).map (.int .i64)))
    (hg : go ∉ gs) (hg1 : go ≠ g1) (hgT : ∀ g, (Value.slice aT ts.length cT).ownBlock = some g → g ≠ go) (hbase : base ≤ w.heap.size) :
    Calls Tryd.prog 28 #[.agg #[.slice (some ⟨g1, 0, none⟩) hs.length c1, .slice aT ts.length cT], .agg #[.string t.key, .int .i64 t.seq, .int .i64 t.kind, .string t.val, .slice (some ⟨go, 0, none⟩) n co]] w fun e w' =>
      ∃ vT', e = .returned (.agg #[.slice (some ⟨g1, 0, none⟩) hs.length c1, vT']) ∧ OwnS w' base (insTo hs ts (lastL hs ts t 5) ts.length n).1 ((insTo hs ts (lastL hs ts t 5) ts.length n).2 ++ [⟨t.key, t.seq, t.kind, t.val, ownL hs ts (lastL hs ts t 5) n⟩]) vT' g1 c1 (gs ++ [go]) (cs ++ [co]) ∧ (∀ g, vT'.ownBlock = some g → (Value.slice aT ts.length cT).ownBlock = some g ∨ w.heap.size + 1 + 1 < g) ∧ Chg (fun b => b = g1 ∨ b ∈ gs ∨ b = go ∨ (Value.slice aT ts.length cT).ownBlock = some b) w w' := by
  have h5 := G.1
  have h60 := G.2.1
  have hx := h.il
  have hy := h.tw
  obtain ⟨l1, l2, l3⟩ := h.lt
  have hgo := owns_lt ho
  have KL := fun w hx hy => lastLess_any (.slice (some ⟨g1, 0, none⟩) hs.length c1) aT cT hs ts t (.slice (some ⟨go, 0, none⟩) n co) w hx hy G
  have HLA : Hid (∀ lv, lv < 5 → ((lastL hs ts t 5).map (Value.int .i64))[lv]? = some (.int .i64 ((lastL hs ts t 5).getD lv 0)) ∧ ((lastL hs ts t 5).getD lv 0 = -1 ∨ okAt ts lv ((lastL hs ts t 5).getD lv 0))) := fun lv hlv => by
    obtain ⟨e1, e2⟩ := lastL_at hs ts t lv hlv
    rw [e1]
    exact ⟨e2, SkS_ok G t (5 - lv) (by omega) lv (by omega)⟩
  have KS : Hid (∀ lv w, OwnS w base (insTo hs ts (lastL hs ts t 5) ts.length lv).1 (insTo hs ts (lastL hs ts t 5) ts.length lv).2 (.slice aT ts.length cT) g1 c1 gs cs → lv < 5 → ((lastL hs ts t 5).getD lv 0 = -1 ∨ okAt ts lv ((lastL hs ts t 5).getD lv 0)) → ∃ gk nk ck, lv < nk ∧ (gk = g1 ∨ gk ∈ gs) ∧ (∀ W, OwnS W base (insTo hs ts (lastL hs ts t 5) ts.length lv).1 (insTo hs ts (lastL hs ts t 5) ts.length lv).2 (.slice aT ts.length cT) g1 c1 gs cs → W.cell? ⟨gk, lv, none⟩ = some (.int .i64 (NX hs ts ((lastL hs ts t 5).getD lv 0) lv)) ∧ W.frozen? ⟨gk, lv, none⟩ = false ∧
      (Calls Tryd.prog 55 #[.agg #[.slice (some ⟨g1, 0, none⟩) hs.length c1, .slice aT ts.length cT], .int .i64 ((lastL hs ts t 5).getD lv 0)] W fun e w' => e = .returned (.slice (some ⟨gk, 0, none⟩) nk ck) ∧ Below W.heap.size W w') ∧
      OwnS (W.setCell ⟨gk, lv, none⟩ (.int .i64 (ts.length : Int))) base (insTo hs ts (lastL hs ts t 5) ts.length (lv + 1)).1 (insTo hs ts (lastL hs ts t 5) ts.length (lv + 1)).2 (.slice aT ts.length cT) g1 c1 gs cs)) := fun lv w h hlv ha => links_sel hs ts (lastL hs ts t 5) ts.length base aT cT g1 c1 gs cs lv w h h5 h60 hlv ha
  have H5 : Hid (hs.length = 5) := h5
  clear h5
  have HL1 : Hid (∀ b ∈ gs, base ≤ b ∧ b < w.heap.size) := l1
  have HL3 : Hid (∀ g, (Value.slice aT ts.length cT).ownBlock = some g → base ≤ g ∧ g < w.heap.size) := l3
  have HGT : Hid (∀ g, (Value.slice aT ts.length cT).ownBlock = some g → g ≠ go) := hgT
  have HG0 : Hid (go ∉ gs) := hg
  clear l1 l3 hgT hg
  have HS0 : Hid (insTo hs ts (lastL hs ts t 5) ts.length 0 = (hs, ts)) := rfl
  have HOS : Hid (∀ lv, lv < n → (ownZ hs ts (lastL hs ts t 5) n lv).set lv (NX hs ts ((lastL hs ts t 5).getD lv 0) lv) = ownZ hs ts (lastL hs ts t 5) n (lv + 1)) := fun lv hlv => ownZ_set _ _ _ _ _ hlv
  have HOL : Hid (∀ lv, lv ≤ n → (ownZ hs ts (lastL hs ts t 5) n lv).length = n) := fun lv hlv => ownZ_len _ _ _ _ _ hlv
  have HOA : Hid (ownZ hs ts (lastL hs ts t 5) n n = ownL hs ts (lastL hs ts t 5) n) := ownZ_all _ _ _ _
  have HLN : Hid ((insTo hs ts (lastL hs ts t 5) ts.length n).1.length = hs.length ∧ (insTo hs ts (lastL hs ts t 5) ts.length n).2.length = ts.length) := insTo_len _ _ _ _ _
  rw [← ownZ_zero hs ts (lastL hs ts t 5) n] at ho
  generalize lastL hs ts t 5 = L at *
  generalize (SkS hs ts t 5).2 = M at *
  obtain ⟨tk, tn, td, tv, tx⟩ := t
  dsimp only at *
  clear G
  have hmt := method_links tk tv tn td (.slice (some ⟨go, 0, none⟩) n co)
  obtain ⟨i0, hi, hz0, hz1, hz2⟩ := info_parts Tryd.info49
  go_enter Tryd.func28, Tryd.ntmps28
  go_wp2_with fail
  refine (KL _ (hx.below (below3 _ _ _ _)) (hy.below (below3 _ _ _ _))).mono ?_
  rintro e w1 ⟨⟨gl, rfl, ol, hgl⟩, hb1⟩
  simp only [World.size_alloc] at hgl
  have hB1 := below_then (below3 _ _ _ _) hb1
  have X1 := (((Box.new w #[.slice (some ⟨g1, 0, none⟩) hs.length c1, .slice aT ts.length cT] 56).alloc (.cells #[.string tk, .int .i64 tn, .int .i64 td, .string tv, .slice (some ⟨go, 0, none⟩) n co] 49)).alloc (.cells #[.slice none 0 0, .slice none 0 0] 56)).below hb1
  have Y1 := ((Box.new (w.alloc (.cells #[.slice (some ⟨g1, 0, none⟩) hs.length c1, .slice aT ts.length cT] 56)) #[.string tk, .int .i64 tn, .int .i64 td, .string tv, .slice (some ⟨go, 0, none⟩) n co] 49).alloc (.cells #[.slice none 0 0, .slice none 0 0] 56)).below hb1
  have Z1 := (Box.new ((w.alloc (.cells #[.slice (some ⟨g1, 0, none⟩) hs.length c1, .slice aT ts.length cT] 56)).alloc (.cells #[.string tk, .int .i64 tn, .int .i64 td, .string tv, .slice (some ⟨go, 0, none⟩) n co] 49)) #[.slice none 0 0, .slice none 0 0] 56).below hb1
  simp only [World.size_alloc] at Y1 Z1
  have S1 := h.below hB1
  have O1 := owns_below ho hB1
  clear hb1 KL h ho hx hy
  obtain ⟨_, y0, y1, y2, y3, y4⟩ := Y1.c5
  go_wp2_with fail
  refine (links_any tk tv tn td (.slice (some ⟨go, 0, none⟩) n co) _).mono ?_
  rintro e w2 ⟨rfl, hb2⟩
  have hB2 := below_then hB1 hb2
  replace S1 := S1.below hb2
  replace O1 := owns_below O1 hb2
  replace ol := owns_below ol hb2
  replace X1 := X1.below hb2
  replace Y1 := Y1.below hb2
  replace Z1 := Z1.below hb2
  clear hb2 hB1 y0 y1 y2 y3 y4 hmt
  go_wp2
  go_loopw [21] (fun i wr => ∃ lv : Nat, lv ≤ n ∧ i = .int .i64 lv ∧ OwnS wr base (insTo hs ts L ts.length lv).1 (insTo hs ts L ts.length lv).2 (.slice aT ts.length cT) g1 c1 gs cs ∧ wr.ownsRow base 3 1 (.slice (some ⟨go, 0, none⟩) n co) n ((ownZ hs ts L n lv).map (.int .i64)) ∧ wr.ownsRow gl 3 1 (.slice (some ⟨gl, 0, none⟩) 5 5) 5 (L.map (.int .i64)) ∧ Box wr w.heap.size [.slice (some ⟨g1, 0, none⟩) hs.length c1, .slice aT ts.length cT] ∧ Box wr (w.heap.size + 1) [.string tk, .int .i64 tn, .int .i64 td, .string tv, .slice (some ⟨go, 0, none⟩) n co] ∧ Box wr (w.heap.size + 1 + 1) [.slice none 0 0, .slice none 0 0] ∧ Chg (fun b => b = g1 ∨ b ∈ gs ∨ b = go ∨ (Value.slice aT ts.length cT).ownBlock = some b) w wr) (fun i _ => n - (intOf i).toNat)
  case atStart => exact ⟨0, Nat.zero_le _, rfl, by rw [HS0.out]; exact S1, O1, ol, X1, Y1, Z1, Chg.of_below hB2⟩
  case round =>
    clear S1 O1 ol X1 Y1 Z1 hB2
    obtain ⟨lv, hlv, rfl, S, O, OL, X, Y, Z, hB⟩ := hrel
    by_cases hlt : lv < n
    · obtain ⟨a1, a2⟩ := HLA.out lv (by omega)
      obtain ⟨gk, nk, ck, hnk, hgk, hall⟩ := KS.out lv wr S (by omega) a2
      have d0 := (OL.cellAt lv (by omega)).trans a1
      have hgll := owns_lt3 OL
      have HOL2 := HOL.out lv hlv
      have HOS2 : Hid _ := HOS.out lv hlt
      clear KS HLA HOL HOS HS0 HOA HLN a1 a2
      have hgkl : gk < w.heap.size := by rcases hgk with e | e; exact e ▸ l2.2; exact (HL1.out _ e).2
      have hgko : gk ≠ go := by rcases hgk with e | e; exact fun x => hg1 (x.symm.trans e); exact fun x => HG0.out (x ▸ e)
      have hgkb : base ≤ gk := by rcases hgk with e | e; exact e ▸ l2.1; exact (HL1.out _ e).1
      generalize NX hs ts (L.getD lv 0) lv = v at *
      generalize L.getD lv 0 = av at *
      have HAL : Hid _ := hall
      go_wp2_with fail
      have hne : Nonempty (WC wr.heap.size wr) := ⟨⟨_, Below.refl _ _⟩⟩
      have px := fun x : WC wr.heap.size wr => (X.below x.ok).2.1 0 _ rfl
      have py := fun x : WC wr.heap.size wr => (X.below x.ok).2.1 1 _ rfl
      have pd := fun x : WC wr.heap.size wr => (x.ok.cell (p := ⟨gl, lv, none⟩) hgll).trans d0
      have KW := fun x : WC wr.heap.size wr => (hall x.w (S.below x.ok)).2.2.1
      have hl5 : (lv : Int) < 5 := by omega
      clear d0 hall
      refine wp_region_calm (B := wr.heap.size) (W := wr) (by kernel_rfl) (by kernel_rfl) (Below.refl _ _) ?_
      repeat (go_big_quiet_step (first | (go_at_call 55; exact calm_of_below (Nat.le_refl _) (KW _))))
      refine wpQuiet_nil ?_
      intro _ hw'
      obtain ⟨x, hxx⟩ := hw'
      subst hxx
      have hb := x.ok
      clear px py pd KW hne hl5
      generalize x.w = v0 at *
      clear x
      go_wp2_with fail
      have hD : Below v0.heap.size v0 v0.drew := (Below.refl _ _).drew
      replace hb := below_then hb hD
      replace S := S.below hb
      replace O := owns_below O hb
      replace OL := owns_below OL hb
      replace X := X.below hb
      replace Y := Y.below hb
      replace Z := Z.below hb
      replace hB := hB.trans (Chg.of_below hb)
      clear hb hD
      obtain ⟨k1, k2, _, _⟩ := HAL.out _ S
      have hnki : (lv : Int) < nk := by omega
      have hni : (lv : Int) < n := by omega
      obtain ⟨⟨u0, c0⟩, f0⟩ : (∃ u, v0.drew.cell? ⟨go, lv, none⟩ = some u) ∧ v0.drew.frozen? ⟨go, lv, none⟩ = false := owns_has O lv (by omega)
      obtain ⟨_, x0, x1⟩ := X.c2
      refine wp_region_held_drew (S := fun wx => wx.cell? ⟨w.heap.size, 1, none⟩ = some (.slice aT ts.length cT)) (by kernel_rfl) x1 (fun hHeld => ?_)
      generalize v0.drew = v1 at *
      refine wpAnyH_take (i := 0) (oi := { dst := some 30, op := Op.move (Operand.tmp 7), type := 22, pos := "l4_skip.go:229", after := #[], guard := none }) (v := .slice (some ⟨go, 0, none⟩) n co) rfl (by kernel_rfl) (by kernel_rfl) (by kernel_rfl) (fun _ _ _ h => h) (Or.inl ⟨by rfl, ?_⟩) (by assumption) ?_
      · intro wx hSw
        clear hSw hHeld; go_simp
      simp only [Act.put, List.setIfInBounds_toArray, List.set_cons_zero, List.set_cons_succ]
      refine wpAnyH_take (i := 1) (oi := { dst := some 31, op := Op.move (Operand.tmp 8), type := 3, pos := "l4_skip.go:229", after := #[], guard := none }) (v := .int .i64 (lv : Int)) rfl (by kernel_rfl) (by kernel_rfl) (by kernel_rfl) (fun _ _ _ h => h) (Or.inl ⟨by rfl, ?_⟩) (by assumption) ?_
      · intro wx hSw
        clear hSw hHeld; go_simp
      simp only [Act.put, List.setIfInBounds_toArray, List.set_cons_zero, List.set_cons_succ]
      refine wpAnyH_take (i := 2) (oi := { dst := some 32, op := Op.move (Operand.tmp 9), type := 22, pos := "l4_skip.go:229", after := #[{ on := 12, ground := Ground.gcOnly Departure.lateStores }], guard := none }) (v := .slice (some ⟨gk, 0, none⟩) nk ck) rfl (by kernel_rfl) (by kernel_rfl) (by kernel_rfl) (fun _ _ _ h => h) (Or.inl ⟨by rfl, ?_⟩) (by assumption) ?_
      · intro wx hSw
        clear hSw hHeld; go_simp
      simp only [Act.put, List.setIfInBounds_toArray, List.set_cons_zero, List.set_cons_succ]
      refine wpAnyH_take (i := 3) (oi := { dst := some 33, op := Op.move (Operand.tmp 8), type := 3, pos := "l4_skip.go:229", after := #[{ on := 12, ground := Ground.gcOnly Departure.lateStores }], guard := none }) (v := .int .i64 (lv : Int)) rfl (by kernel_rfl) (by kernel_rfl) (by kernel_rfl) (fun _ _ _ h => h) (Or.inl ⟨by rfl, ?_⟩) (by assumption) ?_
      · intro wx hSw
        clear hSw hHeld; go_simp
      simp only [Act.put, List.setIfInBounds_toArray, List.set_cons_zero, List.set_cons_succ]
      refine wpAnyH_take (i := 4) (oi := { dst := some 34, op := Op.move (Operand.tmp 9), type := 22, pos := "l4_skip.go:229", after := #[], guard := none }) (v := .slice (some ⟨gk, 0, none⟩) nk ck) rfl (by kernel_rfl) (by kernel_rfl) (by kernel_rfl) (fun _ _ _ h => h) (Or.inl ⟨by rfl, ?_⟩) (by assumption) ?_
      · intro wx hSw
        clear hSw hHeld; go_simp
      simp only [Act.put, List.setIfInBounds_toArray, List.set_cons_zero, List.set_cons_succ]
      refine wpAnyH_take (i := 5) (oi := { dst := some 35, op := Op.move (Operand.tmp 8), type := 3, pos := "l4_skip.go:229", after := #[], guard := none }) (v := .int .i64 (lv : Int)) rfl (by kernel_rfl) (by kernel_rfl) (by kernel_rfl) (fun _ _ _ h => h) (Or.inl ⟨by rfl, ?_⟩) (by assumption) ?_
      · intro wx hSw
        clear hSw hHeld; go_simp
      simp only [Act.put, List.setIfInBounds_toArray, List.set_cons_zero, List.set_cons_succ]
      refine wpAnyH_take (i := 6) (oi := { dst := some 36, op := Op.indexAddr 22 (Operand.tmp 34) (Operand.tmp 35), type := 0, pos := "l4_skip.go:229", after := #[{ on := 4, ground := Ground.data }, { on := 5, ground := Ground.data }], guard := none }) (v := .pointer (some ⟨gk, lv, none⟩)) rfl (by kernel_rfl) (by kernel_rfl) (by kernel_rfl) (fun _ _ _ h => h) (Or.inl ⟨by rfl, ?_⟩) (by assumption) ?_
      · intro wx hSw
        clear hSw hHeld; go_simp
      simp only [Act.put, List.setIfInBounds_toArray, List.set_cons_zero, List.set_cons_succ]
      refine wpAnyH_take (i := 8) (oi := { dst := some 38, op := Op.fieldAddr 56 (Operand.tmp 2) 1, type := 0, pos := "l4_skip.go:229", after := #[], guard := none }) (v := .pointer (some ⟨w.heap.size, 1, none⟩)) rfl (by kernel_rfl) (by kernel_rfl) (by kernel_rfl) (fun _ _ _ h => h) (Or.inl ⟨by rfl, ?_⟩) (by assumption) ?_
      · intro wx hSw
        clear hSw hHeld; go_simp
      simp only [Act.put, List.setIfInBounds_toArray, List.set_cons_zero, List.set_cons_succ]
      refine wpAnyH_take (i := 9) (oi := { dst := some 39, op := Op.load 30 (Operand.tmp 38), type := 30, pos := "l4_skip.go:229", after := #[{ on := 8, ground := Ground.data }], guard := none }) (v := .slice aT ts.length cT) rfl (by kernel_rfl) (by kernel_rfl) (by kernel_rfl) (fun _ _ _ h => h) (Or.inl ⟨by rfl, ?_⟩) (by assumption) ?_
      · intro wx hSw
        clear hHeld; go_simp
      simp only [Act.put, List.setIfInBounds_toArray, List.set_cons_zero, List.set_cons_succ]
      refine wpAnyH_take (i := 10) (oi := { dst := some 40, op := Op.call { callee := Callee.builtin Builtin.len, args := #[Operand.tmp 39], argTypes := #[30] }, type := 3, pos := "l4_skip.go:229", after := #[{ on := 9, ground := Ground.data }], guard := none }) (v := .int .i64 (ts.length : Int)) rfl (by kernel_rfl) (by kernel_rfl) (by kernel_rfl) (fun _ _ _ h => h) (Or.inl ⟨by rfl, ?_⟩) (by assumption) ?_
      · intro wx hSw
        clear hSw hHeld; go_simp
      simp only [Act.put, List.setIfInBounds_toArray, List.set_cons_zero, List.set_cons_succ]
      refine wpAnyH_ready (rs := [7]) (by kernel_rfl) (by simp) ?_
      refine AllReadyH.cons (o := { dst := some 37, op := Op.load 3 (Operand.tmp 36), type := 3, pos := "l4_skip.go:229", after := #[{ on := 6, ground := Ground.data }], guard := none }) rfl (fun K hK => ?_) AllReadyH.nil
      go_simp
      refine hK.out _ v1 hHeld (fun hHeld => ?_)
      clear hK K
      try simp only [Act.put, List.setIfInBounds_toArray, List.set_cons_zero, List.set_cons_succ]
      refine wpAnyH_take (i := 11) (oi := { dst := some 41, op := Op.indexAddr 22 (Operand.tmp 30) (Operand.tmp 31), type := 0, pos := "l4_skip.go:229", after := #[{ on := 0, ground := Ground.data }, { on := 1, ground := Ground.data }, { on := 0, ground := Ground.phase }, { on := 1, ground := Ground.phase }, { on := 2, ground := Ground.textOnly Departure.lateStores }, { on := 3, ground := Ground.textOnly Departure.lateStores }, { on := 4, ground := Ground.phase }, { on := 5, ground := Ground.phase }, { on := 6, ground := Ground.phase }, { on := 7, ground := Ground.phase }, { on := 8, ground := Ground.textOnly Departure.lateStores }, { on := 9, ground := Ground.textOnly Departure.lateStores }, { on := 10, ground := Ground.textOnly Departure.lateStoresUnsure }], guard := none }) (v := .pointer (some ⟨go, lv, none⟩)) rfl (by kernel_rfl) (by kernel_rfl) (by kernel_rfl) (fun _ _ _ h => h) (Or.inl ⟨by rfl, ?_⟩) (by assumption) ?_
      · intro wx hSw
        clear hSw hHeld; go_simp
      simp only [Act.put, List.setIfInBounds_toArray, List.set_cons_zero, List.set_cons_succ]
      refine wpAnyH_ready (rs := [12]) (by kernel_rfl) (by simp) ?_
      refine AllReadyH.cons (o := { dst := none, op := Op.store 3 (Operand.tmp 41) (Operand.tmp 37), type := 0, pos := "l4_skip.go:229", after := #[{ on := 11, ground := Ground.data }, { on := 7, ground := Ground.data }, { on := 0, ground := Ground.phase }, { on := 1, ground := Ground.phase }, { on := 2, ground := Ground.textOnly Departure.lateStores }, { on := 3, ground := Ground.textOnly Departure.lateStores }, { on := 4, ground := Ground.phase }, { on := 5, ground := Ground.phase }, { on := 6, ground := Ground.phase }, { on := 7, ground := Ground.phase }, { on := 8, ground := Ground.textOnly Departure.lateStores }, { on := 9, ground := Ground.textOnly Departure.lateStores }, { on := 10, ground := Ground.textOnly Departure.lateStoresUnsure }], guard := none }) rfl (fun K hK => ?_) AllReadyH.nil
      have cc : Chg (· = go) v1 (v1.setCell ⟨go, lv, none⟩ (.int .i64 v)) := (Chg.refl (· = go) v1).setCell (p := ⟨go, lv, none⟩) rfl _
      have S2 := S.chg cc (fun b hb e => HG0.out (e ▸ hb)) (fun e => hg1 e.symm) (fun g hg' e => HGT.out g hg' e)
      have O2 : (v1.setCell ⟨go, lv, none⟩ (.int .i64 v)).ownsRow base 3 1 (.slice (some ⟨go, 0, none⟩) n co) n ((ownZ hs ts L n (lv + 1)).map (.int .i64)) := by
        have := (O.stored lv (.int .i64 v)).1
        rw [← List.map_set, HOS2.out] at this
        exact this
      have OL2 := cc.owns OL (fun b hb e => by have e2 := blk_eq hb; omega)
      have X2 := cc.box X (by omega)
      have Y2 := cc.box Y (by omega)
      have Z2 := cc.box Z (by omega)
      have hB2 : Chg (fun b => b = g1 ∨ b ∈ gs ∨ b = go ∨ (Value.slice aT ts.length cT).ownBlock = some b) w (v1.setCell ⟨go, lv, none⟩ (.int .i64 v)) := hB.setCell (p := ⟨go, lv, none⟩) (.inr (.inr (.inl rfl))) _
      have k1' : (v1.setCell ⟨go, lv, none⟩ (.int .i64 v)).cell? ⟨gk, lv, none⟩ = some (.int .i64 v) := by rw [World.cell?_setCell_other _ _ _ _ (fun e => hgko (congrArg Addr.block e).symm)]; exact k1
      have k2' : (v1.setCell ⟨go, lv, none⟩ (.int .i64 v)).frozen? ⟨gk, lv, none⟩ = false := by simpa using k2
      go_simp
      refine hK.out _ _ (X2.2.1 1 _ rfl) (fun hHeld => ?_)
      clear hK K cc S O OL X Y Z hB k1 k2 c0 f0 x0 x1
      generalize v1.setCell ⟨go, lv, none⟩ (.int .i64 v) = v2 at *
      try simp only [Act.put, List.setIfInBounds_toArray, List.set_cons_zero, List.set_cons_succ]
      refine wpAnyH_take (i := 13) (oi := { dst := some 42, op := Op.indexAddr 22 (Operand.tmp 32) (Operand.tmp 33), type := 0, pos := "l4_skip.go:229", after := #[{ on := 2, ground := Ground.data }, { on := 3, ground := Ground.data }, { on := 0, ground := Ground.phase }, { on := 1, ground := Ground.phase }, { on := 2, ground := Ground.phase }, { on := 3, ground := Ground.phase }, { on := 4, ground := Ground.phase }, { on := 5, ground := Ground.phase }, { on := 6, ground := Ground.phase }, { on := 7, ground := Ground.phase }, { on := 8, ground := Ground.phase }, { on := 9, ground := Ground.phase }, { on := 10, ground := Ground.phase }, { on := 11, ground := Ground.phase }, { on := 12, ground := Ground.phase }], guard := none }) (v := .pointer (some ⟨gk, lv, none⟩)) rfl (by kernel_rfl) (by kernel_rfl) (by kernel_rfl) (fun _ _ _ h => h) (Or.inl ⟨by rfl, ?_⟩) (by assumption) ?_
      · intro wx hSw
        clear hSw hHeld; go_simp
      simp only [Act.put, List.setIfInBounds_toArray, List.set_cons_zero, List.set_cons_succ]
      refine wpAnyH_ready (rs := [14]) (by kernel_rfl) (by simp) ?_
      refine AllReadyH.cons (o := { dst := none, op := Op.store 3 (Operand.tmp 42) (Operand.tmp 40), type := 0, pos := "l4_skip.go:229", after := #[{ on := 13, ground := Ground.data }, { on := 10, ground := Ground.data }, { on := 12, ground := Ground.chain }, { on := 0, ground := Ground.phase }, { on := 1, ground := Ground.phase }, { on := 2, ground := Ground.phase }, { on := 3, ground := Ground.phase }, { on := 4, ground := Ground.phase }, { on := 5, ground := Ground.phase }, { on := 6, ground := Ground.phase }, { on := 7, ground := Ground.phase }, { on := 8, ground := Ground.phase }, { on := 9, ground := Ground.phase }, { on := 10, ground := Ground.phase }, { on := 11, ground := Ground.phase }, { on := 12, ground := Ground.phase }], guard := none }) rfl (fun K hK => ?_) AllReadyH.nil
      have S3 := (HAL.out v2 S2).2.2.2
      clear HAL
      have cc : Chg (· = gk) v2 (v2.setCell ⟨gk, lv, none⟩ (.int .i64 (ts.length : Int))) := (Chg.refl (· = gk) v2).setCell (p := ⟨gk, lv, none⟩) rfl _
      have O3 := cc.owns O2 (fun b hb e => by have e2 := blk_eq hb; exact hgko (e.symm.trans e2))
      have OL3 := cc.owns OL2 (fun b hb e => by have e2 := blk_eq hb; omega)
      have X3 := cc.box X2 (by omega)
      have Y3 := cc.box Y2 (by omega)
      have Z3 := cc.box Z2 (by omega)
      have hB3 : Chg (fun b => b = g1 ∨ b ∈ gs ∨ b = go ∨ (Value.slice aT ts.length cT).ownBlock = some b) w (v2.setCell ⟨gk, lv, none⟩ (.int .i64 (ts.length : Int))) := hB2.setCell (p := ⟨gk, lv, none⟩) (hgk.elim .inl (fun e => .inr (.inl e))) _
      go_simp
      refine hK.out _ _ (X3.2.1 1 _ rfl) (fun hHeld => ?_)
      clear hK K cc S2 O2 OL2 X2 Y2 Z2 hB2 k1' k2'
      generalize v2.setCell ⟨gk, lv, none⟩ (.int .i64 (ts.length : Int)) = v3 at *
      refine wpAnyH_done (by kernel_rfl) ?_ _
      clear hHeld
      go_wp2
      go_roundw
      case rel => exact ⟨lv + 1, by omega, by go_num, S3, O3, OL3, X3, Y3, Z3, hB3⟩
      case measure => simp [intOf]; omega
    · obtain rfl : lv = n := by omega
      rw [HOA.out] at O
      obtain ⟨hH, hT⟩ := HLN.out
      clear KS HLA HOL HOS HS0 HOA HLN OL hgl hlt
      obtain ⟨H, T, HP⟩ : ∃ H T, Hid (insTo hs ts L ts.length lv = (H, T)) := ⟨(insTo hs ts L ts.length lv).1, (insTo hs ts L ts.length lv).2, rfl⟩
      rw [HP.out] at S hH hT
      dsimp only at S hH hT
      have hle : (ownL hs ts L lv).length = lv := ownL_len _ _ _ _
      obtain ⟨ow, HW⟩ : ∃ ow, Hid (ownL hs ts L lv = ow) := ⟨ownL hs ts L lv, rfl⟩
      rw [HW.out] at O hle
      have HT : Hid (T.length = ts.length) := hT
      have HLE : Hid (ow.length = lv) := hle
      clear hT hH hle
      have hD : Below wr.heap.size wr wr.drew := (Below.refl _ _).drew
      replace S := S.below hD
      replace O := owns_below O hD
      replace X := X.below hD
      replace Y := Y.below hD
      replace Z := Z.below hD
      replace hB := hB.trans (Chg.of_below hD)
      clear hD
      go_wp2_with fail
      obtain ⟨_, x0, x1⟩ := X.c2
      obtain ⟨_, y0, y1, y2, y3, y4⟩ := Y.c5
      refine wp_region_held_drew (S := fun wx => (wx.cell? ⟨w.heap.size, 0, none⟩ = some (.slice (some ⟨g1, 0, none⟩) hs.length c1) ∧ wx.cell? ⟨w.heap.size, 1, none⟩ = some (.slice aT ts.length cT)) ∧ wx.cell? ⟨w.heap.size + 1, 0, none⟩ = some (.string tk) ∧ wx.cell? ⟨w.heap.size + 1, 1, none⟩ = some (.int .i64 tn) ∧ wx.cell? ⟨w.heap.size + 1, 2, none⟩ = some (.int .i64 td) ∧ wx.cell? ⟨w.heap.size + 1, 3, none⟩ = some (.string tv) ∧ wx.cell? ⟨w.heap.size + 1, 4, none⟩ = some (.slice (some ⟨go, 0, none⟩) lv co)) (by kernel_rfl) ⟨⟨x0, x1⟩, y0, y1, y2, y3, y4⟩ (fun hHeld => ?_)
      generalize wr.drew = v0 at *
      clear x0 x1 y0 y1 y2 y3 y4
      refine wpAnyH_take (i := 0) (oi := { dst := some 44, op := Op.fieldAddr 56 (Operand.tmp 2) 0, type := 0, pos := "l4_skip.go:231", after := #[], guard := none }) (v := .pointer (some ⟨w.heap.size, 0, none⟩)) rfl (by kernel_rfl) (by kernel_rfl) (by kernel_rfl) (fun _ _ _ h => h) (Or.inl ⟨by rfl, ?_⟩) (by assumption) ?_
      · intro wx hSw
        clear hSw hHeld; go_simp
      simp only [Act.put, List.setIfInBounds_toArray, List.set_cons_zero, List.set_cons_succ]
      refine wpAnyH_take (i := 1) (oi := { dst := some 45, op := Op.load 22 (Operand.tmp 44), type := 22, pos := "l4_skip.go:231", after := #[{ on := 0, ground := Ground.data }], guard := none }) (v := .slice (some ⟨g1, 0, none⟩) hs.length c1) rfl (by kernel_rfl) (by kernel_rfl) (by kernel_rfl) (fun _ _ _ h => h) (Or.inl ⟨by rfl, ?_⟩) (by assumption) ?_
      · intro wx hSw
        obtain ⟨⟨q0, q1⟩, r0, r1, r2, r3, r4⟩ := hSw; clear hHeld; go_simp
      simp only [Act.put, List.setIfInBounds_toArray, List.set_cons_zero, List.set_cons_succ]
      refine wpAnyH_take (i := 2) (oi := { dst := some 46, op := Op.fieldAddr 56 (Operand.tmp 2) 1, type := 0, pos := "l4_skip.go:231", after := #[], guard := none }) (v := .pointer (some ⟨w.heap.size, 1, none⟩)) rfl (by kernel_rfl) (by kernel_rfl) (by kernel_rfl) (fun _ _ _ h => h) (Or.inl ⟨by rfl, ?_⟩) (by assumption) ?_
      · intro wx hSw
        clear hSw hHeld; go_simp
      simp only [Act.put, List.setIfInBounds_toArray, List.set_cons_zero, List.set_cons_succ]
      refine wpAnyH_take (i := 3) (oi := { dst := some 47, op := Op.load 30 (Operand.tmp 46), type := 30, pos := "l4_skip.go:231", after := #[{ on := 2, ground := Ground.data }], guard := none }) (v := .slice aT ts.length cT) rfl (by kernel_rfl) (by kernel_rfl) (by kernel_rfl) (fun _ _ _ h => h) (Or.inl ⟨by rfl, ?_⟩) (by assumption) ?_
      · intro wx hSw
        obtain ⟨⟨q0, q1⟩, r0, r1, r2, r3, r4⟩ := hSw; clear hHeld; go_simp
      simp only [Act.put, List.setIfInBounds_toArray, List.set_cons_zero, List.set_cons_succ]
      refine wpAnyH_take (i := 4) (oi := { dst := some 48, op := Op.load 49 (Operand.tmp 3), type := 49, pos := "l4_skip.go:231", after := #[], guard := none }) (v := .agg #[.string tk, .int .i64 tn, .int .i64 td, .string tv, .slice (some ⟨go, 0, none⟩) lv co]) rfl (by kernel_rfl) (by kernel_rfl) (by kernel_rfl) (fun _ _ _ h => h) (Or.inl ⟨by rfl, ?_⟩) (by assumption) ?_
      · intro wx hSw
        obtain ⟨⟨q0, q1⟩, r0, r1, r2, r3, r4⟩ := hSw; clear hHeld; go_simp
      simp only [Act.put, List.setIfInBounds_toArray, List.set_cons_zero, List.set_cons_succ]
      refine wpAnyH_ready (rs := [5]) (by kernel_rfl) (by simp) ?_
      refine AllReadyH.cons (o := { dst := some 49, op := Op.buildSlice 30 1 #[(0, Operand.tmp 48)], type := 30, pos := "l4_skip.go:231", after := #[{ on := 4, ground := Ground.data }], guard := none }) rfl (fun K hK => ?_) AllReadyH.nil
      have hzZ := Z.1
      have hA := below_alloc v0 (.cells #[.string tk, .int .i64 tn, .int .i64 td, .string tv, .slice (some ⟨go, 0, none⟩) lv co] 49)
      have NB := Box.new v0 #[.string tk, .int .i64 tn, .int .i64 td, .string tv, .slice (some ⟨go, 0, none⟩) lv co] 49
      replace S := S.below hA
      replace O := owns_below O hA
      replace X := X.below hA
      replace Y := Y.below hA
      replace Z := Z.below hA
      have hzB := hB.size
      replace hB := hB.trans (Chg.of_below hA)
      clear hA
      obtain ⟨_, x0, x1⟩ := X.c2
      obtain ⟨_, y0, y1, y2, y3, y4⟩ := Y.c5
      go_simp
      refine hK.out _ _ ⟨⟨x0, x1⟩, y0, y1, y2, y3, y4⟩ (fun hHeld => ?_)
      clear hK K x0 x1 y0 y1 y2 y3 y4
      try simp only [Act.put, List.setIfInBounds_toArray, List.set_cons_zero, List.set_cons_succ]
      obtain ⟨nb, hnb⟩ : ∃ nb, nb = v0.heap.size := ⟨_, rfl⟩
      rw [← hnb] at NB ⊢
      have hnbw : w.heap.size + 1 + 1 < nb := by omega
      clear hnb
      generalize v0.alloc (.cells #[.string tk, .int .i64 tn, .int .i64 td, .string tv, .slice (some ⟨go, 0, none⟩) lv co] 49) = v1 at *
      refine wpAnyH_ready (rs := [6]) (by kernel_rfl) (by simp) ?_
      refine AllReadyH.cons (o := { dst := some 50, op := Op.call { callee := Callee.builtin Builtin.append, args := #[Operand.tmp 47, Operand.tmp 49], argTypes := #[30, 30] }, type := 30, pos := "l4_skip.go:231", after := #[{ on := 3, ground := Ground.data }, { on := 5, ground := Ground.data }], guard := none }) rfl (fun K hK => ?_) AllReadyH.nil
      rw [if_pos (by rfl)]
      obtain ⟨_, n0, n1, n2, n3, n4⟩ := NB.c5
      have hrows := S.rows
      rw [HT.out] at hrows
      refine wp_append_own_at _ _ 30 (by rfl) base 49 i0 (.agg #[.string ⟨#[]⟩, .int .i64 0, .int .i64 0, .string ⟨#[]⟩, .slice none 0 0]) 5 72 Tryd.underlying30 hi hz0 hz1 hz2 rfl (by decide) (.slice aT ts.length cT) ts.length (flat5 (List.zipWith rowU T (lnkVs T gs cs))) (by rfl) hrows ⟨nb, 0, none⟩ 1 1 (twCells ⟨tk, tn, td, tv, ow⟩ (.slice (some ⟨go, 0, none⟩) lv co)) (by rfl) rfl (by intro j u hj; match j, hj with | 0, hj => simp [twCells] at hj; subst hj; simpa [Addr.add] using n0 | 1, hj => simp [twCells] at hj; subst hj; simpa [Addr.add] using n1 | 2, hj => simp [twCells] at hj; subst hj; simpa [Addr.add] using n2 | 3, hj => simp [twCells] at hj; subst hj; simpa [Addr.add] using n3 | 4, hj => simp [twCells] at hj; subst hj; simpa [Addr.add] using n4 | j + 5, hj => simp [twCells] at hj) (by intro u hu; simp [twCells] at hu; rcases hu with rfl | rfl | rfl | rfl | rfl <;> rfl) (by unfold maxLen; omega) (by omega) (by have := hB.size; omega) ?_
      intro v' v2 hown2 hgr2 hat2
      have cg : Chg (fun b => (Value.slice aT ts.length cT).ownBlock = some b) v1 v2 := ⟨hgr2.os, hgr2.tape, hgr2.output, hgr2.size, fun j hj hs => hgr2.block j hj (fun e => hs e.symm)⟩
      have hgv : go < v1.heap.size := by have := Z.1; omega
      have S2 := S.snoc (vT' := v') ⟨tk, tn, td, tv, ow⟩ go co (by rw [HT.out]; unfold lnkV; dsimp only; rw [HLE.out]; exact hown2) cg (by unfold lnkV; dsimp only; rw [HLE.out]; exact cg.owns O (fun b hb hh => by have e := blk_eq hb; exact HGT.out b hh e)) HG0.out hg1 (by rcases hat2 with e | e; exact .inl e; exact .inr ⟨_, e, Nat.le_refl _⟩) hgv HGT.out
      have hwv : w.heap.size ≤ v1.heap.size := hB.size
      have X2 := cg.box X (fun e => by have := (HL3.out _ e).2; omega)
      have Y2 := cg.box Y (fun e => by have := (HL3.out _ e).2; omega)
      have Z2 := cg.box Z (fun e => by have := (HL3.out _ e).2; omega)
      have hB2 := hB.trans (cg.mono (fun b e => .inr (.inr (.inr e))))
      have HVT : Hid (∀ g, v'.ownBlock = some g → (Value.slice aT ts.length cT).ownBlock = some g ∨ w.heap.size + 1 + 1 < g) := fun g hg' => by
        rcases hat2 with e | e
        · rw [e] at hg'; exact .inl hg'
        · rw [e] at hg'; have e2 : v1.heap.size = g := by simpa using hg'
          have := Z.1; exact .inr (by omega)
      clear cg hown2 hrows S O X Y Z hB NB n0 n1 n2 n3 n4 hgr2 hat2
      obtain ⟨_, x0, x1⟩ := X2.c2
      obtain ⟨_, y0, y1, y2, y3, y4⟩ := Y2.c5
      refine hK.out _ _ ⟨⟨x0, x1⟩, y0, y1, y2, y3, y4⟩ (fun hHeld => ?_)
      clear hK K x0 x1 y0 y1 y2 y3 y4
      try simp only [Act.put, List.setIfInBounds_toArray, List.set_cons_zero, List.set_cons_succ]
      obtain ⟨a', n', c', rfl⟩ : ∃ a n c, v' = .slice a n c := by
        rcases S2.rows.2 with ⟨h, _⟩ | ⟨g, c, cur, h, _⟩
        · exact ⟨_, _, _, h⟩
        · exact ⟨_, _, _, h⟩
      refine wpAnyH_take (i := 7) (oi := { dst := some 51, op := Op.build 56 #[(0, Operand.tmp 45), (1, Operand.tmp 50)], type := 56, pos := "l4_skip.go:231", after := #[{ on := 1, ground := Ground.data }, { on := 6, ground := Ground.data }], guard := none }) (v := .agg #[.slice (some ⟨g1, 0, none⟩) hs.length c1, .slice a' n' c']) rfl (by kernel_rfl) (by kernel_rfl) (by kernel_rfl) (fun _ _ _ h => h) (Or.inl ⟨by rfl, ?_⟩) (by assumption) ?_
      · intro wx hSw
        clear hSw hHeld; go_simp
      simp only [Act.put, List.setIfInBounds_toArray, List.set_cons_zero, List.set_cons_succ]
      refine wpAnyH_ready (rs := [8]) (by kernel_rfl) (by simp) ?_
      refine AllReadyH.cons (o := { dst := none, op := Op.store 56 (Operand.tmp 4) (Operand.tmp 51), type := 0, pos := "l4_skip.go:231", after := #[{ on := 7, ground := Ground.data }, { on := 6, ground := Ground.chain }, { on := 0, ground := Ground.phase }, { on := 1, ground := Ground.phase }, { on := 2, ground := Ground.phase }, { on := 3, ground := Ground.phase }, { on := 4, ground := Ground.phase }, { on := 5, ground := Ground.phase }, { on := 6, ground := Ground.phase }, { on := 7, ground := Ground.phase }], guard := none }) rfl (fun K hK => ?_) AllReadyH.nil
      obtain ⟨hzz, z0, z1⟩ := Z2.c2
      have zf0 := Z2.2.2 0
      have zf1 := Z2.2.2 1
      have cc : Chg (· = w.heap.size + 1 + 1) v2 ((v2.setCell ⟨w.heap.size + 1 + 1, 0, none⟩ (.slice (some ⟨g1, 0, none⟩) hs.length c1)).setCell ⟨w.heap.size + 1 + 1, 1, none⟩ (.slice a' n' c')) := ((Chg.refl (· = w.heap.size + 1 + 1) v2).setCell (p := ⟨w.heap.size + 1 + 1, 0, none⟩) rfl _).setCell (p := ⟨w.heap.size + 1 + 1, 1, none⟩) rfl _
      have X3 := cc.box X2 (by omega)
      have Y3 := cc.box Y2 (by omega)
      have Z3 := (Z2.set 0 (.slice (some ⟨g1, 0, none⟩) hs.length c1) (by simp)).set 1 (.slice a' n' c') (by simp)
      have S3 := S2.chg cc (fun b hb e => (List.mem_append.1 hb).elim (fun x => by have := (HL1.out _ x).2; omega) (fun x => by have := List.mem_singleton.1 x; omega)) (by omega) (fun g hg' e => (HVT.out g hg').elim (fun x => by have := (HL3.out _ x).2; omega) (fun x => by omega))
      have hB3 := hB2.new (cc.mono (fun b (e : b = w.heap.size + 1 + 1) => by show w.heap.size ≤ b; omega))
      obtain ⟨_, x0, x1⟩ := X3.c2
      obtain ⟨_, y0, y1, y2, y3, y4⟩ := Y3.c5
      go_simp
      refine hK.out _ _ ⟨⟨x0, x1⟩, y0, y1, y2, y3, y4⟩ (fun hHeld => ?_)
      clear hK K x0 x1 y0 y1 y2 y3 y4 X3 Y3 X2 Y2 Z2 S2 hB2 cc
      generalize (v2.setCell ⟨w.heap.size + 1 + 1, 0, none⟩ (.slice (some ⟨g1, 0, none⟩) hs.length c1)).setCell ⟨w.heap.size + 1 + 1, 1, none⟩ (.slice a' n' c') = v3 at *
      refine wpAnyH_done (by kernel_rfl) ?_ _
      clear hHeld
      obtain ⟨_, q0, q1⟩ := Z3.c2
      go_wp2
      exact bodyPost_ret (v := .agg #[.slice (some ⟨g1, 0, none⟩) hs.length c1, .slice a' n' c']) (by simp [results, Tryd.results28, go_sem, q0, q1]) rfl ⟨_, rfl, by rw [HP.out, HW.out]; exact S3, HVT.out, hB3⟩
end Go.Proofs.YtcjkdkaahkphfaaDoor
