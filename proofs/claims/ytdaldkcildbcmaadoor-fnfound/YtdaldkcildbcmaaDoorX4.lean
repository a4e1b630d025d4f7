/-
  spec.InsertSkip.
-/
import Derived.Test.YtdaldkcildbcmaaDoorX3
namespace Go.Proofs.YtdaldkcildbcmaaDoor
open Go.RowKit
set_option linter.unusedVariables false
set_option maxRecDepth 100000

theorem okItem_parts {k v : ByteArray} {s d : Int} (h : okItem k s d v = true) : k.size ≤ 16 ∧ 0 ≤ s ∧ s ≤ 1000000000 := by
  unfold okItem okKey okSeq at h
  simp only [Bool.and_eq_true, decide_eq_true_eq] at h
  omega

set_option maxHeartbeats 16000000 in
theorem specInsert_any (x : Value) (ay : Option Addr) (cap : Nat) (hs : List Int) (ts : List Tw) (t : Tw) (w : World) (hx : IL w x hs) (hy : TW w (.slice ay ts.length cap) ts) (m1 : hs.length ≤ 1048576) (hcy : ts.length ≤ cap) (hcm : cap ≤ 9223372036854775807)
    (F3 : ∀ i : Nat, i < ts.length → (tw ts i).next.length ≤ 1048576 ∧ (tw ts i).key.size ≤ 1048576 ∧ (tw ts i).val.size ≤ 1048576) (hk : t.key.size ≤ 1048576) (hv : t.val.size ≤ 1048576) :
    Calls Tryd.prog 13 #[.agg #[x, .slice ay ts.length cap], .agg #[.string t.key, .int .i64 t.seq, .int .i64 t.kind, .string t.val]] w fun e w' => (∃ u1 u2 ok, e = .returned (.tuple #[.agg #[u1, u2], .bool ok]) ∧
      ((ok = true ∧ InsOk hs ts t ∧ ∃ g1 c1 gs cs, u1 = .slice (some ⟨g1, 0, none⟩) hs.length c1 ∧ OwnS w' w.heap.size (insHs hs ts t) (insTs hs ts t) u2 g1 c1 gs cs) ∨ (ok = false ∧ ¬ InsOk hs ts t ∧ u1 = .slice none 0 0 ∧ u2 = .slice none 0 0))) ∧ Below w.heap.size w w' := by
  obtain ⟨ax, cx, hxe, _⟩ := id hx
  subst hxe
  have KG := fun w hx hy => specGoodSkip_any (.slice ax hs.length cx) ay cap hs ts w hx hy hcy hcm m1 F3
  have HI : Hid (InsOk hs ts t ↔ (GoodI hs ts ∧ okItem t.key t.seq t.kind t.val = true ∧ ts.length ≠ 60 ∧ hsB hs ts t = false)) := Iff.rfl
  have KI := fun w => specGood_any t.key t.val t.seq t.kind w hk hv
  have KF : Hid _ := fun w hx hy G => l4First_any (.slice ax hs.length cx) ay cap hs ts t w hx hy G
  have KW : Hid _ := fun aT cT g1 c1 base gs cs w h G h1 h2 h3 hbase => l4Insert_any hs ts t aT cT g1 c1 base gs cs w h G h1 h2 h3 hbase
  have HOK : Hid (okItem t.key t.seq t.kind t.val = true → t.key.size ≤ 16 ∧ 0 ≤ t.seq ∧ t.seq ≤ 1000000000) := okItem_parts
  have HB : Hid (hsB hs ts t = (decide (skN hs ts t ≠ -1) && decide (cT (tw ts (skN hs ts t)) t = 0))) := rfl
  have HCT : Hid (∀ o : Tw, cT o t = cIt o.key t.key o.seq t.seq) := fun o => rfl
  have KC : Hid _ := fun (o : Tw) w => l4Compare_any o.key o.val t.key t.val o.seq o.kind t.seq t.kind w
  have HSK : Hid (GoodI hs ts → skN hs ts t = -1 ∨ okAt ts 0 (skN hs ts t)) := fun G => by
    have := good_step G (show 0 < 5 by omega) (SkS_ok G t 5 (by omega) 0 (by omega))
    rcases this with h | h
    · exact .inl h
    · exact .inr h.1
  generalize InsOk hs ts t = IOK at *
  generalize insHs hs ts t = IH at *
  generalize insTs hs ts t = ITS at *
  generalize okItem t.key t.seq t.kind t.val = oki at *
  generalize hsB hs ts t = hasb at *
  generalize skN hs ts t = sk at *
  generalize (SkS hs ts t 5).2 = M at *
  obtain ⟨k, s, d, v, tnx⟩ := t
  dsimp only at *
  have HF3 : Hid _ := F3
  clear F3
  have hb0 := below3 w (.cells #[.slice ax hs.length cx, .slice ay ts.length cap] 26) (.cells #[.string k, .int .i64 s, .int .i64 d, .string v] 28) (.cells #[.slice none 0 0, .slice none 0 0] 26)
  have X0 := ((Box.new w #[.slice ax hs.length cx, .slice ay ts.length cap] 26).alloc (.cells #[.string k, .int .i64 s, .int .i64 d, .string v] 28)).alloc (.cells #[.slice none 0 0, .slice none 0 0] 26)
  have Y0 := (Box.new (w.alloc (.cells #[.slice ax hs.length cx, .slice ay ts.length cap] 26)) #[.string k, .int .i64 s, .int .i64 d, .string v] 28).alloc (.cells #[.slice none 0 0, .slice none 0 0] 26)
  have Z0 := Box.new ((w.alloc (.cells #[.slice ax hs.length cx, .slice ay ts.length cap] 26)).alloc (.cells #[.string k, .int .i64 s, .int .i64 d, .string v] 28)) #[.slice none 0 0, .slice none 0 0] 26
  simp only [World.size_alloc] at Y0 Z0
  go_enter Tryd.func13, Tryd.ntmps13
  go_wp2_with fail
  refine (KG _ (hx.below hb0) (hy.below hb0)).mono ?_
  rintro e w1 ⟨⟨gb, rfl, hgb⟩, hb1⟩
  have hB := below_then hb0 hb1
  have X := X0.below hb1
  have Y := Y0.below hb1
  have Z := Z0.below hb1
  clear hb0 hb1 X0 Y0 Z0 KG
  obtain ⟨_, x0, x1⟩ := X.c2
  obtain ⟨_, y0, y1, y2, y3⟩ := Y.c4
  obtain ⟨zl, z0, z1⟩ := Z.c2
  have zf0 := Z.2.2 0
  have zf1 := Z.2.2 1
  have HGB : Hid (gb = true ↔ GoodI hs ts) := hgb.trans (good_same hs ts).symm
  clear hgb
  cases gb with
  | false =>
    have HN : Hid (¬ IOK) := fun h => by have := HGB.out.2 (HI.out.1 h).1; cases this
    go_wp2
    exact bodyPost_ret (v := .tuple #[.agg #[.slice none 0 0, .slice none 0 0], .bool false]) (by simp [results, Tryd.results13, go_sem, z0, z1]) rfl ⟨⟨_, _, _, rfl, .inr ⟨rfl, HN.out, rfl, rfl⟩⟩, (hB.setCell (by show w.heap.size ≤ w.heap.size + 1 + 1; omega) _).setCell (by show w.heap.size ≤ w.heap.size + 1 + 1; omega) _⟩
  | true =>
    have HG : Hid (GoodI hs ts) := HGB.out.1 rfl
    clear HGB
    go_wp2_with fail
    refine (KI _).mono ?_
    rintro e w2 ⟨rfl, hb2⟩
    replace hB := below_then hB hb2
    replace X := X.below hb2
    replace Y := Y.below hb2
    replace Z := Z.below hb2
    clear hb2 KI x0 x1 y0 y1 y2 y3 z0 z1 zf0 zf1 zl
    obtain ⟨_, x0, x1⟩ := X.c2
    obtain ⟨_, y0, y1, y2, y3⟩ := Y.c4
    obtain ⟨zl, z0, z1⟩ := Z.c2
    have zf0 := Z.2.2 0
    have zf1 := Z.2.2 1
    cases oki with
    | false =>
      have HN : Hid (¬ IOK) := fun h => by have := (HI.out.1 h).2.1; cases this
      go_wp2
      exact bodyPost_ret (v := .tuple #[.agg #[.slice none 0 0, .slice none 0 0], .bool false]) (by simp [results, Tryd.results13, go_sem, z0, z1]) rfl ⟨⟨_, _, _, rfl, .inr ⟨rfl, HN.out, rfl, rfl⟩⟩, (hB.setCell (by show w.heap.size ≤ w.heap.size + 1 + 1; omega) _).setCell (by show w.heap.size ≤ w.heap.size + 1 + 1; omega) _⟩
    | true =>
      by_cases h60 : ts.length = 60
      · have HN : Hid (¬ IOK) := fun h => (HI.out.1 h).2.2.1 h60
        have h60' : ((ts.length : Int) == 60) = true := by simp; omega
        have H60 : Hid (ts.length = 60) := h60
        clear h60
        go_wp2
        exact bodyPost_ret (v := .tuple #[.agg #[.slice none 0 0, .slice none 0 0], .bool false]) (by simp [results, Tryd.results13, go_sem, z0, z1]) rfl ⟨⟨_, _, _, rfl, .inr ⟨rfl, HN.out, rfl, rfl⟩⟩, (hB.setCell (by show w.heap.size ≤ w.heap.size + 1 + 1; omega) _).setCell (by show w.heap.size ≤ w.heap.size + 1 + 1; omega) _⟩
      · have h60' : ((ts.length : Int) == 60) = false := by simp; omega
        have H60 : Hid (ts.length ≠ 60) := h60
        clear h60
        obtain ⟨hk16, hs0, hs1⟩ := HOK.out rfl
        clear HOK
        go_wp2_with fail
        refine (KF.out _ (hx.below hB) (hy.below hB) HG.out).mono ?_
        rintro e w3 ⟨rfl, hb3⟩
        replace hB := below_then hB hb3
        replace X := X.below hb3
        replace Y := Y.below hb3
        replace Z := Z.below hb3
        clear hb3 x0 x1 y0 y1 y2 y3 z0 z1 zf0 zf1 zl KF
        have hsk := HSK.out HG.out
        clear HSK
        go_wp2_with fail
        have hne : Nonempty (WC w3.heap.size w3) := ⟨⟨_, Below.refl _ _⟩⟩
        have px := fun x : WC w3.heap.size w3 => (X.below x.ok).2.1 1 _ rfl
        have py0 := fun x : WC w3.heap.size w3 => (Y.below x.ok).2.1 0 _ rfl
        have py1 := fun x : WC w3.heap.size w3 => (Y.below x.ok).2.1 1 _ rfl
        have py2 := fun x : WC w3.heap.size w3 => (Y.below x.ok).2.1 2 _ rfl
        have py3 := fun x : WC w3.heap.size w3 => (Y.below x.ok).2.1 3 _ rfl
        rcases hsk with hm | ⟨q0, q1, q2⟩
        · subst hm
          obtain rfl : hasb = false := by rw [HB.out]; rfl
          clear HB
          have hd : decide ((-1 : Int) ≥ 0) = false := by decide
          have hd2 : decide ((0 : Int) ≤ -1) = false := by decide
          refine wp_region_calm (B := w3.heap.size) (W := w3) (by kernel_rfl) (by kernel_rfl) (Below.refl _ _) ?_
          repeat (go_big_quiet_step (fail))
          refine wpQuiet_nil ?_
          intro _ hw'
          obtain ⟨x, hxx⟩ := hw'
          subst hxx
          have hb := x.ok
          clear px py0 py1 py2 py3 hne
          generalize x.w = v0 at *
          clear x
          replace hB := below_then hB hb
          replace X := X.below hb
          replace Y := Y.below hb
          replace Z := Z.below hb
          clear hb hd hd2
          have HY : Hid IOK := HI.out.2 ⟨HG.out, by first | rfl | trivial, H60.out, by first | rfl | trivial⟩
          go_wp2_with fail
          have hD : Below v0.heap.size v0 v0.drew := (Below.refl _ _).drew
          replace hB := below_then hB hD
          replace X := X.below hD
          replace Y := Y.below hD
          replace Z := Z.below hD
          clear hD
          have j1 := hx.below hB
          have j2 := hy.below hB
          obtain ⟨_, x0, x1⟩ := X.c2
          obtain ⟨_, y0, y1, y2, y3⟩ := Y.c4
          refine wp_region_held_drew (S := fun wx => (wx.cell? ⟨w.heap.size, 0, none⟩ = some (.slice ax hs.length cx) ∧ wx.cell? ⟨w.heap.size, 1, none⟩ = some (.slice ay ts.length cap)) ∧ wx.cell? ⟨w.heap.size + 1, 0, none⟩ = some (.string k) ∧ wx.cell? ⟨w.heap.size + 1, 1, none⟩ = some (.int .i64 s) ∧ wx.cell? ⟨w.heap.size + 1, 2, none⟩ = some (.int .i64 d) ∧ wx.cell? ⟨w.heap.size + 1, 3, none⟩ = some (.string v)) (by kernel_rfl) ⟨⟨x0, x1⟩, y0, y1, y2, y3⟩ (fun hHeld => ?_)
          generalize v0.drew = v1 at *
          clear x0 x1 y0 y1 y2 y3
          refine wpAnyH_take (i := 0) (oi := { dst := some 43, op := Op.load 26 (Operand.tmp 2), type := 26, pos := "l4_skip.go:165", after := #[], guard := none }) (v := .agg #[.slice ax hs.length cx, .slice ay ts.length cap]) rfl (by kernel_rfl) (by kernel_rfl) (by kernel_rfl) (fun _ _ _ h => h) (Or.inl ⟨by rfl, ?_⟩) (by assumption) ?_
          · intro wx hSw
            obtain ⟨⟨r0, r1⟩, s0, s1, s2, s3⟩ := hSw; clear hHeld; go_simp
          simp only [Act.put, List.setIfInBounds_toArray, List.set_cons_zero, List.set_cons_succ]
          refine wpAnyH_take (i := 2) (oi := { dst := some 45, op := Op.load 28 (Operand.tmp 3), type := 28, pos := "l4_skip.go:165", after := #[], guard := none }) (v := .agg #[.string k, .int .i64 s, .int .i64 d, .string v]) rfl (by kernel_rfl) (by kernel_rfl) (by kernel_rfl) (fun _ _ _ h => h) (Or.inl ⟨by rfl, ?_⟩) (by assumption) ?_
          · intro wx hSw
            obtain ⟨⟨r0, r1⟩, s0, s1, s2, s3⟩ := hSw; clear hHeld; go_simp
          simp only [Act.put, List.setIfInBounds_toArray, List.set_cons_zero, List.set_cons_succ]
          refine wpAnyH_ready (rs := [1]) (by kernel_rfl) (by simp) ?_
          refine AllReadyH.cons (o := { dst := some 44, op := Op.call { callee := Callee.value (Operand.func 47), args := #[Operand.tmp 43], argTypes := #[26] }, type := 26, pos := "l4_skip.go:165", after := #[{ on := 0, ground := Ground.data }], guard := none }) rfl (fun K hK => ?_) AllReadyH.nil
          clear hHeld
          go_simp
          refine (l4Own_any (.slice ax hs.length cx) ay cap hs ts v1 j1 j2 (by have := HG.out.1; omega) m1 (by have := HG.out.2.1; omega) (fun i hi => by have h1 := okTw_high (HG.out.2.2.1 _ (List.getElem_mem hi)); have h2 := high_le (HG.out.2.2.1 _ (List.getElem_mem hi)); exact ⟨h1, by omega⟩)).mono ?_
          rintro e w5 ⟨⟨vT, g1, c1, gs, cs, rfl, OS⟩, hb5⟩
          have hv0 := hB.size
          obtain ⟨l1, l2, l3⟩ := OS.lt
          have hzl5 := Z.1
          replace hB := below_then hB hb5
          replace X := X.below hb5
          replace Y := Y.below hb5
          replace Z := Z.below hb5
          have hs5 := hb5.size
          clear hb5 j1 j2
          obtain ⟨aT, cT, rfl⟩ := slice_of OS.rows
          obtain ⟨_, x0, x1⟩ := X.c2
          obtain ⟨_, y0, y1, y2, y3⟩ := Y.c4
          refine hK.out _ _ ⟨⟨x0, x1⟩, y0, y1, y2, y3⟩ (fun hHeld => ?_)
          clear hK K x0 x1 y0 y1 y2 y3
          try simp only [Act.put, List.setIfInBounds_toArray, List.set_cons_zero, List.set_cons_succ]
          refine wpAnyH_ready (rs := [3]) (by kernel_rfl) (by simp) ?_
          refine AllReadyH.cons (o := { dst := some 46, op := Op.call { callee := Callee.value (Operand.func 46), args := #[Operand.tmp 44, Operand.tmp 45], argTypes := #[26, 28] }, type := 26, pos := "l4_skip.go:165", after := #[{ on := 1, ground := Ground.data }, { on := 2, ground := Ground.data }, { on := 1, ground := Ground.chain }], guard := none }) rfl (fun K hK => ?_) AllReadyH.nil
          clear hHeld
          go_simp
          refine (KW.out aT cT g1 c1 (v1.heap.size + 1 + 1) gs cs _ OS HG.out hk16 hs0 hs1 (by have := l2.2; have := l2.1; omega)).mono ?_
          rintro e w6 ⟨vT', gs', cs', rfl, S6, hc6⟩
          have hSS : ∀ g, (g = g1 ∨ g ∈ gs ∨ (Value.slice aT ts.length cT).ownBlock = some g) → v1.heap.size ≤ g := fun g hg => hg.elim (fun e => by have := l2.1; omega) (fun h => h.elim (fun e => by have := (l1 _ e).1; omega) (fun e => by have := (l3 _ e).1; omega))
          have hB6 := hB.trans (hc6.below (B := w.heap.size) hB.size (fun g hg => by have := hSS g hg; omega))
          replace X := hc6.box X (fun hg => by have := hSS _ hg; omega)
          replace Y := hc6.box Y (fun hg => by have := hSS _ hg; omega)
          replace Z := hc6.box Z (fun hg => by have := hSS _ hg; omega)
          clear hc6 hSS OS
          obtain ⟨_, x0, x1⟩ := X.c2
          obtain ⟨_, y0, y1, y2, y3⟩ := Y.c4
          refine hK.out _ _ ⟨⟨x0, x1⟩, y0, y1, y2, y3⟩ (fun hHeld => ?_)
          clear hK K x0 x1 y0 y1 y2 y3
          try simp only [Act.put, List.setIfInBounds_toArray, List.set_cons_zero, List.set_cons_succ]
          obtain ⟨m1', m2', m3'⟩ := S6.lt
          obtain ⟨a', c', hve⟩ := slice_of S6.rows
          have hm3 : Hid _ := m3'
          have hm1 : Hid _ := m1'
          rw [hve]
          rw [hve] at S6 hm3
          clear hve m3' m1'
          generalize ITS.length = nI at *
          refine wpAnyH_ready (rs := [4]) (by kernel_rfl) (by simp) ?_
          refine AllReadyH.cons (o := { dst := none, op := Op.store 26 (Operand.tmp 4) (Operand.tmp 46), type := 0, pos := "l4_skip.go:165", after := #[{ on := 3, ground := Ground.data }, { on := 3, ground := Ground.chain }, { on := 0, ground := Ground.phase }, { on := 1, ground := Ground.phase }, { on := 2, ground := Ground.phase }, { on := 3, ground := Ground.phase }], guard := none }) rfl (fun K hK => ?_) AllReadyH.nil
          clear hHeld
          have cc : Chg (· = w.heap.size + 1 + 1) w6 ((w6.setCell ⟨w.heap.size + 1 + 1, 0, none⟩ (.slice (some ⟨g1, 0, none⟩) hs.length c1)).setCell ⟨w.heap.size + 1 + 1, 1, none⟩ (.slice a' nI c')) := ((Chg.refl (· = w.heap.size + 1 + 1) w6).setCell (p := ⟨w.heap.size + 1 + 1, 0, none⟩) rfl _).setCell (p := ⟨w.heap.size + 1 + 1, 1, none⟩) rfl _
          obtain ⟨zl, z0, z1⟩ := Z.c2
          have zf0 := Z.2.2 0
          have zf1 := Z.2.2 1
          have Z7 := (Z.set 0 (.slice (some ⟨g1, 0, none⟩) hs.length c1) (by simp)).set 1 (.slice a' nI c') (by simp)
          have X7 := cc.box X (by omega)
          have Y7 := cc.box Y (by omega)
          have hB7 := hB6.trans (cc.below (B := w.heap.size) (by have := hB6.size; omega) (fun g e => by omega))
          have S7 := (S6.chg cc (fun g hg e => by have := (hm1.out g hg).1; omega) (by omega) (fun g hg e => by have := (hm3.out g hg).1; omega)).lower (base' := w.heap.size) (by omega)
          obtain ⟨_, x0, x1⟩ := X7.c2
          obtain ⟨_, y0, y1, y2, y3⟩ := Y7.c4
          go_simp
          refine hK.out _ _ ⟨⟨x0, x1⟩, y0, y1, y2, y3⟩ (fun hHeld => ?_)
          clear hK K x0 x1 y0 y1 y2 y3 X Y Z X7 Y7 S6 hB6 cc z0 z1 zf0 zf1 zl
          generalize (w6.setCell ⟨w.heap.size + 1 + 1, 0, none⟩ (.slice (some ⟨g1, 0, none⟩) hs.length c1)).setCell ⟨w.heap.size + 1 + 1, 1, none⟩ (.slice a' nI c') = v8 at *
          refine wpAnyH_take (i := 5) (oi := { dst := some 5, op := Op.assign (Operand.const (Value.bool true)), type := 4, pos := "l4_skip.go:165", after := #[{ on := 4, ground := Ground.chain }, { on := 0, ground := Ground.phase }, { on := 1, ground := Ground.phase }, { on := 2, ground := Ground.phase }, { on := 3, ground := Ground.phase }, { on := 4, ground := Ground.phase }], guard := none }) (v := .bool true) rfl (by kernel_rfl) (by kernel_rfl) (by kernel_rfl) (fun _ _ _ h => h) (Or.inl ⟨by rfl, ?_⟩) (by assumption) ?_
          · intro wx hSw
            clear hSw hHeld; go_simp
          simp only [Act.put, List.setIfInBounds_toArray, List.set_cons_zero, List.set_cons_succ]
          refine wpAnyH_done (by kernel_rfl) ?_ _
          clear hHeld
          obtain ⟨_, z0, z1⟩ := Z7.c2
          go_wp2
          exact bodyPost_ret (v := .tuple #[.agg #[.slice (some ⟨g1, 0, none⟩) hs.length c1, .slice a' nI c'], .bool true]) (by simp [results, Tryd.results13, go_sem, z0, z1]) rfl ⟨⟨_, _, _, rfl, .inl ⟨rfl, HY.out, g1, c1, _, _, rfl, S7⟩⟩, hB7⟩
        · obtain ⟨i, rfl⟩ := Int.eq_ofNat_of_zero_le q0
          have hit : i < ts.length := by omega
          obtain ⟨b, off, rfl⟩ : ∃ b off, ay = some ⟨b, off, none⟩ := by
            obtain ⟨b', off', cap', u, hve, _⟩ := hy.cells i hit
            simp only [Value.slice.injEq] at hve
            exact ⟨b', off', hve.1⟩
          obtain ⟨b', off', cap', u, hve, hbl, ⟨c0, c1, c2, c3, c4⟩, hu⟩ := hy.cells i hit
          simp only [Value.slice.injEq, Option.some.injEq, Addr.mk.injEq, and_true, true_and] at hve
          obtain ⟨⟨rfl, rfl⟩, rfl⟩ := hve
          have HB2 : Hid (hasb = decide (cIt (tw ts (i : Int)).key k (tw ts (i : Int)).seq s = 0)) := by show _ = _; rw [HB.out, HCT.out, show decide ((i : Int) ≠ -1) = true from decide_eq_true (by omega)]; rfl
          have KC2 := KC.out (tw ts (i : Int))
          clear HB HCT KC hu c4
          generalize tw ts (i : Int) = o at *
          obtain ⟨ok, os, od, ov, ox⟩ := o
          dsimp only at c0 c1 c2 c3 KC2 HB2
          have pc0 := fun x : WC w3.heap.size w3 => ((below_then hB x.ok).cell (p := ⟨b, off + i * 5, none⟩) hbl).trans c0
          have pc1 := fun x : WC w3.heap.size w3 => ((below_then hB x.ok).cell (p := ⟨b, off + i * 5 + 1, none⟩) hbl).trans c1
          have pc2 := fun x : WC w3.heap.size w3 => ((below_then hB x.ok).cell (p := ⟨b, off + i * 5 + 2, none⟩) hbl).trans c2
          have pc3 := fun x : WC w3.heap.size w3 => ((below_then hB x.ok).cell (p := ⟨b, off + i * 5 + 3, none⟩) hbl).trans c3
          have KCW := fun x : WC w3.heap.size w3 => KC2 x.w
          have hd : decide ((i : Int) ≥ 0) = true := by simp
          have hd2 : decide ((0 : Int) ≤ (i : Int)) = true := by simp
          have hii : (i : Int) < (ts.length : Int) := by omega
          generalize cIt ok k os s = cc0 at *
          clear c0 c1 c2 c3 KC2
          obtain ⟨cb, hcb⟩ : ∃ cb, (cc0 == (0 : Int)) = cb := ⟨_, rfl⟩
          have HB3 : Hid (hasb = cb) := by show _ = _; rw [HB2.out, ← hcb]; rfl
          clear HB2
          refine wp_region_calm (B := w3.heap.size) (W := w3) (by kernel_rfl) (by kernel_rfl) (Below.refl _ _) ?_
          repeat (go_big_quiet_step (first | (go_at_call 45; exact calm_of_below (Nat.le_refl _) (KCW _))))
          refine wpQuiet_nil ?_
          intro _ hw'
          obtain ⟨x, hxx⟩ := hw'
          subst hxx
          have hb := x.ok
          clear px py0 py1 py2 py3 pc0 pc1 pc2 pc3 KCW hne
          generalize x.w = v0 at *
          clear x
          replace hB := below_then hB hb
          replace X := X.below hb
          replace Y := Y.below hb
          replace Z := Z.below hb
          clear hb hd hd2 hcb hii
          have HBE := HB3.out
          clear HB3
          cases cb with
          | true =>
            subst HBE
            have HN : Hid (¬ IOK) := fun h => by have := (HI.out.1 h).2.2.2; cases this
            obtain ⟨zl, z0, z1⟩ := Z.c2
            have zf0 := Z.2.2 0
            have zf1 := Z.2.2 1
            go_wp2
            exact bodyPost_ret (v := .tuple #[.agg #[.slice none 0 0, .slice none 0 0], .bool false]) (by simp [results, Tryd.results13, go_sem, z0, z1]) rfl ⟨⟨_, _, .inl ⟨rfl, HN.out, rfl, rfl⟩⟩, (hB.setCell (by show w.heap.size ≤ w.heap.size + 1 + 1; omega) _).setCell (by show w.heap.size ≤ w.heap.size + 1 + 1; omega) _⟩
          | false =>
            subst HBE
            have HY : Hid IOK := HI.out.2 ⟨HG.out, by first | rfl | trivial, H60.out, by first | rfl | trivial⟩
            go_wp2_with fail
            have hD : Below v0.heap.size v0 v0.drew := (Below.refl _ _).drew
            replace hB := below_then hB hD
            replace X := X.below hD
            replace Y := Y.below hD
            replace Z := Z.below hD
            clear hD
            have j1 := hx.below hB
            have j2 := hy.below hB
            obtain ⟨_, x0, x1⟩ := X.c2
            obtain ⟨_, y0, y1, y2, y3⟩ := Y.c4
            refine wp_region_held_drew (S := fun wx => (wx.cell? ⟨w.heap.size, 0, none⟩ = some (.slice ax hs.length cx) ∧ wx.cell? ⟨w.heap.size, 1, none⟩ = some (.slice (some ⟨b, off, none⟩) ts.length cap)) ∧ wx.cell? ⟨w.heap.size + 1, 0, none⟩ = some (.string k) ∧ wx.cell? ⟨w.heap.size + 1, 1, none⟩ = some (.int .i64 s) ∧ wx.cell? ⟨w.heap.size + 1, 2, none⟩ = some (.int .i64 d) ∧ wx.cell? ⟨w.heap.size + 1, 3, none⟩ = some (.string v)) (by kernel_rfl) ⟨⟨x0, x1⟩, y0, y1, y2, y3⟩ (fun hHeld => ?_)
            generalize v0.drew = v1 at *
            clear x0 x1 y0 y1 y2 y3
            refine wpAnyH_take (i := 0) (oi := { dst := some 43, op := Op.load 26 (Operand.tmp 2), type := 26, pos := "l4_skip.go:165", after := #[], guard := none }) (v := .agg #[.slice ax hs.length cx, .slice (some ⟨b, off, none⟩) ts.length cap]) rfl (by kernel_rfl) (by kernel_rfl) (by kernel_rfl) (fun _ _ _ h => h) (Or.inl ⟨by rfl, ?_⟩) (by assumption) ?_
            · intro wx hSw
              obtain ⟨⟨r0, r1⟩, s0, s1, s2, s3⟩ := hSw; clear hHeld; go_simp
            simp only [Act.put, List.setIfInBounds_toArray, List.set_cons_zero, List.set_cons_succ]
            refine wpAnyH_take (i := 2) (oi := { dst := some 45, op := Op.load 28 (Operand.tmp 3), type := 28, pos := "l4_skip.go:165", after := #[], guard := none }) (v := .agg #[.string k, .int .i64 s, .int .i64 d, .string v]) rfl (by kernel_rfl) (by kernel_rfl) (by kernel_rfl) (fun _ _ _ h => h) (Or.inl ⟨by rfl, ?_⟩) (by assumption) ?_
            · intro wx hSw
              obtain ⟨⟨r0, r1⟩, s0, s1, s2, s3⟩ := hSw; clear hHeld; go_simp
            simp only [Act.put, List.setIfInBounds_toArray, List.set_cons_zero, List.set_cons_succ]
            refine wpAnyH_ready (rs := [1]) (by kernel_rfl) (by simp) ?_
            refine AllReadyH.cons (o := { dst := some 44, op := Op.call { callee := Callee.value (Operand.func 47), args := #[Operand.tmp 43], argTypes := #[26] }, type := 26, pos := "l4_skip.go:165", after := #[{ on := 0, ground := Ground.data }], guard := none }) rfl (fun K hK => ?_) AllReadyH.nil
            clear hHeld
            go_simp
            refine (l4Own_any (.slice ax hs.length cx) (some ⟨b, off, none⟩) cap hs ts v1 j1 j2 (by have := HG.out.1; omega) m1 (by have := HG.out.2.1; omega) (fun i hi => by have h1 := okTw_high (HG.out.2.2.1 _ (List.getElem_mem hi)); have h2 := high_le (HG.out.2.2.1 _ (List.getElem_mem hi)); exact ⟨h1, by omega⟩)).mono ?_
            rintro e w5 ⟨⟨vT, g1, c1, gs, cs, rfl, OS⟩, hb5⟩
            have hv0 := hB.size
            obtain ⟨l1, l2, l3⟩ := OS.lt
            have hzl5 := Z.1
            replace hB := below_then hB hb5
            replace X := X.below hb5
            replace Y := Y.below hb5
            replace Z := Z.below hb5
            have hs5 := hb5.size
            clear hb5 j1 j2
            obtain ⟨aT, cT, rfl⟩ := slice_of OS.rows
            obtain ⟨_, x0, x1⟩ := X.c2
            obtain ⟨_, y0, y1, y2, y3⟩ := Y.c4
            refine hK.out _ _ ⟨⟨x0, x1⟩, y0, y1, y2, y3⟩ (fun hHeld => ?_)
            clear hK K x0 x1 y0 y1 y2 y3
            try simp only [Act.put, List.setIfInBounds_toArray, List.set_cons_zero, List.set_cons_succ]
            refine wpAnyH_ready (rs := [3]) (by kernel_rfl) (by simp) ?_
            refine AllReadyH.cons (o := { dst := some 46, op := Op.call { callee := Callee.value (Operand.func 46), args := #[Operand.tmp 44, Operand.tmp 45], argTypes := #[26, 28] }, type := 26, pos := "l4_skip.go:165", after := #[{ on := 1, ground := Ground.data }, { on := 2, ground := Ground.data }, { on := 1, ground := Ground.chain }], guard := none }) rfl (fun K hK => ?_) AllReadyH.nil
            clear hHeld
            go_simp
            refine (KW.out aT cT g1 c1 (v1.heap.size + 1 + 1) gs cs _ OS HG.out hk16 hs0 hs1 (by have := l2.2; have := l2.1; omega)).mono ?_
            rintro e w6 ⟨vT', gs', cs', rfl, S6, hc6⟩
            have hSS : ∀ g, (g = g1 ∨ g ∈ gs ∨ (Value.slice aT ts.length cT).ownBlock = some g) → v1.heap.size ≤ g := fun g hg => hg.elim (fun e => by have := l2.1; omega) (fun h => h.elim (fun e => by have := (l1 _ e).1; omega) (fun e => by have := (l3 _ e).1; omega))
            have hB6 := hB.trans (hc6.below (B := w.heap.size) hB.size (fun g hg => by have := hSS g hg; omega))
            replace X := hc6.box X (fun hg => by have := hSS _ hg; omega)
            replace Y := hc6.box Y (fun hg => by have := hSS _ hg; omega)
            replace Z := hc6.box Z (fun hg => by have := hSS _ hg; omega)
            clear hc6 hSS OS
            obtain ⟨_, x0, x1⟩ := X.c2
            obtain ⟨_, y0, y1, y2, y3⟩ := Y.c4
            refine hK.out _ _ ⟨⟨x0, x1⟩, y0, y1, y2, y3⟩ (fun hHeld => ?_)
            clear hK K x0 x1 y0 y1 y2 y3
            try simp only [Act.put, List.setIfInBounds_toArray, List.set_cons_zero, List.set_cons_succ]
            obtain ⟨m1', m2', m3'⟩ := S6.lt
            obtain ⟨a', c', hve⟩ := slice_of S6.rows
            have hm3 : Hid _ := m3'
            have hm1 : Hid _ := m1'
            rw [hve]
            rw [hve] at S6 hm3
            clear hve m3' m1'
            generalize ITS.length = nI at *
            refine wpAnyH_ready (rs := [4]) (by kernel_rfl) (by simp) ?_
            refine AllReadyH.cons (o := { dst := none, op := Op.store 26 (Operand.tmp 4) (Operand.tmp 46), type := 0, pos := "l4_skip.go:165", after := #[{ on := 3, ground := Ground.data }, { on := 3, ground := Ground.chain }, { on := 0, ground := Ground.phase }, { on := 1, ground := Ground.phase }, { on := 2, ground := Ground.phase }, { on := 3, ground := Ground.phase }], guard := none }) rfl (fun K hK => ?_) AllReadyH.nil
            clear hHeld
            have cc : Chg (· = w.heap.size + 1 + 1) w6 ((w6.setCell ⟨w.heap.size + 1 + 1, 0, none⟩ (.slice (some ⟨g1, 0, none⟩) hs.length c1)).setCell ⟨w.heap.size + 1 + 1, 1, none⟩ (.slice a' nI c')) := ((Chg.refl (· = w.heap.size + 1 + 1) w6).setCell (p := ⟨w.heap.size + 1 + 1, 0, none⟩) rfl _).setCell (p := ⟨w.heap.size + 1 + 1, 1, none⟩) rfl _
            obtain ⟨zl, z0, z1⟩ := Z.c2
            have zf0 := Z.2.2 0
            have zf1 := Z.2.2 1
            have Z7 := (Z.set 0 (.slice (some ⟨g1, 0, none⟩) hs.length c1) (by simp)).set 1 (.slice a' nI c') (by simp)
            have X7 := cc.box X (by omega)
            have Y7 := cc.box Y (by omega)
            have hB7 := hB6.trans (cc.below (B := w.heap.size) (by have := hB6.size; omega) (fun g e => by omega))
            have S7 := (S6.chg cc (fun g hg e => by have := (hm1.out g hg).1; omega) (by omega) (fun g hg e => by have := (hm3.out g hg).1; omega)).lower (base' := w.heap.size) (by omega)
            obtain ⟨_, x0, x1⟩ := X7.c2
            obtain ⟨_, y0, y1, y2, y3⟩ := Y7.c4
            go_simp
            refine hK.out _ _ ⟨⟨x0, x1⟩, y0, y1, y2, y3⟩ (fun hHeld => ?_)
            clear hK K x0 x1 y0 y1 y2 y3 X Y Z X7 Y7 S6 hB6 cc z0 z1 zf0 zf1 zl
            generalize (w6.setCell ⟨w.heap.size + 1 + 1, 0, none⟩ (.slice (some ⟨g1, 0, none⟩) hs.length c1)).setCell ⟨w.heap.size + 1 + 1, 1, none⟩ (.slice a' nI c') = v8 at *
            refine wpAnyH_take (i := 5) (oi := { dst := some 5, op := Op.assign (Operand.const (Value.bool true)), type := 4, pos := "l4_skip.go:165", after := #[{ on := 4, ground := Ground.chain }, { on := 0, ground := Ground.phase }, { on := 1, ground := Ground.phase }, { on := 2, ground := Ground.phase }, { on := 3, ground := Ground.phase }, { on := 4, ground := Ground.phase }], guard := none }) (v := .bool true) rfl (by kernel_rfl) (by kernel_rfl) (by kernel_rfl) (fun _ _ _ h => h) (Or.inl ⟨by rfl, ?_⟩) (by assumption) ?_
            · intro wx hSw
              clear hSw hHeld; go_simp
            simp only [Act.put, List.setIfInBounds_toArray, List.set_cons_zero, List.set_cons_succ]
            refine wpAnyH_done (by kernel_rfl) ?_ _
            clear hHeld
            obtain ⟨_, z0, z1⟩ := Z7.c2
            go_wp2
            exact bodyPost_ret (v := .tuple #[.agg #[.slice (some ⟨g1, 0, none⟩) hs.length c1, .slice a' nI c'], .bool true]) (by simp [results, Tryd.results13, go_sem, z0, z1]) rfl ⟨⟨_, _, _, rfl, .inl ⟨rfl, HY.out, g1, c1, _, _, rfl, S7⟩⟩, hB7⟩
end Go.Proofs.YtdaldkcildbcmaaDoor
