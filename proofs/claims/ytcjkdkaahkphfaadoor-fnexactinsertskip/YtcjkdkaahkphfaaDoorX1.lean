/-
  impl.InsertSkip.
-/
import Derived.Test.YtcjkdkaahkphfaaDoorW2
import Derived.Test.YtcjkdkaahkphfaaDoorJ4ToP1
import Derived.Deep.OwnRows
namespace Go.Proofs.YtcjkdkaahkphfaaDoor
open Go.RowKit
set_option linter.unusedVariables false
set_option maxRecDepth 100000

/-- A row of noughts that was just made. -/
theorem own_new (w : World) (n : Nat) (h : n ≤ maxLen) : (w.alloc (.cells (madeCells #[.int .i64 0] n) 3)).ownsRow w.heap.size 3 1 (.slice (some ⟨w.heap.size, 0, none⟩) n n) n ((List.replicate n 0).map (.int .i64)) := by
  have hp : ∀ o : Obj, (w.alloc o).heap[w.heap.size]? = some o := fun o => by unfold World.alloc; simp
  have hz := zerosZ n
  rw [Nat.mul_one] at hz
  have hsz := size_madeCells #[.int .i64 0] n
  refine ⟨by rw [List.length_map, List.length_replicate, Nat.mul_one], .inr ⟨w.heap.size, n, madeCells #[.int .i64 0] n, rfl, Nat.le_refl _, hp _, Nat.le_refl _, h, by rw [hsz, Nat.mul_one], ?_⟩⟩
  rw [List.take_of_length_le (by rw [Array.length_toList, hsz]; omega)]
  exact hz
/-- When an item is put into a list. -/
def InsOk (hs : List Int) (ts : List Tw) (t : Tw) : Prop := GoodI hs ts ∧ okItem t.key t.seq t.kind t.val = true ∧ ts.length ≠ 60 ∧ hsB hs ts t = false
/-- The list with it. -/
def insHs (hs : List Int) (ts : List Tw) (t : Tw) : List Int := (insTo hs ts (lastL hs ts t 5) ts.length (twN t.key t.seq.toNat)).1
def insTs (hs : List Int) (ts : List Tw) (t : Tw) : List Tw := (insTo hs ts (lastL hs ts t 5) ts.length (twN t.key t.seq.toNat)).2 ++ [⟨t.key, t.seq, t.kind, t.val, ownL hs ts (lastL hs ts t 5) (twN t.key t.seq.toNat)⟩]
theorem insHs_len (hs : List Int) (ts : List Tw) (t : Tw) : (insHs hs ts t).length = hs.length := (insTo_len _ _ _ _ _).1
theorem insTs_len (hs : List Int) (ts : List Tw) (t : Tw) : (insTs hs ts t).length = ts.length + 1 := by unfold insTs; rw [List.length_append, (insTo_len _ _ _ _ _).2]; rfl
theorem twN_le (k : ByteArray) (n : Nat) : 1 ≤ twN k n ∧ twN k n ≤ 5 := by
  have h5 : ∀ f x, twL f x ≤ f := by
    intro f
    induction f with
    | zero => intro x; exact Nat.le_refl _
    | succ f ih => intro x; simp only [twL]; have := ih (x / 4); split <;> omega
  unfold twN
  have := h5 4 (csum (twT k n).data.toList)
  omega
theorem toN_ok {k v : ByteArray} {s d : Int} (h : okItem k s d v = true) : toN k s = (twN k s.toNat : Int) := by
  unfold okItem at h
  simp only [Bool.and_eq_true] at h
  unfold toN toOk
  rw [h.1.1, h.1.2]
  rfl

set_option maxHeartbeats 16000000 in
theorem implInsert_any (x : Value) (b off cap : Nat) (hs : List Int) (ts : List Tw) (t : Tw) (w : World) (hx : IL w x hs) (hy : TW w (.slice (some ⟨b, off, none⟩) ts.length cap) ts) (hbw : b < w.heap.size) (m1 : hs.length ≤ 1048576) (m2 : ts.length ≤ 1048576) (ht : Tabs w)
    (F3 : ∀ i : Nat, i < ts.length → (tw ts i).next.length ≤ 1048576 ∧ (tw ts i).key.size ≤ 1048576 ∧ (tw ts i).val.size ≤ 1048576) (hk : t.key.size ≤ 1048576) (hv : t.val.size ≤ 1048576) :
    Calls Tryd.prog 9 #[.agg #[x, .slice (some ⟨b, off, none⟩) ts.length cap], .agg #[.string t.key, .int .i64 t.seq, .int .i64 t.kind, .string t.val]] w fun e w' => (∃ u1 u2 ok, e = .returned (.tuple #[.agg #[u1, u2], .bool ok]) ∧
      ((ok = true ∧ InsOk hs ts t ∧ ∃ g1 c1 gs cs, u1 = .slice (some ⟨g1, 0, none⟩) hs.length c1 ∧ OwnS w' w.heap.size (insHs hs ts t) (insTs hs ts t) u2 g1 c1 gs cs) ∨ (ok = false ∧ ¬ InsOk hs ts t ∧ u1 = .slice none 0 0 ∧ u2 = .slice none 0 0))) ∧ Below w.heap.size w w' := by
  obtain ⟨ax, cx, hxe, _⟩ := id hx
  subst hxe
  have KG := fun w hx hy ht => implGoodSkip_any (.slice ax hs.length cx) (.slice (some ⟨b, off, none⟩) ts.length cap) hs ts w hx hy m1 m2 ht F3
  have HI : Hid (InsOk hs ts t ↔ (GoodI hs ts ∧ okItem t.key t.seq t.kind t.val = true ∧ ts.length ≠ 60 ∧ hsB hs ts t = false)) := Iff.rfl
  have HH : Hid (insHs hs ts t = (insTo hs ts (lastL hs ts t 5) ts.length (twN t.key t.seq.toNat)).1) := rfl
  have HT : Hid (insTs hs ts t = (insTo hs ts (lastL hs ts t 5) ts.length (twN t.key t.seq.toNat)).2 ++ [⟨t.key, t.seq, t.kind, t.val, ownL hs ts (lastL hs ts t 5) (twN t.key t.seq.toNat)⟩]) := rfl
  have KI := fun w => implGood_any t.key t.val t.seq t.kind w hk hv
  have KT := fun w ht => implTower_any t.key t.seq w hk ht
  have HTN : Hid (okItem t.key t.seq t.kind t.val = true → toN t.key t.seq = (twN t.key t.seq.toNat : Int)) := toN_ok
  have hn5 := twN_le t.key t.seq.toNat
  have KH := fun ta tn tc w hx hy G => has_any (.slice ax hs.length cx) (some ⟨b, off, none⟩) cap hs ts t ta tn tc w hx hy G
  have KW := fun aT cT g1 c1 base go co n gs cs w h G hn ho hg hg1 hgT hbase => with_any hs ts t aT cT g1 c1 base go co n gs cs w h G hn ho hg hg1 hgT hbase
  generalize InsOk hs ts t = IOK at *
  generalize insHs hs ts t = IH at *
  generalize insTs hs ts t = ITS at *
  generalize twN t.key t.seq.toNat = n at *
  generalize toN t.key t.seq = tn at *
  generalize toOk t.key t.seq = tok at *
  generalize okItem t.key t.seq t.kind t.val = oki at *
  generalize hsB hs ts t = hasb at *
  generalize lastL hs ts t 5 = L at *
  obtain ⟨k, s, d, v, tnx⟩ := t
  dsimp only at *
  have HF3 : Hid _ := F3
  have HKW : Hid _ := KW
  have HKH : Hid _ := KH
  have HKT : Hid _ := KT
  clear F3 KW KH KT
  have hb0 := below3 w (.cells #[.slice ax hs.length cx, .slice (some ⟨b, off, none⟩) ts.length cap] 32) (.cells #[.string k, .int .i64 s, .int .i64 d, .string v] 36) (.cells #[.slice none 0 0, .slice none 0 0] 32)
  have X0 := ((Box.new w #[.slice ax hs.length cx, .slice (some ⟨b, off, none⟩) ts.length cap] 32).alloc (.cells #[.string k, .int .i64 s, .int .i64 d, .string v] 36)).alloc (.cells #[.slice none 0 0, .slice none 0 0] 32)
  have Y0 := (Box.new (w.alloc (.cells #[.slice ax hs.length cx, .slice (some ⟨b, off, none⟩) ts.length cap] 32)) #[.string k, .int .i64 s, .int .i64 d, .string v] 36).alloc (.cells #[.slice none 0 0, .slice none 0 0] 32)
  have Z0 := Box.new ((w.alloc (.cells #[.slice ax hs.length cx, .slice (some ⟨b, off, none⟩) ts.length cap] 32)).alloc (.cells #[.string k, .int .i64 s, .int .i64 d, .string v] 36)) #[.slice none 0 0, .slice none 0 0] 32
  simp only [World.size_alloc] at Y0 Z0
  go_enter Tryd.func9, Tryd.ntmps9
  go_wp2_with fail
  refine (KG _ (hx.below hb0) (hy.below hb0) (ht.below hb0)).mono ?_
  rintro e w1 ⟨⟨gb, rfl, hgb⟩, hb1⟩
  have hB := below_then hb0 hb1
  have X := X0.below hb1
  have Y := Y0.below hb1
  have Z := Z0.below hb1
  clear hb0 hb1 X0 Y0 Z0 KG
  obtain ⟨_, x0, x1⟩ := X.c2
  obtain ⟨_, y0, y1, y2, y3⟩ := Y.c4
  obtain ⟨zl, z0, z1⟩ := Z.c2
  have zf0 := Z.2.2 0
  have zf1 := Z.2.2 1
  have HGB : Hid (gb = true ↔ GoodI hs ts) := hgb
  clear hgb
  cases gb with
  | false =>
    have HN : Hid (¬ IOK) := fun h => by have := HGB.out.2 (HI.out.1 h).1; cases this
    go_wp2
    exact bodyPost_ret (v := .tuple #[.agg #[.slice none 0 0, .slice none 0 0], .bool false]) (by simp [results, Tryd.results9, go_sem, z0, z1]) rfl ⟨⟨_, _, _, rfl, .inr ⟨rfl, HN.out, rfl, rfl⟩⟩, (hB.setCell (by show w.heap.size ≤ w.heap.size + 1 + 1; omega) _).setCell (by show w.heap.size ≤ w.heap.size + 1 + 1; omega) _⟩
  | true =>
    have G := HGB.out.1 rfl
    have HG : Hid (GoodI hs ts) := G
    clear G HGB
    go_wp2_with fail
    refine (KI _).mono ?_
    rintro e w2 ⟨rfl, hb2⟩
    replace hB := below_then hB hb2
    replace X := X.below hb2
    replace Y := Y.below hb2
    replace Z := Z.below hb2
    clear hb2 KI x0 x1 y0 y1 y2 y3 z0 z1 zf0 zf1 zl
    obtain ⟨_, x0, x1⟩ := X.c2
    obtain ⟨_, y0, y1, y2, y3⟩ := Y.c4
    obtain ⟨zl, z0, z1⟩ := Z.c2
    have zf0 := Z.2.2 0
    have zf1 := Z.2.2 1
    cases oki with
    | false =>
      have HN : Hid (¬ IOK) := fun h => by have := (HI.out.1 h).2.1; cases this
      go_wp2
      exact bodyPost_ret (v := .tuple #[.agg #[.slice none 0 0, .slice none 0 0], .bool false]) (by simp [results, Tryd.results9, go_sem, z0, z1]) rfl ⟨⟨_, _, _, rfl, .inr ⟨rfl, HN.out, rfl, rfl⟩⟩, (hB.setCell (by show w.heap.size ≤ w.heap.size + 1 + 1; omega) _).setCell (by show w.heap.size ≤ w.heap.size + 1 + 1; omega) _⟩
    | true =>
      by_cases h60 : ts.length = 60
      · have HN : Hid (¬ IOK) := fun h => (HI.out.1 h).2.2.1 h60
        have h60' : ((ts.length : Int) == 60) = true := by simp; omega
        have H60 : Hid (ts.length = 60) := h60
        clear h60
        go_wp2
        exact bodyPost_ret (v := .tuple #[.agg #[.slice none 0 0, .slice none 0 0], .bool false]) (by simp [results, Tryd.results9, go_sem, z0, z1]) rfl ⟨⟨_, _, _, rfl, .inr ⟨rfl, HN.out, rfl, rfl⟩⟩, (hB.setCell (by show w.heap.size ≤ w.heap.size + 1 + 1; omega) _).setCell (by show w.heap.size ≤ w.heap.size + 1 + 1; omega) _⟩
      · have h60' : ((ts.length : Int) == 60) = false := by simp; omega
        have H60 : Hid (ts.length ≠ 60) := h60
        clear h60
        obtain rfl : tn = (n : Int) := HTN.out rfl
        clear HTN
        go_wp2_with fail
        refine (HKT.out _ (ht.below hB)).mono ?_
        rintro e w3 ⟨rfl, hb3⟩
        replace hB := below_then hB hb3
        replace X := X.below hb3
        replace Y := Y.below hb3
        replace Z := Z.below hb3
        clear hb3 x0 x1 y0 y1 y2 y3 z0 z1 zf0 zf1 zl HKT
        go_wp2_with fail
        have hD : Below w3.heap.size w3 w3.drew := (Below.refl _ _).drew
        replace hB := below_then hB hD
        replace X := X.below hD
        replace Y := Y.below hD
        replace Z := Z.below hD
        clear hD
        have hmk := fun w => run_make_row' (P := Tryd.prog) 22 3 (.int .i64 0) 8 Tryd.underlying22 Tryd.info3 rfl .i64 .i64 n (by omega) (by omega) w
        obtain ⟨_, y0, y1, y2, y3⟩ := Y.c4
        refine wp_region_held_drew (S := fun wx => wx.cell? ⟨w.heap.size + 1, 0, none⟩ = some (.string k) ∧ wx.cell? ⟨w.heap.size + 1, 1, none⟩ = some (.int .i64 s) ∧ wx.cell? ⟨w.heap.size + 1, 2, none⟩ = some (.int .i64 d) ∧ wx.cell? ⟨w.heap.size + 1, 3, none⟩ = some (.string v)) (by kernel_rfl) ⟨y0, y1, y2, y3⟩ (fun hHeld => ?_)
        generalize w3.drew = v0 at *
        clear y0 y1 y2 y3
        refine wpAnyH_take (i := 0) (oi := { dst := some 32, op := Op.load 36 (Operand.tmp 3), type := 36, pos := "l4_skip.go:84", after := #[], guard := none }) (v := .agg #[.string k, .int .i64 s, .int .i64 d, .string v]) rfl (by kernel_rfl) (by kernel_rfl) (by kernel_rfl) (fun _ _ _ h => h) (Or.inl ⟨by rfl, ?_⟩) (by assumption) ?_
        · intro wx hSw
          obtain ⟨r0, r1, r2, r3⟩ := hSw; clear hHeld; go_simp
        simp only [Act.put, List.setIfInBounds_toArray, List.set_cons_zero, List.set_cons_succ]
        refine wpAnyH_take (i := 1) (oi := { dst := some 33, op := Op.move (Operand.tmp 6), type := 3, pos := "l4_skip.go:84", after := #[], guard := none }) (v := .int .i64 (n : Int)) rfl (by kernel_rfl) (by kernel_rfl) (by kernel_rfl) (fun _ _ _ h => h) (Or.inl ⟨by rfl, ?_⟩) (by assumption) ?_
        · intro wx hSw
          clear hSw hHeld; go_simp
        simp only [Act.put, List.setIfInBounds_toArray, List.set_cons_zero, List.set_cons_succ]
        refine wpAnyH_ready (rs := [2, 4]) (by kernel_rfl) (by simp) ?_
        refine AllReadyH.cons (o := { dst := some 34, op := Op.makeSlice 22 (Operand.tmp 33) (Operand.tmp 33), type := 22, pos := "l4_skip.go:84", after := #[{ on := 1, ground := Ground.data }, { on := 1, ground := Ground.data }], guard := none }) rfl (fun K hK => ?_) (AllReadyH.cons (o := { dst := some 8, op := Op.alloc 49, type := 0, pos := "l4_skip.go:84", after := #[], guard := none }) rfl (fun K hK => ?_) AllReadyH.nil)
        · clear hHeld
          have hA := below_alloc v0 (.cells (madeCells #[.int .i64 0] n) 3)
          have O := own_new v0 n (by unfold maxLen; omega)
          have hgo : w.heap.size + 1 + 1 < v0.heap.size := Z.1
          replace X := X.below hA
          replace Y := Y.below hA
          replace Z := Z.below hA
          replace hB := below_then hB hA
          clear hA
          obtain ⟨_, y0, y1, y2, y3⟩ := Y.c4
          go_simp
          refine hK.out _ _ ⟨y0, y1, y2, y3⟩ (fun hHeld => ?_)
          clear hK K y0 y1 y2 y3
          generalize hgoe : v0.heap.size = go at *
          generalize v0.alloc (.cells (madeCells #[.int .i64 0] n) 3) = v1 at *
          try simp only [Act.put, List.setIfInBounds_toArray, List.set_cons_zero, List.set_cons_succ]
          refine wpAnyH_take (i := 3) (oi := { dst := some 35, op := Op.build 49 #[(0, Operand.tmp 32), (1, Operand.tmp 34)], type := 49, pos := "l4_skip.go:84", after := #[{ on := 0, ground := Ground.data }, { on := 2, ground := Ground.data }], guard := none }) (v := .agg #[.string k, .int .i64 s, .int .i64 d, .string v, .slice (some ⟨go, 0, none⟩) n n]) rfl (by kernel_rfl) (by kernel_rfl) (by kernel_rfl) (fun _ _ _ h => h) (Or.inl ⟨by rfl, ?_⟩) (by assumption) ?_
          · intro wx hSw
            clear hSw hHeld; go_simp
          simp only [Act.put, List.setIfInBounds_toArray, List.set_cons_zero, List.set_cons_succ]
          refine wpAnyH_ready (rs := [4]) (by kernel_rfl) (by simp) ?_
          refine AllReadyH.cons (o := { dst := some 8, op := Op.alloc 49, type := 0, pos := "l4_skip.go:84", after := #[], guard := none }) rfl (fun K hK => ?_) AllReadyH.nil
          clear hHeld
          have hA := below_alloc v1 (.cells #[.string ⟨#[]⟩, .int .i64 0, .int .i64 0, .string ⟨#[]⟩, .slice none 0 0] 49)
          have T := Box.new v1 #[.string ⟨#[]⟩, .int .i64 0, .int .i64 0, .string ⟨#[]⟩, .slice none 0 0] 49
          have hbt : w.heap.size + 1 + 1 < v1.heap.size := Z.1
          have hOl := owns_lt O
          replace X := X.below hA
          replace Y := Y.below hA
          replace Z := Z.below hA
          replace hB := below_then hB hA
          replace O := owns_below O hA
          clear hA
          obtain ⟨_, y0, y1, y2, y3⟩ := Y.c4
          go_simp
          refine hK.out _ _ ⟨y0, y1, y2, y3⟩ (fun hHeld => ?_)
          clear hK K y0 y1 y2 y3
          generalize hbte : v1.heap.size = bt at *
          generalize v1.alloc (.cells #[.string ⟨#[]⟩, .int .i64 0, .int .i64 0, .string ⟨#[]⟩, .slice none 0 0] 49) = v2 at *
          try simp only [Act.put, List.setIfInBounds_toArray, List.set_cons_zero, List.set_cons_succ]
          have hne : go ≠ bt := by omega
          have hwz := hB.size
          refine wpAnyH_ready (rs := [5]) (by kernel_rfl) (by simp) ?_
          refine AllReadyH.cons (o := { dst := none, op := Op.store 49 (Operand.tmp 8) (Operand.tmp 35), type := 0, pos := "l4_skip.go:84", after := #[{ on := 4, ground := Ground.data }, { on := 3, ground := Ground.data }, { on := 0, ground := Ground.phase }, { on := 1, ground := Ground.phase }, { on := 2, ground := Ground.phase }, { on := 3, ground := Ground.phase }, { on := 4, ground := Ground.phase }], guard := none }) rfl (fun K hK => ?_) AllReadyH.nil
          clear hHeld
          have T5 := ((((T.set 0 (.string k) (by simp)).set 1 (.int .i64 s) (by simp)).set 2 (.int .i64 d) (by simp)).set 3 (.string v) (by simp)).set 4 (.slice (some ⟨go, 0, none⟩) n n) (by simp)
          have cc : Chg (· = bt) v2 (((((v2.setCell ⟨bt, 0, none⟩ (.string k)).setCell ⟨bt, 1, none⟩ (.int .i64 s)).setCell ⟨bt, 2, none⟩ (.int .i64 d)).setCell ⟨bt, 3, none⟩ (.string v)).setCell ⟨bt, 4, none⟩ (.slice (some ⟨go, 0, none⟩) n n)) := (((((Chg.refl (· = bt) v2).setCell (p := ⟨bt, 0, none⟩) rfl _).setCell (p := ⟨bt, 1, none⟩) rfl _).setCell (p := ⟨bt, 2, none⟩) rfl _).setCell (p := ⟨bt, 3, none⟩) rfl _).setCell (p := ⟨bt, 4, none⟩) rfl _
          obtain ⟨htl, t0, t1, t2, t3, t4⟩ := T.c5
          have tf0 := T.2.2 0
          have tf1 := T.2.2 1
          have tf2 := T.2.2 2
          have tf3 := T.2.2 3
          have tf4 := T.2.2 4
          replace X := cc.box X (by omega)
          replace Y := cc.box Y (by omega)
          replace Z := cc.box Z (by omega)
          replace O := cc.owns O (fun g hg e => by have e2 := blk_eq hg; omega)
          replace hB := hB.trans (cc.below (B := w.heap.size) (by omega) (fun g e => by omega))
          clear cc T
          obtain ⟨_, y0, y1, y2, y3⟩ := Y.c4
          go_simp
          refine hK.out _ _ ⟨y0, y1, y2, y3⟩ (fun hHeld => ?_)
          clear hK K y0 y1 y2 y3 t0 t1 t2 t3 t4 tf0 tf1 tf2 tf3 tf4 htl
          generalize (((((v2.setCell ⟨bt, 0, none⟩ (.string k)).setCell ⟨bt, 1, none⟩ (.int .i64 s)).setCell ⟨bt, 2, none⟩ (.int .i64 d)).setCell ⟨bt, 3, none⟩ (.string v)).setCell ⟨bt, 4, none⟩ (.slice (some ⟨go, 0, none⟩) n n)) = v9 at *
          refine wpAnyH_done (by kernel_rfl) ?_ _
          clear hHeld
          clear hmk
          have i1 : IL v9 (.slice ax hs.length cx) hs := hx.below hB
          have i2 : TW v9 (.slice (some ⟨b, off, none⟩) ts.length cap) ts := hy.below hB
          obtain ⟨_, x0, x1⟩ := X.c2
          obtain ⟨_, q0, q1, q2, q3, q4⟩ := T5.c5
          go_wp2_with fail
          refine (HKH.out (some ⟨go, 0, none⟩) n n _ i1 i2 HG.out).mono ?_
          rintro e w4 ⟨rfl, hb4⟩
          have hgol := (owns_lt O).2
          have hbtl := T5.1
          replace hB := below_then hB hb4
          replace X := X.below hb4
          replace Z := Z.below hb4
          replace T5 := T5.below hb4
          replace O := owns_below O hb4
          have hwz4 := hb4.size
          clear hb4 x0 x1 q0 q1 q2 q3 q4 i1 i2 Y HKH
          cases hasb with
          | true =>
            have HN : Hid (¬ IOK) := fun h => by have := (HI.out.1 h).2.2.2; cases this
            obtain ⟨zl, z0, z1⟩ := Z.c2
            have zf0 := Z.2.2 0
            have zf1 := Z.2.2 1
            go_wp2
            exact bodyPost_ret (v := .tuple #[.agg #[.slice none 0 0, .slice none 0 0], .bool false]) (by simp [results, Tryd.results9, go_sem, z0, z1]) rfl ⟨⟨_, _, _, rfl, .inr ⟨rfl, HN.out, rfl, rfl⟩⟩, (hB.setCell (by show w.heap.size ≤ w.heap.size + 1 + 1; omega) _).setCell (by show w.heap.size ≤ w.heap.size + 1 + 1; omega) _⟩
          | false =>
            have HY : Hid IOK := HI.out.2 ⟨HG.out, by first | rfl | trivial, H60.out, by first | rfl | trivial⟩
            go_wp2_with fail
            have hD : Below w4.heap.size w4 w4.drew := (Below.refl _ _).drew
            replace hB := below_then hB hD
            replace X := X.below hD
            replace Z := Z.below hD
            replace T5 := T5.below hD
            replace O := owns_below O hD
            clear hD
            have j1 := hx.below hB
            have j2 := hy.below hB
            obtain ⟨us, u1, u2, u3⟩ := j2.us
            obtain ⟨_, x0, x1⟩ := X.c2
            obtain ⟨_, q0, q1, q2, q3, q4⟩ := T5.c5
            refine wp_region_held_drew (S := fun wx => (wx.cell? ⟨w.heap.size, 0, none⟩ = some (.slice ax hs.length cx) ∧ wx.cell? ⟨w.heap.size, 1, none⟩ = some (.slice (some ⟨b, off, none⟩) ts.length cap)) ∧ wx.cell? ⟨bt, 0, none⟩ = some (.string k) ∧ wx.cell? ⟨bt, 1, none⟩ = some (.int .i64 s) ∧ wx.cell? ⟨bt, 2, none⟩ = some (.int .i64 d) ∧ wx.cell? ⟨bt, 3, none⟩ = some (.string v) ∧ wx.cell? ⟨bt, 4, none⟩ = some (.slice (some ⟨go, 0, none⟩) n n)) (by kernel_rfl) ⟨⟨x0, x1⟩, q0, q1, q2, q3, q4⟩ (fun hHeld => ?_)
            generalize w4.drew = v0 at *
            clear x0 x1 q0 q1 q2 q3 q4
            refine wpAnyH_take (i := 0) (oi := { dst := some 40, op := Op.load 32 (Operand.tmp 2), type := 32, pos := "l4_skip.go:88", after := #[], guard := none }) (v := .agg #[.slice ax hs.length cx, .slice (some ⟨b, off, none⟩) ts.length cap]) rfl (by kernel_rfl) (by kernel_rfl) (by kernel_rfl) (fun _ _ _ h => h) (Or.inl ⟨by rfl, ?_⟩) (by assumption) ?_
            · intro wx hSw
              obtain ⟨⟨r0, r1⟩, s0, s1, s2, s3, s4⟩ := hSw; clear hHeld; go_simp
            simp only [Act.put, List.setIfInBounds_toArray, List.set_cons_zero, List.set_cons_succ]
            refine wpAnyH_take (i := 2) (oi := { dst := some 42, op := Op.load 49 (Operand.tmp 8), type := 49, pos := "l4_skip.go:88", after := #[], guard := none }) (v := .agg #[.string k, .int .i64 s, .int .i64 d, .string v, .slice (some ⟨go, 0, none⟩) n n]) rfl (by kernel_rfl) (by kernel_rfl) (by kernel_rfl) (fun _ _ _ h => h) (Or.inl ⟨by rfl, ?_⟩) (by assumption) ?_
            · intro wx hSw
              obtain ⟨⟨r0, r1⟩, s0, s1, s2, s3, s4⟩ := hSw; clear hHeld; go_simp
            simp only [Act.put, List.setIfInBounds_toArray, List.set_cons_zero, List.set_cons_succ]
            refine wpAnyH_ready (rs := [1]) (by kernel_rfl) (by simp) ?_
            refine AllReadyH.cons (o := { dst := some 41, op := Op.call { callee := Callee.value (Operand.func 27), args := #[Operand.tmp 40], argTypes := #[32] }, type := 32, pos := "l4_skip.go:88", after := #[{ on := 0, ground := Ground.data }], guard := none }) rfl (fun K hK => ?_) AllReadyH.nil
            clear hHeld
            go_simp
            refine (copySkip_any (.slice ax hs.length cx) b off cap hs ts us v0 j1 (by have := HG.out.1; omega) m1 u1 u2 u3 (by have := hB.size; omega) HG.out.2.1 (fun i hi => by have h1 := okTw_high (HG.out.2.2.1 _ (List.getElem_mem hi)); have h2 := high_le (HG.out.2.2.1 _ (List.getElem_mem hi)); exact ⟨h1, by omega⟩)).mono ?_
            rintro e w5 ⟨⟨vT, g1, c1, gs, cs, rfl, OS⟩, hb5⟩
            have hv0 := hB.size
            have hgl5 := OS.own u1
            obtain ⟨l1, l2, l3⟩ := hgl5.lt
            have hgo5 := owns_lt O
            have hbt5 := T5.1
            have hzl5 := Z.1
            replace hB := below_then hB hb5
            replace X := X.below hb5
            replace Z := Z.below hb5
            replace T5 := T5.below hb5
            replace O := owns_below O hb5
            clear hb5 OS u2 u3 j1 j2
            obtain ⟨aT, cT, rfl⟩ : ∃ a c, vT = .slice a ts.length c := by
              rcases hgl5.rows.2 with ⟨h1, h0⟩ | ⟨g, c, cur, h1, _⟩
              · exact ⟨none, 0, by rw [h1, h0]⟩
              · exact ⟨_, _, h1⟩
            obtain ⟨_, x0, x1⟩ := X.c2
            obtain ⟨_, q0, q1, q2, q3, q4⟩ := T5.c5
            refine hK.out _ _ ⟨⟨x0, x1⟩, q0, q1, q2, q3, q4⟩ (fun hHeld => ?_)
            clear hK K x0 x1 q0 q1 q2 q3 q4
            try simp only [Act.put, List.setIfInBounds_toArray, List.set_cons_zero, List.set_cons_succ]
            refine wpAnyH_ready (rs := [3]) (by kernel_rfl) (by simp) ?_
            refine AllReadyH.cons (o := { dst := some 43, op := Op.call { callee := Callee.value (Operand.func 28), args := #[Operand.tmp 41, Operand.tmp 42], argTypes := #[56, 49] }, type := 56, pos := "l4_skip.go:88", after := #[{ on := 1, ground := Ground.data }, { on := 2, ground := Ground.data }, { on := 1, ground := Ground.chain }], guard := none }) rfl (fun K hK => ?_) AllReadyH.nil
            clear hHeld
            go_simp
            have hOb : w5.ownsRow w.heap.size 3 1 (.slice (some ⟨go, 0, none⟩) n n) n ((List.replicate n 0).map (.int .i64)) := owns_base O (by omega)
            refine (HKW.out aT cT g1 c1 w.heap.size go n n gs cs _ (hgl5.lower (by omega)) HG.out (by omega) hOb (fun hm => by have := (l1 _ hm).1; omega) (by omega) (fun g hg e => by have := (l3 g hg).1; omega) hB.size).mono ?_
            rintro e w6 ⟨vT', rfl, S6, hvt6, hc6⟩
            have hB6 := hB.trans (hc6.below (B := w.heap.size) hB.size (fun g hg => hg.elim (fun e => by have := l2.1; omega) (fun h => h.elim (fun e => by have := (l1 _ e).1; omega) (fun h => h.elim (fun e => by omega) (fun e => by have := (l3 _ e).1; omega)))))
            have HVT : Hid (∀ g, vT'.ownBlock = some g → w.heap.size + 1 + 1 < g) := fun g hg => (hvt6 g hg).elim (fun x => by have := (l3 _ x).1; omega) (fun x => by have := hB.size; omega)
            clear hvt6
            replace X := hc6.box X (fun hg => hg.elim (fun e => by have := l2.1; omega) (fun h => h.elim (fun e => by have := (l1 _ e).1; omega) (fun h => h.elim (fun e => by omega) (fun e => by have := (l3 _ e).1; omega))))
            replace Z := hc6.box Z (fun hg => hg.elim (fun e => by have := l2.1; omega) (fun h => h.elim (fun e => by have := (l1 _ e).1; omega) (fun h => h.elim (fun e => by omega) (fun e => by have := (l3 _ e).1; omega))))
            replace T5 := hc6.box T5 (fun hg => hg.elim (fun e => by have := l2.1; omega) (fun h => h.elim (fun e => by have := (l1 _ e).1; omega) (fun h => h.elim (fun e => by omega) (fun e => by have := (l3 _ e).1; omega))))
            obtain ⟨_, x0, x1⟩ := X.c2
            obtain ⟨_, q0, q1, q2, q3, q4⟩ := T5.c5
            refine hK.out _ _ ⟨⟨x0, x1⟩, q0, q1, q2, q3, q4⟩ (fun hHeld => ?_)
            clear hK K x0 x1 q0 q1 q2 q3 q4
            try simp only [Act.put, List.setIfInBounds_toArray, List.set_cons_zero, List.set_cons_succ]
            obtain ⟨a', n', c', rfl⟩ : ∃ a n c, vT' = .slice a n c := by
              rcases S6.rows.2 with ⟨h, _⟩ | ⟨g, c, cur, h, _⟩
              · exact ⟨_, _, _, h⟩
              · exact ⟨_, _, _, h⟩
            have hvT := hc6.size
            have HBT : Hid (∀ g, (Value.slice a' n' c').ownBlock = some g → w.heap.size + 1 + 1 < g) := fun g hg => HVT.out g hg
            refine wpAnyH_ready (rs := [4]) (by kernel_rfl) (by simp) ?_
            refine AllReadyH.cons (o := { dst := none, op := Op.store 32 (Operand.tmp 4) (Operand.tmp 43), type := 0, pos := "l4_skip.go:88", after := #[{ on := 3, ground := Ground.data }, { on := 3, ground := Ground.chain }, { on := 0, ground := Ground.phase }, { on := 1, ground := Ground.phase }, { on := 2, ground := Ground.phase }, { on := 3, ground := Ground.phase }], guard := none }) rfl (fun K hK => ?_) AllReadyH.nil
            clear hHeld
            have cc : Chg (· = w.heap.size + 1 + 1) w6 ((w6.setCell ⟨w.heap.size + 1 + 1, 0, none⟩ (.slice (some ⟨g1, 0, none⟩) hs.length c1)).setCell ⟨w.heap.size + 1 + 1, 1, none⟩ (.slice a' n' c')) := ((Chg.refl (· = w.heap.size + 1 + 1) w6).setCell (p := ⟨w.heap.size + 1 + 1, 0, none⟩) rfl _).setCell (p := ⟨w.heap.size + 1 + 1, 1, none⟩) rfl _
            obtain ⟨zl, z0, z1⟩ := Z.c2
            have zf0 := Z.2.2 0
            have zf1 := Z.2.2 1
            have Z7 := (Z.set 0 (.slice (some ⟨g1, 0, none⟩) hs.length c1) (by simp)).set 1 (.slice a' n' c') (by simp)
            have X7 := cc.box X (by omega)
            have T7 := cc.box T5 (by omega)
            have hB7 := hB6.trans (cc.below (B := w.heap.size) (by have := hB6.size; omega) (fun g e => by omega))
            have S7 := S6.chg cc (fun g hg e => (List.mem_append.1 hg).elim (fun x => by have := (l1 _ x).1; omega) (fun x => by have := List.mem_singleton.1 x; omega)) (by omega) (fun g hg e => by have := HBT.out g hg; omega)
            obtain ⟨_, x0, x1⟩ := X7.c2
            obtain ⟨_, q0, q1, q2, q3, q4⟩ := T7.c5
            go_simp
            refine hK.out _ _ ⟨⟨x0, x1⟩, q0, q1, q2, q3, q4⟩ (fun hHeld => ?_)
            clear hK K x0 x1 q0 q1 q2 q3 q4 X T5 Z X7 T7 S6 hB6 cc z0 z1 zf0 zf1 zl hc6
            generalize (w6.setCell ⟨w.heap.size + 1 + 1, 0, none⟩ (.slice (some ⟨g1, 0, none⟩) hs.length c1)).setCell ⟨w.heap.size + 1 + 1, 1, none⟩ (.slice a' n' c') = v8 at *
            refine wpAnyH_take (i := 5) (oi := { dst := some 5, op := Op.assign (Operand.const (Value.bool true)), type := 4, pos := "l4_skip.go:88", after := #[{ on := 4, ground := Ground.chain }, { on := 0, ground := Ground.phase }, { on := 1, ground := Ground.phase }, { on := 2, ground := Ground.phase }, { on := 3, ground := Ground.phase }, { on := 4, ground := Ground.phase }], guard := none }) (v := .bool true) rfl (by kernel_rfl) (by kernel_rfl) (by kernel_rfl) (fun _ _ _ h => h) (Or.inl ⟨by rfl, ?_⟩) (by assumption) ?_
            · intro wx hSw
              clear hSw hHeld; go_simp
            simp only [Act.put, List.setIfInBounds_toArray, List.set_cons_zero, List.set_cons_succ]
            refine wpAnyH_done (by kernel_rfl) ?_ _
            clear hHeld
            obtain ⟨_, z0, z1⟩ := Z7.c2
            go_wp2
            exact bodyPost_ret (v := .tuple #[.agg #[.slice (some ⟨g1, 0, none⟩) hs.length c1, .slice a' n' c'], .bool true]) (by simp [results, Tryd.results9, go_sem, z0, z1]) rfl ⟨⟨_, _, _, rfl, .inl ⟨rfl, HY.out, g1, c1, _, _, rfl, by rw [HH.out, HT.out]; exact S7⟩⟩, hB7⟩
        · clear hHeld
          have hA := below_alloc v0 (.cells #[.string ⟨#[]⟩, .int .i64 0, .int .i64 0, .string ⟨#[]⟩, .slice none 0 0] 49)
          have T := Box.new v0 #[.string ⟨#[]⟩, .int .i64 0, .int .i64 0, .string ⟨#[]⟩, .slice none 0 0] 49
          have hbt : w.heap.size + 1 + 1 < v0.heap.size := Z.1
          replace X := X.below hA
          replace Y := Y.below hA
          replace Z := Z.below hA
          replace hB := below_then hB hA
          clear hA
          obtain ⟨_, y0, y1, y2, y3⟩ := Y.c4
          go_simp
          refine hK.out _ _ ⟨y0, y1, y2, y3⟩ (fun hHeld => ?_)
          clear hK K y0 y1 y2 y3
          generalize hbte : v0.heap.size = bt at *
          generalize v0.alloc (.cells #[.string ⟨#[]⟩, .int .i64 0, .int .i64 0, .string ⟨#[]⟩, .slice none 0 0] 49) = v1 at *
          try simp only [Act.put, List.setIfInBounds_toArray, List.set_cons_zero, List.set_cons_succ]
          refine wpAnyH_ready (rs := [2]) (by kernel_rfl) (by simp) ?_
          refine AllReadyH.cons (o := { dst := some 34, op := Op.makeSlice 22 (Operand.tmp 33) (Operand.tmp 33), type := 22, pos := "l4_skip.go:84", after := #[{ on := 1, ground := Ground.data }, { on := 1, ground := Ground.data }], guard := none }) rfl (fun K hK => ?_) AllReadyH.nil
          clear hHeld
          have hA := below_alloc v1 (.cells (madeCells #[.int .i64 0] n) 3)
          have O := own_new v1 n (by unfold maxLen; omega)
          have hgo : w.heap.size + 1 + 1 < v1.heap.size := Z.1
          have hTl := T.1
          replace X := X.below hA
          replace Y := Y.below hA
          replace Z := Z.below hA
          replace hB := below_then hB hA
          replace T := T.below hA
          clear hA
          obtain ⟨_, y0, y1, y2, y3⟩ := Y.c4
          go_simp
          refine hK.out _ _ ⟨y0, y1, y2, y3⟩ (fun hHeld => ?_)
          clear hK K y0 y1 y2 y3
          generalize hgoe : v1.heap.size = go at *
          generalize v1.alloc (.cells (madeCells #[.int .i64 0] n) 3) = v2 at *
          try simp only [Act.put, List.setIfInBounds_toArray, List.set_cons_zero, List.set_cons_succ]
          refine wpAnyH_take (i := 3) (oi := { dst := some 35, op := Op.build 49 #[(0, Operand.tmp 32), (1, Operand.tmp 34)], type := 49, pos := "l4_skip.go:84", after := #[{ on := 0, ground := Ground.data }, { on := 2, ground := Ground.data }], guard := none }) (v := .agg #[.string k, .int .i64 s, .int .i64 d, .string v, .slice (some ⟨go, 0, none⟩) n n]) rfl (by kernel_rfl) (by kernel_rfl) (by kernel_rfl) (fun _ _ _ h => h) (Or.inl ⟨by rfl, ?_⟩) (by assumption) ?_
          · intro wx hSw
            clear hSw hHeld; go_simp
          simp only [Act.put, List.setIfInBounds_toArray, List.set_cons_zero, List.set_cons_succ]
          have hne : go ≠ bt := by omega
          have hwz := hB.size
          refine wpAnyH_ready (rs := [5]) (by kernel_rfl) (by simp) ?_
          refine AllReadyH.cons (o := { dst := none, op := Op.store 49 (Operand.tmp 8) (Operand.tmp 35), type := 0, pos := "l4_skip.go:84", after := #[{ on := 4, ground := Ground.data }, { on := 3, ground := Ground.data }, { on := 0, ground := Ground.phase }, { on := 1, ground := Ground.phase }, { on := 2, ground := Ground.phase }, { on := 3, ground := Ground.phase }, { on := 4, ground := Ground.phase }], guard := none }) rfl (fun K hK => ?_) AllReadyH.nil
          clear hHeld
          have T5 := ((((T.set 0 (.string k) (by simp)).set 1 (.int .i64 s) (by simp)).set 2 (.int .i64 d) (by simp)).set 3 (.string v) (by simp)).set 4 (.slice (some ⟨go, 0, none⟩) n n) (by simp)
          have cc : Chg (· = bt) v2 (((((v2.setCell ⟨bt, 0, none⟩ (.string k)).setCell ⟨bt, 1, none⟩ (.int .i64 s)).setCell ⟨bt, 2, none⟩ (.int .i64 d)).setCell ⟨bt, 3, none⟩ (.string v)).setCell ⟨bt, 4, none⟩ (.slice (some ⟨go, 0, none⟩) n n)) := (((((Chg.refl (· = bt) v2).setCell (p := ⟨bt, 0, none⟩) rfl _).setCell (p := ⟨bt, 1, none⟩) rfl _).setCell (p := ⟨bt, 2, none⟩) rfl _).setCell (p := ⟨bt, 3, none⟩) rfl _).setCell (p := ⟨bt, 4, none⟩) rfl _
          obtain ⟨htl, t0, t1, t2, t3, t4⟩ := T.c5
          have tf0 := T.2.2 0
          have tf1 := T.2.2 1
          have tf2 := T.2.2 2
          have tf3 := T.2.2 3
          have tf4 := T.2.2 4
          replace X := cc.box X (by omega)
          replace Y := cc.box Y (by omega)
          replace Z := cc.box Z (by omega)
          replace O := cc.owns O (fun g hg e => by have e2 := blk_eq hg; omega)
          replace hB := hB.trans (cc.below (B := w.heap.size) (by omega) (fun g e => by omega))
          clear cc T
          obtain ⟨_, y0, y1, y2, y3⟩ := Y.c4
          go_simp
          refine hK.out _ _ ⟨y0, y1, y2, y3⟩ (fun hHeld => ?_)
          clear hK K y0 y1 y2 y3 t0 t1 t2 t3 t4 tf0 tf1 tf2 tf3 tf4 htl
          generalize (((((v2.setCell ⟨bt, 0, none⟩ (.string k)).setCell ⟨bt, 1, none⟩ (.int .i64 s)).setCell ⟨bt, 2, none⟩ (.int .i64 d)).setCell ⟨bt, 3, none⟩ (.string v)).setCell ⟨bt, 4, none⟩ (.slice (some ⟨go, 0, none⟩) n n)) = v9 at *
          refine wpAnyH_done (by kernel_rfl) ?_ _
          clear hHeld
          clear hmk
          have i1 : IL v9 (.slice ax hs.length cx) hs := hx.below hB
          have i2 : TW v9 (.slice (some ⟨b, off, none⟩) ts.length cap) ts := hy.below hB
          obtain ⟨_, x0, x1⟩ := X.c2
          obtain ⟨_, q0, q1, q2, q3, q4⟩ := T5.c5
          go_wp2_with fail
          refine (HKH.out (some ⟨go, 0, none⟩) n n _ i1 i2 HG.out).mono ?_
          rintro e w4 ⟨rfl, hb4⟩
          have hgol := (owns_lt O).2
          have hbtl := T5.1
          replace hB := below_then hB hb4
          replace X := X.below hb4
          replace Z := Z.below hb4
          replace T5 := T5.below hb4
          replace O := owns_below O hb4
          have hwz4 := hb4.size
          clear hb4 x0 x1 q0 q1 q2 q3 q4 i1 i2 Y HKH
          cases hasb with
          | true =>
            have HN : Hid (¬ IOK) := fun h => by have := (HI.out.1 h).2.2.2; cases this
            obtain ⟨zl, z0, z1⟩ := Z.c2
            have zf0 := Z.2.2 0
            have zf1 := Z.2.2 1
            go_wp2
            exact bodyPost_ret (v := .tuple #[.agg #[.slice none 0 0, .slice none 0 0], .bool false]) (by simp [results, Tryd.results9, go_sem, z0, z1]) rfl ⟨⟨_, _, _, rfl, .inr ⟨rfl, HN.out, rfl, rfl⟩⟩, (hB.setCell (by show w.heap.size ≤ w.heap.size + 1 + 1; omega) _).setCell (by show w.heap.size ≤ w.heap.size + 1 + 1; omega) _⟩
          | false =>
            have HY : Hid IOK := HI.out.2 ⟨HG.out, by first | rfl | trivial, H60.out, by first | rfl | trivial⟩
            go_wp2_with fail
            have hD : Below w4.heap.size w4 w4.drew := (Below.refl _ _).drew
            replace hB := below_then hB hD
            replace X := X.below hD
            replace Z := Z.below hD
            replace T5 := T5.below hD
            replace O := owns_below O hD
            clear hD
            have j1 := hx.below hB
            have j2 := hy.below hB
            obtain ⟨us, u1, u2, u3⟩ := j2.us
            obtain ⟨_, x0, x1⟩ := X.c2
            obtain ⟨_, q0, q1, q2, q3, q4⟩ := T5.c5
            refine wp_region_held_drew (S := fun wx => (wx.cell? ⟨w.heap.size, 0, none⟩ = some (.slice ax hs.length cx) ∧ wx.cell? ⟨w.heap.size, 1, none⟩ = some (.slice (some ⟨b, off, none⟩) ts.length cap)) ∧ wx.cell? ⟨bt, 0, none⟩ = some (.string k) ∧ wx.cell? ⟨bt, 1, none⟩ = some (.int .i64 s) ∧ wx.cell? ⟨bt, 2, none⟩ = some (.int .i64 d) ∧ wx.cell? ⟨bt, 3, none⟩ = some (.string v) ∧ wx.cell? ⟨bt, 4, none⟩ = some (.slice (some ⟨go, 0, none⟩) n n)) (by kernel_rfl) ⟨⟨x0, x1⟩, q0, q1, q2, q3, q4⟩ (fun hHeld => ?_)
            generalize w4.drew = v0 at *
            clear x0 x1 q0 q1 q2 q3 q4
            refine wpAnyH_take (i := 0) (oi := { dst := some 40, op := Op.load 32 (Operand.tmp 2), type := 32, pos := "l4_skip.go:88", after := #[], guard := none }) (v := .agg #[.slice ax hs.length cx, .slice (some ⟨b, off, none⟩) ts.length cap]) rfl (by kernel_rfl) (by kernel_rfl) (by kernel_rfl) (fun _ _ _ h => h) (Or.inl ⟨by rfl, ?_⟩) (by assumption) ?_
            · intro wx hSw
              obtain ⟨⟨r0, r1⟩, s0, s1, s2, s3, s4⟩ := hSw; clear hHeld; go_simp
            simp only [Act.put, List.setIfInBounds_toArray, List.set_cons_zero, List.set_cons_succ]
            refine wpAnyH_take (i := 2) (oi := { dst := some 42, op := Op.load 49 (Operand.tmp 8), type := 49, pos := "l4_skip.go:88", after := #[], guard := none }) (v := .agg #[.string k, .int .i64 s, .int .i64 d, .string v, .slice (some ⟨go, 0, none⟩) n n]) rfl (by kernel_rfl) (by kernel_rfl) (by kernel_rfl) (fun _ _ _ h => h) (Or.inl ⟨by rfl, ?_⟩) (by assumption) ?_
            · intro wx hSw
              obtain ⟨⟨r0, r1⟩, s0, s1, s2, s3, s4⟩ := hSw; clear hHeld; go_simp
            simp only [Act.put, List.setIfInBounds_toArray, List.set_cons_zero, List.set_cons_succ]
            refine wpAnyH_ready (rs := [1]) (by kernel_rfl) (by simp) ?_
            refine AllReadyH.cons (o := { dst := some 41, op := Op.call { callee := Callee.value (Operand.func 27), args := #[Operand.tmp 40], argTypes := #[32] }, type := 32, pos := "l4_skip.go:88", after := #[{ on := 0, ground := Ground.data }], guard := none }) rfl (fun K hK => ?_) AllReadyH.nil
            clear hHeld
            go_simp
            refine (copySkip_any (.slice ax hs.length cx) b off cap hs ts us v0 j1 (by have := HG.out.1; omega) m1 u1 u2 u3 (by have := hB.size; omega) HG.out.2.1 (fun i hi => by have h1 := okTw_high (HG.out.2.2.1 _ (List.getElem_mem hi)); have h2 := high_le (HG.out.2.2.1 _ (List.getElem_mem hi)); exact ⟨h1, by omega⟩)).mono ?_
            rintro e w5 ⟨⟨vT, g1, c1, gs, cs, rfl, OS⟩, hb5⟩
            have hv0 := hB.size
            have hgl5 := OS.own u1
            obtain ⟨l1, l2, l3⟩ := hgl5.lt
            have hgo5 := owns_lt O
            have hbt5 := T5.1
            have hzl5 := Z.1
            replace hB := below_then hB hb5
            replace X := X.below hb5
            replace Z := Z.below hb5
            replace T5 := T5.below hb5
            replace O := owns_below O hb5
            clear hb5 OS u2 u3 j1 j2
            obtain ⟨aT, cT, rfl⟩ : ∃ a c, vT = .slice a ts.length c := by
              rcases hgl5.rows.2 with ⟨h1, h0⟩ | ⟨g, c, cur, h1, _⟩
              · exact ⟨none, 0, by rw [h1, h0]⟩
              · exact ⟨_, _, h1⟩
            obtain ⟨_, x0, x1⟩ := X.c2
            obtain ⟨_, q0, q1, q2, q3, q4⟩ := T5.c5
            refine hK.out _ _ ⟨⟨x0, x1⟩, q0, q1, q2, q3, q4⟩ (fun hHeld => ?_)
            clear hK K x0 x1 q0 q1 q2 q3 q4
            try simp only [Act.put, List.setIfInBounds_toArray, List.set_cons_zero, List.set_cons_succ]
            refine wpAnyH_ready (rs := [3]) (by kernel_rfl) (by simp) ?_
            refine AllReadyH.cons (o := { dst := some 43, op := Op.call { callee := Callee.value (Operand.func 28), args := #[Operand.tmp 41, Operand.tmp 42], argTypes := #[56, 49] }, type := 56, pos := "l4_skip.go:88", after := #[{ on := 1, ground := Ground.data }, { on := 2, ground := Ground.data }, { on := 1, ground := Ground.chain }], guard := none }) rfl (fun K hK => ?_) AllReadyH.nil
            clear hHeld
            go_simp
            have hOb : w5.ownsRow w.heap.size 3 1 (.slice (some ⟨go, 0, none⟩) n n) n ((List.replicate n 0).map (.int .i64)) := owns_base O (by omega)
            refine (HKW.out aT cT g1 c1 w.heap.size go n n gs cs _ (hgl5.lower (by omega)) HG.out (by omega) hOb (fun hm => by have := (l1 _ hm).1; omega) (by omega) (fun g hg e => by have := (l3 g hg).1; omega) hB.size).mono ?_
            rintro e w6 ⟨vT', rfl, S6, hvt6, hc6⟩
            have hB6 := hB.trans (hc6.below (B := w.heap.size) hB.size (fun g hg => hg.elim (fun e => by have := l2.1; omega) (fun h => h.elim (fun e => by have := (l1 _ e).1; omega) (fun h => h.elim (fun e => by omega) (fun e => by have := (l3 _ e).1; omega)))))
            have HVT : Hid (∀ g, vT'.ownBlock = some g → w.heap.size + 1 + 1 < g) := fun g hg => (hvt6 g hg).elim (fun x => by have := (l3 _ x).1; omega) (fun x => by have := hB.size; omega)
            clear hvt6
            replace X := hc6.box X (fun hg => hg.elim (fun e => by have := l2.1; omega) (fun h => h.elim (fun e => by have := (l1 _ e).1; omega) (fun h => h.elim (fun e => by omega) (fun e => by have := (l3 _ e).1; omega))))
            replace Z := hc6.box Z (fun hg => hg.elim (fun e => by have := l2.1; omega) (fun h => h.elim (fun e => by have := (l1 _ e).1; omega) (fun h => h.elim (fun e => by omega) (fun e => by have := (l3 _ e).1; omega))))
            replace T5 := hc6.box T5 (fun hg => hg.elim (fun e => by have := l2.1; omega) (fun h => h.elim (fun e => by have := (l1 _ e).1; omega) (fun h => h.elim (fun e => by omega) (fun e => by have := (l3 _ e).1; omega))))
            obtain ⟨_, x0, x1⟩ := X.c2
            obtain ⟨_, q0, q1, q2, q3, q4⟩ := T5.c5
            refine hK.out _ _ ⟨⟨x0, x1⟩, q0, q1, q2, q3, q4⟩ (fun hHeld => ?_)
            clear hK K x0 x1 q0 q1 q2 q3 q4
            try simp only [Act.put, List.setIfInBounds_toArray, List.set_cons_zero, List.set_cons_succ]
            obtain ⟨a', n', c', rfl⟩ : ∃ a n c, vT' = .slice a n c := by
              rcases S6.rows.2 with ⟨h, _⟩ | ⟨g, c, cur, h, _⟩
              · exact ⟨_, _, _, h⟩
              · exact ⟨_, _, _, h⟩
            have hvT := hc6.size
            have HBT : Hid (∀ g, (Value.slice a' n' c').ownBlock = some g → w.heap.size + 1 + 1 < g) := fun g hg => HVT.out g hg
            refine wpAnyH_ready (rs := [4]) (by kernel_rfl) (by simp) ?_
            refine AllReadyH.cons (o := { dst := none, op := Op.store 32 (Operand.tmp 4) (Operand.tmp 43), type := 0, pos := "l4_skip.go:88", after := #[{ on := 3, ground := Ground.data }, { on := 3, ground := Ground.chain }, { on := 0, ground := Ground.phase }, { on := 1, ground := Ground.phase }, { on := 2, ground := Ground.phase }, { on := 3, ground := Ground.phase }], guard := none }) rfl (fun K hK => ?_) AllReadyH.nil
            clear hHeld
            have cc : Chg (· = w.heap.size + 1 + 1) w6 ((w6.setCell ⟨w.heap.size + 1 + 1, 0, none⟩ (.slice (some ⟨g1, 0, none⟩) hs.length c1)).setCell ⟨w.heap.size + 1 + 1, 1, none⟩ (.slice a' n' c')) := ((Chg.refl (· = w.heap.size + 1 + 1) w6).setCell (p := ⟨w.heap.size + 1 + 1, 0, none⟩) rfl _).setCell (p := ⟨w.heap.size + 1 + 1, 1, none⟩) rfl _
            obtain ⟨zl, z0, z1⟩ := Z.c2
            have zf0 := Z.2.2 0
            have zf1 := Z.2.2 1
            have Z7 := (Z.set 0 (.slice (some ⟨g1, 0, none⟩) hs.length c1) (by simp)).set 1 (.slice a' n' c') (by simp)
            have X7 := cc.box X (by omega)
            have T7 := cc.box T5 (by omega)
            have hB7 := hB6.trans (cc.below (B := w.heap.size) (by have := hB6.size; omega) (fun g e => by omega))
            have S7 := S6.chg cc (fun g hg e => (List.mem_append.1 hg).elim (fun x => by have := (l1 _ x).1; omega) (fun x => by have := List.mem_singleton.1 x; omega)) (by omega) (fun g hg e => by have := HBT.out g hg; omega)
            obtain ⟨_, x0, x1⟩ := X7.c2
            obtain ⟨_, q0, q1, q2, q3, q4⟩ := T7.c5
            go_simp
            refine hK.out _ _ ⟨⟨x0, x1⟩, q0, q1, q2, q3, q4⟩ (fun hHeld => ?_)
            clear hK K x0 x1 q0 q1 q2 q3 q4 X T5 Z X7 T7 S6 hB6 cc z0 z1 zf0 zf1 zl hc6
            generalize (w6.setCell ⟨w.heap.size + 1 + 1, 0, none⟩ (.slice (some ⟨g1, 0, none⟩) hs.length c1)).setCell ⟨w.heap.size + 1 + 1, 1, none⟩ (.slice a' n' c') = v8 at *
            refine wpAnyH_take (i := 5) (oi := { dst := some 5, op := Op.assign (Operand.const (Value.bool true)), type := 4, pos := "l4_skip.go:88", after := #[{ on := 4, ground := Ground.chain }, { on := 0, ground := Ground.phase }, { on := 1, ground := Ground.phase }, { on := 2, ground := Ground.phase }, { on := 3, ground := Ground.phase }, { on := 4, ground := Ground.phase }], guard := none }) (v := .bool true) rfl (by kernel_rfl) (by kernel_rfl) (by kernel_rfl) (fun _ _ _ h => h) (Or.inl ⟨by rfl, ?_⟩) (by assumption) ?_
            · intro wx hSw
              clear hSw hHeld; go_simp
            simp only [Act.put, List.setIfInBounds_toArray, List.set_cons_zero, List.set_cons_succ]
            refine wpAnyH_done (by kernel_rfl) ?_ _
            clear hHeld
            obtain ⟨_, z0, z1⟩ := Z7.c2
            go_wp2
            exact bodyPost_ret (v := .tuple #[.agg #[.slice (some ⟨g1, 0, none⟩) hs.length c1, .slice a' n' c'], .bool true]) (by simp [results, Tryd.results9, go_sem, z0, z1]) rfl ⟨⟨_, _, _, rfl, .inl ⟨rfl, HY.out, g1, c1, _, _, rfl, by rw [HH.out, HT.out]; exact S7⟩⟩, hB7⟩
end Go.Proofs.YtcjkdkaahkphfaaDoor
