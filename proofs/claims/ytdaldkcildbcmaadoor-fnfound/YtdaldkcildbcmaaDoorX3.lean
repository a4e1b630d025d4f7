/-
  spec.l4Insert: a tower put into a list of one's own.
-/
import Derived.Test.YtdaldkcildbcmaaDoorX2
import Derived.Test.YtdaldkcildbcmaaDoorJ5
namespace Go.Proofs.YtdaldkcildbcmaaDoor
open Go.RowKit
set_option linter.unusedVariables false
set_option maxRecDepth 100000

theorem Box.news {w : World} {b : Nat} {vs : List Value} (h : Box w b vs) : ∀ j u, vs[j]? = some u → w.cell? ((⟨b, 0, none⟩ : Addr).add j) = some u := fun j u hj => by rw [Addr.add_lit, Nat.zero_add]; exact h.2.1 j u hj
theorem OwnS.drewn {w : World} {base : Nat} {H : List Int} {T : List Tw} {vT : Value} {g1 c1 : Nat} {gs cs : List Nat} (h : OwnS w base H T vT g1 c1 gs cs) : OwnS w.drew base H T vT g1 c1 gs cs := h.below (Below.refl _ _).drew
theorem ownsd {w : World} {base : Nat} {e : TypeId} {size : Nat} {v : Value} {n : Nat} {xs : List Value} (h : w.ownsRow base e size v n xs) : w.drew.ownsRow base e size v n xs := owns_below h (Below.refl _ _).drew
theorem Box.drewn {w : World} {b : Nat} {vs : List Value} (h : Box w b vs) : Box w.drew b vs := h.below (Below.refl _ _).drew
theorem Chg.drewn {S : Nat → Prop} {a w : World} (h : Chg S a w) : Chg S a w.drew := h.trans (Chg.of_below (Below.refl _ _).drew)

set_option maxHeartbeats 16000000 in
theorem l4Insert_any (hs : List Int) (ts : List Tw) (t : Tw) (aT : Option Addr) (cT g1 c1 base : Nat) (gs cs : List Nat) (w : World)
    (h : OwnS w base hs ts (.slice aT ts.length cT) g1 c1 gs cs) (G : GoodI hs ts) (hk : t.key.size ≤ 16) (hs0 : 0 ≤ t.seq) (hs1 : t.seq ≤ 1000000000) (hbase : base ≤ w.heap.size) :
    Calls Tryd.prog 46 #[.agg #[.slice (some ⟨g1, 0, none⟩) hs.length c1, .slice aT ts.length cT], .agg #[.string t.key, .int .i64 t.seq, .int .i64 t.kind, .string t.val]] w fun e w' =>
      ∃ vT' gs' cs', e = .returned (.agg #[.slice (some ⟨g1, 0, none⟩) hs.length c1, vT']) ∧ OwnS w' base (insHs hs ts t) (insTs hs ts t) vT' g1 c1 gs' cs' ∧ Chg (fun b => b = g1 ∨ b ∈ gs ∨ (Value.slice aT ts.length cT).ownBlock = some b) w w' := by
  have h5 := G.1
  have h60 := G.2.1
  have hx := h.il
  have hy := h.tw
  obtain ⟨l1, l2, l3⟩ := h.lt
  have KL := fun w hx hy => l4Before_any (.slice (some ⟨g1, 0, none⟩) hs.length c1) aT cT hs ts t w hx hy G
  have HLA : Hid (∀ lv, lv < 5 → ((lastL hs ts t 5).map (Value.int .i64))[lv]? = some (.int .i64 ((lastL hs ts t 5).getD lv 0)) ∧ ((lastL hs ts t 5).getD lv 0 = -1 ∨ okAt ts lv ((lastL hs ts t 5).getD lv 0))) := fun lv hlv => by
    obtain ⟨e1, e2⟩ := lastL_at hs ts t lv hlv
    rw [e1]
    exact ⟨e2, SkS_ok G t (5 - lv) (by omega) lv (by omega)⟩
  have HH : Hid (insHs hs ts t = (insTo hs ts (lastL hs ts t 5) ts.length (twN t.key t.seq.toNat)).1) := rfl
  have HT : Hid (insTs hs ts t = (insTo hs ts (lastL hs ts t 5) ts.length (twN t.key t.seq.toNat)).2 ++ [⟨t.key, t.seq, t.kind, t.val, ownL hs ts (lastL hs ts t 5) (twN t.key t.seq.toNat)⟩]) := rfl
  have hn5 := twN_le t.key t.seq.toNat
  obtain ⟨sn, hsn⟩ := Int.eq_ofNat_of_zero_le hs0
  have KT := fun v w hv => l4Tower_any v t.key t.seq.toNat w hv hk (by omega)
  have hsi : ((t.seq.toNat : Nat) : Int) = t.seq := by omega
  rw [hsi] at KT
  clear hsn hsi sn
  have HS0 : Hid (insTo hs ts (lastL hs ts t 5) ts.length 0 = (hs, ts)) := rfl
  have HOW : Hid (∀ lv, ownL hs ts (lastL hs ts t 5) (lv + 1) = ownL hs ts (lastL hs ts t 5) lv ++ [NX hs ts ((lastL hs ts t 5).getD lv 0) lv]) := fun lv => ownL_succ _ _ _ _
  have HO0 : Hid (ownL hs ts (lastL hs ts t 5) 0 = []) := rfl
  have HLN : Hid (∀ lv, (insTo hs ts (lastL hs ts t 5) ts.length lv).1.length = hs.length ∧ (insTo hs ts (lastL hs ts t 5) ts.length lv).2.length = ts.length) := fun lv => insTo_len _ _ _ _ _
  have HNX : Hid (∀ lv (a : Int), a = -1 ∨ 0 ≤ a → NX (insTo hs ts (lastL hs ts t 5) ts.length lv).1 (insTo hs ts (lastL hs ts t 5) ts.length lv).2 a lv = NX hs ts a lv) := fun lv a ha => insTo_NX _ _ _ _ _ _ _ (Nat.le_refl _) ha
  have HKP : Hid (∀ lv (i : Nat), (tw (insTo hs ts (lastL hs ts t 5) ts.length lv).2 (i : Int)).next.length = (tw ts (i : Int)).next.length) := fun lv i => (insTo_keep _ _ _ _ lv i).2.2.2.2
  have HSU : Hid (∀ lv, insTo hs ts (lastL hs ts t 5) ts.length (lv + 1) = (insH (insTo hs ts (lastL hs ts t 5) ts.length lv).1 ((lastL hs ts t 5).getD lv 0) lv ts.length, insT (insTo hs ts (lastL hs ts t 5) ts.length lv).2 ((lastL hs ts t 5).getD lv 0) lv ts.length)) := fun lv => rfl
  have H5 : Hid (hs.length = 5) := h5
  have HL1 : Hid (∀ b ∈ gs, base ≤ b ∧ b < w.heap.size) := l1
  have HL3 : Hid (∀ g, (Value.slice aT ts.length cT).ownBlock = some g → base ≤ g ∧ g < w.heap.size) := l3
  clear h5 l1 l3
  generalize insHs hs ts t = IH at *
  generalize insTs hs ts t = ITS at *
  generalize lastL hs ts t 5 = L at *
  generalize (SkS hs ts t 5).2 = M at *
  generalize twN t.key t.seq.toNat = n at *
  obtain ⟨k, s, d, v, tx⟩ := t
  dsimp only at *
  have HKT : Hid _ := KT
  clear G KT
  obtain ⟨i0, hi, hz0, hzs, hzb⟩ := info_parts Tryd.info3
  obtain ⟨j0, hj, jz0, jzs, jzb⟩ := info_parts Tryd.info73
  go_enter Tryd.func46, Tryd.ntmps46
  go_wp2_with fail
  refine (KL _ (hx.below (below3 _ _ _ _)) (hy.below (below3 _ _ _ _))).mono ?_
  rintro e w1 ⟨⟨gl, rfl, ol, hgl⟩, hb1⟩
  simp only [World.size_alloc] at hgl
  have hB1 := below_then (below3 _ _ _ _) hb1
  have X1 := (((Box.new w #[.slice (some ⟨g1, 0, none⟩) hs.length c1, .slice aT ts.length cT] 26).alloc (.cells #[.string k, .int .i64 s, .int .i64 d, .string v] 28)).alloc (.cells #[.slice none 0 0, .slice none 0 0] 26)).below hb1
  have Y1 := ((Box.new (w.alloc (.cells #[.slice (some ⟨g1, 0, none⟩) hs.length c1, .slice aT ts.length cT] 26)) #[.string k, .int .i64 s, .int .i64 d, .string v] 28).alloc (.cells #[.slice none 0 0, .slice none 0 0] 26)).below hb1
  have Z1 := (Box.new ((w.alloc (.cells #[.slice (some ⟨g1, 0, none⟩) hs.length c1, .slice aT ts.length cT] 26)).alloc (.cells #[.string k, .int .i64 s, .int .i64 d, .string v] 28)) #[.slice none 0 0, .slice none 0 0] 26).below hb1
  simp only [World.size_alloc] at Y1 Z1
  have hgll := owns_lt3 ol
  have hA := below_alloc w1 (.cells #[.string k, .int .i64 s, .int .i64 d, .string v, .slice none 0 0] 73)
  have T1 := Box.new w1 #[.string k, .int .i64 s, .int .i64 d, .string v, .slice none 0 0] 73
  obtain ⟨_, x0, x1⟩ := X1.c2
  obtain ⟨_, y0, y1, y2, y3⟩ := Y1.c4
  have hbt : gl < w1.heap.size := hgll
  have S1 := h.below (below_then hB1 hA)
  replace ol := owns_below ol hA
  replace X1 := X1.below hA
  replace Y1 := Y1.below hA
  replace Z1 := Z1.below hA
  replace hB1 := below_then hB1 hA
  clear hA hb1 KL h hx hy
  obtain ⟨bt, hbte⟩ : ∃ bt, bt = w1.heap.size := ⟨_, rfl⟩
  go_wp2
  rw [← hbte] at T1 hbt ⊢
  generalize w1.alloc (.cells #[.string k, .int .i64 s, .int .i64 d, .string v, .slice none 0 0] 73) = w2 at *
  clear hbte x0 x1 y0 y1 y2 y3
  go_loopw [9] (fun i wr => ∃ (lv : Nat) (ua : Option Addr) (uc : Nat), lv ≤ n ∧ i = .int .i64 lv ∧ OwnS wr base (insTo hs ts L ts.length lv).1 (insTo hs ts L ts.length lv).2 (.slice aT ts.length cT) g1 c1 gs cs ∧ wr.ownsRow (bt + 1) 3 1 (.slice ua lv uc) lv ((ownL hs ts L lv).map (.int .i64)) ∧ wr.ownsRow gl 3 1 (.slice (some ⟨gl, 0, none⟩) 5 5) 5 (L.map (.int .i64)) ∧ Box wr w.heap.size [.slice (some ⟨g1, 0, none⟩) hs.length c1, .slice aT ts.length cT] ∧ Box wr (w.heap.size + 1) [.string k, .int .i64 s, .int .i64 d, .string v] ∧ Box wr (w.heap.size + 1 + 1) [.slice none 0 0, .slice none 0 0] ∧ Box wr bt [.string k, .int .i64 s, .int .i64 d, .string v, .slice ua lv uc] ∧ Chg (fun b => b = g1 ∨ b ∈ gs ∨ (Value.slice aT ts.length cT).ownBlock = some b) w wr) (fun i _ => n - (intOf i).toNat)
  case atStart => exact ⟨0, none, 0, Nat.zero_le _, rfl, by rw [HS0.out]; exact S1, by rw [HO0.out]; exact World.ownsRow_nil _ _ _ _, ol, X1, Y1, Z1, T1, Chg.of_below hB1⟩
  case round =>
    clear S1 ol X1 Y1 Z1 T1 hB1
    obtain ⟨lv, ua, uc, hlv, rfl, S, O, OL, X, Y, Z, T, hB⟩ := hrel
    go_wp2_with fail
    by_cases hlt : lv < n
    · have hlti : (lv : Int) < (n : Int) := by omega
      have hD : Below wr.heap.size wr wr.drew := (Below.refl _ _).drew
      replace S := S.below hD
      replace O := owns_below O hD
      replace OL := owns_below OL hD
      replace X := X.below hD
      replace Y := Y.below hD
      replace Z := Z.below hD
      replace T := T.below hD
      replace hB := hB.trans (Chg.of_below hD)
      clear hD
      obtain ⟨_, y0, y1, y2, y3⟩ := Y.c4
      refine wp_region_held_drew (S := fun wx => wx.cell? ⟨w.heap.size + 1, 0, none⟩ = some (.string k) ∧ wx.cell? ⟨w.heap.size + 1, 1, none⟩ = some (.int .i64 s)) (by kernel_rfl) ⟨y0, y1⟩ (fun hHeld => ?_)
      generalize wr.drew = v0 at *
      clear y0 y1 y2 y3
      refine wpAnyH_take (i := 0) (oi := { dst := some 21, op := Op.move (Operand.tmp 9), type := 3, pos := "l4_skip.go:140", after := #[], guard := none }) (v := .int .i64 (lv : Int)) rfl (by kernel_rfl) (by kernel_rfl) (by kernel_rfl) (fun _ _ _ h => h) (Or.inl ⟨by rfl, ?_⟩) (by assumption) ?_
      · intro wx hSw
        clear hSw hHeld; go_simp
      simp only [Act.put, List.setIfInBounds_toArray, List.set_cons_zero, List.set_cons_succ]
      refine wpAnyH_take (i := 2) (oi := { dst := some 23, op := Op.fieldAddr 28 (Operand.tmp 3) 0, type := 0, pos := "l4_skip.go:140", after := #[], guard := none }) (v := .pointer (some ⟨w.heap.size + 1, 0, none⟩)) rfl (by kernel_rfl) (by kernel_rfl) (by kernel_rfl) (fun _ _ _ h => h) (Or.inl ⟨by rfl, ?_⟩) (by assumption) ?_
      · intro wx hSw
        clear hSw hHeld; go_simp
      simp only [Act.put, List.setIfInBounds_toArray, List.set_cons_zero, List.set_cons_succ]
      refine wpAnyH_take (i := 3) (oi := { dst := some 24, op := Op.load 9 (Operand.tmp 23), type := 9, pos := "l4_skip.go:140", after := #[{ on := 2, ground := Ground.data }], guard := none }) (v := .string k) rfl (by kernel_rfl) (by kernel_rfl) (by kernel_rfl) (fun _ _ _ h => h) (Or.inl ⟨by rfl, ?_⟩) (by assumption) ?_
      · intro wx hSw
        obtain ⟨r0, r1⟩ := hSw; clear hHeld; go_simp
      simp only [Act.put, List.setIfInBounds_toArray, List.set_cons_zero, List.set_cons_succ]
      refine wpAnyH_take (i := 4) (oi := { dst := some 25, op := Op.fieldAddr 28 (Operand.tmp 3) 1, type := 0, pos := "l4_skip.go:140", after := #[], guard := none }) (v := .pointer (some ⟨w.heap.size + 1, 1, none⟩)) rfl (by kernel_rfl) (by kernel_rfl) (by kernel_rfl) (fun _ _ _ h => h) (Or.inl ⟨by rfl, ?_⟩) (by assumption) ?_
      · intro wx hSw
        clear hSw hHeld; go_simp
      simp only [Act.put, List.setIfInBounds_toArray, List.set_cons_zero, List.set_cons_succ]
      refine wpAnyH_take (i := 5) (oi := { dst := some 26, op := Op.load 3 (Operand.tmp 25), type := 3, pos := "l4_skip.go:140", after := #[{ on := 4, ground := Ground.data }], guard := none }) (v := .int .i64 s) rfl (by kernel_rfl) (by kernel_rfl) (by kernel_rfl) (fun _ _ _ h => h) (Or.inl ⟨by rfl, ?_⟩) (by assumption) ?_
      · intro wx hSw
        obtain ⟨r0, r1⟩ := hSw; clear hHeld; go_simp
      simp only [Act.put, List.setIfInBounds_toArray, List.set_cons_zero, List.set_cons_succ]
      refine wpAnyH_ready (rs := [1]) (by kernel_rfl) (by simp) ?_
      refine AllReadyH.cons (o := { dst := some 22, op := Op.call { callee := Callee.value (Operand.func 53), args := #[], argTypes := #[] }, type := 88, pos := "l4_skip.go:140", after := #[], guard := none }) rfl (fun K hK => ?_) AllReadyH.nil
      clear hHeld
      go_simp
      refine (l2Table_any _).mono ?_
      rintro e v1 ⟨gt, rfl, ot, hbv⟩
      have tl1 := TL_of_owns ot
      replace S := S.below hbv
      replace O := owns_below O hbv
      replace OL := owns_below OL hbv
      replace X := X.below hbv
      replace Y := Y.below hbv
      replace Z := Z.below hbv
      replace T := T.below hbv
      replace hB := hB.trans (Chg.of_below hbv)
      clear hbv ot
      obtain ⟨_, y0, y1, y2, y3⟩ := Y.c4
      refine hK.out _ _ ⟨y0, y1⟩ (fun hHeld => ?_)
      clear hK K y0 y1 y2 y3
      try simp only [Act.put, List.setIfInBounds_toArray, List.set_cons_zero, List.set_cons_succ]
      refine wpAnyH_ready (rs := [6]) (by kernel_rfl) (by simp) ?_
      refine AllReadyH.cons (o := { dst := some 27, op := Op.call { callee := Callee.value (Operand.func 52), args := #[Operand.tmp 22, Operand.tmp 24, Operand.tmp 26], argTypes := #[88, 9, 3] }, type := 3, pos := "l4_skip.go:140", after := #[{ on := 1, ground := Ground.data }, { on := 3, ground := Ground.data }, { on := 5, ground := Ground.data }, { on := 1, ground := Ground.chain }], guard := none }) rfl (fun K hK => ?_) AllReadyH.nil
      clear hHeld
      go_simp
      refine (HKT.out _ _ tl1).mono ?_
      rintro e v2 ⟨rfl, hbv⟩
      replace S := S.below hbv
      replace O := owns_below O hbv
      replace OL := owns_below OL hbv
      replace X := X.below hbv
      replace Y := Y.below hbv
      replace Z := Z.below hbv
      replace T := T.below hbv
      replace hB := hB.trans (Chg.of_below hbv)
      clear hbv tl1
      obtain ⟨_, y0, y1, y2, y3⟩ := Y.c4
      refine hK.out _ _ ⟨y0, y1⟩ (fun hHeld => ?_)
      clear hK K y0 y1 y2 y3
      try simp only [Act.put, List.setIfInBounds_toArray, List.set_cons_zero, List.set_cons_succ]
      refine wpAnyH_take (i := 7) (oi := { dst := some 28, op := Op.binOp BinOp.lss 3 (Operand.tmp 21) (Operand.tmp 27) 3, type := 4, pos := "l4_skip.go:140", after := #[{ on := 0, ground := Ground.data }, { on := 6, ground := Ground.data }], guard := none }) (v := .bool true) rfl (by kernel_rfl) (by kernel_rfl) (by kernel_rfl) (fun _ _ _ h => h) (Or.inl ⟨by rfl, ?_⟩) (by assumption) ?_
      · intro wx hSw
        clear hSw hHeld; go_simp
      simp only [Act.put, List.setIfInBounds_toArray, List.set_cons_zero, List.set_cons_succ]
      refine wpAnyH_done (by kernel_rfl) ?_ _
      clear hHeld
      obtain ⟨a1, a2⟩ := HLA.out lv (by omega)
      have d0 := (OL.cellAt lv (by omega)).trans a1
      obtain ⟨e1, e2⟩ := HLN.out lv
      have HA : Hid (L.getD lv 0 = -1 ∨ okAt ts lv (L.getD lv 0)) := a2
      have HA2 : Hid (L.getD lv 0 = -1 ∨ okAt (insTo hs ts L ts.length lv).2 lv (L.getD lv 0)) := by
        rcases a2 with e | ⟨q0, q1, q2⟩
        · exact .inl e
        · obtain ⟨i, hi⟩ := Int.eq_ofNat_of_zero_le q0
          refine .inr ⟨q0, by rw [e2]; exact q1, ?_⟩
          rw [hi, HKP.out lv i, ← hi]; exact q2
      have HNX2 : Hid (NX (insTo hs ts L ts.length lv).1 (insTo hs ts L ts.length lv).2 (L.getD lv 0) lv = NX hs ts (L.getD lv 0) lv) := HNX.out lv _ (by rcases a2 with e | e; exact .inl e; exact .inr e.1)
      have KN : Hid (∀ W, OwnS W base (insTo hs ts L ts.length lv).1 (insTo hs ts L ts.length lv).2 (.slice aT ts.length cT) g1 c1 gs cs → Calls Tryd.prog 64 #[.agg #[.slice (some ⟨g1, 0, none⟩) hs.length c1, .slice aT ts.length cT], .int .i64 (L.getD lv 0), .int .i64 lv] W fun e w' => e = .returned (.int .i64 (NX hs ts (L.getD lv 0) lv)) ∧ Below W.heap.size W w') := fun W hW => by
        have hxx := hW.il
        rw [e1] at hxx
        have := l4Next_any (.slice (some ⟨g1, 0, none⟩) hs.length c1) (.slice aT ts.length cT) (insTo hs ts L ts.length lv).1 (insTo hs ts L ts.length lv).2 (L.getD lv 0) lv W hxx hW.tw (by rw [e1]; exact H5.out) (by omega) (by rw [e2]; exact h60) HA2.out
        rw [HNX2.out] at this
        exact this
      have HOW2 : Hid _ := HOW.out lv
      have HSU2 : Hid _ := HSU.out lv
      have hgll := owns_lt3 OL
      have HLA2 : Hid _ := HLA.out
      have HLN2 : Hid _ := HLN.out
      have HKP2 : Hid _ := HKP.out
      clear a1 a2 e1 e2 HNX2 HLA HOW HSU HNX HKP HLN HO0 HS0
      generalize hNX : NX hs ts (L.getD lv 0) lv = nv at *
      clear hNX
      generalize hav : L.getD lv 0 = av at *
      have HAV : Hid (L.getD lv 0 = av) := hav
      clear hav
      go_wp2_with fail
      have hD : Below v2.heap.size v2 v2.drew := (Below.refl _ _).drew
      replace S := S.below hD
      replace O := owns_below O hD
      replace OL := owns_below OL hD
      replace X := X.below hD
      replace Y := Y.below hD
      replace Z := Z.below hD
      replace T := T.below hD
      replace hB := hB.trans (Chg.of_below hD)
      replace d0 := (hD.cell (p := ⟨gl, lv, none⟩) hgll).trans d0
      have hgll' : gl < v2.drew.heap.size := Nat.lt_of_lt_of_le hgll hD.size
      clear hD hgll
      obtain ⟨_, x0, x1⟩ := X.c2
      have hl5 : (lv : Int) < 5 := by omega
      refine wp_region_held_drew (S := fun wx => (wx.cell? ⟨w.heap.size, 0, none⟩ = some (.slice (some ⟨g1, 0, none⟩) hs.length c1) ∧ wx.cell? ⟨w.heap.size, 1, none⟩ = some (.slice aT ts.length cT)) ∧ wx.cell? ⟨gl, lv, none⟩ = some (.int .i64 av)) (by kernel_rfl) ⟨⟨x0, x1⟩, d0⟩ (fun hHeld => ?_)
      generalize v2.drew = u0 at *
      clear x0 x1
      refine wpAnyH_take (i := 0) (oi := { dst := some 31, op := Op.fieldAddr 73 (Operand.tmp 7) 1, type := 0, pos := "l4_skip.go:141", after := #[], guard := none }) (v := .pointer (some ⟨bt, 4, none⟩)) rfl (by kernel_rfl) (by kernel_rfl) (by kernel_rfl) (fun _ _ _ h => h) (Or.inl ⟨by rfl, ?_⟩) (by assumption) ?_
      · intro wx hSw
        clear hSw hHeld; go_simp
      simp only [Act.put, List.setIfInBounds_toArray, List.set_cons_zero, List.set_cons_succ]
      refine wpAnyH_take (i := 2) (oi := { dst := some 33, op := Op.load 26 (Operand.tmp 2), type := 26, pos := "l4_skip.go:141", after := #[], guard := none }) (v := .agg #[.slice (some ⟨g1, 0, none⟩) hs.length c1, .slice aT ts.length cT]) rfl (by kernel_rfl) (by kernel_rfl) (by kernel_rfl) (fun _ _ _ h => h) (Or.inl ⟨by rfl, ?_⟩) (by assumption) ?_
      · intro wx hSw
        obtain ⟨⟨r0, r1⟩, r2⟩ := hSw; clear hHeld; go_simp
      simp only [Act.put, List.setIfInBounds_toArray, List.set_cons_zero, List.set_cons_succ]
      refine wpAnyH_take (i := 3) (oi := { dst := some 34, op := Op.move (Operand.tmp 5), type := 23, pos := "l4_skip.go:141", after := #[], guard := none }) (v := .slice (some ⟨gl, 0, none⟩) 5 5) rfl (by kernel_rfl) (by kernel_rfl) (by kernel_rfl) (fun _ _ _ h => h) (Or.inl ⟨by rfl, ?_⟩) (by assumption) ?_
      · intro wx hSw
        clear hSw hHeld; go_simp
      simp only [Act.put, List.setIfInBounds_toArray, List.set_cons_zero, List.set_cons_succ]
      refine wpAnyH_take (i := 4) (oi := { dst := some 35, op := Op.move (Operand.tmp 9), type := 3, pos := "l4_skip.go:141", after := #[], guard := none }) (v := .int .i64 (lv : Int)) rfl (by kernel_rfl) (by kernel_rfl) (by kernel_rfl) (fun _ _ _ h => h) (Or.inl ⟨by rfl, ?_⟩) (by assumption) ?_
      · intro wx hSw
        clear hSw hHeld; go_simp
      simp only [Act.put, List.setIfInBounds_toArray, List.set_cons_zero, List.set_cons_succ]
      refine wpAnyH_take (i := 5) (oi := { dst := some 36, op := Op.indexAddr 23 (Operand.tmp 34) (Operand.tmp 35), type := 0, pos := "l4_skip.go:141", after := #[{ on := 3, ground := Ground.data }, { on := 4, ground := Ground.data }], guard := none }) (v := .pointer (some ⟨gl, lv, none⟩)) rfl (by kernel_rfl) (by kernel_rfl) (by kernel_rfl) (fun _ _ _ h => h) (Or.inl ⟨by rfl, ?_⟩) (by assumption) ?_
      · intro wx hSw
        clear hSw hHeld; go_simp
      simp only [Act.put, List.setIfInBounds_toArray, List.set_cons_zero, List.set_cons_succ]
      refine wpAnyH_take (i := 6) (oi := { dst := some 37, op := Op.load 3 (Operand.tmp 36), type := 3, pos := "l4_skip.go:141", after := #[{ on := 5, ground := Ground.data }], guard := none }) (v := .int .i64 av) rfl (by kernel_rfl) (by kernel_rfl) (by kernel_rfl) (fun _ _ _ h => h) (Or.inl ⟨by rfl, ?_⟩) (by assumption) ?_
      · intro wx hSw
        obtain ⟨⟨r0, r1⟩, r2⟩ := hSw; clear hHeld; go_simp
      simp only [Act.put, List.setIfInBounds_toArray, List.set_cons_zero, List.set_cons_succ]
      refine wpAnyH_take (i := 7) (oi := { dst := some 38, op := Op.move (Operand.tmp 9), type := 3, pos := "l4_skip.go:141", after := #[], guard := none }) (v := .int .i64 (lv : Int)) rfl (by kernel_rfl) (by kernel_rfl) (by kernel_rfl) (fun _ _ _ h => h) (Or.inl ⟨by rfl, ?_⟩) (by assumption) ?_
      · intro wx hSw
        clear hSw hHeld; go_simp
      simp only [Act.put, List.setIfInBounds_toArray, List.set_cons_zero, List.set_cons_succ]
      refine wpAnyH_ready (rs := [1, 8]) (by kernel_rfl) (by simp) ?_
      refine (AllReadyH.cons (o := { dst := some 32, op := Op.load 23 (Operand.tmp 31), type := 23, pos := "l4_skip.go:141", after := #[{ on := 0, ground := Ground.data }], guard := none }) rfl (fun K hK => ?_) (AllReadyH.cons (o := { dst := some 39, op := Op.call { callee := Callee.value (Operand.func 64), args := #[Operand.tmp 33, Operand.tmp 37, Operand.tmp 38], argTypes := #[26, 3, 3] }, type := 3, pos := "l4_skip.go:141", after := #[{ on := 2, ground := Ground.data }, { on := 6, ground := Ground.data }, { on := 7, ground := Ground.data }], guard := none }) rfl (fun K hK => ?_) AllReadyH.nil))
      · clear hHeld
        obtain ⟨_, t0, t1, t2, t3, t4⟩ := T.c5
        obtain ⟨_, x0, x1⟩ := X.c2
        go_simp
        refine hK.out _ u0 ⟨⟨x0, x1⟩, d0⟩ (fun hHeld => ?_)
        clear hK K x0 x1 t0 t1 t2 t3 t4
        try simp only [Act.put, List.setIfInBounds_toArray, List.set_cons_zero, List.set_cons_succ]
        refine wpAnyH_ready (rs := [8]) (by kernel_rfl) (by simp) ?_
        refine (AllReadyH.cons (o := { dst := some 39, op := Op.call { callee := Callee.value (Operand.func 64), args := #[Operand.tmp 33, Operand.tmp 37, Operand.tmp 38], argTypes := #[26, 3, 3] }, type := 3, pos := "l4_skip.go:141", after := #[{ on := 2, ground := Ground.data }, { on := 6, ground := Ground.data }, { on := 7, ground := Ground.data }], guard := none }) rfl (fun K hK => ?_) AllReadyH.nil)
        clear hHeld
        go_simp
        refine (KN.out _ S).mono ?_
        rintro e p1 ⟨rfl, hbv⟩
        replace S := S.below hbv
        replace O := owns_below O hbv
        replace OL := owns_below OL hbv
        replace X := X.below hbv
        replace Y := Y.below hbv
        replace Z := Z.below hbv
        replace T := T.below hbv
        replace hB := hB.trans (Chg.of_below hbv)
        replace d0 := (hbv.cell (p := ⟨gl, lv, none⟩) hgll').trans d0
        have hgl2 : gl < p1.heap.size := Nat.lt_of_lt_of_le hgll' hbv.size
        clear hbv hgll'
        have hgll' := hgl2
        clear hgl2
        obtain ⟨_, x0, x1⟩ := X.c2
        refine hK.out _ _ ⟨⟨x0, x1⟩, d0⟩ (fun hHeld => ?_)
        clear hK K x0 x1
        try simp only [Act.put, List.setIfInBounds_toArray, List.set_cons_zero, List.set_cons_succ]
        refine wpAnyH_ready (rs := [9]) (by kernel_rfl) (by simp) ?_
        refine (AllReadyH.cons (o := { dst := some 40, op := Op.buildSlice 23 1 #[(0, Operand.tmp 39)], type := 23, pos := "l4_skip.go:141", after := #[{ on := 8, ground := Ground.data }], guard := none }) rfl (fun K hK => ?_) AllReadyH.nil)
        clear hHeld
        have hbv := below_alloc p1 (.cells #[.int .i64 nv] 3)
        have NB := Box.new p1 #[.int .i64 nv] 3
        have hnb : bt < p1.heap.size := T.1
        replace S := S.below hbv
        replace O := owns_below O hbv
        replace OL := owns_below OL hbv
        replace X := X.below hbv
        replace Y := Y.below hbv
        replace Z := Z.below hbv
        replace T := T.below hbv
        replace hB := hB.trans (Chg.of_below hbv)
        replace d0 := (hbv.cell (p := ⟨gl, lv, none⟩) hgll').trans d0
        clear hbv
        obtain ⟨_, x0, x1⟩ := X.c2
        go_simp
        refine hK.out _ _ ⟨⟨x0, x1⟩, d0⟩ (fun hHeld => ?_)
        clear hK K x0 x1
        generalize p1.heap.size = nb at *
        generalize p1.alloc (.cells #[.int .i64 nv] 3) = p2 at *
        try simp only [Act.put, List.setIfInBounds_toArray, List.set_cons_zero, List.set_cons_succ]
        refine wpAnyH_ready (rs := [10]) (by kernel_rfl) (by simp) ?_
        refine AllReadyH.cons (o := { dst := some 41, op := Op.call { callee := Callee.builtin Builtin.append, args := #[Operand.tmp 32, Operand.tmp 40], argTypes := #[23, 23] }, type := 23, pos := "l4_skip.go:141", after := #[{ on := 1, ground := Ground.data }, { on := 9, ground := Ground.data }, { on := 8, ground := Ground.chain }], guard := none }) rfl (fun K hK => ?_) AllReadyH.nil
        rw [if_pos (by rfl)]
        clear hHeld
        have n0 := NB.2.1 0 _ rfl
        refine wp_append_own_at _ _ 23 (by rfl) (bt + 1) 3 i0 (.int .i64 0) 1 8 Tryd.underlying23 hi hz0 hzs hzb rfl (by decide) (.slice ua lv uc) lv ((ownL hs ts L lv).map (.int .i64)) (by rfl) O ⟨nb, 0, none⟩ 1 1 [.int .i64 nv] (by rfl) rfl (fun j u hj => NB.news j u hj) (by intro u hu; simp at hu; subst hu; rfl) (by unfold maxLen; omega) (by omega) (by have := T.1; omega) ?_
        intro v' u2 o2 hgr2 _
        have C2 := chg_of_grown hgr2
        have hge := owns_ge O
        have hNE : ∀ g, (Value.slice ua lv uc).ownBlock = some g → bt < g := fun g hg => by have := hge g hg; omega
        have hwz := Z.1
        obtain ⟨_, l2b, _⟩ := S.lt
        replace S := S.chg C2 (fun g hg e => by have := hNE g e; have := (HL1.out g hg).2; omega) (fun e => by have := hNE _ e; omega) (fun g hg e => by have := hNE g e; have := (HL3.out g hg).2; omega)
        replace OL := C2.owns OL (fun g hg e => by have := blk_eq hg; have := hNE g e; omega)
        replace X := C2.box X (fun e => by have := hNE _ e; omega)
        replace Y := C2.box Y (fun e => by have := hNE _ e; omega)
        replace Z := C2.box Z (fun e => by have := hNE _ e; omega)
        replace T := C2.box T (fun e => by have := hNE _ e; omega)
        replace hB := hB.new (C2.mono (fun g e => by have := hNE g e; show w.heap.size ≤ g; omega))
        have O2 : u2.ownsRow (bt + 1) 3 1 v' (lv + 1) ((ownL hs ts L (lv + 1)).map (.int .i64)) := by rw [HOW2.out, List.map_append]; exact o2
        clear C2 hgr2 hge hNE O o2 NB n0
        replace d0 : u2.cell? ⟨gl, lv, none⟩ = some (.int .i64 av) := by
          have e := OL.cellAt lv (by omega)
          have e2 := (HLA2.out lv (by omega)).1
          rw [HAV.out] at e2
          exact e.trans e2
        obtain ⟨_, x0, x1⟩ := X.c2
        refine hK.out _ _ ⟨⟨x0, x1⟩, d0⟩ (fun hHeld => ?_)
        clear hK K x0 x1
        try simp only [Act.put, List.setIfInBounds_toArray, List.set_cons_zero, List.set_cons_succ]
        obtain ⟨ub, uc', rfl⟩ := slice_of O2
        refine wpAnyH_take (i := 11) (oi := { dst := some 42, op := Op.fieldAddr 73 (Operand.tmp 7) 1, type := 0, pos := "l4_skip.go:141", after := #[{ on := 0, ground := Ground.phase }, { on := 1, ground := Ground.phase }, { on := 2, ground := Ground.phase }, { on := 3, ground := Ground.phase }, { on := 4, ground := Ground.phase }, { on := 5, ground := Ground.phase }, { on := 6, ground := Ground.phase }, { on := 7, ground := Ground.phase }, { on := 8, ground := Ground.phase }, { on := 9, ground := Ground.phase }, { on := 10, ground := Ground.phase }], guard := none }) (v := .pointer (some ⟨bt, 4, none⟩)) rfl (by kernel_rfl) (by kernel_rfl) (by kernel_rfl) (fun _ _ _ h => h) (Or.inl ⟨by rfl, ?_⟩) (by assumption) ?_
        · intro wx hSw
          clear hSw hHeld; go_simp
        simp only [Act.put, List.setIfInBounds_toArray, List.set_cons_zero, List.set_cons_succ]
        refine wpAnyH_ready (rs := [12]) (by kernel_rfl) (by simp) ?_
        refine AllReadyH.cons (o := { dst := none, op := Op.store 23 (Operand.tmp 42) (Operand.tmp 41), type := 0, pos := "l4_skip.go:141", after := #[{ on := 11, ground := Ground.data }, { on := 10, ground := Ground.data }, { on := 10, ground := Ground.chain }, { on := 0, ground := Ground.phase }, { on := 1, ground := Ground.phase }, { on := 2, ground := Ground.phase }, { on := 3, ground := Ground.phase }, { on := 4, ground := Ground.phase }, { on := 5, ground := Ground.phase }, { on := 6, ground := Ground.phase }, { on := 7, ground := Ground.phase }, { on := 8, ground := Ground.phase }, { on := 9, ground := Ground.phase }, { on := 10, ground := Ground.phase }], guard := none }) rfl (fun K hK => ?_) AllReadyH.nil
        clear hHeld
        obtain ⟨_, t0, t1, t2, t3, t4⟩ := T.c5
        have tf4 := T.2.2 4
        have cc : Chg (· = bt) u2 (u2.setCell ⟨bt, 4, none⟩ (.slice ub (lv + 1) uc')) := (Chg.refl (· = bt) u2).setCell (p := ⟨bt, 4, none⟩) rfl _
        have hge := owns_ge O2
        have T2 := T.set 4 (.slice ub (lv + 1) uc') (by simp)
        replace S := S.chg cc (fun g hg e => by have := (HL1.out g hg).2; omega) (by omega) (fun g hg e => by have := (HL3.out g hg).2; omega)
        replace O2 := cc.owns O2 (fun g hg e => by have := hge g hg; omega)
        replace OL := cc.owns OL (fun g hg e => by have := blk_eq hg; omega)
        replace X := cc.box X (by omega)
        replace Y := cc.box Y (by omega)
        replace Z := cc.box Z (by omega)
        replace hB := hB.new (cc.mono (fun g (e : g = bt) => by show w.heap.size ≤ g; omega))
        replace d0 : (u2.setCell ⟨bt, 4, none⟩ (.slice ub (lv + 1) uc')).cell? ⟨gl, lv, none⟩ = some (.int .i64 av) := by
          rw [World.cell?_setCell_other _ _ _ _ (fun e => by have := congrArg Addr.block e; simp at this; omega)]; exact d0
        clear cc hge T
        obtain ⟨_, x0, x1⟩ := X.c2
        go_simp
        refine hK.out _ _ ⟨⟨x0, x1⟩, d0⟩ (fun hHeld => ?_)
        clear hK K x0 x1 t0 t1 t2 t3 t4 tf4
        generalize u2.setCell ⟨bt, 4, none⟩ (.slice ub (lv + 1) uc') = u3 at *
        refine wpAnyH_done (by kernel_rfl) ?_ _
        clear hHeld
        obtain ⟨_, x0, x1⟩ := X.c2
        rcases HA.out with ha | ⟨q0, q1, q2⟩
        · subst ha
          have S4 := S.putH lv (ts.length : Int)
          have HS4 : Hid (OwnS (u3.setCell ⟨g1, lv, none⟩ (.int .i64 (ts.length : Int))) base (insTo hs ts L ts.length (lv + 1)).1 (insTo hs ts L ts.length (lv + 1)).2 (.slice aT ts.length cT) g1 c1 gs cs) := by
            show OwnS _ _ _ _ _ _ _ _ _
            have e := HSU2.out
            rw [e]; exact S4
          have hH5 := (HLN2.out lv).1
          have c0 : ∃ u, u3.cell? ⟨g1, lv, none⟩ = some u := ⟨_, (S.head.cellAt lv (by have := H5.out; omega)).trans (List.getElem?_eq_getElem (by have := H5.out; simp; omega))⟩
          obtain ⟨u0', c0⟩ := c0
          have f0 := S.head.frozenAt lv
          have hg5 : (lv : Int) < (hs.length : Int) := by have := H5.out; omega
          have cc : Chg (· = g1) u3 (u3.setCell ⟨g1, lv, none⟩ (.int .i64 (ts.length : Int))) := (Chg.refl (· = g1) u3).setCell (p := ⟨g1, lv, none⟩) rfl _
          have hge := owns_ge O2
          replace O2 := cc.owns O2 (fun g hg e => by have := hge g hg; omega)
          replace OL := cc.owns OL (fun g hg e => by have := blk_eq hg; omega)
          have X5 := cc.box X (by omega)
          replace Y := cc.box Y (by omega)
          replace Z := cc.box Z (by omega)
          replace T2 := cc.box T2 (by omega)
          replace hB := hB.trans (cc.mono (fun g e => .inl e))
          clear cc S S4 hge hH5 X
          go_wp2
          go_roundw
          case rel => exact ⟨lv + 1, ub, uc', by omega, by go_num, HS4.out, O2, OL, X5, Y, Z, T2, hB⟩
          case measure => simp [intOf]; omega
        · obtain ⟨ia, rfl⟩ := Int.eq_ofNat_of_zero_le q0
          have hia0 : ¬ (ia : Int) < 0 := by omega
          go_wp2_with fail
          replace S := S.drewn
          replace O2 := ownsd O2
          replace OL := ownsd OL
          replace X := X.drewn
          replace Y := Y.drewn
          replace Z := Z.drewn
          replace T2 := T2.drewn
          replace hB := hB.drewn
          clear x0 x1
          obtain ⟨_, x0, x1⟩ := X.c2
          replace d0 : u3.drew.cell? ⟨gl, lv, none⟩ = some (.int .i64 (ia : Int)) := by
            have e := OL.cellAt lv (by omega)
            have e2 := (HLA2.out lv (by omega)).1
            rw [HAV.out] at e2
            exact e.trans e2
          obtain ⟨hH5, hT6⟩ := HLN2.out lv
          have hia : ia < (insTo hs ts L ts.length lv).2.length := by omega
          have hgl1 := S.len
          have hcl1 := S.room
          obtain ⟨gT, rfl, hnT, hbl, z0, z1, z2, z3, z4⟩ := S.cells ia hia (by omega) (by omega)
          clear hnT
          have S4 := S.putT ia hia lv (ts.length : Int)
          have htw : tw (insTo hs ts L ts.length lv).2 (ia : Int) = (insTo hs ts L ts.length lv).2[ia] := tw_at _ ia hia
          have HS4 : Hid (OwnS (u3.drew.setCell ⟨gs[ia]'(by omega), lv, none⟩ (.int .i64 (ts.length : Int))) base (insTo hs ts L ts.length (lv + 1)).1 (insTo hs ts L ts.length (lv + 1)).2 (.slice (some ⟨gT, 0, none⟩) ts.length cT) g1 c1 gs cs) := by
            show OwnS _ _ _ _ _ _ _ _ _
            have e := HSU2.out
            rw [e]
            unfold insH insT
            rw [if_neg (by omega), if_neg (by omega), htw, Int.toNat_natCast]
            exact S4
          have hnl : (insTo hs ts L ts.length lv).2[ia].next.length = (tw ts (ia : Int)).next.length := by rw [← htw]; exact HKP2.out lv ia
          have ho := S.lnk ia hia (by omega) (by omega)
          have c0 : ∃ u, u3.drew.cell? ⟨gs[ia]'(by omega), lv, none⟩ = some u := ⟨_, (ho.cellAt lv (by omega)).trans (List.getElem?_eq_getElem (by simp; omega))⟩
          obtain ⟨u0', c0⟩ := c0
          have f0 := ho.frozenAt lv
          have hgi := HL1.out _ (List.getElem_mem (l := gs) (n := ia) (by omega))
          have hgT3 := (HL3.out gT rfl).2
          have hgne : gT ≠ gs[ia]'(by omega) := fun e => (S.d1 gT rfl).1 (by rw [e]; exact List.getElem_mem _)
          have hmem : gs[ia]'(by omega) ∈ gs := List.getElem_mem _
          unfold lnkV at z4
          have hlv6 : lv < (insTo hs ts L ts.length lv).2[ia].next.length := by omega
          generalize (insTo hs ts L ts.length lv).2[ia].next.length = nl at *
          have HCS : Hid (Chg (· = gs[ia]'(by omega)) u3.drew (u3.drew.setCell ⟨gs[ia]'(by omega), lv, none⟩ (.int .i64 (ts.length : Int)))) := (Chg.refl (· = gs[ia]'(by omega)) u3.drew).setCell (p := ⟨gs[ia]'(by omega), lv, none⟩) rfl _
          generalize gs[ia]'(by omega) = gi at *
          generalize cs[ia]'(by omega) = ci at *
          have cc := HCS.out
          have hge := owns_ge O2
          replace O2 := cc.owns O2 (fun g hg e => by have := hge g hg; omega)
          replace OL := cc.owns OL (fun g hg e => by have := blk_eq hg; omega)
          have X5 := cc.box X (by omega)
          replace Y := cc.box Y (by omega)
          replace Z := cc.box Z (by omega)
          replace T2 := cc.box T2 (by omega)
          replace hB := hB.trans (cc.mono (fun g e => .inr (.inl (by rw [e]; exact hmem))))
          clear cc HCS S S4 hge ho htw hnl z0 z1 z2 z3 hgl1 hcl1
          have hnli : (lv : Int) < (nl : Int) := by omega
          have hiai : (ia : Int) < (ts.length : Int) := by omega
          clear hH5 hT6 hia
          refine wp_region_held_drew (S := fun wx => (wx.cell? ⟨w.heap.size, 1, none⟩ = some (.slice (some ⟨gT, 0, none⟩) ts.length cT) ∧ wx.cell? ⟨gl, lv, none⟩ = some (.int .i64 (ia : Int))) ∧ wx.cell? ⟨gT, ia * 5 + 4, none⟩ = some (.slice (some ⟨gi, 0, none⟩) nl ci)) (by kernel_rfl) ⟨⟨x1, d0⟩, z4⟩ (fun hHeld => ?_)
          generalize u3.drew = u4 at *
          refine wpAnyH_take (i := 0) (oi := { dst := some 53, op := Op.fieldAddr 26 (Operand.tmp 2) 1, type := 0, pos := "l4_skip.go:145", after := #[], guard := none }) (v := .pointer (some ⟨w.heap.size, 1, none⟩)) rfl (by kernel_rfl) (by kernel_rfl) (by kernel_rfl) (fun _ _ _ h => h) (Or.inl ⟨by rfl, ?_⟩) (by assumption) ?_
          · intro wx hSw
            clear hSw hHeld; go_simp
          simp only [Act.put, List.setIfInBounds_toArray, List.set_cons_zero, List.set_cons_succ]
          refine wpAnyH_take (i := 1) (oi := { dst := some 54, op := Op.load 24 (Operand.tmp 53), type := 24, pos := "l4_skip.go:145", after := #[{ on := 0, ground := Ground.data }], guard := none }) (v := .slice (some ⟨gT, 0, none⟩) ts.length cT) rfl (by kernel_rfl) (by kernel_rfl) (by kernel_rfl) (fun _ _ _ h => h) (Or.inl ⟨by rfl, ?_⟩) (by assumption) ?_
          · intro wx hSw
            obtain ⟨⟨r0, r1⟩, r2⟩ := hSw; clear hHeld; go_simp
          simp only [Act.put, List.setIfInBounds_toArray, List.set_cons_zero, List.set_cons_succ]
          refine wpAnyH_take (i := 2) (oi := { dst := some 55, op := Op.move (Operand.tmp 5), type := 23, pos := "l4_skip.go:145", after := #[], guard := none }) (v := .slice (some ⟨gl, 0, none⟩) 5 5) rfl (by kernel_rfl) (by kernel_rfl) (by kernel_rfl) (fun _ _ _ h => h) (Or.inl ⟨by rfl, ?_⟩) (by assumption) ?_
          · intro wx hSw
            clear hSw hHeld; go_simp
          simp only [Act.put, List.setIfInBounds_toArray, List.set_cons_zero, List.set_cons_succ]
          refine wpAnyH_take (i := 3) (oi := { dst := some 56, op := Op.move (Operand.tmp 9), type := 3, pos := "l4_skip.go:145", after := #[], guard := none }) (v := .int .i64 (lv : Int)) rfl (by kernel_rfl) (by kernel_rfl) (by kernel_rfl) (fun _ _ _ h => h) (Or.inl ⟨by rfl, ?_⟩) (by assumption) ?_
          · intro wx hSw
            clear hSw hHeld; go_simp
          simp only [Act.put, List.setIfInBounds_toArray, List.set_cons_zero, List.set_cons_succ]
          refine wpAnyH_take (i := 4) (oi := { dst := some 57, op := Op.indexAddr 23 (Operand.tmp 55) (Operand.tmp 56), type := 0, pos := "l4_skip.go:145", after := #[{ on := 2, ground := Ground.data }, { on := 3, ground := Ground.data }], guard := none }) (v := .pointer (some ⟨gl, lv, none⟩)) rfl (by kernel_rfl) (by kernel_rfl) (by kernel_rfl) (fun _ _ _ h => h) (Or.inl ⟨by rfl, ?_⟩) (by assumption) ?_
          · intro wx hSw
            clear hSw hHeld; go_simp
          simp only [Act.put, List.setIfInBounds_toArray, List.set_cons_zero, List.set_cons_succ]
          refine wpAnyH_take (i := 5) (oi := { dst := some 58, op := Op.load 3 (Operand.tmp 57), type := 3, pos := "l4_skip.go:145", after := #[{ on := 4, ground := Ground.data }], guard := none }) (v := .int .i64 (ia : Int)) rfl (by kernel_rfl) (by kernel_rfl) (by kernel_rfl) (fun _ _ _ h => h) (Or.inl ⟨by rfl, ?_⟩) (by assumption) ?_
          · intro wx hSw
            obtain ⟨⟨r0, r1⟩, r2⟩ := hSw; clear hHeld; go_simp
          simp only [Act.put, List.setIfInBounds_toArray, List.set_cons_zero, List.set_cons_succ]
          refine wpAnyH_take (i := 6) (oi := { dst := some 59, op := Op.indexAddr 24 (Operand.tmp 54) (Operand.tmp 58), type := 0, pos := "l4_skip.go:145", after := #[{ on := 1, ground := Ground.data }, { on := 5, ground := Ground.data }], guard := none }) (v := .pointer (some ⟨gT, ia * 5, none⟩)) rfl (by kernel_rfl) (by kernel_rfl) (by kernel_rfl) (fun _ _ _ h => h) (Or.inl ⟨by rfl, ?_⟩) (by assumption) ?_
          · intro wx hSw
            clear hSw hHeld; go_simp
          simp only [Act.put, List.setIfInBounds_toArray, List.set_cons_zero, List.set_cons_succ]
          refine wpAnyH_take (i := 7) (oi := { dst := some 60, op := Op.fieldAddr 73 (Operand.tmp 59) 1, type := 0, pos := "l4_skip.go:145", after := #[{ on := 6, ground := Ground.data }], guard := none }) (v := .pointer (some ⟨gT, ia * 5 + 4, none⟩)) rfl (by kernel_rfl) (by kernel_rfl) (by kernel_rfl) (fun _ _ _ h => h) (Or.inl ⟨by rfl, ?_⟩) (by assumption) ?_
          · intro wx hSw
            clear hSw hHeld; go_simp
          simp only [Act.put, List.setIfInBounds_toArray, List.set_cons_zero, List.set_cons_succ]
          refine wpAnyH_take (i := 8) (oi := { dst := some 61, op := Op.load 23 (Operand.tmp 60), type := 23, pos := "l4_skip.go:145", after := #[{ on := 7, ground := Ground.data }], guard := none }) (v := .slice (some ⟨gi, 0, none⟩) nl ci) rfl (by kernel_rfl) (by kernel_rfl) (by kernel_rfl) (fun _ _ _ h => h) (Or.inl ⟨by rfl, ?_⟩) (by assumption) ?_
          · intro wx hSw
            obtain ⟨⟨r0, r1⟩, r2⟩ := hSw; clear hHeld; go_simp
          simp only [Act.put, List.setIfInBounds_toArray, List.set_cons_zero, List.set_cons_succ]
          refine wpAnyH_take (i := 9) (oi := { dst := some 62, op := Op.move (Operand.tmp 9), type := 3, pos := "l4_skip.go:145", after := #[], guard := none }) (v := .int .i64 (lv : Int)) rfl (by kernel_rfl) (by kernel_rfl) (by kernel_rfl) (fun _ _ _ h => h) (Or.inl ⟨by rfl, ?_⟩) (by assumption) ?_
          · intro wx hSw
            clear hSw hHeld; go_simp
          simp only [Act.put, List.setIfInBounds_toArray, List.set_cons_zero, List.set_cons_succ]
          refine wpAnyH_take (i := 10) (oi := { dst := some 63, op := Op.move (Operand.tmp 8), type := 3, pos := "l4_skip.go:145", after := #[], guard := none }) (v := .int .i64 (ts.length : Int)) rfl (by kernel_rfl) (by kernel_rfl) (by kernel_rfl) (fun _ _ _ h => h) (Or.inl ⟨by rfl, ?_⟩) (by assumption) ?_
          · intro wx hSw
            clear hSw hHeld; go_simp
          simp only [Act.put, List.setIfInBounds_toArray, List.set_cons_zero, List.set_cons_succ]
          refine wpAnyH_take (i := 11) (oi := { dst := some 64, op := Op.indexAddr 23 (Operand.tmp 61) (Operand.tmp 62), type := 0, pos := "l4_skip.go:145", after := #[{ on := 8, ground := Ground.data }, { on := 9, ground := Ground.data }, { on := 0, ground := Ground.phase }, { on := 1, ground := Ground.phase }, { on := 2, ground := Ground.phase }, { on := 3, ground := Ground.phase }, { on := 4, ground := Ground.phase }, { on := 5, ground := Ground.phase }, { on := 6, ground := Ground.phase }, { on := 7, ground := Ground.phase }, { on := 8, ground := Ground.phase }, { on := 9, ground := Ground.phase }, { on := 10, ground := Ground.phase }], guard := none }) (v := .pointer (some ⟨gi, lv, none⟩)) rfl (by kernel_rfl) (by kernel_rfl) (by kernel_rfl) (fun _ _ _ h => h) (Or.inl ⟨by rfl, ?_⟩) (by assumption) ?_
          · intro wx hSw
            clear hSw hHeld; go_simp
          simp only [Act.put, List.setIfInBounds_toArray, List.set_cons_zero, List.set_cons_succ]
          refine wpAnyH_ready (rs := [12]) (by kernel_rfl) (by simp) ?_
          refine AllReadyH.cons (o := { dst := none, op := Op.store 3 (Operand.tmp 64) (Operand.tmp 63), type := 0, pos := "l4_skip.go:145", after := #[{ on := 11, ground := Ground.data }, { on := 10, ground := Ground.data }, { on := 0, ground := Ground.phase }, { on := 1, ground := Ground.phase }, { on := 2, ground := Ground.phase }, { on := 3, ground := Ground.phase }, { on := 4, ground := Ground.phase }, { on := 5, ground := Ground.phase }, { on := 6, ground := Ground.phase }, { on := 7, ground := Ground.phase }, { on := 8, ground := Ground.phase }, { on := 9, ground := Ground.phase }, { on := 10, ground := Ground.phase }], guard := none }) rfl (fun K hK => ?_) AllReadyH.nil
          clear hHeld
          go_simp
          refine hK.out _ _ ⟨⟨X5.2.1 1 _ rfl, by rw [World.cell?_setCell_other _ _ _ _ (fun e => by have := congrArg Addr.block e; simp at this; omega)]; exact d0⟩, by rw [World.cell?_setCell_other _ _ _ _ (fun e => by have := congrArg Addr.block e; simp at this; omega)]; exact z4⟩ (fun hHeld => ?_)
          clear hK K
          refine wpAnyH_done (by kernel_rfl) ?_ _
          clear hHeld
          go_wp2
          go_roundw
          case rel => exact ⟨lv + 1, ub, uc', by omega, by go_num, HS4.out, O2, OL, X5, Y, Z, T2, hB⟩
          case measure => simp [intOf]; omega
      · clear hHeld
        go_simp
        refine (KN.out _ S).mono ?_
        rintro e p3 ⟨rfl, hbv⟩
        replace S := S.below hbv
        replace O := owns_below O hbv
        replace OL := owns_below OL hbv
        replace X := X.below hbv
        replace Y := Y.below hbv
        replace Z := Z.below hbv
        replace T := T.below hbv
        replace hB := hB.trans (Chg.of_below hbv)
        replace d0 := (hbv.cell (p := ⟨gl, lv, none⟩) hgll').trans d0
        have hgl2 : gl < p3.heap.size := Nat.lt_of_lt_of_le hgll' hbv.size
        clear hbv hgll'
        have hgll' := hgl2
        clear hgl2
        obtain ⟨_, x0, x1⟩ := X.c2
        refine hK.out _ _ ⟨⟨x0, x1⟩, d0⟩ (fun hHeld => ?_)
        clear hK K x0 x1
        try simp only [Act.put, List.setIfInBounds_toArray, List.set_cons_zero, List.set_cons_succ]
        refine wpAnyH_ready (rs := [1, 9]) (by kernel_rfl) (by simp) ?_
        refine (AllReadyH.cons (o := { dst := some 32, op := Op.load 23 (Operand.tmp 31), type := 23, pos := "l4_skip.go:141", after := #[{ on := 0, ground := Ground.data }], guard := none }) rfl (fun K hK => ?_) (AllReadyH.cons (o := { dst := some 40, op := Op.buildSlice 23 1 #[(0, Operand.tmp 39)], type := 23, pos := "l4_skip.go:141", after := #[{ on := 8, ground := Ground.data }], guard := none }) rfl (fun K hK => ?_) AllReadyH.nil))
        · clear hHeld
          obtain ⟨_, t0, t1, t2, t3, t4⟩ := T.c5
          obtain ⟨_, x0, x1⟩ := X.c2
          go_simp
          refine hK.out _ p3 ⟨⟨x0, x1⟩, d0⟩ (fun hHeld => ?_)
          clear hK K x0 x1 t0 t1 t2 t3 t4
          try simp only [Act.put, List.setIfInBounds_toArray, List.set_cons_zero, List.set_cons_succ]
          refine wpAnyH_ready (rs := [9]) (by kernel_rfl) (by simp) ?_
          refine (AllReadyH.cons (o := { dst := some 40, op := Op.buildSlice 23 1 #[(0, Operand.tmp 39)], type := 23, pos := "l4_skip.go:141", after := #[{ on := 8, ground := Ground.data }], guard := none }) rfl (fun K hK => ?_) AllReadyH.nil)
          clear hHeld
          have hbv := below_alloc p3 (.cells #[.int .i64 nv] 3)
          have NB := Box.new p3 #[.int .i64 nv] 3
          have hnb : bt < p3.heap.size := T.1
          replace S := S.below hbv
          replace O := owns_below O hbv
          replace OL := owns_below OL hbv
          replace X := X.below hbv
          replace Y := Y.below hbv
          replace Z := Z.below hbv
          replace T := T.below hbv
          replace hB := hB.trans (Chg.of_below hbv)
          replace d0 := (hbv.cell (p := ⟨gl, lv, none⟩) hgll').trans d0
          clear hbv
          obtain ⟨_, x0, x1⟩ := X.c2
          go_simp
          refine hK.out _ _ ⟨⟨x0, x1⟩, d0⟩ (fun hHeld => ?_)
          clear hK K x0 x1
          generalize p3.heap.size = nb at *
          generalize p3.alloc (.cells #[.int .i64 nv] 3) = p4 at *
          try simp only [Act.put, List.setIfInBounds_toArray, List.set_cons_zero, List.set_cons_succ]
          refine wpAnyH_ready (rs := [10]) (by kernel_rfl) (by simp) ?_
          refine AllReadyH.cons (o := { dst := some 41, op := Op.call { callee := Callee.builtin Builtin.append, args := #[Operand.tmp 32, Operand.tmp 40], argTypes := #[23, 23] }, type := 23, pos := "l4_skip.go:141", after := #[{ on := 1, ground := Ground.data }, { on := 9, ground := Ground.data }, { on := 8, ground := Ground.chain }], guard := none }) rfl (fun K hK => ?_) AllReadyH.nil
          rw [if_pos (by rfl)]
          clear hHeld
          have n0 := NB.2.1 0 _ rfl
          refine wp_append_own_at _ _ 23 (by rfl) (bt + 1) 3 i0 (.int .i64 0) 1 8 Tryd.underlying23 hi hz0 hzs hzb rfl (by decide) (.slice ua lv uc) lv ((ownL hs ts L lv).map (.int .i64)) (by rfl) O ⟨nb, 0, none⟩ 1 1 [.int .i64 nv] (by rfl) rfl (fun j u hj => NB.news j u hj) (by intro u hu; simp at hu; subst hu; rfl) (by unfold maxLen; omega) (by omega) (by have := T.1; omega) ?_
          intro v' u2 o2 hgr2 _
          have C2 := chg_of_grown hgr2
          have hge := owns_ge O
          have hNE : ∀ g, (Value.slice ua lv uc).ownBlock = some g → bt < g := fun g hg => by have := hge g hg; omega
          have hwz := Z.1
          obtain ⟨_, l2b, _⟩ := S.lt
          replace S := S.chg C2 (fun g hg e => by have := hNE g e; have := (HL1.out g hg).2; omega) (fun e => by have := hNE _ e; omega) (fun g hg e => by have := hNE g e; have := (HL3.out g hg).2; omega)
          replace OL := C2.owns OL (fun g hg e => by have := blk_eq hg; have := hNE g e; omega)
          replace X := C2.box X (fun e => by have := hNE _ e; omega)
          replace Y := C2.box Y (fun e => by have := hNE _ e; omega)
          replace Z := C2.box Z (fun e => by have := hNE _ e; omega)
          replace T := C2.box T (fun e => by have := hNE _ e; omega)
          replace hB := hB.new (C2.mono (fun g e => by have := hNE g e; show w.heap.size ≤ g; omega))
          have O2 : u2.ownsRow (bt + 1) 3 1 v' (lv + 1) ((ownL hs ts L (lv + 1)).map (.int .i64)) := by rw [HOW2.out, List.map_append]; exact o2
          clear C2 hgr2 hge hNE O o2 NB n0
          replace d0 : u2.cell? ⟨gl, lv, none⟩ = some (.int .i64 av) := by
            have e := OL.cellAt lv (by omega)
            have e2 := (HLA2.out lv (by omega)).1
            rw [HAV.out] at e2
            exact e.trans e2
          obtain ⟨_, x0, x1⟩ := X.c2
          refine hK.out _ _ ⟨⟨x0, x1⟩, d0⟩ (fun hHeld => ?_)
          clear hK K x0 x1
          try simp only [Act.put, List.setIfInBounds_toArray, List.set_cons_zero, List.set_cons_succ]
          obtain ⟨ub, uc', rfl⟩ := slice_of O2
          refine wpAnyH_take (i := 11) (oi := { dst := some 42, op := Op.fieldAddr 73 (Operand.tmp 7) 1, type := 0, pos := "l4_skip.go:141", after := #[{ on := 0, ground := Ground.phase }, { on := 1, ground := Ground.phase }, { on := 2, ground := Ground.phase }, { on := 3, ground := Ground.phase }, { on := 4, ground := Ground.phase }, { on := 5, ground := Ground.phase }, { on := 6, ground := Ground.phase }, { on := 7, ground := Ground.phase }, { on := 8, ground := Ground.phase }, { on := 9, ground := Ground.phase }, { on := 10, ground := Ground.phase }], guard := none }) (v := .pointer (some ⟨bt, 4, none⟩)) rfl (by kernel_rfl) (by kernel_rfl) (by kernel_rfl) (fun _ _ _ h => h) (Or.inl ⟨by rfl, ?_⟩) (by assumption) ?_
          · intro wx hSw
            clear hSw hHeld; go_simp
          simp only [Act.put, List.setIfInBounds_toArray, List.set_cons_zero, List.set_cons_succ]
          refine wpAnyH_ready (rs := [12]) (by kernel_rfl) (by simp) ?_
          refine AllReadyH.cons (o := { dst := none, op := Op.store 23 (Operand.tmp 42) (Operand.tmp 41), type := 0, pos := "l4_skip.go:141", after := #[{ on := 11, ground := Ground.data }, { on := 10, ground := Ground.data }, { on := 10, ground := Ground.chain }, { on := 0, ground := Ground.phase }, { on := 1, ground := Ground.phase }, { on := 2, ground := Ground.phase }, { on := 3, ground := Ground.phase }, { on := 4, ground := Ground.phase }, { on := 5, ground := Ground.phase }, { on := 6, ground := Ground.phase }, { on := 7, ground := Ground.phase }, { on := 8, ground := Ground.phase }, { on := 9, ground := Ground.phase }, { on := 10, ground := Ground.phase }], guard := none }) rfl (fun K hK => ?_) AllReadyH.nil
          clear hHeld
          obtain ⟨_, t0, t1, t2, t3, t4⟩ := T.c5
          have tf4 := T.2.2 4
          have cc : Chg (· = bt) u2 (u2.setCell ⟨bt, 4, none⟩ (.slice ub (lv + 1) uc')) := (Chg.refl (· = bt) u2).setCell (p := ⟨bt, 4, none⟩) rfl _
          have hge := owns_ge O2
          have T2 := T.set 4 (.slice ub (lv + 1) uc') (by simp)
          replace S := S.chg cc (fun g hg e => by have := (HL1.out g hg).2; omega) (by omega) (fun g hg e => by have := (HL3.out g hg).2; omega)
          replace O2 := cc.owns O2 (fun g hg e => by have := hge g hg; omega)
          replace OL := cc.owns OL (fun g hg e => by have := blk_eq hg; omega)
          replace X := cc.box X (by omega)
          replace Y := cc.box Y (by omega)
          replace Z := cc.box Z (by omega)
          replace hB := hB.new (cc.mono (fun g (e : g = bt) => by show w.heap.size ≤ g; omega))
          replace d0 : (u2.setCell ⟨bt, 4, none⟩ (.slice ub (lv + 1) uc')).cell? ⟨gl, lv, none⟩ = some (.int .i64 av) := by
            rw [World.cell?_setCell_other _ _ _ _ (fun e => by have := congrArg Addr.block e; simp at this; omega)]; exact d0
          clear cc hge T
          obtain ⟨_, x0, x1⟩ := X.c2
          go_simp
          refine hK.out _ _ ⟨⟨x0, x1⟩, d0⟩ (fun hHeld => ?_)
          clear hK K x0 x1 t0 t1 t2 t3 t4 tf4
          generalize u2.setCell ⟨bt, 4, none⟩ (.slice ub (lv + 1) uc') = u3 at *
          refine wpAnyH_done (by kernel_rfl) ?_ _
          clear hHeld
          obtain ⟨_, x0, x1⟩ := X.c2
          rcases HA.out with ha | ⟨q0, q1, q2⟩
          · subst ha
            have S4 := S.putH lv (ts.length : Int)
            have HS4 : Hid (OwnS (u3.setCell ⟨g1, lv, none⟩ (.int .i64 (ts.length : Int))) base (insTo hs ts L ts.length (lv + 1)).1 (insTo hs ts L ts.length (lv + 1)).2 (.slice aT ts.length cT) g1 c1 gs cs) := by
              show OwnS _ _ _ _ _ _ _ _ _
              have e := HSU2.out
              rw [e]; exact S4
            have hH5 := (HLN2.out lv).1
            have c0 : ∃ u, u3.cell? ⟨g1, lv, none⟩ = some u := ⟨_, (S.head.cellAt lv (by have := H5.out; omega)).trans (List.getElem?_eq_getElem (by have := H5.out; simp; omega))⟩
            obtain ⟨u0', c0⟩ := c0
            have f0 := S.head.frozenAt lv
            have hg5 : (lv : Int) < (hs.length : Int) := by have := H5.out; omega
            have cc : Chg (· = g1) u3 (u3.setCell ⟨g1, lv, none⟩ (.int .i64 (ts.length : Int))) := (Chg.refl (· = g1) u3).setCell (p := ⟨g1, lv, none⟩) rfl _
            have hge := owns_ge O2
            replace O2 := cc.owns O2 (fun g hg e => by have := hge g hg; omega)
            replace OL := cc.owns OL (fun g hg e => by have := blk_eq hg; omega)
            have X5 := cc.box X (by omega)
            replace Y := cc.box Y (by omega)
            replace Z := cc.box Z (by omega)
            replace T2 := cc.box T2 (by omega)
            replace hB := hB.trans (cc.mono (fun g e => .inl e))
            clear cc S S4 hge hH5 X
            go_wp2
            go_roundw
            case rel => exact ⟨lv + 1, ub, uc', by omega, by go_num, HS4.out, O2, OL, X5, Y, Z, T2, hB⟩
            case measure => simp [intOf]; omega
          · obtain ⟨ia, rfl⟩ := Int.eq_ofNat_of_zero_le q0
            have hia0 : ¬ (ia : Int) < 0 := by omega
            go_wp2_with fail
            replace S := S.drewn
            replace O2 := ownsd O2
            replace OL := ownsd OL
            replace X := X.drewn
            replace Y := Y.drewn
            replace Z := Z.drewn
            replace T2 := T2.drewn
            replace hB := hB.drewn
            clear x0 x1
            obtain ⟨_, x0, x1⟩ := X.c2
            replace d0 : u3.drew.cell? ⟨gl, lv, none⟩ = some (.int .i64 (ia : Int)) := by
              have e := OL.cellAt lv (by omega)
              have e2 := (HLA2.out lv (by omega)).1
              rw [HAV.out] at e2
              exact e.trans e2
            obtain ⟨hH5, hT6⟩ := HLN2.out lv
            have hia : ia < (insTo hs ts L ts.length lv).2.length := by omega
            have hgl1 := S.len
            have hcl1 := S.room
            obtain ⟨gT, rfl, hnT, hbl, z0, z1, z2, z3, z4⟩ := S.cells ia hia (by omega) (by omega)
            clear hnT
            have S4 := S.putT ia hia lv (ts.length : Int)
            have htw : tw (insTo hs ts L ts.length lv).2 (ia : Int) = (insTo hs ts L ts.length lv).2[ia] := tw_at _ ia hia
            have HS4 : Hid (OwnS (u3.drew.setCell ⟨gs[ia]'(by omega), lv, none⟩ (.int .i64 (ts.length : Int))) base (insTo hs ts L ts.length (lv + 1)).1 (insTo hs ts L ts.length (lv + 1)).2 (.slice (some ⟨gT, 0, none⟩) ts.length cT) g1 c1 gs cs) := by
              show OwnS _ _ _ _ _ _ _ _ _
              have e := HSU2.out
              rw [e]
              unfold insH insT
              rw [if_neg (by omega), if_neg (by omega), htw, Int.toNat_natCast]
              exact S4
            have hnl : (insTo hs ts L ts.length lv).2[ia].next.length = (tw ts (ia : Int)).next.length := by rw [← htw]; exact HKP2.out lv ia
            have ho := S.lnk ia hia (by omega) (by omega)
            have c0 : ∃ u, u3.drew.cell? ⟨gs[ia]'(by omega), lv, none⟩ = some u := ⟨_, (ho.cellAt lv (by omega)).trans (List.getElem?_eq_getElem (by simp; omega))⟩
            obtain ⟨u0', c0⟩ := c0
            have f0 := ho.frozenAt lv
            have hgi := HL1.out _ (List.getElem_mem (l := gs) (n := ia) (by omega))
            have hgT3 := (HL3.out gT rfl).2
            have hgne : gT ≠ gs[ia]'(by omega) := fun e => (S.d1 gT rfl).1 (by rw [e]; exact List.getElem_mem _)
            have hmem : gs[ia]'(by omega) ∈ gs := List.getElem_mem _
            unfold lnkV at z4
            have hlv6 : lv < (insTo hs ts L ts.length lv).2[ia].next.length := by omega
            generalize (insTo hs ts L ts.length lv).2[ia].next.length = nl at *
            have HCS : Hid (Chg (· = gs[ia]'(by omega)) u3.drew (u3.drew.setCell ⟨gs[ia]'(by omega), lv, none⟩ (.int .i64 (ts.length : Int)))) := (Chg.refl (· = gs[ia]'(by omega)) u3.drew).setCell (p := ⟨gs[ia]'(by omega), lv, none⟩) rfl _
            generalize gs[ia]'(by omega) = gi at *
            generalize cs[ia]'(by omega) = ci at *
            have cc := HCS.out
            have hge := owns_ge O2
            replace O2 := cc.owns O2 (fun g hg e => by have := hge g hg; omega)
            replace OL := cc.owns OL (fun g hg e => by have := blk_eq hg; omega)
            have X5 := cc.box X (by omega)
            replace Y := cc.box Y (by omega)
            replace Z := cc.box Z (by omega)
            replace T2 := cc.box T2 (by omega)
            replace hB := hB.trans (cc.mono (fun g e => .inr (.inl (by rw [e]; exact hmem))))
            clear cc HCS S S4 hge ho htw hnl z0 z1 z2 z3 hgl1 hcl1
            have hnli : (lv : Int) < (nl : Int) := by omega
            have hiai : (ia : Int) < (ts.length : Int) := by omega
            clear hH5 hT6 hia
            refine wp_region_held_drew (S := fun wx => (wx.cell? ⟨w.heap.size, 1, none⟩ = some (.slice (some ⟨gT, 0, none⟩) ts.length cT) ∧ wx.cell? ⟨gl, lv, none⟩ = some (.int .i64 (ia : Int))) ∧ wx.cell? ⟨gT, ia * 5 + 4, none⟩ = some (.slice (some ⟨gi, 0, none⟩) nl ci)) (by kernel_rfl) ⟨⟨x1, d0⟩, z4⟩ (fun hHeld => ?_)
            generalize u3.drew = u4 at *
            refine wpAnyH_take (i := 0) (oi := { dst := some 53, op := Op.fieldAddr 26 (Operand.tmp 2) 1, type := 0, pos := "l4_skip.go:145", after := #[], guard := none }) (v := .pointer (some ⟨w.heap.size, 1, none⟩)) rfl (by kernel_rfl) (by kernel_rfl) (by kernel_rfl) (fun _ _ _ h => h) (Or.inl ⟨by rfl, ?_⟩) (by assumption) ?_
            · intro wx hSw
              clear hSw hHeld; go_simp
            simp only [Act.put, List.setIfInBounds_toArray, List.set_cons_zero, List.set_cons_succ]
            refine wpAnyH_take (i := 1) (oi := { dst := some 54, op := Op.load 24 (Operand.tmp 53), type := 24, pos := "l4_skip.go:145", after := #[{ on := 0, ground := Ground.data }], guard := none }) (v := .slice (some ⟨gT, 0, none⟩) ts.length cT) rfl (by kernel_rfl) (by kernel_rfl) (by kernel_rfl) (fun _ _ _ h => h) (Or.inl ⟨by rfl, ?_⟩) (by assumption) ?_
            · intro wx hSw
              obtain ⟨⟨r0, r1⟩, r2⟩ := hSw; clear hHeld; go_simp
            simp only [Act.put, List.setIfInBounds_toArray, List.set_cons_zero, List.set_cons_succ]
            refine wpAnyH_take (i := 2) (oi := { dst := some 55, op := Op.move (Operand.tmp 5), type := 23, pos := "l4_skip.go:145", after := #[], guard := none }) (v := .slice (some ⟨gl, 0, none⟩) 5 5) rfl (by kernel_rfl) (by kernel_rfl) (by kernel_rfl) (fun _ _ _ h => h) (Or.inl ⟨by rfl, ?_⟩) (by assumption) ?_
            · intro wx hSw
              clear hSw hHeld; go_simp
            simp only [Act.put, List.setIfInBounds_toArray, List.set_cons_zero, List.set_cons_succ]
            refine wpAnyH_take (i := 3) (oi := { dst := some 56, op := Op.move (Operand.tmp 9), type := 3, pos := "l4_skip.go:145", after := #[], guard := none }) (v := .int .i64 (lv : Int)) rfl (by kernel_rfl) (by kernel_rfl) (by kernel_rfl) (fun _ _ _ h => h) (Or.inl ⟨by rfl, ?_⟩) (by assumption) ?_
            · intro wx hSw
              clear hSw hHeld; go_simp
            simp only [Act.put, List.setIfInBounds_toArray, List.set_cons_zero, List.set_cons_succ]
            refine wpAnyH_take (i := 4) (oi := { dst := some 57, op := Op.indexAddr 23 (Operand.tmp 55) (Operand.tmp 56), type := 0, pos := "l4_skip.go:145", after := #[{ on := 2, ground := Ground.data }, { on := 3, ground := Ground.data }], guard := none }) (v := .pointer (some ⟨gl, lv, none⟩)) rfl (by kernel_rfl) (by kernel_rfl) (by kernel_rfl) (fun _ _ _ h => h) (Or.inl ⟨by rfl, ?_⟩) (by assumption) ?_
            · intro wx hSw
              clear hSw hHeld; go_simp
            simp only [Act.put, List.setIfInBounds_toArray, List.set_cons_zero, List.set_cons_succ]
            refine wpAnyH_take (i := 5) (oi := { dst := some 58, op := Op.load 3 (Operand.tmp 57), type := 3, pos := "l4_skip.go:145", after := #[{ on := 4, ground := Ground.data }], guard := none }) (v := .int .i64 (ia : Int)) rfl (by kernel_rfl) (by kernel_rfl) (by kernel_rfl) (fun _ _ _ h => h) (Or.inl ⟨by rfl, ?_⟩) (by assumption) ?_
            · intro wx hSw
              obtain ⟨⟨r0, r1⟩, r2⟩ := hSw; clear hHeld; go_simp
            simp only [Act.put, List.setIfInBounds_toArray, List.set_cons_zero, List.set_cons_succ]
            refine wpAnyH_take (i := 6) (oi := { dst := some 59, op := Op.indexAddr 24 (Operand.tmp 54) (Operand.tmp 58), type := 0, pos := "l4_skip.go:145", after := #[{ on := 1, ground := Ground.data }, { on := 5, ground := Ground.data }], guard := none }) (v := .pointer (some ⟨gT, ia * 5, none⟩)) rfl (by kernel_rfl) (by kernel_rfl) (by kernel_rfl) (fun _ _ _ h => h) (Or.inl ⟨by rfl, ?_⟩) (by assumption) ?_
            · intro wx hSw
              clear hSw hHeld; go_simp
            simp only [Act.put, List.setIfInBounds_toArray, List.set_cons_zero, List.set_cons_succ]
            refine wpAnyH_take (i := 7) (oi := { dst := some 60, op := Op.fieldAddr 73 (Operand.tmp 59) 1, type := 0, pos := "l4_skip.go:145", after := #[{ on := 6, ground := Ground.data }], guard := none }) (v := .pointer (some ⟨gT, ia * 5 + 4, none⟩)) rfl (by kernel_rfl) (by kernel_rfl) (by kernel_rfl) (fun _ _ _ h => h) (Or.inl ⟨by rfl, ?_⟩) (by assumption) ?_
            · intro wx hSw
              clear hSw hHeld; go_simp
            simp only [Act.put, List.setIfInBounds_toArray, List.set_cons_zero, List.set_cons_succ]
            refine wpAnyH_take (i := 8) (oi := { dst := some 61, op := Op.load 23 (Operand.tmp 60), type := 23, pos := "l4_skip.go:145", after := #[{ on := 7, ground := Ground.data }], guard := none }) (v := .slice (some ⟨gi, 0, none⟩) nl ci) rfl (by kernel_rfl) (by kernel_rfl) (by kernel_rfl) (fun _ _ _ h => h) (Or.inl ⟨by rfl, ?_⟩) (by assumption) ?_
            · intro wx hSw
              obtain ⟨⟨r0, r1⟩, r2⟩ := hSw; clear hHeld; go_simp
            simp only [Act.put, List.setIfInBounds_toArray, List.set_cons_zero, List.set_cons_succ]
            refine wpAnyH_take (i := 9) (oi := { dst := some 62, op := Op.move (Operand.tmp 9), type := 3, pos := "l4_skip.go:145", after := #[], guard := none }) (v := .int .i64 (lv : Int)) rfl (by kernel_rfl) (by kernel_rfl) (by kernel_rfl) (fun _ _ _ h => h) (Or.inl ⟨by rfl, ?_⟩) (by assumption) ?_
            · intro wx hSw
              clear hSw hHeld; go_simp
            simp only [Act.put, List.setIfInBounds_toArray, List.set_cons_zero, List.set_cons_succ]
            refine wpAnyH_take (i := 10) (oi := { dst := some 63, op := Op.move (Operand.tmp 8), type := 3, pos := "l4_skip.go:145", after := #[], guard := none }) (v := .int .i64 (ts.length : Int)) rfl (by kernel_rfl) (by kernel_rfl) (by kernel_rfl) (fun _ _ _ h => h) (Or.inl ⟨by rfl, ?_⟩) (by assumption) ?_
            · intro wx hSw
              clear hSw hHeld; go_simp
            simp only [Act.put, List.setIfInBounds_toArray, List.set_cons_zero, List.set_cons_succ]
            refine wpAnyH_take (i := 11) (oi := { dst := some 64, op := Op.indexAddr 23 (Operand.tmp 61) (Operand.tmp 62), type := 0, pos := "l4_skip.go:145", after := #[{ on := 8, ground := Ground.data }, { on := 9, ground := Ground.data }, { on := 0, ground := Ground.phase }, { on := 1, ground := Ground.phase }, { on := 2, ground := Ground.phase }, { on := 3, ground := Ground.phase }, { on := 4, ground := Ground.phase }, { on := 5, ground := Ground.phase }, { on := 6, ground := Ground.phase }, { on := 7, ground := Ground.phase }, { on := 8, ground := Ground.phase }, { on := 9, ground := Ground.phase }, { on := 10, ground := Ground.phase }], guard := none }) (v := .pointer (some ⟨gi, lv, none⟩)) rfl (by kernel_rfl) (by kernel_rfl) (by kernel_rfl) (fun _ _ _ h => h) (Or.inl ⟨by rfl, ?_⟩) (by assumption) ?_
            · intro wx hSw
              clear hSw hHeld; go_simp
            simp only [Act.put, List.setIfInBounds_toArray, List.set_cons_zero, List.set_cons_succ]
            refine wpAnyH_ready (rs := [12]) (by kernel_rfl) (by simp) ?_
            refine AllReadyH.cons (o := { dst := none, op := Op.store 3 (Operand.tmp 64) (Operand.tmp 63), type := 0, pos := "l4_skip.go:145", after := #[{ on := 11, ground := Ground.data }, { on := 10, ground := Ground.data }, { on := 0, ground := Ground.phase }, { on := 1, ground := Ground.phase }, { on := 2, ground := Ground.phase }, { on := 3, ground := Ground.phase }, { on := 4, ground := Ground.phase }, { on := 5, ground := Ground.phase }, { on := 6, ground := Ground.phase }, { on := 7, ground := Ground.phase }, { on := 8, ground := Ground.phase }, { on := 9, ground := Ground.phase }, { on := 10, ground := Ground.phase }], guard := none }) rfl (fun K hK => ?_) AllReadyH.nil
            clear hHeld
            go_simp
            refine hK.out _ _ ⟨⟨X5.2.1 1 _ rfl, by rw [World.cell?_setCell_other _ _ _ _ (fun e => by have := congrArg Addr.block e; simp at this; omega)]; exact d0⟩, by rw [World.cell?_setCell_other _ _ _ _ (fun e => by have := congrArg Addr.block e; simp at this; omega)]; exact z4⟩ (fun hHeld => ?_)
            clear hK K
            refine wpAnyH_done (by kernel_rfl) ?_ _
            clear hHeld
            go_wp2
            go_roundw
            case rel => exact ⟨lv + 1, ub, uc', by omega, by go_num, HS4.out, O2, OL, X5, Y, Z, T2, hB⟩
            case measure => simp [intOf]; omega
        · clear hHeld
          have hbv := below_alloc p3 (.cells #[.int .i64 nv] 3)
          have NB := Box.new p3 #[.int .i64 nv] 3
          have hnb : bt < p3.heap.size := T.1
          replace S := S.below hbv
          replace O := owns_below O hbv
          replace OL := owns_below OL hbv
          replace X := X.below hbv
          replace Y := Y.below hbv
          replace Z := Z.below hbv
          replace T := T.below hbv
          replace hB := hB.trans (Chg.of_below hbv)
          replace d0 := (hbv.cell (p := ⟨gl, lv, none⟩) hgll').trans d0
          clear hbv
          obtain ⟨_, x0, x1⟩ := X.c2
          go_simp
          refine hK.out _ _ ⟨⟨x0, x1⟩, d0⟩ (fun hHeld => ?_)
          clear hK K x0 x1
          generalize p3.heap.size = nb at *
          generalize p3.alloc (.cells #[.int .i64 nv] 3) = p5 at *
          try simp only [Act.put, List.setIfInBounds_toArray, List.set_cons_zero, List.set_cons_succ]
          refine wpAnyH_ready (rs := [1]) (by kernel_rfl) (by simp) ?_
          refine (AllReadyH.cons (o := { dst := some 32, op := Op.load 23 (Operand.tmp 31), type := 23, pos := "l4_skip.go:141", after := #[{ on := 0, ground := Ground.data }], guard := none }) rfl (fun K hK => ?_) AllReadyH.nil)
          clear hHeld
          obtain ⟨_, t0, t1, t2, t3, t4⟩ := T.c5
          obtain ⟨_, x0, x1⟩ := X.c2
          go_simp
          refine hK.out _ p5 ⟨⟨x0, x1⟩, d0⟩ (fun hHeld => ?_)
          clear hK K x0 x1 t0 t1 t2 t3 t4
          try simp only [Act.put, List.setIfInBounds_toArray, List.set_cons_zero, List.set_cons_succ]
          refine wpAnyH_ready (rs := [10]) (by kernel_rfl) (by simp) ?_
          refine AllReadyH.cons (o := { dst := some 41, op := Op.call { callee := Callee.builtin Builtin.append, args := #[Operand.tmp 32, Operand.tmp 40], argTypes := #[23, 23] }, type := 23, pos := "l4_skip.go:141", after := #[{ on := 1, ground := Ground.data }, { on := 9, ground := Ground.data }, { on := 8, ground := Ground.chain }], guard := none }) rfl (fun K hK => ?_) AllReadyH.nil
          rw [if_pos (by rfl)]
          clear hHeld
          have n0 := NB.2.1 0 _ rfl
          refine wp_append_own_at _ _ 23 (by rfl) (bt + 1) 3 i0 (.int .i64 0) 1 8 Tryd.underlying23 hi hz0 hzs hzb rfl (by decide) (.slice ua lv uc) lv ((ownL hs ts L lv).map (.int .i64)) (by rfl) O ⟨nb, 0, none⟩ 1 1 [.int .i64 nv] (by rfl) rfl (fun j u hj => NB.news j u hj) (by intro u hu; simp at hu; subst hu; rfl) (by unfold maxLen; omega) (by omega) (by have := T.1; omega) ?_
          intro v' u2 o2 hgr2 _
          have C2 := chg_of_grown hgr2
          have hge := owns_ge O
          have hNE : ∀ g, (Value.slice ua lv uc).ownBlock = some g → bt < g := fun g hg => by have := hge g hg; omega
          have hwz := Z.1
          obtain ⟨_, l2b, _⟩ := S.lt
          replace S := S.chg C2 (fun g hg e => by have := hNE g e; have := (HL1.out g hg).2; omega) (fun e => by have := hNE _ e; omega) (fun g hg e => by have := hNE g e; have := (HL3.out g hg).2; omega)
          replace OL := C2.owns OL (fun g hg e => by have := blk_eq hg; have := hNE g e; omega)
          replace X := C2.box X (fun e => by have := hNE _ e; omega)
          replace Y := C2.box Y (fun e => by have := hNE _ e; omega)
          replace Z := C2.box Z (fun e => by have := hNE _ e; omega)
          replace T := C2.box T (fun e => by have := hNE _ e; omega)
          replace hB := hB.new (C2.mono (fun g e => by have := hNE g e; show w.heap.size ≤ g; omega))
          have O2 : u2.ownsRow (bt + 1) 3 1 v' (lv + 1) ((ownL hs ts L (lv + 1)).map (.int .i64)) := by rw [HOW2.out, List.map_append]; exact o2
          clear C2 hgr2 hge hNE O o2 NB n0
          replace d0 : u2.cell? ⟨gl, lv, none⟩ = some (.int .i64 av) := by
            have e := OL.cellAt lv (by omega)
            have e2 := (HLA2.out lv (by omega)).1
            rw [HAV.out] at e2
            exact e.trans e2
          obtain ⟨_, x0, x1⟩ := X.c2
          refine hK.out _ _ ⟨⟨x0, x1⟩, d0⟩ (fun hHeld => ?_)
          clear hK K x0 x1
          try simp only [Act.put, List.setIfInBounds_toArray, List.set_cons_zero, List.set_cons_succ]
          obtain ⟨ub, uc', rfl⟩ := slice_of O2
          refine wpAnyH_take (i := 11) (oi := { dst := some 42, op := Op.fieldAddr 73 (Operand.tmp 7) 1, type := 0, pos := "l4_skip.go:141", after := #[{ on := 0, ground := Ground.phase }, { on := 1, ground := Ground.phase }, { on := 2, ground := Ground.phase }, { on := 3, ground := Ground.phase }, { on := 4, ground := Ground.phase }, { on := 5, ground := Ground.phase }, { on := 6, ground := Ground.phase }, { on := 7, ground := Ground.phase }, { on := 8, ground := Ground.phase }, { on := 9, ground := Ground.phase }, { on := 10, ground := Ground.phase }], guard := none }) (v := .pointer (some ⟨bt, 4, none⟩)) rfl (by kernel_rfl) (by kernel_rfl) (by kernel_rfl) (fun _ _ _ h => h) (Or.inl ⟨by rfl, ?_⟩) (by assumption) ?_
          · intro wx hSw
            clear hSw hHeld; go_simp
          simp only [Act.put, List.setIfInBounds_toArray, List.set_cons_zero, List.set_cons_succ]
          refine wpAnyH_ready (rs := [12]) (by kernel_rfl) (by simp) ?_
          refine AllReadyH.cons (o := { dst := none, op := Op.store 23 (Operand.tmp 42) (Operand.tmp 41), type := 0, pos := "l4_skip.go:141", after := #[{ on := 11, ground := Ground.data }, { on := 10, ground := Ground.data }, { on := 10, ground := Ground.chain }, { on := 0, ground := Ground.phase }, { on := 1, ground := Ground.phase }, { on := 2, ground := Ground.phase }, { on := 3, ground := Ground.phase }, { on := 4, ground := Ground.phase }, { on := 5, ground := Ground.phase }, { on := 6, ground := Ground.phase }, { on := 7, ground := Ground.phase }, { on := 8, ground := Ground.phase }, { on := 9, ground := Ground.phase }, { on := 10, ground := Ground.phase }], guard := none }) rfl (fun K hK => ?_) AllReadyH.nil
          clear hHeld
          obtain ⟨_, t0, t1, t2, t3, t4⟩ := T.c5
          have tf4 := T.2.2 4
          have cc : Chg (· = bt) u2 (u2.setCell ⟨bt, 4, none⟩ (.slice ub (lv + 1) uc')) := (Chg.refl (· = bt) u2).setCell (p := ⟨bt, 4, none⟩) rfl _
          have hge := owns_ge O2
          have T2 := T.set 4 (.slice ub (lv + 1) uc') (by simp)
          replace S := S.chg cc (fun g hg e => by have := (HL1.out g hg).2; omega) (by omega) (fun g hg e => by have := (HL3.out g hg).2; omega)
          replace O2 := cc.owns O2 (fun g hg e => by have := hge g hg; omega)
          replace OL := cc.owns OL (fun g hg e => by have := blk_eq hg; omega)
          replace X := cc.box X (by omega)
          replace Y := cc.box Y (by omega)
          replace Z := cc.box Z (by omega)
          replace hB := hB.new (cc.mono (fun g (e : g = bt) => by show w.heap.size ≤ g; omega))
          replace d0 : (u2.setCell ⟨bt, 4, none⟩ (.slice ub (lv + 1) uc')).cell? ⟨gl, lv, none⟩ = some (.int .i64 av) := by
            rw [World.cell?_setCell_other _ _ _ _ (fun e => by have := congrArg Addr.block e; simp at this; omega)]; exact d0
          clear cc hge T
          obtain ⟨_, x0, x1⟩ := X.c2
          go_simp
          refine hK.out _ _ ⟨⟨x0, x1⟩, d0⟩ (fun hHeld => ?_)
          clear hK K x0 x1 t0 t1 t2 t3 t4 tf4
          generalize u2.setCell ⟨bt, 4, none⟩ (.slice ub (lv + 1) uc') = u3 at *
          refine wpAnyH_done (by kernel_rfl) ?_ _
          clear hHeld
          obtain ⟨_, x0, x1⟩ := X.c2
          rcases HA.out with ha | ⟨q0, q1, q2⟩
          · subst ha
            have S4 := S.putH lv (ts.length : Int)
            have HS4 : Hid (OwnS (u3.setCell ⟨g1, lv, none⟩ (.int .i64 (ts.length : Int))) base (insTo hs ts L ts.length (lv + 1)).1 (insTo hs ts L ts.length (lv + 1)).2 (.slice aT ts.length cT) g1 c1 gs cs) := by
              show OwnS _ _ _ _ _ _ _ _ _
              have e := HSU2.out
              rw [e]; exact S4
            have hH5 := (HLN2.out lv).1
            have c0 : ∃ u, u3.cell? ⟨g1, lv, none⟩ = some u := ⟨_, (S.head.cellAt lv (by have := H5.out; omega)).trans (List.getElem?_eq_getElem (by have := H5.out; simp; omega))⟩
            obtain ⟨u0', c0⟩ := c0
            have f0 := S.head.frozenAt lv
            have hg5 : (lv : Int) < (hs.length : Int) := by have := H5.out; omega
            have cc : Chg (· = g1) u3 (u3.setCell ⟨g1, lv, none⟩ (.int .i64 (ts.length : Int))) := (Chg.refl (· = g1) u3).setCell (p := ⟨g1, lv, none⟩) rfl _
            have hge := owns_ge O2
            replace O2 := cc.owns O2 (fun g hg e => by have := hge g hg; omega)
            replace OL := cc.owns OL (fun g hg e => by have := blk_eq hg; omega)
            have X5 := cc.box X (by omega)
            replace Y := cc.box Y (by omega)
            replace Z := cc.box Z (by omega)
            replace T2 := cc.box T2 (by omega)
            replace hB := hB.trans (cc.mono (fun g e => .inl e))
            clear cc S S4 hge hH5 X
            go_wp2
            go_roundw
            case rel => exact ⟨lv + 1, ub, uc', by omega, by go_num, HS4.out, O2, OL, X5, Y, Z, T2, hB⟩
            case measure => simp [intOf]; omega
          · obtain ⟨ia, rfl⟩ := Int.eq_ofNat_of_zero_le q0
            have hia0 : ¬ (ia : Int) < 0 := by omega
            go_wp2_with fail
            replace S := S.drewn
            replace O2 := ownsd O2
            replace OL := ownsd OL
            replace X := X.drewn
            replace Y := Y.drewn
            replace Z := Z.drewn
            replace T2 := T2.drewn
            replace hB := hB.drewn
            clear x0 x1
            obtain ⟨_, x0, x1⟩ := X.c2
            replace d0 : u3.drew.cell? ⟨gl, lv, none⟩ = some (.int .i64 (ia : Int)) := by
              have e := OL.cellAt lv (by omega)
              have e2 := (HLA2.out lv (by omega)).1
              rw [HAV.out] at e2
              exact e.trans e2
            obtain ⟨hH5, hT6⟩ := HLN2.out lv
            have hia : ia < (insTo hs ts L ts.length lv).2.length := by omega
            have hgl1 := S.len
            have hcl1 := S.room
            obtain ⟨gT, rfl, hnT, hbl, z0, z1, z2, z3, z4⟩ := S.cells ia hia (by omega) (by omega)
            clear hnT
            have S4 := S.putT ia hia lv (ts.length : Int)
            have htw : tw (insTo hs ts L ts.length lv).2 (ia : Int) = (insTo hs ts L ts.length lv).2[ia] := tw_at _ ia hia
            have HS4 : Hid (OwnS (u3.drew.setCell ⟨gs[ia]'(by omega), lv, none⟩ (.int .i64 (ts.length : Int))) base (insTo hs ts L ts.length (lv + 1)).1 (insTo hs ts L ts.length (lv + 1)).2 (.slice (some ⟨gT, 0, none⟩) ts.length cT) g1 c1 gs cs) := by
              show OwnS _ _ _ _ _ _ _ _ _
              have e := HSU2.out
              rw [e]
              unfold insH insT
              rw [if_neg (by omega), if_neg (by omega), htw, Int.toNat_natCast]
              exact S4
            have hnl : (insTo hs ts L ts.length lv).2[ia].next.length = (tw ts (ia : Int)).next.length := by rw [← htw]; exact HKP2.out lv ia
            have ho := S.lnk ia hia (by omega) (by omega)
            have c0 : ∃ u, u3.drew.cell? ⟨gs[ia]'(by omega), lv, none⟩ = some u := ⟨_, (ho.cellAt lv (by omega)).trans (List.getElem?_eq_getElem (by simp; omega))⟩
            obtain ⟨u0', c0⟩ := c0
            have f0 := ho.frozenAt lv
            have hgi := HL1.out _ (List.getElem_mem (l := gs) (n := ia) (by omega))
            have hgT3 := (HL3.out gT rfl).2
            have hgne : gT ≠ gs[ia]'(by omega) := fun e => (S.d1 gT rfl).1 (by rw [e]; exact List.getElem_mem _)
            have hmem : gs[ia]'(by omega) ∈ gs := List.getElem_mem _
            unfold lnkV at z4
            have hlv6 : lv < (insTo hs ts L ts.length lv).2[ia].next.length := by omega
            generalize (insTo hs ts L ts.length lv).2[ia].next.length = nl at *
            have HCS : Hid (Chg (· = gs[ia]'(by omega)) u3.drew (u3.drew.setCell ⟨gs[ia]'(by omega), lv, none⟩ (.int .i64 (ts.length : Int)))) := (Chg.refl (· = gs[ia]'(by omega)) u3.drew).setCell (p := ⟨gs[ia]'(by omega), lv, none⟩) rfl _
            generalize gs[ia]'(by omega) = gi at *
            generalize cs[ia]'(by omega) = ci at *
            have cc := HCS.out
            have hge := owns_ge O2
            replace O2 := cc.owns O2 (fun g hg e => by have := hge g hg; omega)
            replace OL := cc.owns OL (fun g hg e => by have := blk_eq hg; omega)
            have X5 := cc.box X (by omega)
            replace Y := cc.box Y (by omega)
            replace Z := cc.box Z (by omega)
            replace T2 := cc.box T2 (by omega)
            replace hB := hB.trans (cc.mono (fun g e => .inr (.inl (by rw [e]; exact hmem))))
            clear cc HCS S S4 hge ho htw hnl z0 z1 z2 z3 hgl1 hcl1
            have hnli : (lv : Int) < (nl : Int) := by omega
            have hiai : (ia : Int) < (ts.length : Int) := by omega
            clear hH5 hT6 hia
            refine wp_region_held_drew (S := fun wx => (wx.cell? ⟨w.heap.size, 1, none⟩ = some (.slice (some ⟨gT, 0, none⟩) ts.length cT) ∧ wx.cell? ⟨gl, lv, none⟩ = some (.int .i64 (ia : Int))) ∧ wx.cell? ⟨gT, ia * 5 + 4, none⟩ = some (.slice (some ⟨gi, 0, none⟩) nl ci)) (by kernel_rfl) ⟨⟨x1, d0⟩, z4⟩ (fun hHeld => ?_)
            generalize u3.drew = u4 at *
            refine wpAnyH_take (i := 0) (oi := { dst := some 53, op := Op.fieldAddr 26 (Operand.tmp 2) 1, type := 0, pos := "l4_skip.go:145", after := #[], guard := none }) (v := .pointer (some ⟨w.heap.size, 1, none⟩)) rfl (by kernel_rfl) (by kernel_rfl) (by kernel_rfl) (fun _ _ _ h => h) (Or.inl ⟨by rfl, ?_⟩) (by assumption) ?_
            · intro wx hSw
              clear hSw hHeld; go_simp
            simp only [Act.put, List.setIfInBounds_toArray, List.set_cons_zero, List.set_cons_succ]
            refine wpAnyH_take (i := 1) (oi := { dst := some 54, op := Op.load 24 (Operand.tmp 53), type := 24, pos := "l4_skip.go:145", after := #[{ on := 0, ground := Ground.data }], guard := none }) (v := .slice (some ⟨gT, 0, none⟩) ts.length cT) rfl (by kernel_rfl) (by kernel_rfl) (by kernel_rfl) (fun _ _ _ h => h) (Or.inl ⟨by rfl, ?_⟩) (by assumption) ?_
            · intro wx hSw
              obtain ⟨⟨r0, r1⟩, r2⟩ := hSw; clear hHeld; go_simp
            simp only [Act.put, List.setIfInBounds_toArray, List.set_cons_zero, List.set_cons_succ]
            refine wpAnyH_take (i := 2) (oi := { dst := some 55, op := Op.move (Operand.tmp 5), type := 23, pos := "l4_skip.go:145", after := #[], guard := none }) (v := .slice (some ⟨gl, 0, none⟩) 5 5) rfl (by kernel_rfl) (by kernel_rfl) (by kernel_rfl) (fun _ _ _ h => h) (Or.inl ⟨by rfl, ?_⟩) (by assumption) ?_
            · intro wx hSw
              clear hSw hHeld; go_simp
            simp only [Act.put, List.setIfInBounds_toArray, List.set_cons_zero, List.set_cons_succ]
            refine wpAnyH_take (i := 3) (oi := { dst := some 56, op := Op.move (Operand.tmp 9), type := 3, pos := "l4_skip.go:145", after := #[], guard := none }) (v := .int .i64 (lv : Int)) rfl (by kernel_rfl) (by kernel_rfl) (by kernel_rfl) (fun _ _ _ h => h) (Or.inl ⟨by rfl, ?_⟩) (by assumption) ?_
            · intro wx hSw
              clear hSw hHeld; go_simp
            simp only [Act.put, List.setIfInBounds_toArray, List.set_cons_zero, List.set_cons_succ]
            refine wpAnyH_take (i := 4) (oi := { dst := some 57, op := Op.indexAddr 23 (Operand.tmp 55) (Operand.tmp 56), type := 0, pos := "l4_skip.go:145", after := #[{ on := 2, ground := Ground.data }, { on := 3, ground := Ground.data }], guard := none }) (v := .pointer (some ⟨gl, lv, none⟩)) rfl (by kernel_rfl) (by kernel_rfl) (by kernel_rfl) (fun _ _ _ h => h) (Or.inl ⟨by rfl, ?_⟩) (by assumption) ?_
            · intro wx hSw
              clear hSw hHeld; go_simp
            simp only [Act.put, List.setIfInBounds_toArray, List.set_cons_zero, List.set_cons_succ]
            refine wpAnyH_take (i := 5) (oi := { dst := some 58, op := Op.load 3 (Operand.tmp 57), type := 3, pos := "l4_skip.go:145", after := #[{ on := 4, ground := Ground.data }], guard := none }) (v := .int .i64 (ia : Int)) rfl (by kernel_rfl) (by kernel_rfl) (by kernel_rfl) (fun _ _ _ h => h) (Or.inl ⟨by rfl, ?_⟩) (by assumption) ?_
            · intro wx hSw
              obtain ⟨⟨r0, r1⟩, r2⟩ := hSw; clear hHeld; go_simp
            simp only [Act.put, List.setIfInBounds_toArray, List.set_cons_zero, List.set_cons_succ]
            refine wpAnyH_take (i := 6) (oi := { dst := some 59, op := Op.indexAddr 24 (Operand.tmp 54) (Operand.tmp 58), type := 0, pos := "l4_skip.go:145", after := #[{ on := 1, ground := Ground.data }, { on := 5, ground := Ground.data }], guard := none }) (v := .pointer (some ⟨gT, ia * 5, none⟩)) rfl (by kernel_rfl) (by kernel_rfl) (by kernel_rfl) (fun _ _ _ h => h) (Or.inl ⟨by rfl, ?_⟩) (by assumption) ?_
            · intro wx hSw
              clear hSw hHeld; go_simp
            simp only [Act.put, List.setIfInBounds_toArray, List.set_cons_zero, List.set_cons_succ]
            refine wpAnyH_take (i := 7) (oi := { dst := some 60, op := Op.fieldAddr 73 (Operand.tmp 59) 1, type := 0, pos := "l4_skip.go:145", after := #[{ on := 6, ground := Ground.data }], guard := none }) (v := .pointer (some ⟨gT, ia * 5 + 4, none⟩)) rfl (by kernel_rfl) (by kernel_rfl) (by kernel_rfl) (fun _ _ _ h => h) (Or.inl ⟨by rfl, ?_⟩) (by assumption) ?_
            · intro wx hSw
              clear hSw hHeld; go_simp
            simp only [Act.put, List.setIfInBounds_toArray, List.set_cons_zero, List.set_cons_succ]
            refine wpAnyH_take (i := 8) (oi := { dst := some 61, op := Op.load 23 (Operand.tmp 60), type := 23, pos := "l4_skip.go:145", after := #[{ on := 7, ground := Ground.data }], guard := none }) (v := .slice (some ⟨gi, 0, none⟩) nl ci) rfl (by kernel_rfl) (by kernel_rfl) (by kernel_rfl) (fun _ _ _ h => h) (Or.inl ⟨by rfl, ?_⟩) (by assumption) ?_
            · intro wx hSw
              obtain ⟨⟨r0, r1⟩, r2⟩ := hSw; clear hHeld; go_simp
            simp only [Act.put, List.setIfInBounds_toArray, List.set_cons_zero, List.set_cons_succ]
            refine wpAnyH_take (i := 9) (oi := { dst := some 62, op := Op.move (Operand.tmp 9), type := 3, pos := "l4_skip.go:145", after := #[], guard := none }) (v := .int .i64 (lv : Int)) rfl (by kernel_rfl) (by kernel_rfl) (by kernel_rfl) (fun _ _ _ h => h) (Or.inl ⟨by rfl, ?_⟩) (by assumption) ?_
            · intro wx hSw
              clear hSw hHeld; go_simp
            simp only [Act.put, List.setIfInBounds_toArray, List.set_cons_zero, List.set_cons_succ]
            refine wpAnyH_take (i := 10) (oi := { dst := some 63, op := Op.move (Operand.tmp 8), type := 3, pos := "l4_skip.go:145", after := #[], guard := none }) (v := .int .i64 (ts.length : Int)) rfl (by kernel_rfl) (by kernel_rfl) (by kernel_rfl) (fun _ _ _ h => h) (Or.inl ⟨by rfl, ?_⟩) (by assumption) ?_
            · intro wx hSw
              clear hSw hHeld; go_simp
            simp only [Act.put, List.setIfInBounds_toArray, List.set_cons_zero, List.set_cons_succ]
            refine wpAnyH_take (i := 11) (oi := { dst := some 64, op := Op.indexAddr 23 (Operand.tmp 61) (Operand.tmp 62), type := 0, pos := "l4_skip.go:145", after := #[{ on := 8, ground := Ground.data }, { on := 9, ground := Ground.data }, { on := 0, ground := Ground.phase }, { on := 1, ground := Ground.phase }, { on := 2, ground := Ground.phase }, { on := 3, ground := Ground.phase }, { on := 4, ground := Ground.phase }, { on := 5, ground := Ground.phase }, { on := 6, ground := Ground.phase }, { on := 7, ground := Ground.phase }, { on := 8, ground := Ground.phase }, { on := 9, ground := Ground.phase }, { on := 10, ground := Ground.phase }], guard := none }) (v := .pointer (some ⟨gi, lv, none⟩)) rfl (by kernel_rfl) (by kernel_rfl) (by kernel_rfl) (fun _ _ _ h => h) (Or.inl ⟨by rfl, ?_⟩) (by assumption) ?_
            · intro wx hSw
              clear hSw hHeld; go_simp
            simp only [Act.put, List.setIfInBounds_toArray, List.set_cons_zero, List.set_cons_succ]
            refine wpAnyH_ready (rs := [12]) (by kernel_rfl) (by simp) ?_
            refine AllReadyH.cons (o := { dst := none, op := Op.store 3 (Operand.tmp 64) (Operand.tmp 63), type := 0, pos := "l4_skip.go:145", after := #[{ on := 11, ground := Ground.data }, { on := 10, ground := Ground.data }, { on := 0, ground := Ground.phase }, { on := 1, ground := Ground.phase }, { on := 2, ground := Ground.phase }, { on := 3, ground := Ground.phase }, { on := 4, ground := Ground.phase }, { on := 5, ground := Ground.phase }, { on := 6, ground := Ground.phase }, { on := 7, ground := Ground.phase }, { on := 8, ground := Ground.phase }, { on := 9, ground := Ground.phase }, { on := 10, ground := Ground.phase }], guard := none }) rfl (fun K hK => ?_) AllReadyH.nil
            clear hHeld
            go_simp
            refine hK.out _ _ ⟨⟨X5.2.1 1 _ rfl, by rw [World.cell?_setCell_other _ _ _ _ (fun e => by have := congrArg Addr.block e; simp at this; omega)]; exact d0⟩, by rw [World.cell?_setCell_other _ _ _ _ (fun e => by have := congrArg Addr.block e; simp at this; omega)]; exact z4⟩ (fun hHeld => ?_)
            clear hK K
            refine wpAnyH_done (by kernel_rfl) ?_ _
            clear hHeld
            go_wp2
            go_roundw
            case rel => exact ⟨lv + 1, ub, uc', by omega, by go_num, HS4.out, O2, OL, X5, Y, Z, T2, hB⟩
            case measure => simp [intOf]; omega
    · obtain rfl : lv = n := by omega
      have hlti : ¬ (lv : Int) < (lv : Int) := by omega
      have hD : Below wr.heap.size wr wr.drew := (Below.refl _ _).drew
      replace S := S.below hD
      replace O := owns_below O hD
      replace OL := owns_below OL hD
      replace X := X.below hD
      replace Y := Y.below hD
      replace Z := Z.below hD
      replace T := T.below hD
      replace hB := hB.trans (Chg.of_below hD)
      clear hD
      obtain ⟨_, y0, y1, y2, y3⟩ := Y.c4
      refine wp_region_held_drew (S := fun wx => wx.cell? ⟨w.heap.size + 1, 0, none⟩ = some (.string k) ∧ wx.cell? ⟨w.heap.size + 1, 1, none⟩ = some (.int .i64 s)) (by kernel_rfl) ⟨y0, y1⟩ (fun hHeld => ?_)
      generalize wr.drew = v0 at *
      clear y0 y1 y2 y3
      refine wpAnyH_take (i := 0) (oi := { dst := some 21, op := Op.move (Operand.tmp 9), type := 3, pos := "l4_skip.go:140", after := #[], guard := none }) (v := .int .i64 (lv : Int)) rfl (by kernel_rfl) (by kernel_rfl) (by kernel_rfl) (fun _ _ _ h => h) (Or.inl ⟨by rfl, ?_⟩) (by assumption) ?_
      · intro wx hSw
        clear hSw hHeld; go_simp
      simp only [Act.put, List.setIfInBounds_toArray, List.set_cons_zero, List.set_cons_succ]
      refine wpAnyH_take (i := 2) (oi := { dst := some 23, op := Op.fieldAddr 28 (Operand.tmp 3) 0, type := 0, pos := "l4_skip.go:140", after := #[], guard := none }) (v := .pointer (some ⟨w.heap.size + 1, 0, none⟩)) rfl (by kernel_rfl) (by kernel_rfl) (by kernel_rfl) (fun _ _ _ h => h) (Or.inl ⟨by rfl, ?_⟩) (by assumption) ?_
      · intro wx hSw
        clear hSw hHeld; go_simp
      simp only [Act.put, List.setIfInBounds_toArray, List.set_cons_zero, List.set_cons_succ]
      refine wpAnyH_take (i := 3) (oi := { dst := some 24, op := Op.load 9 (Operand.tmp 23), type := 9, pos := "l4_skip.go:140", after := #[{ on := 2, ground := Ground.data }], guard := none }) (v := .string k) rfl (by kernel_rfl) (by kernel_rfl) (by kernel_rfl) (fun _ _ _ h => h) (Or.inl ⟨by rfl, ?_⟩) (by assumption) ?_
      · intro wx hSw
        obtain ⟨r0, r1⟩ := hSw; clear hHeld; go_simp
      simp only [Act.put, List.setIfInBounds_toArray, List.set_cons_zero, List.set_cons_succ]
      refine wpAnyH_take (i := 4) (oi := { dst := some 25, op := Op.fieldAddr 28 (Operand.tmp 3) 1, type := 0, pos := "l4_skip.go:140", after := #[], guard := none }) (v := .pointer (some ⟨w.heap.size + 1, 1, none⟩)) rfl (by kernel_rfl) (by kernel_rfl) (by kernel_rfl) (fun _ _ _ h => h) (Or.inl ⟨by rfl, ?_⟩) (by assumption) ?_
      · intro wx hSw
        clear hSw hHeld; go_simp
      simp only [Act.put, List.setIfInBounds_toArray, List.set_cons_zero, List.set_cons_succ]
      refine wpAnyH_take (i := 5) (oi := { dst := some 26, op := Op.load 3 (Operand.tmp 25), type := 3, pos := "l4_skip.go:140", after := #[{ on := 4, ground := Ground.data }], guard := none }) (v := .int .i64 s) rfl (by kernel_rfl) (by kernel_rfl) (by kernel_rfl) (fun _ _ _ h => h) (Or.inl ⟨by rfl, ?_⟩) (by assumption) ?_
      · intro wx hSw
        obtain ⟨r0, r1⟩ := hSw; clear hHeld; go_simp
      simp only [Act.put, List.setIfInBounds_toArray, List.set_cons_zero, List.set_cons_succ]
      refine wpAnyH_ready (rs := [1]) (by kernel_rfl) (by simp) ?_
      refine AllReadyH.cons (o := { dst := some 22, op := Op.call { callee := Callee.value (Operand.func 53), args := #[], argTypes := #[] }, type := 88, pos := "l4_skip.go:140", after := #[], guard := none }) rfl (fun K hK => ?_) AllReadyH.nil
      clear hHeld
      go_simp
      refine (l2Table_any _).mono ?_
      rintro e v1 ⟨gt, rfl, ot, hbv⟩
      have tl1 := TL_of_owns ot
      replace S := S.below hbv
      replace O := owns_below O hbv
      replace OL := owns_below OL hbv
      replace X := X.below hbv
      replace Y := Y.below hbv
      replace Z := Z.below hbv
      replace T := T.below hbv
      replace hB := hB.trans (Chg.of_below hbv)
      clear hbv ot
      obtain ⟨_, y0, y1, y2, y3⟩ := Y.c4
      refine hK.out _ _ ⟨y0, y1⟩ (fun hHeld => ?_)
      clear hK K y0 y1 y2 y3
      try simp only [Act.put, List.setIfInBounds_toArray, List.set_cons_zero, List.set_cons_succ]
      refine wpAnyH_ready (rs := [6]) (by kernel_rfl) (by simp) ?_
      refine AllReadyH.cons (o := { dst := some 27, op := Op.call { callee := Callee.value (Operand.func 52), args := #[Operand.tmp 22, Operand.tmp 24, Operand.tmp 26], argTypes := #[88, 9, 3] }, type := 3, pos := "l4_skip.go:140", after := #[{ on := 1, ground := Ground.data }, { on := 3, ground := Ground.data }, { on := 5, ground := Ground.data }, { on := 1, ground := Ground.chain }], guard := none }) rfl (fun K hK => ?_) AllReadyH.nil
      clear hHeld
      go_simp
      refine (HKT.out _ _ tl1).mono ?_
      rintro e v2 ⟨rfl, hbv⟩
      replace S := S.below hbv
      replace O := owns_below O hbv
      replace OL := owns_below OL hbv
      replace X := X.below hbv
      replace Y := Y.below hbv
      replace Z := Z.below hbv
      replace T := T.below hbv
      replace hB := hB.trans (Chg.of_below hbv)
      clear hbv tl1
      obtain ⟨_, y0, y1, y2, y3⟩ := Y.c4
      refine hK.out _ _ ⟨y0, y1⟩ (fun hHeld => ?_)
      clear hK K y0 y1 y2 y3
      try simp only [Act.put, List.setIfInBounds_toArray, List.set_cons_zero, List.set_cons_succ]
      refine wpAnyH_take (i := 7) (oi := { dst := some 28, op := Op.binOp BinOp.lss 3 (Operand.tmp 21) (Operand.tmp 27) 3, type := 4, pos := "l4_skip.go:140", after := #[{ on := 0, ground := Ground.data }, { on := 6, ground := Ground.data }], guard := none }) (v := .bool false) rfl (by kernel_rfl) (by kernel_rfl) (by kernel_rfl) (fun _ _ _ h => h) (Or.inl ⟨by rfl, ?_⟩) (by assumption) ?_
      · intro wx hSw
        clear hSw hHeld; go_simp
      simp only [Act.put, List.setIfInBounds_toArray, List.set_cons_zero, List.set_cons_succ]
      refine wpAnyH_done (by kernel_rfl) ?_ _
      clear hHeld
      obtain ⟨_, x0, x1⟩ := X.c2
      obtain ⟨_, t0, t1, t2, t3, t4⟩ := T.c5
      obtain ⟨hH, hT⟩ := HLN.out lv
      obtain ⟨HL_, TL_, HP⟩ : ∃ H T, Hid (insTo hs ts L ts.length lv = (H, T)) := ⟨(insTo hs ts L ts.length lv).1, (insTo hs ts L ts.length lv).2, rfl⟩
      rw [HP.out] at S hH hT
      dsimp only at S hH hT
      have HTL : Hid (TL_.length = ts.length) := hT
      have hle : Hid ((ownL hs ts L lv).length = lv) := ownL_len _ _ _ _
      clear hH hT HLN HLA HOW HNX HKP HSU HO0 HS0
      obtain ⟨ow, HW⟩ : ∃ ow, Hid (ownL hs ts L lv = ow) := ⟨ownL hs ts L lv, rfl⟩
      have HLE : Hid (ow.length = lv) := by show _ = _; rw [← HW.out]; exact hle.out
      rw [HW.out] at O
      clear hle
      obtain ⟨go, co, hgoe, hgob, hgol⟩ := some_of O (by omega)
      simp only [Value.slice.injEq, true_and] at hgoe
      obtain ⟨rfl, rfl⟩ := hgoe
      have hwz := Z.1
      have hA := below_alloc v2 (.cells #[.string k, .int .i64 s, .int .i64 d, .string v, .slice (some ⟨go, 0, none⟩) lv uc] 73)
      have N4 := Box.new v2 #[.string k, .int .i64 s, .int .i64 d, .string v, .slice (some ⟨go, 0, none⟩) lv uc] 73
      replace S := S.below hA
      replace O := owns_below O hA
      replace X := X.below hA
      replace Z := Z.below hA
      have hTb := T.1
      replace hB := hB.trans (Chg.of_below hA)
      have hsz := hA.size
      clear hA T OL Y
      obtain ⟨_, n0, n1, n2, n3, n4⟩ := N4.c5
      have hrows := S.rows
      rw [HTL.out] at hrows
      have hbz := hB.size
      go_wp2_with (at_builtin; refine wpList_append_own_at _ rfl _ _ 24 rfl base 73 j0 (.agg #[.string ⟨#[]⟩, .int .i64 0, .int .i64 0, .string ⟨#[]⟩, .slice none 0 0]) 5 72 Tryd.underlying24 hj jz0 jzs jzb rfl (by decide) (.slice aT ts.length cT) ts.length (flat5 (List.zipWith rowU TL_ (lnkVs TL_ gs cs))) rfl hrows ⟨v2.heap.size, 0, none⟩ 1 1 (twCells ⟨k, s, d, v, ow⟩ (.slice (some ⟨go, 0, none⟩) lv uc)) rfl rfl (fun j u hj => N4.news j u hj) (by intro u hu; simp [twCells] at hu; rcases hu with rfl | rfl | rfl | rfl | rfl <;> rfl) (by unfold maxLen; omega) (by omega) (by omega) ?_; intro v5 w5 o5 hgr5 _ hat5; refine Stop.go ?_)
      have C5 := chg_of_grown hgr5
      obtain ⟨a5, c5, rfl⟩ := slice_of o5
      have S5 := S.snoc (vT' := .slice a5 (ts.length + 1) c5) ⟨k, s, d, v, ow⟩ go uc (by rw [HTL.out]; unfold lnkV; dsimp only; rw [HLE.out]; exact o5) C5 (by unfold lnkV; dsimp only; rw [HLE.out]; exact owns_lower (C5.owns O (fun g hg e => by have := blk_eq hg; have := (HL3.out g e).2; omega)) (by omega)) (fun hm => by have := (HL1.out _ hm).2; omega) (by omega) (by rcases hat5 with e | e; exact .inl e; exact .inr ⟨_, e, Nat.le_refl _⟩) (by omega) (fun g hg e => by have := (HL3.out g hg).2; omega)
      have hvT : ∀ g, (Value.slice a5 (ts.length + 1) c5).ownBlock = some g → g < w.heap.size ∨ w.heap.size + 1 + 1 < g := fun g hg => by
        rcases hat5 with e | e
        · rw [e] at hg; exact .inl (HL3.out g hg).2
        · rw [e] at hg; have e2 := Option.some.inj hg; exact .inr (by omega)
      have hl2 := l2
      replace X := C5.box X (fun e => by have := (HL3.out _ e).2; omega)
      replace Z := C5.box Z (fun e => by have := (HL3.out _ e).2; omega)
      replace hB := hB.trans (C5.mono (fun g e => .inr (.inr e)))
      have hz5 := C5.size
      clear C5 S o5 O hgr5 hat5 hrows N4 n0 n1 n2 n3 n4 x0 x1 t0 t1 t2 t3 t4
      obtain ⟨xl, x0, x1⟩ := X.c2
      have xf1 := X.2.2 1
      obtain ⟨zl, z0, z1⟩ := Z.c2
      have zf0 := Z.2.2 0
      have zf1 := Z.2.2 1
      have cc : Chg (fun b => b = w.heap.size ∨ b = w.heap.size + 1 + 1) w5 (((w5.setCell ⟨w.heap.size, 1, none⟩ (.slice a5 (ts.length + 1) c5)).setCell ⟨w.heap.size + 1 + 1, 0, none⟩ (.slice (some ⟨g1, 0, none⟩) hs.length c1)).setCell ⟨w.heap.size + 1 + 1, 1, none⟩ (.slice a5 (ts.length + 1) c5)) := (((Chg.refl (fun b => b = w.heap.size ∨ b = w.heap.size + 1 + 1) w5).setCell (p := ⟨w.heap.size, 1, none⟩) (.inl rfl) _).setCell (p := ⟨w.heap.size + 1 + 1, 0, none⟩) (.inr rfl) _).setCell (p := ⟨w.heap.size + 1 + 1, 1, none⟩) (.inr rfl) _
      have S6 := S5.chg cc (fun g hg e => (List.mem_append.1 hg).elim (fun x => by have := (HL1.out _ x).2; omega) (fun x => by have := List.mem_singleton.1 x; omega)) (by omega) (fun g hg e => by have := hvT g hg; omega)
      have B6 := hB.new (cc.mono (fun g e => by show w.heap.size ≤ g; omega))
      have Z6 := ((Z.setOther ⟨w.heap.size, 1, none⟩ (.slice a5 (ts.length + 1) c5) (by show w.heap.size ≠ w.heap.size + 1 + 1; omega)).set 0 (.slice (some ⟨g1, 0, none⟩) hs.length c1) (by simp)).set 1 (.slice a5 (ts.length + 1) c5) (by simp)
      clear cc S5 hB hvT
      unfold Stop
      go_wp2
      obtain ⟨_, q0, q1⟩ := Z6.c2
      exact bodyPost_ret (v := .agg #[.slice (some ⟨g1, 0, none⟩) hs.length c1, .slice a5 (ts.length + 1) c5]) (by simp [results, Tryd.results46, go_sem, q0, q1]) rfl ⟨_, _, _, rfl, by rw [HH.out, HT.out, HP.out, HW.out]; exact S6, B6⟩
end Go.Proofs.YtdaldkcildbcmaaDoor
