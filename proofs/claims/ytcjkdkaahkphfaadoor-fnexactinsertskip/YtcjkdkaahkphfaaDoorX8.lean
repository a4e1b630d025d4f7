/-
  The walk of FnExactInsertSkip.
-/
import Derived.Test.YtcjkdkaahkphfaaDoorX7
import Derived.Deep.Cut
namespace Go.Proofs.YtcjkdkaahkphfaaDoor
open Go.RowKit
set_option linter.unusedVariables false
set_option maxRecDepth 100000

theorem Lnk.chg {S : Nat → Prop} {w w' : World} {base : Nat} {ts : List Tw} {gs : List Nat} (h : Lnk w base ts gs) (c : Chg S w w') (hS : ∀ g ∈ gs, ¬ S g) : Lnk w' base ts gs :=
  ⟨h.1, h.2.1, fun i hi hi' => ⟨(h.2.2 i hi hi').1, c.owns (h.2.2 i hi hi').2 (fun b hb => by have := blk_eq hb; subst this; exact hS _ (List.getElem_mem _))⟩⟩
/-- A list that toSkip made, in blocks from lo up to hi. -/
def XS (w : World) (lo hi : Nat) (hs : List Int) (ts : List Tw) (g3 g4 : Nat) (gs : List Nat) : Prop :=
  gs.length = ts.length ∧ g3 < g4 ∧ w.ownsRow g3 3 1 (.slice (some ⟨g3, 0, none⟩) hs.length hs.length) hs.length (hs.map (.int .i64)) ∧ w.ownsRow g4 49 5 (.slice (some ⟨g4, 0, none⟩) ts.length ts.length) ts.length (flat5 (List.zipWith rowT ts gs)) ∧ Lnk w g4 ts gs ∧ ∀ b, (b = g3 ∨ b = g4 ∨ b ∈ gs) → lo ≤ b ∧ b < hi
theorem XS.chg {S : Nat → Prop} {w w' : World} {lo hi : Nat} {hs : List Int} {ts : List Tw} {g3 g4 : Nat} {gs : List Nat} (h : XS w lo hi hs ts g3 g4 gs) (c : Chg S w w') (hS : ∀ b, lo ≤ b → b < hi → ¬ S b) : XS w' lo hi hs ts g3 g4 gs := by
  obtain ⟨h1, h2, h3, h4, h5, h6⟩ := h
  exact ⟨h1, h2, c.owns h3 (fun b hb => by have := blk_eq hb; subst this; exact hS _ (h6 _ (.inl rfl)).1 (h6 _ (.inl rfl)).2), c.owns h4 (fun b hb => by have := blk_eq hb; subst this; exact hS _ (h6 _ (.inr (.inl rfl))).1 (h6 _ (.inr (.inl rfl))).2), h5.chg c (fun g hg => hS _ (h6 _ (.inr (.inr hg))).1 (h6 _ (.inr (.inr hg))).2), h6⟩
theorem XS.below {w w' : World} {lo hi : Nat} {hs : List Int} {ts : List Tw} {g3 g4 : Nat} {gs : List Nat} (h : XS w lo hi hs ts g3 g4 gs) (hb : Below w.heap.size w w') : XS w' lo hi hs ts g3 g4 gs := h.chg (S := fun _ => False) (Chg.of_below hb) (fun _ _ _ x => x)
theorem XS.il {w : World} {lo hi : Nat} {hs : List Int} {ts : List Tw} {g3 g4 : Nat} {gs : List Nat} (h : XS w lo hi hs ts g3 g4 gs) : IL w (.slice (some ⟨g3, 0, none⟩) hs.length hs.length) hs := IL_of_owns h.2.2.1 rfl
theorem XS.tw {w : World} {lo hi : Nat} {hs : List Int} {ts : List Tw} {g3 g4 : Nat} {gs : List Nat} (h : XS w lo hi hs ts g3 g4 gs) : TW w (.slice (some ⟨g4, 0, none⟩) ts.length ts.length) ts := TW_of_rows h.2.2.2.1 h.2.2.2.2.1 h.1
theorem XS.lt {w : World} {lo hi : Nat} {hs : List Int} {ts : List Tw} {g3 g4 : Nat} {gs : List Nat} (h : XS w lo hi hs ts g3 g4 gs) : g4 < w.heap.size := (owns_lt h.2.2.2.1).2
theorem toXS (x y : Value) (hs : List Int) (ts : List Tw) (w : World) (hx : IL w x hs) (hy : TW w y ts) (hn : hs.length ≤ 1048576) (hm : ts.length ≤ 1048576) (hf : ∀ i (h : i < ts.length), ts[i].next.length ≤ 1048576) :
    Calls Tryd.prog 7 #[.agg #[x, y]] w fun e w' => (∃ (g1 g2 : Nat) (gs : List Nat), e = .returned (.agg #[.slice (some ⟨g1, 0, none⟩) hs.length hs.length, .slice (some ⟨g2, 0, none⟩) ts.length ts.length]) ∧ XS w' w.heap.size w'.heap.size hs ts g1 g2 gs) ∧ Below w.heap.size w w' :=
  (toSkip_any x y hs ts w hx hy hn hm hf).mono fun e w' ⟨⟨g1, g2, gs, h1, h2, h3, he, o1, o2, hL⟩, hb⟩ => ⟨⟨g1, g2, gs, he, h3, h2, o1, o2, hL, fun b hb => by
    rcases hb with rfl | rfl | hb
    · exact ⟨h1, (owns_lt o1).2⟩
    · exact ⟨by omega, (owns_lt o2).2⟩
    · obtain ⟨i, hi, rfl⟩ := List.getElem_of_mem hb
      have := hL.2.2 i hi (by omega)
      exact ⟨by omega, (owns_lt this.2).2⟩⟩, hb⟩
theorem markXS (w : World) (lo hi : Nat) (hs : List Int) (ts : List Tw) (g3 g4 : Nat) (gs : List Nat) (h : XS w lo hi hs ts g3 g4 gs) (m1 : hs.length ≤ 1048576) (m2 : ts.length ≤ 1048576) (m3 : totT ts ≤ 1048576) :
    Calls Tryd.prog 11 #[.agg #[.slice (some ⟨g3, 0, none⟩) hs.length hs.length, .slice (some ⟨g4, 0, none⟩) ts.length ts.length], .int .i64 1] w fun e w' => (∃ m : Int, 0 ≤ m ∧ e = .returned (.int .i64 m)) ∧ Chg (fun b => lo ≤ b ∧ b < hi) w w' :=
  (markSkip_at g3 g4 hs.length ts.length g3 g4 hs ts gs w h.2.2.1 h.2.2.2.1 h.2.2.2.2.1 h.1 h.2.1 m1 m2 m3).mono fun e w' ⟨he, hc⟩ => ⟨he, hc.mono (fun b hb => h.2.2.2.2.2 b hb)⟩

set_option maxHeartbeats 32000000 in
theorem lawInsertSkip (x y : Value) (hs : List Int) (ts : List Tw) (k v : ByteArray) (s d : Int) (w : World) (hx : IL w x hs) (hy : TW w y ts) (hn : hs.length ≤ maxLen) (hm : ts.length ≤ maxLen) (hf : ∀ i (h : i < ts.length), ts[i].fits) (hk : k.size ≤ maxLen) (hv : v.size ≤ maxLen) (ht : Tabs w) :
    Calls Tryd.prog 3 #[.agg #[x, y], .agg #[.string k, .int .i64 s, .int .i64 d, .string v]] w fun e w' => e = .returned (.bool true) ∧ Below w.heap.size w w' := by
  obtain ⟨ax, cx, hxe, _⟩ := id hx
  subst hxe
  obtain ⟨ay, cy, hye, _⟩ := id hy
  subst hye
  obtain ⟨W0, hW0⟩ : ∃ W0, W0 = (w.alloc (.cells #[.slice ax hs.length cx, .slice ay ts.length cy] 25)).alloc (.cells #[.string k, .int .i64 s, .int .i64 d, .string v] 27) := ⟨_, rfl⟩
  have hB : Below w.heap.size w W0 := by rw [hW0]; exact below2 _ _ _
  have X : Box W0 w.heap.size [.slice ax hs.length cx, .slice ay ts.length cy] := by rw [hW0]; exact (Box.new w #[.slice ax hs.length cx, .slice ay ts.length cy] 25).alloc _
  have Y : Box W0 (w.heap.size + 1) [.string k, .int .i64 s, .int .i64 d, .string v] := by
    rw [hW0]
    have := Box.new (w.alloc (.cells #[.slice ax hs.length cx, .slice ay ts.length cy] 25)) #[.string k, .int .i64 s, .int .i64 d, .string v] 27
    simpa using this
  go_enter Tryd.func3, Tryd.ntmps3
  go_wp2_with fail
  rw [← hW0]; clear hW0
  refine (szSkip_any _ _ hs ts _ (hx.below hB) (hy.below hB) hn hm hf).mono ?_
  rintro e w1 ⟨⟨r, rfl, hr⟩, hb1⟩
  replace hB := below_then hB hb1
  replace X := X.below hb1
  replace Y := Y.below hb1
  clear hb1
  rcases hr with rfl | ⟨hr0, hr1⟩
  · clear X Y hx hy
    go_wp2
    go_ret
    exact ⟨rfl, hB⟩
  have m1 : hs.length ≤ 1048576 := by omega
  have m2 : ts.length ≤ 1048576 := by omega
  have m3 : totT ts ≤ 1048576 := by omega
  have hr' : ¬ r < 0 := by omega
  have KZ := fun w => szItem_any k v s d r w hr0 (by omega) hk hv
  obtain ⟨_, y0, y1, y2, y3⟩ := Y.c4
  by_cases hfit : (k.size : Int) + v.size ≤ r
  rotate_left
  · rw [if_neg hfit] at KZ
    clear hr1
    go_wp2_with fail
    refine (KZ _).mono ?_
    rintro e w2 ⟨rfl, hb2⟩
    replace hB := below_then hB hb2
    clear X Y hx hy hb2 y0 y1 y2 y3 KZ
    go_wp2
    go_ret
    exact ⟨rfl, hB⟩
  rw [if_pos hfit] at KZ
  have hk6 : k.size ≤ 1048576 := by omega
  have hv6 : v.size ≤ 1048576 := by omega
  obtain ⟨r2, hr2⟩ : ∃ r2, r2 = r - (k.size : Int) - v.size := ⟨_, rfl⟩
  have hr2' : ¬ r2 < 0 := by omega
  rw [← hr2] at KZ
  clear hr1 hr2 hfit
  go_wp2_with fail
  refine (KZ _).mono ?_
  rintro e w2 ⟨rfl, hb2⟩
  replace hB := below_then hB hb2
  replace X := X.below hb2
  replace Y := Y.below hb2
  clear hb2 KZ y0 y1 y2 y3
  have F1 := fits_of_tot m3
  have F2 : ∀ i (h : i < ts.length), ts[i].next.length ≤ 1048576 := fun i h => (F1 i h).1
  have F3 : ∀ i : Nat, i < ts.length → (tw ts i).next.length ≤ 1048576 ∧ (tw ts i).key.size ≤ 1048576 ∧ (tw ts i).val.size ≤ 1048576 := fun i h => by rw [tw_at ts i h]; exact F1 i h
  have KA : Hid _ := fun w hx hy => toXS (.slice ax hs.length cx) (.slice ay ts.length cy) hs ts w hx hy m1 m2 F2
  have KTI : Hid _ := fun w => toItem_any k v s d w
  have KS : Hid _ := fun g1 g2 w hx hy hb => specRes (.slice (some ⟨g1, 0, none⟩) hs.length hs.length) g2 0 ts.length hs ts ⟨k, s, d, v, []⟩ w hx hy hb m1 (Nat.le_refl _) m2 F3 hk6 hv6
  have KI : Hid _ := fun g1 g2 w hx hy hb ht => implRes (.slice (some ⟨g1, 0, none⟩) hs.length hs.length) g2 0 ts.length hs ts ⟨k, s, d, v, []⟩ w hx hy hb m1 m2 ht F3 hk6 hv6
  obtain ⟨B1, B2, B3, B4⟩ := res_bounds hs ts ⟨k, s, d, v, []⟩
  have KE : Hid _ := fun x y x' y' w hx hy hx' hy' => eqSkip_same x y x' y' hs ts w hx hy hx' hy' m1 m2 F2
  have KR : Hid _ := fun x y x' y' w hx hy hx' hy' => eqSkip_same x y x' y' (rH hs ts ⟨k, s, d, v, []⟩) (rT hs ts ⟨k, s, d, v, []⟩) w hx hy hx' hy' B2 B3 B4
  have KM : Hid _ := fun w lo hi u1 u2 h => markRes w lo hi (insB hs ts ⟨k, s, d, v, []⟩) (rH hs ts ⟨k, s, d, v, []⟩) (rT hs ts ⟨k, s, d, v, []⟩) u1 u2 h B1
  have KH : Hid _ := fun w lo hi u1 u2 h => heldRes w lo hi (insB hs ts ⟨k, s, d, v, []⟩) (rH hs ts ⟨k, s, d, v, []⟩) (rT hs ts ⟨k, s, d, v, []⟩) u1 u2 h B1
  have hmE := mE_ge (insB hs ts ⟨k, s, d, v, []⟩) (rT hs ts ⟨k, s, d, v, []⟩) (fun h => (B1 h).2.2)
  have KX : Hid _ := fun w lo hi g3 g4 gs h => markXS w lo hi hs ts g3 g4 gs h m1 m2 m3
  dsimp only at KS KI
  clear B1 B2 B3 B4 F1 F2 F3 hf hn hm hk hv m3
  generalize mE (insB hs ts ⟨k, s, d, v, []⟩) (rT hs ts ⟨k, s, d, v, []⟩) = mm at *
  generalize insB hs ts ⟨k, s, d, v, []⟩ = ok at *
  generalize rH hs ts ⟨k, s, d, v, []⟩ = RH at *
  generalize rT hs ts ⟨k, s, d, v, []⟩ = RT at *
  have hmm : ¬ mm < 0 := by omega
  clear hmE
  have NB := fun w => run_neq_bool_same w ok
  have hmq : (mm == mm) = true := by simp
  have HX : Hid (IL w (.slice ax hs.length cx) hs) := hx
  have HY : Hid (TW w (.slice ay ts.length cy) ts) := hy
  clear hx hy
  obtain ⟨_, x0, x1⟩ := X.c2
  obtain ⟨_, y0, y1, y2, y3⟩ := Y.c4
  go_wp2_with fail
  clear x0 x1 y0 y1 y2 y3
  go_cut [6, 7] from 26 (fun s6 s7 wc => ∃ (b lo hi : Nat) (u1 u2 : Value), s6 = .pointer (some ⟨b, 0, none⟩) ∧ s7 = .bool ok ∧ Box wc w.heap.size [.slice ax hs.length cx, .slice ay ts.length cy] ∧ Box wc (w.heap.size + 1) [.string k, .int .i64 s, .int .i64 d, .string v] ∧ Box wc b [u1, u2] ∧ ResS wc lo hi ok RH RT u1 u2 ∧ w.heap.size + 1 < lo ∧ w.heap.size + 1 < b ∧ (b < lo ∨ hi ≤ b) ∧ hi ≤ wc.heap.size ∧ Below w.heap.size w wc)
  case first =>
    have hD : Below w2.heap.size w2 w2.drew := (Below.refl _ _).drew
    replace hB := below_then hB hD
    replace X := X.below hD
    replace Y := Y.below hD
    clear hD
    refine wp_region_held_drew (S := fun wx => Box wx w.heap.size [.slice ax hs.length cx, .slice ay ts.length cy] ∧ Box wx (w.heap.size + 1) [.string k, .int .i64 s, .int .i64 d, .string v]) (by kernel_rfl) ⟨X, Y⟩ (fun hHeld => ?_)
    generalize w2.drew = v0 at *
    refine wpAnyH_take (i := 0) (oi := { dst := some 27, op := Op.load 25 (Operand.tmp 2), type := 25, pos := "exact.go:6155", after := #[], guard := none }) (v := .agg #[.slice ax hs.length cx, .slice ay ts.length cy]) rfl (by kernel_rfl) (by kernel_rfl) (by kernel_rfl) (fun _ _ _ h => h) (Or.inl ⟨by rfl, ?_⟩) (by assumption) ?_
    · intro wx hSw
      have e0 := hSw.1.2.1 0 _ rfl; have e1 := hSw.1.2.1 1 _ rfl; clear hHeld; go_simp
    simp only [Act.put, List.setIfInBounds_toArray, List.set_cons_zero, List.set_cons_succ]
    refine wpAnyH_take (i := 2) (oi := { dst := some 29, op := Op.load 27 (Operand.tmp 3), type := 27, pos := "exact.go:6155", after := #[], guard := none }) (v := .agg #[.string k, .int .i64 s, .int .i64 d, .string v]) rfl (by kernel_rfl) (by kernel_rfl) (by kernel_rfl) (fun _ _ _ h => h) (Or.inl ⟨by rfl, ?_⟩) (by assumption) ?_
    · intro wx hSw
      have e0 := hSw.2.2.1 0 _ rfl; have e1 := hSw.2.2.1 1 _ rfl; have e2 := hSw.2.2.1 2 _ rfl; have e3 := hSw.2.2.1 3 _ rfl; clear hHeld; go_simp
    simp only [Act.put, List.setIfInBounds_toArray, List.set_cons_zero, List.set_cons_succ]
    refine wpAnyH_ready (rs := [1, 8]) (by kernel_rfl) (by simp) ?_
    refine (AllReadyH.cons (o := { dst := some 28, op := Op.call { callee := Callee.value (Operand.func 7), args := #[Operand.tmp 27], argTypes := #[25] }, type := 32, pos := "exact.go:6155", after := #[{ on := 0, ground := Ground.data }], guard := none }) rfl (fun K hK => ?_) (AllReadyH.cons (o := { dst := some 6, op := Op.alloc 32, type := 0, pos := "exact.go:6155", after := #[], guard := none }) rfl (fun K hK => ?_) AllReadyH.nil))
    · clear hHeld
      go_simp
      refine (KA.out _ (HX.out.below hB) (HY.out.below hB)).mono ?_
      rintro e v1 ⟨⟨g1, g2, gs1, rfl, XT⟩, hbv⟩
      have hyl := Y.1
      replace hB := below_then hB hbv
      replace X := X.below hbv
      replace Y := Y.below hbv
      have hg4 := XT.lt
      clear hg4
      clear hbv hyl
      refine hK.out _ _ ⟨X, Y⟩ (fun hHeld => ?_)
      clear hK K
      try simp only [Act.put, List.setIfInBounds_toArray, List.set_cons_zero, List.set_cons_succ]
      refine wpAnyH_ready (rs := [3, 8]) (by kernel_rfl) (by simp) ?_
      refine (AllReadyH.cons (o := { dst := some 30, op := Op.call { callee := Callee.value (Operand.func 8), args := #[Operand.tmp 29], argTypes := #[27] }, type := 36, pos := "exact.go:6155", after := #[{ on := 2, ground := Ground.data }, { on := 1, ground := Ground.chain }], guard := none }) rfl (fun K hK => ?_) (AllReadyH.cons (o := { dst := some 6, op := Op.alloc 32, type := 0, pos := "exact.go:6155", after := #[], guard := none }) rfl (fun K hK => ?_) AllReadyH.nil))
      · clear hHeld
        go_simp
        refine (KTI.out _).mono ?_
        rintro e v2 ⟨rfl, hbv⟩
        have hyl := Y.1
        replace hB := below_then hB hbv
        replace X := X.below hbv
        replace Y := Y.below hbv
        replace XT := XT.below hbv
        clear hbv hyl
        refine hK.out _ _ ⟨X, Y⟩ (fun hHeld => ?_)
        clear hK K
        try simp only [Act.put, List.setIfInBounds_toArray, List.set_cons_zero, List.set_cons_succ]
        refine wpAnyH_ready (rs := [4, 8]) (by kernel_rfl) (by simp) ?_
        refine (AllReadyH.cons (o := { dst := some 31, op := Op.call { callee := Callee.value (Operand.func 6), args := #[Operand.tmp 28, Operand.tmp 30], argTypes := #[32, 36] }, type := 33, pos := "exact.go:6155", after := #[{ on := 1, ground := Ground.data }, { on := 3, ground := Ground.data }, { on := 3, ground := Ground.chain }], guard := none }) rfl (fun K hK => ?_) (AllReadyH.cons (o := { dst := some 6, op := Op.alloc 32, type := 0, pos := "exact.go:6155", after := #[], guard := none }) rfl (fun K hK => ?_) AllReadyH.nil))
        · clear hHeld
          go_simp
          refine (KS.out g1 g2 _ XT.il XT.tw XT.lt).mono ?_
          rintro e v3 ⟨⟨P1, P2, rfl, PR⟩, hbv⟩
          have hyl := Y.1
          replace hB := below_then hB hbv
          replace X := X.below hbv
          replace Y := Y.below hbv
          replace XT := XT.below hbv
          obtain ⟨loP, hlo⟩ : ∃ lo, lo = v2.heap.size := ⟨_, rfl⟩
          obtain ⟨hiP, hhi⟩ : ∃ hi, hi = v3.heap.size := ⟨_, rfl⟩
          rw [← hlo, ← hhi] at PR
          have hl1P : w.heap.size + 1 < loP := by omega
          have hl2P : hiP ≤ v3.heap.size := by omega
          obtain ⟨Pa, Pb, Pc, Pd, rfl, rfl⟩ := PR.shape
          clear hlo hhi
          clear hbv hyl
          refine hK.out _ _ ⟨X, Y⟩ (fun hHeld => ?_)
          clear hK K
          try simp only [Act.put, List.setIfInBounds_toArray, List.set_cons_zero, List.set_cons_succ]
          refine wpAnyH_take (i := 5) (oi := { dst := some 26, op := Op.move (Operand.tmp 31), type := 33, pos := "exact.go:6155", after := #[{ on := 4, ground := Ground.data }], guard := none }) (v := .tuple #[.agg #[.slice Pa RH.length Pb, .slice Pc RT.length Pd], .bool ok]) rfl (by kernel_rfl) (by kernel_rfl) (by kernel_rfl) (fun _ _ _ h => h) (Or.inl ⟨by rfl, ?_⟩) (by assumption) ?_
          · intro wx hSw
            clear hSw hHeld; go_simp
          simp only [Act.put, List.setIfInBounds_toArray, List.set_cons_zero, List.set_cons_succ]
          refine wpAnyH_take (i := 6) (oi := { dst := some 32, op := Op.extract (Operand.tmp 26) 0, type := 32, pos := "exact.go:6155", after := #[{ on := 5, ground := Ground.data }], guard := none }) (v := .agg #[.slice Pa RH.length Pb, .slice Pc RT.length Pd]) rfl (by kernel_rfl) (by kernel_rfl) (by kernel_rfl) (fun _ _ _ h => h) (Or.inl ⟨by rfl, ?_⟩) (by assumption) ?_
          · intro wx hSw
            clear hSw hHeld; go_simp
          simp only [Act.put, List.setIfInBounds_toArray, List.set_cons_zero, List.set_cons_succ]
          refine wpAnyH_take (i := 7) (oi := { dst := some 33, op := Op.extract (Operand.tmp 26) 1, type := 4, pos := "exact.go:6155", after := #[{ on := 5, ground := Ground.data }, { on := 9, ground := Ground.gcOnly Departure.lateStores }], guard := none }) (v := .bool ok) rfl (by kernel_rfl) (by kernel_rfl) (by kernel_rfl) (fun _ _ _ h => h) (Or.inl ⟨by rfl, ?_⟩) (by assumption) ?_
          · intro wx hSw
            clear hSw hHeld; go_simp
          simp only [Act.put, List.setIfInBounds_toArray, List.set_cons_zero, List.set_cons_succ]
          refine wpAnyH_ready (rs := [8]) (by kernel_rfl) (by simp) ?_
          refine (AllReadyH.cons (o := { dst := some 6, op := Op.alloc 32, type := 0, pos := "exact.go:6155", after := #[], guard := none }) rfl (fun K hK => ?_) AllReadyH.nil)
          clear hHeld
          have Z := Box.new v3 #[.slice none 0 0, .slice none 0 0] 32
          have hA := below_alloc v3 (.cells #[.slice none 0 0, .slice none 0 0] 32)
          have hkX := X.1
          have hkY := Y.1
          have hkhl2P := hl2P
          have hkw := hB.size
          replace hB := below_then hB hA
          replace X := X.below hA
          replace Y := Y.below hA
          replace XT := XT.below hA
          replace PR := PR.below hA
          replace hl2P := Nat.le_trans hl2P hA.size
          clear hA
          go_simp
          refine hK.out _ _ ⟨X, Y⟩ (fun hHeld => ?_)
          clear hK K
          generalize v3.heap.size = b at *
          generalize v3.alloc (.cells #[.slice none 0 0, .slice none 0 0] 32) = v4 at *
          try simp only [Act.put, List.setIfInBounds_toArray, List.set_cons_zero, List.set_cons_succ]
          refine wpAnyH_ready (rs := [9]) (by kernel_rfl) (by simp) ?_
          refine (AllReadyH.cons (o := { dst := none, op := Op.store 32 (Operand.tmp 6) (Operand.tmp 32), type := 0, pos := "exact.go:6155", after := #[{ on := 8, ground := Ground.data }, { on := 6, ground := Ground.data }, { on := 4, ground := Ground.chain }, { on := 0, ground := Ground.phase }, { on := 1, ground := Ground.phase }, { on := 2, ground := Ground.phase }, { on := 3, ground := Ground.phase }, { on := 4, ground := Ground.phase }, { on := 5, ground := Ground.phase }, { on := 6, ground := Ground.phase }, { on := 7, ground := Ground.textOnly Departure.lateStores }, { on := 8, ground := Ground.phase }], guard := none }) rfl (fun K hK => ?_) AllReadyH.nil)
          clear hHeld
          obtain ⟨zl, z0, z1⟩ := Z.c2
          have zf0 := Z.2.2 0
          have zf1 := Z.2.2 1
          have cc : Chg (· = b) v4 ((v4.setCell ⟨b, 0, none⟩ (.slice Pa RH.length Pb)).setCell ⟨b, 1, none⟩ (.slice Pc RT.length Pd)) := ((Chg.refl (· = b) v4).setCell (p := ⟨b, 0, none⟩) rfl _).setCell (p := ⟨b, 1, none⟩) rfl _
          have Zn := (Z.set 0 (.slice Pa RH.length Pb) (by simp)).set 1 (.slice Pc RT.length Pd) (by simp)
          replace hB := hB.trans (cc.below (B := w.heap.size) hB.size (fun g e => by omega))
          replace X := cc.box X (by omega)
          replace Y := cc.box Y (by omega)
          replace PR := PR.chg cc (fun g h1 h2 e => by have e2 : g = b := e; omega)
          replace hl2P := Nat.le_trans hl2P cc.size
          clear cc Z
          go_simp
          refine hK.out _ _ ⟨X, Y⟩ (fun hHeld => ?_)
          clear hK K z0 z1 zf0 zf1
          refine wpAnyH_take (i := 10) (oi := { dst := some 7, op := Op.assign (Operand.tmp 33), type := 4, pos := "exact.go:6155", after := #[{ on := 7, ground := Ground.data }, { on := 9, ground := Ground.chain }, { on := 0, ground := Ground.phase }, { on := 1, ground := Ground.phase }, { on := 2, ground := Ground.phase }, { on := 3, ground := Ground.phase }, { on := 4, ground := Ground.phase }, { on := 5, ground := Ground.phase }, { on := 6, ground := Ground.phase }, { on := 7, ground := Ground.phase }, { on := 8, ground := Ground.phase }, { on := 9, ground := Ground.phase }], guard := none }) (v := .bool ok) rfl (by kernel_rfl) (by kernel_rfl) (by kernel_rfl) (fun _ _ _ h => h) (Or.inl ⟨by rfl, ?_⟩) (by assumption) ?_
          · intro wx hSw
            clear hSw hHeld; go_simp
          simp only [Act.put, List.setIfInBounds_toArray, List.set_cons_zero, List.set_cons_succ]
          clear hHeld
          refine wpAnyH_done (by kernel_rfl) ?_ _
          go_wp2_with fail
          go_meet
          case rel => exact ⟨b, loP, hiP, _, _, rfl, rfl, X, Y, Zn, PR, hl1P, by omega, by omega, hl2P, hB⟩
        · clear hHeld
          have Z := Box.new v2 #[.slice none 0 0, .slice none 0 0] 32
          have hA := below_alloc v2 (.cells #[.slice none 0 0, .slice none 0 0] 32)
          have hkX := X.1
          have hkY := Y.1
          have hkw := hB.size
          replace hB := below_then hB hA
          replace X := X.below hA
          replace Y := Y.below hA
          replace XT := XT.below hA
          clear hA
          go_simp
          refine hK.out _ _ ⟨X, Y⟩ (fun hHeld => ?_)
          clear hK K
          generalize v2.heap.size = b at *
          generalize v2.alloc (.cells #[.slice none 0 0, .slice none 0 0] 32) = v5 at *
          try simp only [Act.put, List.setIfInBounds_toArray, List.set_cons_zero, List.set_cons_succ]
          refine wpAnyH_ready (rs := [4]) (by kernel_rfl) (by simp) ?_
          refine (AllReadyH.cons (o := { dst := some 31, op := Op.call { callee := Callee.value (Operand.func 6), args := #[Operand.tmp 28, Operand.tmp 30], argTypes := #[32, 36] }, type := 33, pos := "exact.go:6155", after := #[{ on := 1, ground := Ground.data }, { on := 3, ground := Ground.data }, { on := 3, ground := Ground.chain }], guard := none }) rfl (fun K hK => ?_) AllReadyH.nil)
          clear hHeld
          go_simp
          refine (KS.out g1 g2 _ XT.il XT.tw XT.lt).mono ?_
          rintro e v6 ⟨⟨P1, P2, rfl, PR⟩, hbv⟩
          have hzb := Z.1
          have hyl := Y.1
          replace hB := below_then hB hbv
          replace X := X.below hbv
          replace Y := Y.below hbv
          replace XT := XT.below hbv
          replace Z := Z.below hbv
          obtain ⟨loP, hlo⟩ : ∃ lo, lo = v5.heap.size := ⟨_, rfl⟩
          obtain ⟨hiP, hhi⟩ : ∃ hi, hi = v6.heap.size := ⟨_, rfl⟩
          rw [← hlo, ← hhi] at PR
          have hl1P : w.heap.size + 1 < loP := by omega
          have hl2P : hiP ≤ v6.heap.size := by omega
          have hbb : b < loP := by omega
          obtain ⟨Pa, Pb, Pc, Pd, rfl, rfl⟩ := PR.shape
          clear hlo hhi
          clear hbv hyl hzb
          refine hK.out _ _ ⟨X, Y⟩ (fun hHeld => ?_)
          clear hK K
          try simp only [Act.put, List.setIfInBounds_toArray, List.set_cons_zero, List.set_cons_succ]
          refine wpAnyH_take (i := 5) (oi := { dst := some 26, op := Op.move (Operand.tmp 31), type := 33, pos := "exact.go:6155", after := #[{ on := 4, ground := Ground.data }], guard := none }) (v := .tuple #[.agg #[.slice Pa RH.length Pb, .slice Pc RT.length Pd], .bool ok]) rfl (by kernel_rfl) (by kernel_rfl) (by kernel_rfl) (fun _ _ _ h => h) (Or.inl ⟨by rfl, ?_⟩) (by assumption) ?_
          · intro wx hSw
            clear hSw hHeld; go_simp
          simp only [Act.put, List.setIfInBounds_toArray, List.set_cons_zero, List.set_cons_succ]
          refine wpAnyH_take (i := 6) (oi := { dst := some 32, op := Op.extract (Operand.tmp 26) 0, type := 32, pos := "exact.go:6155", after := #[{ on := 5, ground := Ground.data }], guard := none }) (v := .agg #[.slice Pa RH.length Pb, .slice Pc RT.length Pd]) rfl (by kernel_rfl) (by kernel_rfl) (by kernel_rfl) (fun _ _ _ h => h) (Or.inl ⟨by rfl, ?_⟩) (by assumption) ?_
          · intro wx hSw
            clear hSw hHeld; go_simp
          simp only [Act.put, List.setIfInBounds_toArray, List.set_cons_zero, List.set_cons_succ]
          refine wpAnyH_take (i := 7) (oi := { dst := some 33, op := Op.extract (Operand.tmp 26) 1, type := 4, pos := "exact.go:6155", after := #[{ on := 5, ground := Ground.data }, { on := 9, ground := Ground.gcOnly Departure.lateStores }], guard := none }) (v := .bool ok) rfl (by kernel_rfl) (by kernel_rfl) (by kernel_rfl) (fun _ _ _ h => h) (Or.inl ⟨by rfl, ?_⟩) (by assumption) ?_
          · intro wx hSw
            clear hSw hHeld; go_simp
          simp only [Act.put, List.setIfInBounds_toArray, List.set_cons_zero, List.set_cons_succ]
          refine wpAnyH_ready (rs := [9]) (by kernel_rfl) (by simp) ?_
          refine (AllReadyH.cons (o := { dst := none, op := Op.store 32 (Operand.tmp 6) (Operand.tmp 32), type := 0, pos := "exact.go:6155", after := #[{ on := 8, ground := Ground.data }, { on := 6, ground := Ground.data }, { on := 4, ground := Ground.chain }, { on := 0, ground := Ground.phase }, { on := 1, ground := Ground.phase }, { on := 2, ground := Ground.phase }, { on := 3, ground := Ground.phase }, { on := 4, ground := Ground.phase }, { on := 5, ground := Ground.phase }, { on := 6, ground := Ground.phase }, { on := 7, ground := Ground.textOnly Departure.lateStores }, { on := 8, ground := Ground.phase }], guard := none }) rfl (fun K hK => ?_) AllReadyH.nil)
          clear hHeld
          obtain ⟨zl, z0, z1⟩ := Z.c2
          have zf0 := Z.2.2 0
          have zf1 := Z.2.2 1
          have cc : Chg (· = b) v6 ((v6.setCell ⟨b, 0, none⟩ (.slice Pa RH.length Pb)).setCell ⟨b, 1, none⟩ (.slice Pc RT.length Pd)) := ((Chg.refl (· = b) v6).setCell (p := ⟨b, 0, none⟩) rfl _).setCell (p := ⟨b, 1, none⟩) rfl _
          have Zn := (Z.set 0 (.slice Pa RH.length Pb) (by simp)).set 1 (.slice Pc RT.length Pd) (by simp)
          replace hB := hB.trans (cc.below (B := w.heap.size) hB.size (fun g e => by omega))
          replace X := cc.box X (by omega)
          replace Y := cc.box Y (by omega)
          replace PR := PR.chg cc (fun g h1 h2 e => by have e2 : g = b := e; omega)
          replace hl2P := Nat.le_trans hl2P cc.size
          clear cc Z
          go_simp
          refine hK.out _ _ ⟨X, Y⟩ (fun hHeld => ?_)
          clear hK K z0 z1 zf0 zf1
          refine wpAnyH_take (i := 10) (oi := { dst := some 7, op := Op.assign (Operand.tmp 33), type := 4, pos := "exact.go:6155", after := #[{ on := 7, ground := Ground.data }, { on := 9, ground := Ground.chain }, { on := 0, ground := Ground.phase }, { on := 1, ground := Ground.phase }, { on := 2, ground := Ground.phase }, { on := 3, ground := Ground.phase }, { on := 4, ground := Ground.phase }, { on := 5, ground := Ground.phase }, { on := 6, ground := Ground.phase }, { on := 7, ground := Ground.phase }, { on := 8, ground := Ground.phase }, { on := 9, ground := Ground.phase }], guard := none }) (v := .bool ok) rfl (by kernel_rfl) (by kernel_rfl) (by kernel_rfl) (fun _ _ _ h => h) (Or.inl ⟨by rfl, ?_⟩) (by assumption) ?_
          · intro wx hSw
            clear hSw hHeld; go_simp
          simp only [Act.put, List.setIfInBounds_toArray, List.set_cons_zero, List.set_cons_succ]
          clear hHeld
          refine wpAnyH_done (by kernel_rfl) ?_ _
          go_wp2_with fail
          go_meet
          case rel => exact ⟨b, loP, hiP, _, _, rfl, rfl, X, Y, Zn, PR, hl1P, by omega, by omega, hl2P, hB⟩
      · clear hHeld
        have Z := Box.new v1 #[.slice none 0 0, .slice none 0 0] 32
        have hA := below_alloc v1 (.cells #[.slice none 0 0, .slice none 0 0] 32)
        have hkX := X.1
        have hkY := Y.1
        have hkw := hB.size
        replace hB := below_then hB hA
        replace X := X.below hA
        replace Y := Y.below hA
        replace XT := XT.below hA
        clear hA
        go_simp
        refine hK.out _ _ ⟨X, Y⟩ (fun hHeld => ?_)
        clear hK K
        generalize v1.heap.size = b at *
        generalize v1.alloc (.cells #[.slice none 0 0, .slice none 0 0] 32) = v7 at *
        try simp only [Act.put, List.setIfInBounds_toArray, List.set_cons_zero, List.set_cons_succ]
        refine wpAnyH_ready (rs := [3]) (by kernel_rfl) (by simp) ?_
        refine (AllReadyH.cons (o := { dst := some 30, op := Op.call { callee := Callee.value (Operand.func 8), args := #[Operand.tmp 29], argTypes := #[27] }, type := 36, pos := "exact.go:6155", after := #[{ on := 2, ground := Ground.data }, { on := 1, ground := Ground.chain }], guard := none }) rfl (fun K hK => ?_) AllReadyH.nil)
        clear hHeld
        go_simp
        refine (KTI.out _).mono ?_
        rintro e v8 ⟨rfl, hbv⟩
        have hzb := Z.1
        have hyl := Y.1
        replace hB := below_then hB hbv
        replace X := X.below hbv
        replace Y := Y.below hbv
        replace XT := XT.below hbv
        replace Z := Z.below hbv
        clear hbv hyl hzb
        refine hK.out _ _ ⟨X, Y⟩ (fun hHeld => ?_)
        clear hK K
        try simp only [Act.put, List.setIfInBounds_toArray, List.set_cons_zero, List.set_cons_succ]
        refine wpAnyH_ready (rs := [4]) (by kernel_rfl) (by simp) ?_
        refine (AllReadyH.cons (o := { dst := some 31, op := Op.call { callee := Callee.value (Operand.func 6), args := #[Operand.tmp 28, Operand.tmp 30], argTypes := #[32, 36] }, type := 33, pos := "exact.go:6155", after := #[{ on := 1, ground := Ground.data }, { on := 3, ground := Ground.data }, { on := 3, ground := Ground.chain }], guard := none }) rfl (fun K hK => ?_) AllReadyH.nil)
        clear hHeld
        go_simp
        refine (KS.out g1 g2 _ XT.il XT.tw XT.lt).mono ?_
        rintro e v9 ⟨⟨P1, P2, rfl, PR⟩, hbv⟩
        have hzb := Z.1
        have hyl := Y.1
        replace hB := below_then hB hbv
        replace X := X.below hbv
        replace Y := Y.below hbv
        replace XT := XT.below hbv
        replace Z := Z.below hbv
        obtain ⟨loP, hlo⟩ : ∃ lo, lo = v8.heap.size := ⟨_, rfl⟩
        obtain ⟨hiP, hhi⟩ : ∃ hi, hi = v9.heap.size := ⟨_, rfl⟩
        rw [← hlo, ← hhi] at PR
        have hl1P : w.heap.size + 1 < loP := by omega
        have hl2P : hiP ≤ v9.heap.size := by omega
        have hbb : b < loP := by omega
        obtain ⟨Pa, Pb, Pc, Pd, rfl, rfl⟩ := PR.shape
        clear hlo hhi
        clear hbv hyl hzb
        refine hK.out _ _ ⟨X, Y⟩ (fun hHeld => ?_)
        clear hK K
        try simp only [Act.put, List.setIfInBounds_toArray, List.set_cons_zero, List.set_cons_succ]
        refine wpAnyH_take (i := 5) (oi := { dst := some 26, op := Op.move (Operand.tmp 31), type := 33, pos := "exact.go:6155", after := #[{ on := 4, ground := Ground.data }], guard := none }) (v := .tuple #[.agg #[.slice Pa RH.length Pb, .slice Pc RT.length Pd], .bool ok]) rfl (by kernel_rfl) (by kernel_rfl) (by kernel_rfl) (fun _ _ _ h => h) (Or.inl ⟨by rfl, ?_⟩) (by assumption) ?_
        · intro wx hSw
          clear hSw hHeld; go_simp
        simp only [Act.put, List.setIfInBounds_toArray, List.set_cons_zero, List.set_cons_succ]
        refine wpAnyH_take (i := 6) (oi := { dst := some 32, op := Op.extract (Operand.tmp 26) 0, type := 32, pos := "exact.go:6155", after := #[{ on := 5, ground := Ground.data }], guard := none }) (v := .agg #[.slice Pa RH.length Pb, .slice Pc RT.length Pd]) rfl (by kernel_rfl) (by kernel_rfl) (by kernel_rfl) (fun _ _ _ h => h) (Or.inl ⟨by rfl, ?_⟩) (by assumption) ?_
        · intro wx hSw
          clear hSw hHeld; go_simp
        simp only [Act.put, List.setIfInBounds_toArray, List.set_cons_zero, List.set_cons_succ]
        refine wpAnyH_take (i := 7) (oi := { dst := some 33, op := Op.extract (Operand.tmp 26) 1, type := 4, pos := "exact.go:6155", after := #[{ on := 5, ground := Ground.data }, { on := 9, ground := Ground.gcOnly Departure.lateStores }], guard := none }) (v := .bool ok) rfl (by kernel_rfl) (by kernel_rfl) (by kernel_rfl) (fun _ _ _ h => h) (Or.inl ⟨by rfl, ?_⟩) (by assumption) ?_
        · intro wx hSw
          clear hSw hHeld; go_simp
        simp only [Act.put, List.setIfInBounds_toArray, List.set_cons_zero, List.set_cons_succ]
        refine wpAnyH_ready (rs := [9]) (by kernel_rfl) (by simp) ?_
        refine (AllReadyH.cons (o := { dst := none, op := Op.store 32 (Operand.tmp 6) (Operand.tmp 32), type := 0, pos := "exact.go:6155", after := #[{ on := 8, ground := Ground.data }, { on := 6, ground := Ground.data }, { on := 4, ground := Ground.chain }, { on := 0, ground := Ground.phase }, { on := 1, ground := Ground.phase }, { on := 2, ground := Ground.phase }, { on := 3, ground := Ground.phase }, { on := 4, ground := Ground.phase }, { on := 5, ground := Ground.phase }, { on := 6, ground := Ground.phase }, { on := 7, ground := Ground.textOnly Departure.lateStores }, { on := 8, ground := Ground.phase }], guard := none }) rfl (fun K hK => ?_) AllReadyH.nil)
        clear hHeld
        obtain ⟨zl, z0, z1⟩ := Z.c2
        have zf0 := Z.2.2 0
        have zf1 := Z.2.2 1
        have cc : Chg (· = b) v9 ((v9.setCell ⟨b, 0, none⟩ (.slice Pa RH.length Pb)).setCell ⟨b, 1, none⟩ (.slice Pc RT.length Pd)) := ((Chg.refl (· = b) v9).setCell (p := ⟨b, 0, none⟩) rfl _).setCell (p := ⟨b, 1, none⟩) rfl _
        have Zn := (Z.set 0 (.slice Pa RH.length Pb) (by simp)).set 1 (.slice Pc RT.length Pd) (by simp)
        replace hB := hB.trans (cc.below (B := w.heap.size) hB.size (fun g e => by omega))
        replace X := cc.box X (by omega)
        replace Y := cc.box Y (by omega)
        replace PR := PR.chg cc (fun g h1 h2 e => by have e2 : g = b := e; omega)
        replace hl2P := Nat.le_trans hl2P cc.size
        clear cc Z
        go_simp
        refine hK.out _ _ ⟨X, Y⟩ (fun hHeld => ?_)
        clear hK K z0 z1 zf0 zf1
        refine wpAnyH_take (i := 10) (oi := { dst := some 7, op := Op.assign (Operand.tmp 33), type := 4, pos := "exact.go:6155", after := #[{ on := 7, ground := Ground.data }, { on := 9, ground := Ground.chain }, { on := 0, ground := Ground.phase }, { on := 1, ground := Ground.phase }, { on := 2, ground := Ground.phase }, { on := 3, ground := Ground.phase }, { on := 4, ground := Ground.phase }, { on := 5, ground := Ground.phase }, { on := 6, ground := Ground.phase }, { on := 7, ground := Ground.phase }, { on := 8, ground := Ground.phase }, { on := 9, ground := Ground.phase }], guard := none }) (v := .bool ok) rfl (by kernel_rfl) (by kernel_rfl) (by kernel_rfl) (fun _ _ _ h => h) (Or.inl ⟨by rfl, ?_⟩) (by assumption) ?_
        · intro wx hSw
          clear hSw hHeld; go_simp
        simp only [Act.put, List.setIfInBounds_toArray, List.set_cons_zero, List.set_cons_succ]
        clear hHeld
        refine wpAnyH_done (by kernel_rfl) ?_ _
        go_wp2_with fail
        go_meet
        case rel => exact ⟨b, loP, hiP, _, _, rfl, rfl, X, Y, Zn, PR, hl1P, by omega, by omega, hl2P, hB⟩
    · clear hHeld
      have Z := Box.new v0 #[.slice none 0 0, .slice none 0 0] 32
      have hA := below_alloc v0 (.cells #[.slice none 0 0, .slice none 0 0] 32)
      have hkX := X.1
      have hkY := Y.1
      have hkw := hB.size
      replace hB := below_then hB hA
      replace X := X.below hA
      replace Y := Y.below hA
      clear hA
      go_simp
      refine hK.out _ _ ⟨X, Y⟩ (fun hHeld => ?_)
      clear hK K
      generalize v0.heap.size = b at *
      generalize v0.alloc (.cells #[.slice none 0 0, .slice none 0 0] 32) = v10 at *
      try simp only [Act.put, List.setIfInBounds_toArray, List.set_cons_zero, List.set_cons_succ]
      refine wpAnyH_ready (rs := [1]) (by kernel_rfl) (by simp) ?_
      refine (AllReadyH.cons (o := { dst := some 28, op := Op.call { callee := Callee.value (Operand.func 7), args := #[Operand.tmp 27], argTypes := #[25] }, type := 32, pos := "exact.go:6155", after := #[{ on := 0, ground := Ground.data }], guard := none }) rfl (fun K hK => ?_) AllReadyH.nil)
      clear hHeld
      go_simp
      refine (KA.out _ (HX.out.below hB) (HY.out.below hB)).mono ?_
      rintro e v11 ⟨⟨g1, g2, gs1, rfl, XT⟩, hbv⟩
      have hzb := Z.1
      have hyl := Y.1
      replace hB := below_then hB hbv
      replace X := X.below hbv
      replace Y := Y.below hbv
      replace Z := Z.below hbv
      have hg4 := XT.lt
      clear hg4
      clear hbv hyl hzb
      refine hK.out _ _ ⟨X, Y⟩ (fun hHeld => ?_)
      clear hK K
      try simp only [Act.put, List.setIfInBounds_toArray, List.set_cons_zero, List.set_cons_succ]
      refine wpAnyH_ready (rs := [3]) (by kernel_rfl) (by simp) ?_
      refine (AllReadyH.cons (o := { dst := some 30, op := Op.call { callee := Callee.value (Operand.func 8), args := #[Operand.tmp 29], argTypes := #[27] }, type := 36, pos := "exact.go:6155", after := #[{ on := 2, ground := Ground.data }, { on := 1, ground := Ground.chain }], guard := none }) rfl (fun K hK => ?_) AllReadyH.nil)
      clear hHeld
      go_simp
      refine (KTI.out _).mono ?_
      rintro e v12 ⟨rfl, hbv⟩
      have hzb := Z.1
      have hyl := Y.1
      replace hB := below_then hB hbv
      replace X := X.below hbv
      replace Y := Y.below hbv
      replace Z := Z.below hbv
      replace XT := XT.below hbv
      clear hbv hyl hzb
      refine hK.out _ _ ⟨X, Y⟩ (fun hHeld => ?_)
      clear hK K
      try simp only [Act.put, List.setIfInBounds_toArray, List.set_cons_zero, List.set_cons_succ]
      refine wpAnyH_ready (rs := [4]) (by kernel_rfl) (by simp) ?_
      refine (AllReadyH.cons (o := { dst := some 31, op := Op.call { callee := Callee.value (Operand.func 6), args := #[Operand.tmp 28, Operand.tmp 30], argTypes := #[32, 36] }, type := 33, pos := "exact.go:6155", after := #[{ on := 1, ground := Ground.data }, { on := 3, ground := Ground.data }, { on := 3, ground := Ground.chain }], guard := none }) rfl (fun K hK => ?_) AllReadyH.nil)
      clear hHeld
      go_simp
      refine (KS.out g1 g2 _ XT.il XT.tw XT.lt).mono ?_
      rintro e v13 ⟨⟨P1, P2, rfl, PR⟩, hbv⟩
      have hzb := Z.1
      have hyl := Y.1
      replace hB := below_then hB hbv
      replace X := X.below hbv
      replace Y := Y.below hbv
      replace Z := Z.below hbv
      replace XT := XT.below hbv
      obtain ⟨loP, hlo⟩ : ∃ lo, lo = v12.heap.size := ⟨_, rfl⟩
      obtain ⟨hiP, hhi⟩ : ∃ hi, hi = v13.heap.size := ⟨_, rfl⟩
      rw [← hlo, ← hhi] at PR
      have hl1P : w.heap.size + 1 < loP := by omega
      have hl2P : hiP ≤ v13.heap.size := by omega
      have hbb : b < loP := by omega
      obtain ⟨Pa, Pb, Pc, Pd, rfl, rfl⟩ := PR.shape
      clear hlo hhi
      clear hbv hyl hzb
      refine hK.out _ _ ⟨X, Y⟩ (fun hHeld => ?_)
      clear hK K
      try simp only [Act.put, List.setIfInBounds_toArray, List.set_cons_zero, List.set_cons_succ]
      refine wpAnyH_take (i := 5) (oi := { dst := some 26, op := Op.move (Operand.tmp 31), type := 33, pos := "exact.go:6155", after := #[{ on := 4, ground := Ground.data }], guard := none }) (v := .tuple #[.agg #[.slice Pa RH.length Pb, .slice Pc RT.length Pd], .bool ok]) rfl (by kernel_rfl) (by kernel_rfl) (by kernel_rfl) (fun _ _ _ h => h) (Or.inl ⟨by rfl, ?_⟩) (by assumption) ?_
      · intro wx hSw
        clear hSw hHeld; go_simp
      simp only [Act.put, List.setIfInBounds_toArray, List.set_cons_zero, List.set_cons_succ]
      refine wpAnyH_take (i := 6) (oi := { dst := some 32, op := Op.extract (Operand.tmp 26) 0, type := 32, pos := "exact.go:6155", after := #[{ on := 5, ground := Ground.data }], guard := none }) (v := .agg #[.slice Pa RH.length Pb, .slice Pc RT.length Pd]) rfl (by kernel_rfl) (by kernel_rfl) (by kernel_rfl) (fun _ _ _ h => h) (Or.inl ⟨by rfl, ?_⟩) (by assumption) ?_
      · intro wx hSw
        clear hSw hHeld; go_simp
      simp only [Act.put, List.setIfInBounds_toArray, List.set_cons_zero, List.set_cons_succ]
      refine wpAnyH_take (i := 7) (oi := { dst := some 33, op := Op.extract (Operand.tmp 26) 1, type := 4, pos := "exact.go:6155", after := #[{ on := 5, ground := Ground.data }, { on := 9, ground := Ground.gcOnly Departure.lateStores }], guard := none }) (v := .bool ok) rfl (by kernel_rfl) (by kernel_rfl) (by kernel_rfl) (fun _ _ _ h => h) (Or.inl ⟨by rfl, ?_⟩) (by assumption) ?_
      · intro wx hSw
        clear hSw hHeld; go_simp
      simp only [Act.put, List.setIfInBounds_toArray, List.set_cons_zero, List.set_cons_succ]
      refine wpAnyH_ready (rs := [9]) (by kernel_rfl) (by simp) ?_
      refine (AllReadyH.cons (o := { dst := none, op := Op.store 32 (Operand.tmp 6) (Operand.tmp 32), type := 0, pos := "exact.go:6155", after := #[{ on := 8, ground := Ground.data }, { on := 6, ground := Ground.data }, { on := 4, ground := Ground.chain }, { on := 0, ground := Ground.phase }, { on := 1, ground := Ground.phase }, { on := 2, ground := Ground.phase }, { on := 3, ground := Ground.phase }, { on := 4, ground := Ground.phase }, { on := 5, ground := Ground.phase }, { on := 6, ground := Ground.phase }, { on := 7, ground := Ground.textOnly Departure.lateStores }, { on := 8, ground := Ground.phase }], guard := none }) rfl (fun K hK => ?_) AllReadyH.nil)
      clear hHeld
      obtain ⟨zl, z0, z1⟩ := Z.c2
      have zf0 := Z.2.2 0
      have zf1 := Z.2.2 1
      have cc : Chg (· = b) v13 ((v13.setCell ⟨b, 0, none⟩ (.slice Pa RH.length Pb)).setCell ⟨b, 1, none⟩ (.slice Pc RT.length Pd)) := ((Chg.refl (· = b) v13).setCell (p := ⟨b, 0, none⟩) rfl _).setCell (p := ⟨b, 1, none⟩) rfl _
      have Zn := (Z.set 0 (.slice Pa RH.length Pb) (by simp)).set 1 (.slice Pc RT.length Pd) (by simp)
      replace hB := hB.trans (cc.below (B := w.heap.size) hB.size (fun g e => by omega))
      replace X := cc.box X (by omega)
      replace Y := cc.box Y (by omega)
      replace PR := PR.chg cc (fun g h1 h2 e => by have e2 : g = b := e; omega)
      replace hl2P := Nat.le_trans hl2P cc.size
      clear cc Z
      go_simp
      refine hK.out _ _ ⟨X, Y⟩ (fun hHeld => ?_)
      clear hK K z0 z1 zf0 zf1
      refine wpAnyH_take (i := 10) (oi := { dst := some 7, op := Op.assign (Operand.tmp 33), type := 4, pos := "exact.go:6155", after := #[{ on := 7, ground := Ground.data }, { on := 9, ground := Ground.chain }, { on := 0, ground := Ground.phase }, { on := 1, ground := Ground.phase }, { on := 2, ground := Ground.phase }, { on := 3, ground := Ground.phase }, { on := 4, ground := Ground.phase }, { on := 5, ground := Ground.phase }, { on := 6, ground := Ground.phase }, { on := 7, ground := Ground.phase }, { on := 8, ground := Ground.phase }, { on := 9, ground := Ground.phase }], guard := none }) (v := .bool ok) rfl (by kernel_rfl) (by kernel_rfl) (by kernel_rfl) (fun _ _ _ h => h) (Or.inl ⟨by rfl, ?_⟩) (by assumption) ?_
      · intro wx hSw
        clear hSw hHeld; go_simp
      simp only [Act.put, List.setIfInBounds_toArray, List.set_cons_zero, List.set_cons_succ]
      clear hHeld
      refine wpAnyH_done (by kernel_rfl) ?_ _
      go_wp2_with fail
      go_meet
      case rel => exact ⟨b, loP, hiP, _, _, rfl, rfl, X, Y, Zn, PR, hl1P, by omega, by omega, hl2P, hB⟩
  case rest =>
    clear X Y hB KS
    obtain ⟨bP, loP, hiP, P1, P2, rfl, rfl, X, Y, P, PR, hlP, hbP, hbP2, hiPz, hB⟩ := hcut
    obtain ⟨a1, c1, a2, c2, rfl, rfl⟩ := PR.shape
    obtain ⟨_, x0, x1⟩ := X.c2
    go_wp2_with fail
    refine (KA.out _ (HX.out.below hB) (HY.out.below hB)).mono ?_
    rintro e w3 ⟨⟨g3, g4, gs, rfl, XR⟩, hb3⟩
    obtain ⟨loX, hloX⟩ : ∃ lo, lo = wc.heap.size := ⟨_, rfl⟩
    obtain ⟨hiX, hhiX⟩ : ∃ hi, hi = w3.heap.size := ⟨_, rfl⟩
    rw [← hloX, ← hhiX] at XR
    have hPX : hiP ≤ loX ∧ bP < loX ∧ w.heap.size + 1 < loX := by have := P.1; have := Y.1; omega
    have hXz : hiX ≤ w3.heap.size := by omega
    replace hB := below_then hB hb3
    replace X := X.below hb3
    replace Y := Y.below hb3
    replace P := P.below hb3
    replace PR := PR.below hb3
    replace hiPz := Nat.le_trans hiPz hb3.size
    clear hb3 x0 x1
    have BX := below_alloc w3 (.cells #[.slice (some ⟨g3, 0, none⟩) hs.length hs.length, .slice (some ⟨g4, 0, none⟩) ts.length ts.length] 32)
    have A := Box.new w3 #[.slice (some ⟨g3, 0, none⟩) hs.length hs.length, .slice (some ⟨g4, 0, none⟩) ts.length ts.length] 32
    obtain ⟨bA, hbA⟩ : ∃ bA, bA = w3.heap.size := ⟨_, rfl⟩
    replace hB := below_then hB BX
    replace X := X.below BX
    replace Y := Y.below BX
    replace P := P.below BX
    replace PR := PR.below BX
    replace hiPz := Nat.le_trans hiPz BX.size
    replace XR := XR.below BX
    replace hXz := Nat.le_trans hXz BX.size
    rw [← hbA] at A
    have hAX : hiX ≤ bA ∧ loX ≤ bA := by have := XR.lt; have := (XR.2.2.2.2.2 g4 (.inr (.inl rfl))); omega
    clear BX
    obtain ⟨_, q0, q1⟩ := A.c2
    obtain ⟨_, y0, y1, y2, y3⟩ := Y.c4
    go_wp2_with fail
    rw [← hbA]
    generalize w3.alloc (.cells #[.slice (some ⟨g3, 0, none⟩) hs.length hs.length, .slice (some ⟨g4, 0, none⟩) ts.length ts.length] 32) = w4 at *
    clear hbA hloX hhiX q0 q1 y0 y1 y2 y3
    go_cut [9, 10] from 36 (fun s9 s10 wc => ∃ (b lo hi : Nat) (u1 u2 : Value), s9 = .pointer (some ⟨b, 0, none⟩) ∧ s10 = .bool ok ∧ Box wc w.heap.size [.slice ax hs.length cx, .slice ay ts.length cy] ∧ Box wc (w.heap.size + 1) [.string k, .int .i64 s, .int .i64 d, .string v] ∧ Box wc b [u1, u2] ∧ ResS wc lo hi ok RH RT u1 u2 ∧ w.heap.size + 1 < lo ∧ w.heap.size + 1 < b ∧ (b < lo ∨ hi ≤ b) ∧ hi ≤ wc.heap.size ∧ Box wc bP [.slice a1 RH.length c1, .slice a2 RT.length c2] ∧ ResS wc loP hiP ok RH RT (.slice a1 RH.length c1) (.slice a2 RT.length c2) ∧ XS wc loX hiX hs ts g3 g4 gs ∧ Box wc bA [.slice (some ⟨g3, 0, none⟩) hs.length hs.length, .slice (some ⟨g4, 0, none⟩) ts.length ts.length] ∧ bA < lo ∧ bA < b ∧ hiX ≤ lo ∧ hiX ≤ b ∧ Below w.heap.size w wc)
    case first =>
      have hD : Below w4.heap.size w4 w4.drew := (Below.refl _ _).drew
      replace hB := below_then hB hD
      replace X := X.below hD
      replace Y := Y.below hD
      replace P := P.below hD
      replace PR := PR.below hD
      replace hiPz := Nat.le_trans hiPz hD.size
      replace XR := XR.below hD
      replace hXz := Nat.le_trans hXz hD.size
      replace A := A.below hD
      clear hD
      refine wp_region_held_drew (S := fun wx => Box wx bA [.slice (some ⟨g3, 0, none⟩) hs.length hs.length, .slice (some ⟨g4, 0, none⟩) ts.length ts.length] ∧ Box wx (w.heap.size + 1) [.string k, .int .i64 s, .int .i64 d, .string v]) (by kernel_rfl) ⟨A, Y⟩ (fun hHeld => ?_)
      generalize w4.drew = v0 at *
      refine wpAnyH_take (i := 0) (oi := { dst := some 37, op := Op.load 32 (Operand.tmp 8), type := 32, pos := "exact.go:6157", after := #[], guard := none }) (v := .agg #[.slice (some ⟨g3, 0, none⟩) hs.length hs.length, .slice (some ⟨g4, 0, none⟩) ts.length ts.length]) rfl (by kernel_rfl) (by kernel_rfl) (by kernel_rfl) (fun _ _ _ h => h) (Or.inl ⟨by rfl, ?_⟩) (by assumption) ?_
      · intro wx hSw
        have e0 := hSw.1.2.1 0 _ rfl; have e1 := hSw.1.2.1 1 _ rfl; clear hHeld; go_simp
      simp only [Act.put, List.setIfInBounds_toArray, List.set_cons_zero, List.set_cons_succ]
      refine wpAnyH_take (i := 1) (oi := { dst := some 38, op := Op.load 27 (Operand.tmp 3), type := 27, pos := "exact.go:6157", after := #[], guard := none }) (v := .agg #[.string k, .int .i64 s, .int .i64 d, .string v]) rfl (by kernel_rfl) (by kernel_rfl) (by kernel_rfl) (fun _ _ _ h => h) (Or.inl ⟨by rfl, ?_⟩) (by assumption) ?_
      · intro wx hSw
        have e0 := hSw.2.2.1 0 _ rfl; have e1 := hSw.2.2.1 1 _ rfl; have e2 := hSw.2.2.1 2 _ rfl; have e3 := hSw.2.2.1 3 _ rfl; clear hHeld; go_simp
      simp only [Act.put, List.setIfInBounds_toArray, List.set_cons_zero, List.set_cons_succ]
      refine wpAnyH_ready (rs := [2, 7]) (by kernel_rfl) (by simp) ?_
      refine (AllReadyH.cons (o := { dst := some 39, op := Op.call { callee := Callee.value (Operand.func 8), args := #[Operand.tmp 38], argTypes := #[27] }, type := 36, pos := "exact.go:6157", after := #[{ on := 1, ground := Ground.data }], guard := none }) rfl (fun K hK => ?_) (AllReadyH.cons (o := { dst := some 9, op := Op.alloc 32, type := 0, pos := "exact.go:6157", after := #[], guard := none }) rfl (fun K hK => ?_) AllReadyH.nil))
      · clear hHeld
        go_simp
        refine (KTI.out _).mono ?_
        rintro e v1 ⟨rfl, hbv⟩
        have hyl := Y.1
        have hAl := A.1
        have hXl := hXz
        replace hB := below_then hB hbv
        replace X := X.below hbv
        replace Y := Y.below hbv
        replace P := P.below hbv
        replace PR := PR.below hbv
        replace hiPz := Nat.le_trans hiPz hbv.size
        replace XR := XR.below hbv
        replace hXz := Nat.le_trans hXz hbv.size
        replace A := A.below hbv
        clear hbv hyl hAl hXl
        refine hK.out _ _ ⟨A, Y⟩ (fun hHeld => ?_)
        clear hK K
        try simp only [Act.put, List.setIfInBounds_toArray, List.set_cons_zero, List.set_cons_succ]
        refine wpAnyH_ready (rs := [3, 7]) (by kernel_rfl) (by simp) ?_
        refine (AllReadyH.cons (o := { dst := some 40, op := Op.call { callee := Callee.value (Operand.func 9), args := #[Operand.tmp 37, Operand.tmp 39], argTypes := #[32, 36] }, type := 33, pos := "exact.go:6157", after := #[{ on := 0, ground := Ground.data }, { on := 2, ground := Ground.data }, { on := 2, ground := Ground.chain }], guard := none }) rfl (fun K hK => ?_) (AllReadyH.cons (o := { dst := some 9, op := Op.alloc 32, type := 0, pos := "exact.go:6157", after := #[], guard := none }) rfl (fun K hK => ?_) AllReadyH.nil))
        · clear hHeld
          go_simp
          refine (KI.out g3 g4 _ XR.il XR.tw XR.lt (ht.below hB)).mono ?_
          rintro e v2 ⟨⟨Q1, Q2, rfl, QR⟩, hbv⟩
          have hyl := Y.1
          have hAl := A.1
          have hXl := hXz
          replace hB := below_then hB hbv
          replace X := X.below hbv
          replace Y := Y.below hbv
          replace P := P.below hbv
          replace PR := PR.below hbv
          replace hiPz := Nat.le_trans hiPz hbv.size
          replace XR := XR.below hbv
          replace hXz := Nat.le_trans hXz hbv.size
          replace A := A.below hbv
          obtain ⟨loQ, hlo⟩ : ∃ lo, lo = v1.heap.size := ⟨_, rfl⟩
          obtain ⟨hiQ, hhi⟩ : ∃ hi, hi = v2.heap.size := ⟨_, rfl⟩
          rw [← hlo, ← hhi] at QR
          have hl1Q : w.heap.size + 1 < loQ := by omega
          have hl2Q : hiQ ≤ v2.heap.size := by omega
          obtain ⟨Qa, Qb, Qc, Qd, rfl, rfl⟩ := QR.shape
          have hAQ : bA < loQ ∧ hiX ≤ loQ := by omega
          clear hlo hhi
          clear hbv hyl hAl hXl
          refine hK.out _ _ ⟨A, Y⟩ (fun hHeld => ?_)
          clear hK K
          try simp only [Act.put, List.setIfInBounds_toArray, List.set_cons_zero, List.set_cons_succ]
          refine wpAnyH_take (i := 4) (oi := { dst := some 36, op := Op.move (Operand.tmp 40), type := 33, pos := "exact.go:6157", after := #[{ on := 3, ground := Ground.data }], guard := none }) (v := .tuple #[.agg #[.slice Qa RH.length Qb, .slice Qc RT.length Qd], .bool ok]) rfl (by kernel_rfl) (by kernel_rfl) (by kernel_rfl) (fun _ _ _ h => h) (Or.inl ⟨by rfl, ?_⟩) (by assumption) ?_
          · intro wx hSw
            clear hSw hHeld; go_simp
          simp only [Act.put, List.setIfInBounds_toArray, List.set_cons_zero, List.set_cons_succ]
          refine wpAnyH_take (i := 5) (oi := { dst := some 41, op := Op.extract (Operand.tmp 36) 0, type := 32, pos := "exact.go:6157", after := #[{ on := 4, ground := Ground.data }], guard := none }) (v := .agg #[.slice Qa RH.length Qb, .slice Qc RT.length Qd]) rfl (by kernel_rfl) (by kernel_rfl) (by kernel_rfl) (fun _ _ _ h => h) (Or.inl ⟨by rfl, ?_⟩) (by assumption) ?_
          · intro wx hSw
            clear hSw hHeld; go_simp
          simp only [Act.put, List.setIfInBounds_toArray, List.set_cons_zero, List.set_cons_succ]
          refine wpAnyH_take (i := 6) (oi := { dst := some 42, op := Op.extract (Operand.tmp 36) 1, type := 4, pos := "exact.go:6157", after := #[{ on := 4, ground := Ground.data }, { on := 8, ground := Ground.gcOnly Departure.lateStores }], guard := none }) (v := .bool ok) rfl (by kernel_rfl) (by kernel_rfl) (by kernel_rfl) (fun _ _ _ h => h) (Or.inl ⟨by rfl, ?_⟩) (by assumption) ?_
          · intro wx hSw
            clear hSw hHeld; go_simp
          simp only [Act.put, List.setIfInBounds_toArray, List.set_cons_zero, List.set_cons_succ]
          refine wpAnyH_ready (rs := [7]) (by kernel_rfl) (by simp) ?_
          refine (AllReadyH.cons (o := { dst := some 9, op := Op.alloc 32, type := 0, pos := "exact.go:6157", after := #[], guard := none }) rfl (fun K hK => ?_) AllReadyH.nil)
          clear hHeld
          have Z := Box.new v2 #[.slice none 0 0, .slice none 0 0] 32
          have hA := below_alloc v2 (.cells #[.slice none 0 0, .slice none 0 0] 32)
          have hkX := X.1
          have hkY := Y.1
          have hkP := P.1
          have hkhiPz := hiPz
          have hkhXz := hXz
          have hkA := A.1
          have hkhl2Q := hl2Q
          have hkw := hB.size
          replace hB := below_then hB hA
          replace X := X.below hA
          replace Y := Y.below hA
          replace P := P.below hA
          replace PR := PR.below hA
          replace hiPz := Nat.le_trans hiPz hA.size
          replace XR := XR.below hA
          replace hXz := Nat.le_trans hXz hA.size
          replace A := A.below hA
          replace QR := QR.below hA
          replace hl2Q := Nat.le_trans hl2Q hA.size
          clear hA
          go_simp
          refine hK.out _ _ ⟨A, Y⟩ (fun hHeld => ?_)
          clear hK K
          generalize v2.heap.size = b at *
          generalize v2.alloc (.cells #[.slice none 0 0, .slice none 0 0] 32) = v3 at *
          try simp only [Act.put, List.setIfInBounds_toArray, List.set_cons_zero, List.set_cons_succ]
          refine wpAnyH_ready (rs := [8]) (by kernel_rfl) (by simp) ?_
          refine (AllReadyH.cons (o := { dst := none, op := Op.store 32 (Operand.tmp 9) (Operand.tmp 41), type := 0, pos := "exact.go:6157", after := #[{ on := 7, ground := Ground.data }, { on := 5, ground := Ground.data }, { on := 3, ground := Ground.chain }, { on := 0, ground := Ground.phase }, { on := 1, ground := Ground.phase }, { on := 2, ground := Ground.phase }, { on := 3, ground := Ground.phase }, { on := 4, ground := Ground.phase }, { on := 5, ground := Ground.phase }, { on := 6, ground := Ground.textOnly Departure.lateStores }, { on := 7, ground := Ground.phase }], guard := none }) rfl (fun K hK => ?_) AllReadyH.nil)
          clear hHeld
          obtain ⟨zl, z0, z1⟩ := Z.c2
          have zf0 := Z.2.2 0
          have zf1 := Z.2.2 1
          have cc : Chg (· = b) v3 ((v3.setCell ⟨b, 0, none⟩ (.slice Qa RH.length Qb)).setCell ⟨b, 1, none⟩ (.slice Qc RT.length Qd)) := ((Chg.refl (· = b) v3).setCell (p := ⟨b, 0, none⟩) rfl _).setCell (p := ⟨b, 1, none⟩) rfl _
          have Zn := (Z.set 0 (.slice Qa RH.length Qb) (by simp)).set 1 (.slice Qc RT.length Qd) (by simp)
          replace hB := hB.trans (cc.below (B := w.heap.size) hB.size (fun g e => by omega))
          replace X := cc.box X (by omega)
          replace Y := cc.box Y (by omega)
          replace P := cc.box P (by omega)
          replace PR := PR.chg cc (fun g h1 h2 e => by have e2 : g = b := e; omega)
          replace hiPz := Nat.le_trans hiPz cc.size
          replace XR := XR.chg cc (fun g h1 h2 e => by have e2 : g = b := e; omega)
          replace hXz := Nat.le_trans hXz cc.size
          replace A := cc.box A (by omega)
          replace QR := QR.chg cc (fun g h1 h2 e => by have e2 : g = b := e; omega)
          replace hl2Q := Nat.le_trans hl2Q cc.size
          clear cc Z
          go_simp
          refine hK.out _ _ ⟨A, Y⟩ (fun hHeld => ?_)
          clear hK K z0 z1 zf0 zf1
          refine wpAnyH_take (i := 9) (oi := { dst := some 10, op := Op.assign (Operand.tmp 42), type := 4, pos := "exact.go:6157", after := #[{ on := 6, ground := Ground.data }, { on := 8, ground := Ground.chain }, { on := 0, ground := Ground.phase }, { on := 1, ground := Ground.phase }, { on := 2, ground := Ground.phase }, { on := 3, ground := Ground.phase }, { on := 4, ground := Ground.phase }, { on := 5, ground := Ground.phase }, { on := 6, ground := Ground.phase }, { on := 7, ground := Ground.phase }, { on := 8, ground := Ground.phase }], guard := none }) (v := .bool ok) rfl (by kernel_rfl) (by kernel_rfl) (by kernel_rfl) (fun _ _ _ h => h) (Or.inl ⟨by rfl, ?_⟩) (by assumption) ?_
          · intro wx hSw
            clear hSw hHeld; go_simp
          simp only [Act.put, List.setIfInBounds_toArray, List.set_cons_zero, List.set_cons_succ]
          clear hHeld
          refine wpAnyH_done (by kernel_rfl) ?_ _
          go_wp2_with fail
          go_meet
          case rel => exact ⟨b, loQ, hiQ, _, _, rfl, rfl, X, Y, Zn, QR, hl1Q, by omega, by omega, hl2Q, P, PR, XR, A, hAQ.1, by omega, hAQ.2, by omega, hB⟩
        · clear hHeld
          have Z := Box.new v1 #[.slice none 0 0, .slice none 0 0] 32
          have hA := below_alloc v1 (.cells #[.slice none 0 0, .slice none 0 0] 32)
          have hkX := X.1
          have hkY := Y.1
          have hkP := P.1
          have hkhiPz := hiPz
          have hkhXz := hXz
          have hkA := A.1
          have hkw := hB.size
          replace hB := below_then hB hA
          replace X := X.below hA
          replace Y := Y.below hA
          replace P := P.below hA
          replace PR := PR.below hA
          replace hiPz := Nat.le_trans hiPz hA.size
          replace XR := XR.below hA
          replace hXz := Nat.le_trans hXz hA.size
          replace A := A.below hA
          clear hA
          go_simp
          refine hK.out _ _ ⟨A, Y⟩ (fun hHeld => ?_)
          clear hK K
          generalize v1.heap.size = b at *
          generalize v1.alloc (.cells #[.slice none 0 0, .slice none 0 0] 32) = v4 at *
          try simp only [Act.put, List.setIfInBounds_toArray, List.set_cons_zero, List.set_cons_succ]
          refine wpAnyH_ready (rs := [3]) (by kernel_rfl) (by simp) ?_
          refine (AllReadyH.cons (o := { dst := some 40, op := Op.call { callee := Callee.value (Operand.func 9), args := #[Operand.tmp 37, Operand.tmp 39], argTypes := #[32, 36] }, type := 33, pos := "exact.go:6157", after := #[{ on := 0, ground := Ground.data }, { on := 2, ground := Ground.data }, { on := 2, ground := Ground.chain }], guard := none }) rfl (fun K hK => ?_) AllReadyH.nil)
          clear hHeld
          go_simp
          refine (KI.out g3 g4 _ XR.il XR.tw XR.lt (ht.below hB)).mono ?_
          rintro e v5 ⟨⟨Q1, Q2, rfl, QR⟩, hbv⟩
          have hzb := Z.1
          have hyl := Y.1
          have hAl := A.1
          have hXl := hXz
          replace hB := below_then hB hbv
          replace X := X.below hbv
          replace Y := Y.below hbv
          replace P := P.below hbv
          replace PR := PR.below hbv
          replace hiPz := Nat.le_trans hiPz hbv.size
          replace XR := XR.below hbv
          replace hXz := Nat.le_trans hXz hbv.size
          replace A := A.below hbv
          replace Z := Z.below hbv
          obtain ⟨loQ, hlo⟩ : ∃ lo, lo = v4.heap.size := ⟨_, rfl⟩
          obtain ⟨hiQ, hhi⟩ : ∃ hi, hi = v5.heap.size := ⟨_, rfl⟩
          rw [← hlo, ← hhi] at QR
          have hl1Q : w.heap.size + 1 < loQ := by omega
          have hl2Q : hiQ ≤ v5.heap.size := by omega
          have hbb : b < loQ := by omega
          obtain ⟨Qa, Qb, Qc, Qd, rfl, rfl⟩ := QR.shape
          have hAQ : bA < loQ ∧ hiX ≤ loQ := by omega
          clear hlo hhi
          clear hbv hyl hAl hXl hzb
          refine hK.out _ _ ⟨A, Y⟩ (fun hHeld => ?_)
          clear hK K
          try simp only [Act.put, List.setIfInBounds_toArray, List.set_cons_zero, List.set_cons_succ]
          refine wpAnyH_take (i := 4) (oi := { dst := some 36, op := Op.move (Operand.tmp 40), type := 33, pos := "exact.go:6157", after := #[{ on := 3, ground := Ground.data }], guard := none }) (v := .tuple #[.agg #[.slice Qa RH.length Qb, .slice Qc RT.length Qd], .bool ok]) rfl (by kernel_rfl) (by kernel_rfl) (by kernel_rfl) (fun _ _ _ h => h) (Or.inl ⟨by rfl, ?_⟩) (by assumption) ?_
          · intro wx hSw
            clear hSw hHeld; go_simp
          simp only [Act.put, List.setIfInBounds_toArray, List.set_cons_zero, List.set_cons_succ]
          refine wpAnyH_take (i := 5) (oi := { dst := some 41, op := Op.extract (Operand.tmp 36) 0, type := 32, pos := "exact.go:6157", after := #[{ on := 4, ground := Ground.data }], guard := none }) (v := .agg #[.slice Qa RH.length Qb, .slice Qc RT.length Qd]) rfl (by kernel_rfl) (by kernel_rfl) (by kernel_rfl) (fun _ _ _ h => h) (Or.inl ⟨by rfl, ?_⟩) (by assumption) ?_
          · intro wx hSw
            clear hSw hHeld; go_simp
          simp only [Act.put, List.setIfInBounds_toArray, List.set_cons_zero, List.set_cons_succ]
          refine wpAnyH_take (i := 6) (oi := { dst := some 42, op := Op.extract (Operand.tmp 36) 1, type := 4, pos := "exact.go:6157", after := #[{ on := 4, ground := Ground.data }, { on := 8, ground := Ground.gcOnly Departure.lateStores }], guard := none }) (v := .bool ok) rfl (by kernel_rfl) (by kernel_rfl) (by kernel_rfl) (fun _ _ _ h => h) (Or.inl ⟨by rfl, ?_⟩) (by assumption) ?_
          · intro wx hSw
            clear hSw hHeld; go_simp
          simp only [Act.put, List.setIfInBounds_toArray, List.set_cons_zero, List.set_cons_succ]
          refine wpAnyH_ready (rs := [8]) (by kernel_rfl) (by simp) ?_
          refine (AllReadyH.cons (o := { dst := none, op := Op.store 32 (Operand.tmp 9) (Operand.tmp 41), type := 0, pos := "exact.go:6157", after := #[{ on := 7, ground := Ground.data }, { on := 5, ground := Ground.data }, { on := 3, ground := Ground.chain }, { on := 0, ground := Ground.phase }, { on := 1, ground := Ground.phase }, { on := 2, ground := Ground.phase }, { on := 3, ground := Ground.phase }, { on := 4, ground := Ground.phase }, { on := 5, ground := Ground.phase }, { on := 6, ground := Ground.textOnly Departure.lateStores }, { on := 7, ground := Ground.phase }], guard := none }) rfl (fun K hK => ?_) AllReadyH.nil)
          clear hHeld
          obtain ⟨zl, z0, z1⟩ := Z.c2
          have zf0 := Z.2.2 0
          have zf1 := Z.2.2 1
          have cc : Chg (· = b) v5 ((v5.setCell ⟨b, 0, none⟩ (.slice Qa RH.length Qb)).setCell ⟨b, 1, none⟩ (.slice Qc RT.length Qd)) := ((Chg.refl (· = b) v5).setCell (p := ⟨b, 0, none⟩) rfl _).setCell (p := ⟨b, 1, none⟩) rfl _
          have Zn := (Z.set 0 (.slice Qa RH.length Qb) (by simp)).set 1 (.slice Qc RT.length Qd) (by simp)
          replace hB := hB.trans (cc.below (B := w.heap.size) hB.size (fun g e => by omega))
          replace X := cc.box X (by omega)
          replace Y := cc.box Y (by omega)
          replace P := cc.box P (by omega)
          replace PR := PR.chg cc (fun g h1 h2 e => by have e2 : g = b := e; omega)
          replace hiPz := Nat.le_trans hiPz cc.size
          replace XR := XR.chg cc (fun g h1 h2 e => by have e2 : g = b := e; omega)
          replace hXz := Nat.le_trans hXz cc.size
          replace A := cc.box A (by omega)
          replace QR := QR.chg cc (fun g h1 h2 e => by have e2 : g = b := e; omega)
          replace hl2Q := Nat.le_trans hl2Q cc.size
          clear cc Z
          go_simp
          refine hK.out _ _ ⟨A, Y⟩ (fun hHeld => ?_)
          clear hK K z0 z1 zf0 zf1
          refine wpAnyH_take (i := 9) (oi := { dst := some 10, op := Op.assign (Operand.tmp 42), type := 4, pos := "exact.go:6157", after := #[{ on := 6, ground := Ground.data }, { on := 8, ground := Ground.chain }, { on := 0, ground := Ground.phase }, { on := 1, ground := Ground.phase }, { on := 2, ground := Ground.phase }, { on := 3, ground := Ground.phase }, { on := 4, ground := Ground.phase }, { on := 5, ground := Ground.phase }, { on := 6, ground := Ground.phase }, { on := 7, ground := Ground.phase }, { on := 8, ground := Ground.phase }], guard := none }) (v := .bool ok) rfl (by kernel_rfl) (by kernel_rfl) (by kernel_rfl) (fun _ _ _ h => h) (Or.inl ⟨by rfl, ?_⟩) (by assumption) ?_
          · intro wx hSw
            clear hSw hHeld; go_simp
          simp only [Act.put, List.setIfInBounds_toArray, List.set_cons_zero, List.set_cons_succ]
          clear hHeld
          refine wpAnyH_done (by kernel_rfl) ?_ _
          go_wp2_with fail
          go_meet
          case rel => exact ⟨b, loQ, hiQ, _, _, rfl, rfl, X, Y, Zn, QR, hl1Q, by omega, by omega, hl2Q, P, PR, XR, A, hAQ.1, by omega, hAQ.2, by omega, hB⟩
      · clear hHeld
        have Z := Box.new v0 #[.slice none 0 0, .slice none 0 0] 32
        have hA := below_alloc v0 (.cells #[.slice none 0 0, .slice none 0 0] 32)
        have hkX := X.1
        have hkY := Y.1
        have hkP := P.1
        have hkhiPz := hiPz
        have hkhXz := hXz
        have hkA := A.1
        have hkw := hB.size
        replace hB := below_then hB hA
        replace X := X.below hA
        replace Y := Y.below hA
        replace P := P.below hA
        replace PR := PR.below hA
        replace hiPz := Nat.le_trans hiPz hA.size
        replace XR := XR.below hA
        replace hXz := Nat.le_trans hXz hA.size
        replace A := A.below hA
        clear hA
        go_simp
        refine hK.out _ _ ⟨A, Y⟩ (fun hHeld => ?_)
        clear hK K
        generalize v0.heap.size = b at *
        generalize v0.alloc (.cells #[.slice none 0 0, .slice none 0 0] 32) = v6 at *
        try simp only [Act.put, List.setIfInBounds_toArray, List.set_cons_zero, List.set_cons_succ]
        refine wpAnyH_ready (rs := [2]) (by kernel_rfl) (by simp) ?_
        refine (AllReadyH.cons (o := { dst := some 39, op := Op.call { callee := Callee.value (Operand.func 8), args := #[Operand.tmp 38], argTypes := #[27] }, type := 36, pos := "exact.go:6157", after := #[{ on := 1, ground := Ground.data }], guard := none }) rfl (fun K hK => ?_) AllReadyH.nil)
        clear hHeld
        go_simp
        refine (KTI.out _).mono ?_
        rintro e v7 ⟨rfl, hbv⟩
        have hzb := Z.1
        have hyl := Y.1
        have hAl := A.1
        have hXl := hXz
        replace hB := below_then hB hbv
        replace X := X.below hbv
        replace Y := Y.below hbv
        replace P := P.below hbv
        replace PR := PR.below hbv
        replace hiPz := Nat.le_trans hiPz hbv.size
        replace XR := XR.below hbv
        replace hXz := Nat.le_trans hXz hbv.size
        replace A := A.below hbv
        replace Z := Z.below hbv
        clear hbv hyl hAl hXl hzb
        refine hK.out _ _ ⟨A, Y⟩ (fun hHeld => ?_)
        clear hK K
        try simp only [Act.put, List.setIfInBounds_toArray, List.set_cons_zero, List.set_cons_succ]
        refine wpAnyH_ready (rs := [3]) (by kernel_rfl) (by simp) ?_
        refine (AllReadyH.cons (o := { dst := some 40, op := Op.call { callee := Callee.value (Operand.func 9), args := #[Operand.tmp 37, Operand.tmp 39], argTypes := #[32, 36] }, type := 33, pos := "exact.go:6157", after := #[{ on := 0, ground := Ground.data }, { on := 2, ground := Ground.data }, { on := 2, ground := Ground.chain }], guard := none }) rfl (fun K hK => ?_) AllReadyH.nil)
        clear hHeld
        go_simp
        refine (KI.out g3 g4 _ XR.il XR.tw XR.lt (ht.below hB)).mono ?_
        rintro e v8 ⟨⟨Q1, Q2, rfl, QR⟩, hbv⟩
        have hzb := Z.1
        have hyl := Y.1
        have hAl := A.1
        have hXl := hXz
        replace hB := below_then hB hbv
        replace X := X.below hbv
        replace Y := Y.below hbv
        replace P := P.below hbv
        replace PR := PR.below hbv
        replace hiPz := Nat.le_trans hiPz hbv.size
        replace XR := XR.below hbv
        replace hXz := Nat.le_trans hXz hbv.size
        replace A := A.below hbv
        replace Z := Z.below hbv
        obtain ⟨loQ, hlo⟩ : ∃ lo, lo = v7.heap.size := ⟨_, rfl⟩
        obtain ⟨hiQ, hhi⟩ : ∃ hi, hi = v8.heap.size := ⟨_, rfl⟩
        rw [← hlo, ← hhi] at QR
        have hl1Q : w.heap.size + 1 < loQ := by omega
        have hl2Q : hiQ ≤ v8.heap.size := by omega
        have hbb : b < loQ := by omega
        obtain ⟨Qa, Qb, Qc, Qd, rfl, rfl⟩ := QR.shape
        have hAQ : bA < loQ ∧ hiX ≤ loQ := by omega
        clear hlo hhi
        clear hbv hyl hAl hXl hzb
        refine hK.out _ _ ⟨A, Y⟩ (fun hHeld => ?_)
        clear hK K
        try simp only [Act.put, List.setIfInBounds_toArray, List.set_cons_zero, List.set_cons_succ]
        refine wpAnyH_take (i := 4) (oi := { dst := some 36, op := Op.move (Operand.tmp 40), type := 33, pos := "exact.go:6157", after := #[{ on := 3, ground := Ground.data }], guard := none }) (v := .tuple #[.agg #[.slice Qa RH.length Qb, .slice Qc RT.length Qd], .bool ok]) rfl (by kernel_rfl) (by kernel_rfl) (by kernel_rfl) (fun _ _ _ h => h) (Or.inl ⟨by rfl, ?_⟩) (by assumption) ?_
        · intro wx hSw
          clear hSw hHeld; go_simp
        simp only [Act.put, List.setIfInBounds_toArray, List.set_cons_zero, List.set_cons_succ]
        refine wpAnyH_take (i := 5) (oi := { dst := some 41, op := Op.extract (Operand.tmp 36) 0, type := 32, pos := "exact.go:6157", after := #[{ on := 4, ground := Ground.data }], guard := none }) (v := .agg #[.slice Qa RH.length Qb, .slice Qc RT.length Qd]) rfl (by kernel_rfl) (by kernel_rfl) (by kernel_rfl) (fun _ _ _ h => h) (Or.inl ⟨by rfl, ?_⟩) (by assumption) ?_
        · intro wx hSw
          clear hSw hHeld; go_simp
        simp only [Act.put, List.setIfInBounds_toArray, List.set_cons_zero, List.set_cons_succ]
        refine wpAnyH_take (i := 6) (oi := { dst := some 42, op := Op.extract (Operand.tmp 36) 1, type := 4, pos := "exact.go:6157", after := #[{ on := 4, ground := Ground.data }, { on := 8, ground := Ground.gcOnly Departure.lateStores }], guard := none }) (v := .bool ok) rfl (by kernel_rfl) (by kernel_rfl) (by kernel_rfl) (fun _ _ _ h => h) (Or.inl ⟨by rfl, ?_⟩) (by assumption) ?_
        · intro wx hSw
          clear hSw hHeld; go_simp
        simp only [Act.put, List.setIfInBounds_toArray, List.set_cons_zero, List.set_cons_succ]
        refine wpAnyH_ready (rs := [8]) (by kernel_rfl) (by simp) ?_
        refine (AllReadyH.cons (o := { dst := none, op := Op.store 32 (Operand.tmp 9) (Operand.tmp 41), type := 0, pos := "exact.go:6157", after := #[{ on := 7, ground := Ground.data }, { on := 5, ground := Ground.data }, { on := 3, ground := Ground.chain }, { on := 0, ground := Ground.phase }, { on := 1, ground := Ground.phase }, { on := 2, ground := Ground.phase }, { on := 3, ground := Ground.phase }, { on := 4, ground := Ground.phase }, { on := 5, ground := Ground.phase }, { on := 6, ground := Ground.textOnly Departure.lateStores }, { on := 7, ground := Ground.phase }], guard := none }) rfl (fun K hK => ?_) AllReadyH.nil)
        clear hHeld
        obtain ⟨zl, z0, z1⟩ := Z.c2
        have zf0 := Z.2.2 0
        have zf1 := Z.2.2 1
        have cc : Chg (· = b) v8 ((v8.setCell ⟨b, 0, none⟩ (.slice Qa RH.length Qb)).setCell ⟨b, 1, none⟩ (.slice Qc RT.length Qd)) := ((Chg.refl (· = b) v8).setCell (p := ⟨b, 0, none⟩) rfl _).setCell (p := ⟨b, 1, none⟩) rfl _
        have Zn := (Z.set 0 (.slice Qa RH.length Qb) (by simp)).set 1 (.slice Qc RT.length Qd) (by simp)
        replace hB := hB.trans (cc.below (B := w.heap.size) hB.size (fun g e => by omega))
        replace X := cc.box X (by omega)
        replace Y := cc.box Y (by omega)
        replace P := cc.box P (by omega)
        replace PR := PR.chg cc (fun g h1 h2 e => by have e2 : g = b := e; omega)
        replace hiPz := Nat.le_trans hiPz cc.size
        replace XR := XR.chg cc (fun g h1 h2 e => by have e2 : g = b := e; omega)
        replace hXz := Nat.le_trans hXz cc.size
        replace A := cc.box A (by omega)
        replace QR := QR.chg cc (fun g h1 h2 e => by have e2 : g = b := e; omega)
        replace hl2Q := Nat.le_trans hl2Q cc.size
        clear cc Z
        go_simp
        refine hK.out _ _ ⟨A, Y⟩ (fun hHeld => ?_)
        clear hK K z0 z1 zf0 zf1
        refine wpAnyH_take (i := 9) (oi := { dst := some 10, op := Op.assign (Operand.tmp 42), type := 4, pos := "exact.go:6157", after := #[{ on := 6, ground := Ground.data }, { on := 8, ground := Ground.chain }, { on := 0, ground := Ground.phase }, { on := 1, ground := Ground.phase }, { on := 2, ground := Ground.phase }, { on := 3, ground := Ground.phase }, { on := 4, ground := Ground.phase }, { on := 5, ground := Ground.phase }, { on := 6, ground := Ground.phase }, { on := 7, ground := Ground.phase }, { on := 8, ground := Ground.phase }], guard := none }) (v := .bool ok) rfl (by kernel_rfl) (by kernel_rfl) (by kernel_rfl) (fun _ _ _ h => h) (Or.inl ⟨by rfl, ?_⟩) (by assumption) ?_
        · intro wx hSw
          clear hSw hHeld; go_simp
        simp only [Act.put, List.setIfInBounds_toArray, List.set_cons_zero, List.set_cons_succ]
        clear hHeld
        refine wpAnyH_done (by kernel_rfl) ?_ _
        go_wp2_with fail
        go_meet
        case rel => exact ⟨b, loQ, hiQ, _, _, rfl, rfl, X, Y, Zn, QR, hl1Q, by omega, by omega, hl2Q, P, PR, XR, A, hAQ.1, by omega, hAQ.2, by omega, hB⟩
    case rest =>
      clear X Y P PR XR A hB hiPz hXz hlP
      obtain ⟨bQ, loQ, hiQ, Q1, Q2, rfl, rfl, X, Y, Q, QR, hlQ, hbQ, hbQ2, hiQz, P, PR, XR, A, hAQ, hAQ2, hXQ, hXQ2, hB⟩ := hcut
      obtain ⟨d1, e1, d2, e2, rfl, rfl⟩ := QR.shape
      obtain ⟨_, q0, q1⟩ := Q.c2
      obtain ⟨_, p0, p1⟩ := P.c2
      go_wp2_with fail
      refine (KR.out _ _ _ _ _ QR.il QR.tw PR.il PR.tw).mono ?_
      rintro e w5 ⟨rfl, hb5⟩
      replace hB := below_then hB hb5
      replace X := X.below hb5
      replace Y := Y.below hb5
      replace P := P.below hb5
      replace PR := PR.below hb5
      replace Q := Q.below hb5
      replace QR := QR.below hb5
      replace XR := XR.below hb5
      replace A := A.below hb5
      replace hiQz := Nat.le_trans hiQz hb5.size
      clear hb5 q0 q1 p0 p1
      have j1 := HX.out.below hB
      have j2 := HY.out.below hB
      have l3 := XR.il
      have l4 := XR.tw
      have X6 := X
      have A6 := A
      obtain ⟨_, p0, p1⟩ := X.c2
      obtain ⟨_, q0, q1⟩ := A.c2
      go_wp2_with fail
      go_region_held3 (fun w' => w'.cell? ⟨w.heap.size, 0, none⟩ = some (.slice ax hs.length cx) ∧ w'.cell? ⟨w.heap.size, 1, none⟩ = some (.slice ay ts.length cy) ∧ w'.cell? ⟨bA, 0, none⟩ = some (.slice (some ⟨g3, 0, none⟩) hs.length hs.length) ∧ w'.cell? ⟨bA, 1, none⟩ = some (.slice (some ⟨g4, 0, none⟩) ts.length ts.length)) (go_keep) (first | (go_at_call 7; refine (KA.out _ (j1.below (Below.refl _ _).drew) (j2.below (Below.refl _ _).drew)).mono ?_; rintro e w7 ⟨⟨g5, g6, gs5, rfl, XN⟩, hb7'⟩; have hb7 := below_undrew hb7'; obtain ⟨_, p0, p1⟩ := (X6.below hb7).c2; obtain ⟨_, q0, q1⟩ := (A6.below hb7).c2) | (go_at_call 10; refine (KE.out _ _ _ _ _ (l3.below hb7) (l4.below hb7) XN.il XN.tw).mono ?_; rintro e w8 ⟨rfl, hb8⟩; obtain ⟨_, p0, p1⟩ := ((X6.below hb7).below hb8).c2; obtain ⟨_, q0, q1⟩ := ((A6.below hb7).below hb8).c2))
      all_goals
        have hb68 := below_then hb7 hb8
        clear X6 A6 l3 l4 j1 j2 hb7' XN
        replace hB := below_then hB hb68
        replace X := X.below hb68
        replace Y := Y.below hb68
        replace P := P.below hb68
        replace PR := PR.below hb68
        replace Q := Q.below hb68
        replace QR := QR.below hb68
        replace XR := XR.below hb68
        replace A := A.below hb68
        replace hiQz := Nat.le_trans hiQz hb68.size
        clear hb7 hb8 hb68 p0 p1 q0 q1
        obtain ⟨_, q0, q1⟩ := A.c2
        go_wp2_with fail
        refine (KX.out _ loX hiX g3 g4 gs XR).mono ?_
        rintro e w9 ⟨⟨k9, hk9, rfl⟩, hc9⟩
        have hk9' : ¬ k9 < 0 := by omega
        have hxb := X.1
        have hib := (XR.2.2.2.2.2 g4 (.inr (.inl rfl)))
        replace PR := PR.chg hc9 (fun g h1 h2 e => by omega)
        replace QR := QR.chg hc9 (fun g h1 h2 e => by omega)
        replace X := hc9.box X (fun e => by omega)
        replace Y := hc9.box Y (fun e => by omega)
        replace P := hc9.box P (fun e => by omega)
        replace Q := hc9.box Q (fun e => by omega)
        replace hB := hB.trans (hc9.below (B := w.heap.size) hB.size (fun g e => by omega))
        replace hiQz := Nat.le_trans hiQz hc9.size
        clear hc9 XR A q0 q1 KX hib hk9
        obtain ⟨_, q0, q1⟩ := Q.c2
        obtain ⟨_, p0, p1⟩ := P.c2
        go_wp2_with fail
        refine (KR.out _ _ _ _ _ QR.il QR.tw PR.il PR.tw).mono ?_
        rintro e w10 ⟨rfl, hb10⟩
        replace hB := below_then hB hb10
        replace X := X.below hb10
        replace Y := Y.below hb10
        replace P := P.below hb10
        replace PR := PR.below hb10
        replace Q := Q.below hb10
        replace QR := QR.below hb10
        replace hiQz := Nat.le_trans hiQz hb10.size
        clear hb10 q0 q1 p0 p1
        obtain ⟨_, q0, q1⟩ := Q.c2
        go_wp2_with fail
        refine (KM.out _ loQ hiQ _ _ QR).mono ?_
        rintro e w11 ⟨rfl, QM, hc11⟩
        replace PR := PR.chg hc11 (fun g h1 h2 e => by omega)
        replace X := hc11.box X (fun e => by omega)
        replace Y := hc11.box Y (fun e => by omega)
        replace P := hc11.box P (fun e => by omega)
        replace Q := hc11.box Q (fun e => by omega)
        replace hB := hB.trans (hc11.below (B := w.heap.size) hB.size (fun g e => by omega))
        replace hiQz := Nat.le_trans hiQz hc11.size
        clear hc11 QR q0 q1 KM
        obtain ⟨_, q0, q1⟩ := Q.c2
        go_wp2_with fail
        refine (KH.out _ loQ hiQ _ _ QM).mono ?_
        rintro e w12 ⟨rfl, hb12⟩
        replace hB := below_then hB hb12
        replace X := X.below hb12
        replace Y := Y.below hb12
        replace P := P.below hb12
        replace PR := PR.below hb12
        replace Q := Q.below hb12
        replace QM := QM.below hb12
        replace hiQz := Nat.le_trans hiQz hb12.size
        clear hb12 q0 q1
        obtain ⟨_, x0, x1⟩ := X.c2
        obtain ⟨_, y0, y1, y2, y3⟩ := Y.c4
        go_wp2_with fail
        clear x0 x1 y0 y1 y2 y3
        go_cut [14, 15] from 84 (fun s14 s15 wc => ∃ (b lo hi : Nat) (u1 u2 : Value), s14 = .pointer (some ⟨b, 0, none⟩) ∧ s15 = .bool ok ∧ Box wc w.heap.size [.slice ax hs.length cx, .slice ay ts.length cy] ∧ Box wc (w.heap.size + 1) [.string k, .int .i64 s, .int .i64 d, .string v] ∧ Box wc b [u1, u2] ∧ ResS wc lo hi ok RH RT u1 u2 ∧ w.heap.size + 1 < lo ∧ w.heap.size + 1 < b ∧ (b < lo ∨ hi ≤ b) ∧ hi ≤ wc.heap.size ∧ Box wc bP [.slice a1 RH.length c1, .slice a2 RT.length c2] ∧ ResS wc loP hiP ok RH RT (.slice a1 RH.length c1) (.slice a2 RT.length c2) ∧ Box wc bQ [.slice d1 RH.length e1, .slice d2 RT.length e2] ∧ ResM wc loQ hiQ ok RH RT (.slice d1 RH.length e1) (.slice d2 RT.length e2) ∧ Below w.heap.size w wc)
        case first =>
          have hD : Below w12.heap.size w12 w12.drew := (Below.refl _ _).drew
          replace hB := below_then hB hD
          replace X := X.below hD
          replace Y := Y.below hD
          replace P := P.below hD
          replace PR := PR.below hD
          replace Q := Q.below hD
          replace QM := QM.below hD
          replace hiQz := Nat.le_trans hiQz hD.size
          clear hD
          refine wp_region_held_drew (S := fun wx => Box wx w.heap.size [.slice ax hs.length cx, .slice ay ts.length cy] ∧ Box wx (w.heap.size + 1) [.string k, .int .i64 s, .int .i64 d, .string v]) (by kernel_rfl) ⟨X, Y⟩ (fun hHeld => ?_)
          generalize w12.drew = v0 at *
          refine wpAnyH_take (i := 0) (oi := { dst := some 85, op := Op.load 25 (Operand.tmp 2), type := 25, pos := "exact.go:6179", after := #[], guard := none }) (v := .agg #[.slice ax hs.length cx, .slice ay ts.length cy]) rfl (by kernel_rfl) (by kernel_rfl) (by kernel_rfl) (fun _ _ _ h => h) (Or.inl ⟨by rfl, ?_⟩) (by assumption) ?_
          · intro wx hSw
            have e0 := hSw.1.2.1 0 _ rfl; have e1 := hSw.1.2.1 1 _ rfl; clear hHeld; go_simp
          simp only [Act.put, List.setIfInBounds_toArray, List.set_cons_zero, List.set_cons_succ]
          refine wpAnyH_take (i := 2) (oi := { dst := some 87, op := Op.load 27 (Operand.tmp 3), type := 27, pos := "exact.go:6179", after := #[], guard := none }) (v := .agg #[.string k, .int .i64 s, .int .i64 d, .string v]) rfl (by kernel_rfl) (by kernel_rfl) (by kernel_rfl) (fun _ _ _ h => h) (Or.inl ⟨by rfl, ?_⟩) (by assumption) ?_
          · intro wx hSw
            have e0 := hSw.2.2.1 0 _ rfl; have e1 := hSw.2.2.1 1 _ rfl; have e2 := hSw.2.2.1 2 _ rfl; have e3 := hSw.2.2.1 3 _ rfl; clear hHeld; go_simp
          simp only [Act.put, List.setIfInBounds_toArray, List.set_cons_zero, List.set_cons_succ]
          refine wpAnyH_ready (rs := [1, 8]) (by kernel_rfl) (by simp) ?_
          refine (AllReadyH.cons (o := { dst := some 86, op := Op.call { callee := Callee.value (Operand.func 7), args := #[Operand.tmp 85], argTypes := #[25] }, type := 32, pos := "exact.go:6179", after := #[{ on := 0, ground := Ground.data }], guard := none }) rfl (fun K hK => ?_) (AllReadyH.cons (o := { dst := some 14, op := Op.alloc 32, type := 0, pos := "exact.go:6179", after := #[], guard := none }) rfl (fun K hK => ?_) AllReadyH.nil))
          · clear hHeld
            go_simp
            refine (KA.out _ (HX.out.below hB) (HY.out.below hB)).mono ?_
            rintro e v1 ⟨⟨g1, g2, gs1, rfl, XT⟩, hbv⟩
            have hyl := Y.1
            replace hB := below_then hB hbv
            replace X := X.below hbv
            replace Y := Y.below hbv
            replace P := P.below hbv
            replace PR := PR.below hbv
            replace Q := Q.below hbv
            replace QM := QM.below hbv
            replace hiQz := Nat.le_trans hiQz hbv.size
            have hg4 := XT.lt
            clear hg4
            clear hbv hyl
            refine hK.out _ _ ⟨X, Y⟩ (fun hHeld => ?_)
            clear hK K
            try simp only [Act.put, List.setIfInBounds_toArray, List.set_cons_zero, List.set_cons_succ]
            refine wpAnyH_ready (rs := [3, 8]) (by kernel_rfl) (by simp) ?_
            refine (AllReadyH.cons (o := { dst := some 88, op := Op.call { callee := Callee.value (Operand.func 8), args := #[Operand.tmp 87], argTypes := #[27] }, type := 36, pos := "exact.go:6179", after := #[{ on := 2, ground := Ground.data }, { on := 1, ground := Ground.chain }], guard := none }) rfl (fun K hK => ?_) (AllReadyH.cons (o := { dst := some 14, op := Op.alloc 32, type := 0, pos := "exact.go:6179", after := #[], guard := none }) rfl (fun K hK => ?_) AllReadyH.nil))
            · clear hHeld
              go_simp
              refine (KTI.out _).mono ?_
              rintro e v2 ⟨rfl, hbv⟩
              have hyl := Y.1
              replace hB := below_then hB hbv
              replace X := X.below hbv
              replace Y := Y.below hbv
              replace P := P.below hbv
              replace PR := PR.below hbv
              replace Q := Q.below hbv
              replace QM := QM.below hbv
              replace hiQz := Nat.le_trans hiQz hbv.size
              replace XT := XT.below hbv
              clear hbv hyl
              refine hK.out _ _ ⟨X, Y⟩ (fun hHeld => ?_)
              clear hK K
              try simp only [Act.put, List.setIfInBounds_toArray, List.set_cons_zero, List.set_cons_succ]
              refine wpAnyH_ready (rs := [4, 8]) (by kernel_rfl) (by simp) ?_
              refine (AllReadyH.cons (o := { dst := some 89, op := Op.call { callee := Callee.value (Operand.func 9), args := #[Operand.tmp 86, Operand.tmp 88], argTypes := #[32, 36] }, type := 33, pos := "exact.go:6179", after := #[{ on := 1, ground := Ground.data }, { on := 3, ground := Ground.data }, { on := 3, ground := Ground.chain }], guard := none }) rfl (fun K hK => ?_) (AllReadyH.cons (o := { dst := some 14, op := Op.alloc 32, type := 0, pos := "exact.go:6179", after := #[], guard := none }) rfl (fun K hK => ?_) AllReadyH.nil))
              · clear hHeld
                go_simp
                refine (KI.out g1 g2 _ XT.il XT.tw XT.lt (ht.below hB)).mono ?_
                rintro e v3 ⟨⟨R1, R2, rfl, RR⟩, hbv⟩
                have hyl := Y.1
                replace hB := below_then hB hbv
                replace X := X.below hbv
                replace Y := Y.below hbv
                replace P := P.below hbv
                replace PR := PR.below hbv
                replace Q := Q.below hbv
                replace QM := QM.below hbv
                replace hiQz := Nat.le_trans hiQz hbv.size
                replace XT := XT.below hbv
                obtain ⟨loR, hlo⟩ : ∃ lo, lo = v2.heap.size := ⟨_, rfl⟩
                obtain ⟨hiR, hhi⟩ : ∃ hi, hi = v3.heap.size := ⟨_, rfl⟩
                rw [← hlo, ← hhi] at RR
                have hl1R : w.heap.size + 1 < loR := by omega
                have hl2R : hiR ≤ v3.heap.size := by omega
                obtain ⟨Ra, Rb, Rc, Rd, rfl, rfl⟩ := RR.shape
                clear hlo hhi
                clear hbv hyl
                refine hK.out _ _ ⟨X, Y⟩ (fun hHeld => ?_)
                clear hK K
                try simp only [Act.put, List.setIfInBounds_toArray, List.set_cons_zero, List.set_cons_succ]
                refine wpAnyH_take (i := 5) (oi := { dst := some 84, op := Op.move (Operand.tmp 89), type := 33, pos := "exact.go:6179", after := #[{ on := 4, ground := Ground.data }], guard := none }) (v := .tuple #[.agg #[.slice Ra RH.length Rb, .slice Rc RT.length Rd], .bool ok]) rfl (by kernel_rfl) (by kernel_rfl) (by kernel_rfl) (fun _ _ _ h => h) (Or.inl ⟨by rfl, ?_⟩) (by assumption) ?_
                · intro wx hSw
                  clear hSw hHeld; go_simp
                simp only [Act.put, List.setIfInBounds_toArray, List.set_cons_zero, List.set_cons_succ]
                refine wpAnyH_take (i := 6) (oi := { dst := some 90, op := Op.extract (Operand.tmp 84) 0, type := 32, pos := "exact.go:6179", after := #[{ on := 5, ground := Ground.data }], guard := none }) (v := .agg #[.slice Ra RH.length Rb, .slice Rc RT.length Rd]) rfl (by kernel_rfl) (by kernel_rfl) (by kernel_rfl) (fun _ _ _ h => h) (Or.inl ⟨by rfl, ?_⟩) (by assumption) ?_
                · intro wx hSw
                  clear hSw hHeld; go_simp
                simp only [Act.put, List.setIfInBounds_toArray, List.set_cons_zero, List.set_cons_succ]
                refine wpAnyH_take (i := 7) (oi := { dst := some 91, op := Op.extract (Operand.tmp 84) 1, type := 4, pos := "exact.go:6179", after := #[{ on := 5, ground := Ground.data }, { on := 9, ground := Ground.gcOnly Departure.lateStores }], guard := none }) (v := .bool ok) rfl (by kernel_rfl) (by kernel_rfl) (by kernel_rfl) (fun _ _ _ h => h) (Or.inl ⟨by rfl, ?_⟩) (by assumption) ?_
                · intro wx hSw
                  clear hSw hHeld; go_simp
                simp only [Act.put, List.setIfInBounds_toArray, List.set_cons_zero, List.set_cons_succ]
                refine wpAnyH_ready (rs := [8]) (by kernel_rfl) (by simp) ?_
                refine (AllReadyH.cons (o := { dst := some 14, op := Op.alloc 32, type := 0, pos := "exact.go:6179", after := #[], guard := none }) rfl (fun K hK => ?_) AllReadyH.nil)
                clear hHeld
                have Z := Box.new v3 #[.slice none 0 0, .slice none 0 0] 32
                have hA := below_alloc v3 (.cells #[.slice none 0 0, .slice none 0 0] 32)
                have hkX := X.1
                have hkY := Y.1
                have hkP := P.1
                have hkQ := Q.1
                have hkhiQz := hiQz
                have hkhl2R := hl2R
                have hkw := hB.size
                replace hB := below_then hB hA
                replace X := X.below hA
                replace Y := Y.below hA
                replace P := P.below hA
                replace PR := PR.below hA
                replace Q := Q.below hA
                replace QM := QM.below hA
                replace hiQz := Nat.le_trans hiQz hA.size
                replace XT := XT.below hA
                replace RR := RR.below hA
                replace hl2R := Nat.le_trans hl2R hA.size
                clear hA
                go_simp
                refine hK.out _ _ ⟨X, Y⟩ (fun hHeld => ?_)
                clear hK K
                generalize v3.heap.size = b at *
                generalize v3.alloc (.cells #[.slice none 0 0, .slice none 0 0] 32) = v4 at *
                try simp only [Act.put, List.setIfInBounds_toArray, List.set_cons_zero, List.set_cons_succ]
                refine wpAnyH_ready (rs := [9]) (by kernel_rfl) (by simp) ?_
                refine (AllReadyH.cons (o := { dst := none, op := Op.store 32 (Operand.tmp 14) (Operand.tmp 90), type := 0, pos := "exact.go:6179", after := #[{ on := 8, ground := Ground.data }, { on := 6, ground := Ground.data }, { on := 4, ground := Ground.chain }, { on := 0, ground := Ground.phase }, { on := 1, ground := Ground.phase }, { on := 2, ground := Ground.phase }, { on := 3, ground := Ground.phase }, { on := 4, ground := Ground.phase }, { on := 5, ground := Ground.phase }, { on := 6, ground := Ground.phase }, { on := 7, ground := Ground.textOnly Departure.lateStores }, { on := 8, ground := Ground.phase }], guard := none }) rfl (fun K hK => ?_) AllReadyH.nil)
                clear hHeld
                obtain ⟨zl, z0, z1⟩ := Z.c2
                have zf0 := Z.2.2 0
                have zf1 := Z.2.2 1
                have cc : Chg (· = b) v4 ((v4.setCell ⟨b, 0, none⟩ (.slice Ra RH.length Rb)).setCell ⟨b, 1, none⟩ (.slice Rc RT.length Rd)) := ((Chg.refl (· = b) v4).setCell (p := ⟨b, 0, none⟩) rfl _).setCell (p := ⟨b, 1, none⟩) rfl _
                have Zn := (Z.set 0 (.slice Ra RH.length Rb) (by simp)).set 1 (.slice Rc RT.length Rd) (by simp)
                replace hB := hB.trans (cc.below (B := w.heap.size) hB.size (fun g e => by omega))
                replace X := cc.box X (by omega)
                replace Y := cc.box Y (by omega)
                replace P := cc.box P (by omega)
                replace PR := PR.chg cc (fun g h1 h2 e => by have e2 : g = b := e; omega)
                replace Q := cc.box Q (by omega)
                replace QM := QM.chg cc (fun g h1 h2 e => by have e2 : g = b := e; omega)
                replace hiQz := Nat.le_trans hiQz cc.size
                replace RR := RR.chg cc (fun g h1 h2 e => by have e2 : g = b := e; omega)
                replace hl2R := Nat.le_trans hl2R cc.size
                clear cc Z
                go_simp
                refine hK.out _ _ ⟨X, Y⟩ (fun hHeld => ?_)
                clear hK K z0 z1 zf0 zf1
                refine wpAnyH_take (i := 10) (oi := { dst := some 15, op := Op.assign (Operand.tmp 91), type := 4, pos := "exact.go:6179", after := #[{ on := 7, ground := Ground.data }, { on := 9, ground := Ground.chain }, { on := 0, ground := Ground.phase }, { on := 1, ground := Ground.phase }, { on := 2, ground := Ground.phase }, { on := 3, ground := Ground.phase }, { on := 4, ground := Ground.phase }, { on := 5, ground := Ground.phase }, { on := 6, ground := Ground.phase }, { on := 7, ground := Ground.phase }, { on := 8, ground := Ground.phase }, { on := 9, ground := Ground.phase }], guard := none }) (v := .bool ok) rfl (by kernel_rfl) (by kernel_rfl) (by kernel_rfl) (fun _ _ _ h => h) (Or.inl ⟨by rfl, ?_⟩) (by assumption) ?_
                · intro wx hSw
                  clear hSw hHeld; go_simp
                simp only [Act.put, List.setIfInBounds_toArray, List.set_cons_zero, List.set_cons_succ]
                clear hHeld
                refine wpAnyH_done (by kernel_rfl) ?_ _
                go_wp2_with fail
                go_meet
                case rel => exact ⟨b, loR, hiR, _, _, rfl, rfl, X, Y, Zn, RR, hl1R, by omega, by omega, hl2R, P, PR, Q, QM, hB⟩
              · clear hHeld
                have Z := Box.new v2 #[.slice none 0 0, .slice none 0 0] 32
                have hA := below_alloc v2 (.cells #[.slice none 0 0, .slice none 0 0] 32)
                have hkX := X.1
                have hkY := Y.1
                have hkP := P.1
                have hkQ := Q.1
                have hkhiQz := hiQz
                have hkw := hB.size
                replace hB := below_then hB hA
                replace X := X.below hA
                replace Y := Y.below hA
                replace P := P.below hA
                replace PR := PR.below hA
                replace Q := Q.below hA
                replace QM := QM.below hA
                replace hiQz := Nat.le_trans hiQz hA.size
                replace XT := XT.below hA
                clear hA
                go_simp
                refine hK.out _ _ ⟨X, Y⟩ (fun hHeld => ?_)
                clear hK K
                generalize v2.heap.size = b at *
                generalize v2.alloc (.cells #[.slice none 0 0, .slice none 0 0] 32) = v5 at *
                try simp only [Act.put, List.setIfInBounds_toArray, List.set_cons_zero, List.set_cons_succ]
                refine wpAnyH_ready (rs := [4]) (by kernel_rfl) (by simp) ?_
                refine (AllReadyH.cons (o := { dst := some 89, op := Op.call { callee := Callee.value (Operand.func 9), args := #[Operand.tmp 86, Operand.tmp 88], argTypes := #[32, 36] }, type := 33, pos := "exact.go:6179", after := #[{ on := 1, ground := Ground.data }, { on := 3, ground := Ground.data }, { on := 3, ground := Ground.chain }], guard := none }) rfl (fun K hK => ?_) AllReadyH.nil)
                clear hHeld
                go_simp
                refine (KI.out g1 g2 _ XT.il XT.tw XT.lt (ht.below hB)).mono ?_
                rintro e v6 ⟨⟨R1, R2, rfl, RR⟩, hbv⟩
                have hzb := Z.1
                have hyl := Y.1
                replace hB := below_then hB hbv
                replace X := X.below hbv
                replace Y := Y.below hbv
                replace P := P.below hbv
                replace PR := PR.below hbv
                replace Q := Q.below hbv
                replace QM := QM.below hbv
                replace hiQz := Nat.le_trans hiQz hbv.size
                replace XT := XT.below hbv
                replace Z := Z.below hbv
                obtain ⟨loR, hlo⟩ : ∃ lo, lo = v5.heap.size := ⟨_, rfl⟩
                obtain ⟨hiR, hhi⟩ : ∃ hi, hi = v6.heap.size := ⟨_, rfl⟩
                rw [← hlo, ← hhi] at RR
                have hl1R : w.heap.size + 1 < loR := by omega
                have hl2R : hiR ≤ v6.heap.size := by omega
                have hbb : b < loR := by omega
                obtain ⟨Ra, Rb, Rc, Rd, rfl, rfl⟩ := RR.shape
                clear hlo hhi
                clear hbv hyl hzb
                refine hK.out _ _ ⟨X, Y⟩ (fun hHeld => ?_)
                clear hK K
                try simp only [Act.put, List.setIfInBounds_toArray, List.set_cons_zero, List.set_cons_succ]
                refine wpAnyH_take (i := 5) (oi := { dst := some 84, op := Op.move (Operand.tmp 89), type := 33, pos := "exact.go:6179", after := #[{ on := 4, ground := Ground.data }], guard := none }) (v := .tuple #[.agg #[.slice Ra RH.length Rb, .slice Rc RT.length Rd], .bool ok]) rfl (by kernel_rfl) (by kernel_rfl) (by kernel_rfl) (fun _ _ _ h => h) (Or.inl ⟨by rfl, ?_⟩) (by assumption) ?_
                · intro wx hSw
                  clear hSw hHeld; go_simp
                simp only [Act.put, List.setIfInBounds_toArray, List.set_cons_zero, List.set_cons_succ]
                refine wpAnyH_take (i := 6) (oi := { dst := some 90, op := Op.extract (Operand.tmp 84) 0, type := 32, pos := "exact.go:6179", after := #[{ on := 5, ground := Ground.data }], guard := none }) (v := .agg #[.slice Ra RH.length Rb, .slice Rc RT.length Rd]) rfl (by kernel_rfl) (by kernel_rfl) (by kernel_rfl) (fun _ _ _ h => h) (Or.inl ⟨by rfl, ?_⟩) (by assumption) ?_
                · intro wx hSw
                  clear hSw hHeld; go_simp
                simp only [Act.put, List.setIfInBounds_toArray, List.set_cons_zero, List.set_cons_succ]
                refine wpAnyH_take (i := 7) (oi := { dst := some 91, op := Op.extract (Operand.tmp 84) 1, type := 4, pos := "exact.go:6179", after := #[{ on := 5, ground := Ground.data }, { on := 9, ground := Ground.gcOnly Departure.lateStores }], guard := none }) (v := .bool ok) rfl (by kernel_rfl) (by kernel_rfl) (by kernel_rfl) (fun _ _ _ h => h) (Or.inl ⟨by rfl, ?_⟩) (by assumption) ?_
                · intro wx hSw
                  clear hSw hHeld; go_simp
                simp only [Act.put, List.setIfInBounds_toArray, List.set_cons_zero, List.set_cons_succ]
                refine wpAnyH_ready (rs := [9]) (by kernel_rfl) (by simp) ?_
                refine (AllReadyH.cons (o := { dst := none, op := Op.store 32 (Operand.tmp 14) (Operand.tmp 90), type := 0, pos := "exact.go:6179", after := #[{ on := 8, ground := Ground.data }, { on := 6, ground := Ground.data }, { on := 4, ground := Ground.chain }, { on := 0, ground := Ground.phase }, { on := 1, ground := Ground.phase }, { on := 2, ground := Ground.phase }, { on := 3, ground := Ground.phase }, { on := 4, ground := Ground.phase }, { on := 5, ground := Ground.phase }, { on := 6, ground := Ground.phase }, { on := 7, ground := Ground.textOnly Departure.lateStores }, { on := 8, ground := Ground.phase }], guard := none }) rfl (fun K hK => ?_) AllReadyH.nil)
                clear hHeld
                obtain ⟨zl, z0, z1⟩ := Z.c2
                have zf0 := Z.2.2 0
                have zf1 := Z.2.2 1
                have cc : Chg (· = b) v6 ((v6.setCell ⟨b, 0, none⟩ (.slice Ra RH.length Rb)).setCell ⟨b, 1, none⟩ (.slice Rc RT.length Rd)) := ((Chg.refl (· = b) v6).setCell (p := ⟨b, 0, none⟩) rfl _).setCell (p := ⟨b, 1, none⟩) rfl _
                have Zn := (Z.set 0 (.slice Ra RH.length Rb) (by simp)).set 1 (.slice Rc RT.length Rd) (by simp)
                replace hB := hB.trans (cc.below (B := w.heap.size) hB.size (fun g e => by omega))
                replace X := cc.box X (by omega)
                replace Y := cc.box Y (by omega)
                replace P := cc.box P (by omega)
                replace PR := PR.chg cc (fun g h1 h2 e => by have e2 : g = b := e; omega)
                replace Q := cc.box Q (by omega)
                replace QM := QM.chg cc (fun g h1 h2 e => by have e2 : g = b := e; omega)
                replace hiQz := Nat.le_trans hiQz cc.size
                replace RR := RR.chg cc (fun g h1 h2 e => by have e2 : g = b := e; omega)
                replace hl2R := Nat.le_trans hl2R cc.size
                clear cc Z
                go_simp
                refine hK.out _ _ ⟨X, Y⟩ (fun hHeld => ?_)
                clear hK K z0 z1 zf0 zf1
                refine wpAnyH_take (i := 10) (oi := { dst := some 15, op := Op.assign (Operand.tmp 91), type := 4, pos := "exact.go:6179", after := #[{ on := 7, ground := Ground.data }, { on := 9, ground := Ground.chain }, { on := 0, ground := Ground.phase }, { on := 1, ground := Ground.phase }, { on := 2, ground := Ground.phase }, { on := 3, ground := Ground.phase }, { on := 4, ground := Ground.phase }, { on := 5, ground := Ground.phase }, { on := 6, ground := Ground.phase }, { on := 7, ground := Ground.phase }, { on := 8, ground := Ground.phase }, { on := 9, ground := Ground.phase }], guard := none }) (v := .bool ok) rfl (by kernel_rfl) (by kernel_rfl) (by kernel_rfl) (fun _ _ _ h => h) (Or.inl ⟨by rfl, ?_⟩) (by assumption) ?_
                · intro wx hSw
                  clear hSw hHeld; go_simp
                simp only [Act.put, List.setIfInBounds_toArray, List.set_cons_zero, List.set_cons_succ]
                clear hHeld
                refine wpAnyH_done (by kernel_rfl) ?_ _
                go_wp2_with fail
                go_meet
                case rel => exact ⟨b, loR, hiR, _, _, rfl, rfl, X, Y, Zn, RR, hl1R, by omega, by omega, hl2R, P, PR, Q, QM, hB⟩
            · clear hHeld
              have Z := Box.new v1 #[.slice none 0 0, .slice none 0 0] 32
              have hA := below_alloc v1 (.cells #[.slice none 0 0, .slice none 0 0] 32)
              have hkX := X.1
              have hkY := Y.1
              have hkP := P.1
              have hkQ := Q.1
              have hkhiQz := hiQz
              have hkw := hB.size
              replace hB := below_then hB hA
              replace X := X.below hA
              replace Y := Y.below hA
              replace P := P.below hA
              replace PR := PR.below hA
              replace Q := Q.below hA
              replace QM := QM.below hA
              replace hiQz := Nat.le_trans hiQz hA.size
              replace XT := XT.below hA
              clear hA
              go_simp
              refine hK.out _ _ ⟨X, Y⟩ (fun hHeld => ?_)
              clear hK K
              generalize v1.heap.size = b at *
              generalize v1.alloc (.cells #[.slice none 0 0, .slice none 0 0] 32) = v7 at *
              try simp only [Act.put, List.setIfInBounds_toArray, List.set_cons_zero, List.set_cons_succ]
              refine wpAnyH_ready (rs := [3]) (by kernel_rfl) (by simp) ?_
              refine (AllReadyH.cons (o := { dst := some 88, op := Op.call { callee := Callee.value (Operand.func 8), args := #[Operand.tmp 87], argTypes := #[27] }, type := 36, pos := "exact.go:6179", after := #[{ on := 2, ground := Ground.data }, { on := 1, ground := Ground.chain }], guard := none }) rfl (fun K hK => ?_) AllReadyH.nil)
              clear hHeld
              go_simp
              refine (KTI.out _).mono ?_
              rintro e v8 ⟨rfl, hbv⟩
              have hzb := Z.1
              have hyl := Y.1
              replace hB := below_then hB hbv
              replace X := X.below hbv
              replace Y := Y.below hbv
              replace P := P.below hbv
              replace PR := PR.below hbv
              replace Q := Q.below hbv
              replace QM := QM.below hbv
              replace hiQz := Nat.le_trans hiQz hbv.size
              replace XT := XT.below hbv
              replace Z := Z.below hbv
              clear hbv hyl hzb
              refine hK.out _ _ ⟨X, Y⟩ (fun hHeld => ?_)
              clear hK K
              try simp only [Act.put, List.setIfInBounds_toArray, List.set_cons_zero, List.set_cons_succ]
              refine wpAnyH_ready (rs := [4]) (by kernel_rfl) (by simp) ?_
              refine (AllReadyH.cons (o := { dst := some 89, op := Op.call { callee := Callee.value (Operand.func 9), args := #[Operand.tmp 86, Operand.tmp 88], argTypes := #[32, 36] }, type := 33, pos := "exact.go:6179", after := #[{ on := 1, ground := Ground.data }, { on := 3, ground := Ground.data }, { on := 3, ground := Ground.chain }], guard := none }) rfl (fun K hK => ?_) AllReadyH.nil)
              clear hHeld
              go_simp
              refine (KI.out g1 g2 _ XT.il XT.tw XT.lt (ht.below hB)).mono ?_
              rintro e v9 ⟨⟨R1, R2, rfl, RR⟩, hbv⟩
              have hzb := Z.1
              have hyl := Y.1
              replace hB := below_then hB hbv
              replace X := X.below hbv
              replace Y := Y.below hbv
              replace P := P.below hbv
              replace PR := PR.below hbv
              replace Q := Q.below hbv
              replace QM := QM.below hbv
              replace hiQz := Nat.le_trans hiQz hbv.size
              replace XT := XT.below hbv
              replace Z := Z.below hbv
              obtain ⟨loR, hlo⟩ : ∃ lo, lo = v8.heap.size := ⟨_, rfl⟩
              obtain ⟨hiR, hhi⟩ : ∃ hi, hi = v9.heap.size := ⟨_, rfl⟩
              rw [← hlo, ← hhi] at RR
              have hl1R : w.heap.size + 1 < loR := by omega
              have hl2R : hiR ≤ v9.heap.size := by omega
              have hbb : b < loR := by omega
              obtain ⟨Ra, Rb, Rc, Rd, rfl, rfl⟩ := RR.shape
              clear hlo hhi
              clear hbv hyl hzb
              refine hK.out _ _ ⟨X, Y⟩ (fun hHeld => ?_)
              clear hK K
              try simp only [Act.put, List.setIfInBounds_toArray, List.set_cons_zero, List.set_cons_succ]
              refine wpAnyH_take (i := 5) (oi := { dst := some 84, op := Op.move (Operand.tmp 89), type := 33, pos := "exact.go:6179", after := #[{ on := 4, ground := Ground.data }], guard := none }) (v := .tuple #[.agg #[.slice Ra RH.length Rb, .slice Rc RT.length Rd], .bool ok]) rfl (by kernel_rfl) (by kernel_rfl) (by kernel_rfl) (fun _ _ _ h => h) (Or.inl ⟨by rfl, ?_⟩) (by assumption) ?_
              · intro wx hSw
                clear hSw hHeld; go_simp
              simp only [Act.put, List.setIfInBounds_toArray, List.set_cons_zero, List.set_cons_succ]
              refine wpAnyH_take (i := 6) (oi := { dst := some 90, op := Op.extract (Operand.tmp 84) 0, type := 32, pos := "exact.go:6179", after := #[{ on := 5, ground := Ground.data }], guard := none }) (v := .agg #[.slice Ra RH.length Rb, .slice Rc RT.length Rd]) rfl (by kernel_rfl) (by kernel_rfl) (by kernel_rfl) (fun _ _ _ h => h) (Or.inl ⟨by rfl, ?_⟩) (by assumption) ?_
              · intro wx hSw
                clear hSw hHeld; go_simp
              simp only [Act.put, List.setIfInBounds_toArray, List.set_cons_zero, List.set_cons_succ]
              refine wpAnyH_take (i := 7) (oi := { dst := some 91, op := Op.extract (Operand.tmp 84) 1, type := 4, pos := "exact.go:6179", after := #[{ on := 5, ground := Ground.data }, { on := 9, ground := Ground.gcOnly Departure.lateStores }], guard := none }) (v := .bool ok) rfl (by kernel_rfl) (by kernel_rfl) (by kernel_rfl) (fun _ _ _ h => h) (Or.inl ⟨by rfl, ?_⟩) (by assumption) ?_
              · intro wx hSw
                clear hSw hHeld; go_simp
              simp only [Act.put, List.setIfInBounds_toArray, List.set_cons_zero, List.set_cons_succ]
              refine wpAnyH_ready (rs := [9]) (by kernel_rfl) (by simp) ?_
              refine (AllReadyH.cons (o := { dst := none, op := Op.store 32 (Operand.tmp 14) (Operand.tmp 90), type := 0, pos := "exact.go:6179", after := #[{ on := 8, ground := Ground.data }, { on := 6, ground := Ground.data }, { on := 4, ground := Ground.chain }, { on := 0, ground := Ground.phase }, { on := 1, ground := Ground.phase }, { on := 2, ground := Ground.phase }, { on := 3, ground := Ground.phase }, { on := 4, ground := Ground.phase }, { on := 5, ground := Ground.phase }, { on := 6, ground := Ground.phase }, { on := 7, ground := Ground.textOnly Departure.lateStores }, { on := 8, ground := Ground.phase }], guard := none }) rfl (fun K hK => ?_) AllReadyH.nil)
              clear hHeld
              obtain ⟨zl, z0, z1⟩ := Z.c2
              have zf0 := Z.2.2 0
              have zf1 := Z.2.2 1
              have cc : Chg (· = b) v9 ((v9.setCell ⟨b, 0, none⟩ (.slice Ra RH.length Rb)).setCell ⟨b, 1, none⟩ (.slice Rc RT.length Rd)) := ((Chg.refl (· = b) v9).setCell (p := ⟨b, 0, none⟩) rfl _).setCell (p := ⟨b, 1, none⟩) rfl _
              have Zn := (Z.set 0 (.slice Ra RH.length Rb) (by simp)).set 1 (.slice Rc RT.length Rd) (by simp)
              replace hB := hB.trans (cc.below (B := w.heap.size) hB.size (fun g e => by omega))
              replace X := cc.box X (by omega)
              replace Y := cc.box Y (by omega)
              replace P := cc.box P (by omega)
              replace PR := PR.chg cc (fun g h1 h2 e => by have e2 : g = b := e; omega)
              replace Q := cc.box Q (by omega)
              replace QM := QM.chg cc (fun g h1 h2 e => by have e2 : g = b := e; omega)
              replace hiQz := Nat.le_trans hiQz cc.size
              replace RR := RR.chg cc (fun g h1 h2 e => by have e2 : g = b := e; omega)
              replace hl2R := Nat.le_trans hl2R cc.size
              clear cc Z
              go_simp
              refine hK.out _ _ ⟨X, Y⟩ (fun hHeld => ?_)
              clear hK K z0 z1 zf0 zf1
              refine wpAnyH_take (i := 10) (oi := { dst := some 15, op := Op.assign (Operand.tmp 91), type := 4, pos := "exact.go:6179", after := #[{ on := 7, ground := Ground.data }, { on := 9, ground := Ground.chain }, { on := 0, ground := Ground.phase }, { on := 1, ground := Ground.phase }, { on := 2, ground := Ground.phase }, { on := 3, ground := Ground.phase }, { on := 4, ground := Ground.phase }, { on := 5, ground := Ground.phase }, { on := 6, ground := Ground.phase }, { on := 7, ground := Ground.phase }, { on := 8, ground := Ground.phase }, { on := 9, ground := Ground.phase }], guard := none }) (v := .bool ok) rfl (by kernel_rfl) (by kernel_rfl) (by kernel_rfl) (fun _ _ _ h => h) (Or.inl ⟨by rfl, ?_⟩) (by assumption) ?_
              · intro wx hSw
                clear hSw hHeld; go_simp
              simp only [Act.put, List.setIfInBounds_toArray, List.set_cons_zero, List.set_cons_succ]
              clear hHeld
              refine wpAnyH_done (by kernel_rfl) ?_ _
              go_wp2_with fail
              go_meet
              case rel => exact ⟨b, loR, hiR, _, _, rfl, rfl, X, Y, Zn, RR, hl1R, by omega, by omega, hl2R, P, PR, Q, QM, hB⟩
          · clear hHeld
            have Z := Box.new v0 #[.slice none 0 0, .slice none 0 0] 32
            have hA := below_alloc v0 (.cells #[.slice none 0 0, .slice none 0 0] 32)
            have hkX := X.1
            have hkY := Y.1
            have hkP := P.1
            have hkQ := Q.1
            have hkhiQz := hiQz
            have hkw := hB.size
            replace hB := below_then hB hA
            replace X := X.below hA
            replace Y := Y.below hA
            replace P := P.below hA
            replace PR := PR.below hA
            replace Q := Q.below hA
            replace QM := QM.below hA
            replace hiQz := Nat.le_trans hiQz hA.size
            clear hA
            go_simp
            refine hK.out _ _ ⟨X, Y⟩ (fun hHeld => ?_)
            clear hK K
            generalize v0.heap.size = b at *
            generalize v0.alloc (.cells #[.slice none 0 0, .slice none 0 0] 32) = v10 at *
            try simp only [Act.put, List.setIfInBounds_toArray, List.set_cons_zero, List.set_cons_succ]
            refine wpAnyH_ready (rs := [1]) (by kernel_rfl) (by simp) ?_
            refine (AllReadyH.cons (o := { dst := some 86, op := Op.call { callee := Callee.value (Operand.func 7), args := #[Operand.tmp 85], argTypes := #[25] }, type := 32, pos := "exact.go:6179", after := #[{ on := 0, ground := Ground.data }], guard := none }) rfl (fun K hK => ?_) AllReadyH.nil)
            clear hHeld
            go_simp
            refine (KA.out _ (HX.out.below hB) (HY.out.below hB)).mono ?_
            rintro e v11 ⟨⟨g1, g2, gs1, rfl, XT⟩, hbv⟩
            have hzb := Z.1
            have hyl := Y.1
            replace hB := below_then hB hbv
            replace X := X.below hbv
            replace Y := Y.below hbv
            replace P := P.below hbv
            replace PR := PR.below hbv
            replace Q := Q.below hbv
            replace QM := QM.below hbv
            replace hiQz := Nat.le_trans hiQz hbv.size
            replace Z := Z.below hbv
            have hg4 := XT.lt
            clear hg4
            clear hbv hyl hzb
            refine hK.out _ _ ⟨X, Y⟩ (fun hHeld => ?_)
            clear hK K
            try simp only [Act.put, List.setIfInBounds_toArray, List.set_cons_zero, List.set_cons_succ]
            refine wpAnyH_ready (rs := [3]) (by kernel_rfl) (by simp) ?_
            refine (AllReadyH.cons (o := { dst := some 88, op := Op.call { callee := Callee.value (Operand.func 8), args := #[Operand.tmp 87], argTypes := #[27] }, type := 36, pos := "exact.go:6179", after := #[{ on := 2, ground := Ground.data }, { on := 1, ground := Ground.chain }], guard := none }) rfl (fun K hK => ?_) AllReadyH.nil)
            clear hHeld
            go_simp
            refine (KTI.out _).mono ?_
            rintro e v12 ⟨rfl, hbv⟩
            have hzb := Z.1
            have hyl := Y.1
            replace hB := below_then hB hbv
            replace X := X.below hbv
            replace Y := Y.below hbv
            replace P := P.below hbv
            replace PR := PR.below hbv
            replace Q := Q.below hbv
            replace QM := QM.below hbv
            replace hiQz := Nat.le_trans hiQz hbv.size
            replace Z := Z.below hbv
            replace XT := XT.below hbv
            clear hbv hyl hzb
            refine hK.out _ _ ⟨X, Y⟩ (fun hHeld => ?_)
            clear hK K
            try simp only [Act.put, List.setIfInBounds_toArray, List.set_cons_zero, List.set_cons_succ]
            refine wpAnyH_ready (rs := [4]) (by kernel_rfl) (by simp) ?_
            refine (AllReadyH.cons (o := { dst := some 89, op := Op.call { callee := Callee.value (Operand.func 9), args := #[Operand.tmp 86, Operand.tmp 88], argTypes := #[32, 36] }, type := 33, pos := "exact.go:6179", after := #[{ on := 1, ground := Ground.data }, { on := 3, ground := Ground.data }, { on := 3, ground := Ground.chain }], guard := none }) rfl (fun K hK => ?_) AllReadyH.nil)
            clear hHeld
            go_simp
            refine (KI.out g1 g2 _ XT.il XT.tw XT.lt (ht.below hB)).mono ?_
            rintro e v13 ⟨⟨R1, R2, rfl, RR⟩, hbv⟩
            have hzb := Z.1
            have hyl := Y.1
            replace hB := below_then hB hbv
            replace X := X.below hbv
            replace Y := Y.below hbv
            replace P := P.below hbv
            replace PR := PR.below hbv
            replace Q := Q.below hbv
            replace QM := QM.below hbv
            replace hiQz := Nat.le_trans hiQz hbv.size
            replace Z := Z.below hbv
            replace XT := XT.below hbv
            obtain ⟨loR, hlo⟩ : ∃ lo, lo = v12.heap.size := ⟨_, rfl⟩
            obtain ⟨hiR, hhi⟩ : ∃ hi, hi = v13.heap.size := ⟨_, rfl⟩
            rw [← hlo, ← hhi] at RR
            have hl1R : w.heap.size + 1 < loR := by omega
            have hl2R : hiR ≤ v13.heap.size := by omega
            have hbb : b < loR := by omega
            obtain ⟨Ra, Rb, Rc, Rd, rfl, rfl⟩ := RR.shape
            clear hlo hhi
            clear hbv hyl hzb
            refine hK.out _ _ ⟨X, Y⟩ (fun hHeld => ?_)
            clear hK K
            try simp only [Act.put, List.setIfInBounds_toArray, List.set_cons_zero, List.set_cons_succ]
            refine wpAnyH_take (i := 5) (oi := { dst := some 84, op := Op.move (Operand.tmp 89), type := 33, pos := "exact.go:6179", after := #[{ on := 4, ground := Ground.data }], guard := none }) (v := .tuple #[.agg #[.slice Ra RH.length Rb, .slice Rc RT.length Rd], .bool ok]) rfl (by kernel_rfl) (by kernel_rfl) (by kernel_rfl) (fun _ _ _ h => h) (Or.inl ⟨by rfl, ?_⟩) (by assumption) ?_
            · intro wx hSw
              clear hSw hHeld; go_simp
            simp only [Act.put, List.setIfInBounds_toArray, List.set_cons_zero, List.set_cons_succ]
            refine wpAnyH_take (i := 6) (oi := { dst := some 90, op := Op.extract (Operand.tmp 84) 0, type := 32, pos := "exact.go:6179", after := #[{ on := 5, ground := Ground.data }], guard := none }) (v := .agg #[.slice Ra RH.length Rb, .slice Rc RT.length Rd]) rfl (by kernel_rfl) (by kernel_rfl) (by kernel_rfl) (fun _ _ _ h => h) (Or.inl ⟨by rfl, ?_⟩) (by assumption) ?_
            · intro wx hSw
              clear hSw hHeld; go_simp
            simp only [Act.put, List.setIfInBounds_toArray, List.set_cons_zero, List.set_cons_succ]
            refine wpAnyH_take (i := 7) (oi := { dst := some 91, op := Op.extract (Operand.tmp 84) 1, type := 4, pos := "exact.go:6179", after := #[{ on := 5, ground := Ground.data }, { on := 9, ground := Ground.gcOnly Departure.lateStores }], guard := none }) (v := .bool ok) rfl (by kernel_rfl) (by kernel_rfl) (by kernel_rfl) (fun _ _ _ h => h) (Or.inl ⟨by rfl, ?_⟩) (by assumption) ?_
            · intro wx hSw
              clear hSw hHeld; go_simp
            simp only [Act.put, List.setIfInBounds_toArray, List.set_cons_zero, List.set_cons_succ]
            refine wpAnyH_ready (rs := [9]) (by kernel_rfl) (by simp) ?_
            refine (AllReadyH.cons (o := { dst := none, op := Op.store 32 (Operand.tmp 14) (Operand.tmp 90), type := 0, pos := "exact.go:6179", after := #[{ on := 8, ground := Ground.data }, { on := 6, ground := Ground.data }, { on := 4, ground := Ground.chain }, { on := 0, ground := Ground.phase }, { on := 1, ground := Ground.phase }, { on := 2, ground := Ground.phase }, { on := 3, ground := Ground.phase }, { on := 4, ground := Ground.phase }, { on := 5, ground := Ground.phase }, { on := 6, ground := Ground.phase }, { on := 7, ground := Ground.textOnly Departure.lateStores }, { on := 8, ground := Ground.phase }], guard := none }) rfl (fun K hK => ?_) AllReadyH.nil)
            clear hHeld
            obtain ⟨zl, z0, z1⟩ := Z.c2
            have zf0 := Z.2.2 0
            have zf1 := Z.2.2 1
            have cc : Chg (· = b) v13 ((v13.setCell ⟨b, 0, none⟩ (.slice Ra RH.length Rb)).setCell ⟨b, 1, none⟩ (.slice Rc RT.length Rd)) := ((Chg.refl (· = b) v13).setCell (p := ⟨b, 0, none⟩) rfl _).setCell (p := ⟨b, 1, none⟩) rfl _
            have Zn := (Z.set 0 (.slice Ra RH.length Rb) (by simp)).set 1 (.slice Rc RT.length Rd) (by simp)
            replace hB := hB.trans (cc.below (B := w.heap.size) hB.size (fun g e => by omega))
            replace X := cc.box X (by omega)
            replace Y := cc.box Y (by omega)
            replace P := cc.box P (by omega)
            replace PR := PR.chg cc (fun g h1 h2 e => by have e2 : g = b := e; omega)
            replace Q := cc.box Q (by omega)
            replace QM := QM.chg cc (fun g h1 h2 e => by have e2 : g = b := e; omega)
            replace hiQz := Nat.le_trans hiQz cc.size
            replace RR := RR.chg cc (fun g h1 h2 e => by have e2 : g = b := e; omega)
            replace hl2R := Nat.le_trans hl2R cc.size
            clear cc Z
            go_simp
            refine hK.out _ _ ⟨X, Y⟩ (fun hHeld => ?_)
            clear hK K z0 z1 zf0 zf1
            refine wpAnyH_take (i := 10) (oi := { dst := some 15, op := Op.assign (Operand.tmp 91), type := 4, pos := "exact.go:6179", after := #[{ on := 7, ground := Ground.data }, { on := 9, ground := Ground.chain }, { on := 0, ground := Ground.phase }, { on := 1, ground := Ground.phase }, { on := 2, ground := Ground.phase }, { on := 3, ground := Ground.phase }, { on := 4, ground := Ground.phase }, { on := 5, ground := Ground.phase }, { on := 6, ground := Ground.phase }, { on := 7, ground := Ground.phase }, { on := 8, ground := Ground.phase }, { on := 9, ground := Ground.phase }], guard := none }) (v := .bool ok) rfl (by kernel_rfl) (by kernel_rfl) (by kernel_rfl) (fun _ _ _ h => h) (Or.inl ⟨by rfl, ?_⟩) (by assumption) ?_
            · intro wx hSw
              clear hSw hHeld; go_simp
            simp only [Act.put, List.setIfInBounds_toArray, List.set_cons_zero, List.set_cons_succ]
            clear hHeld
            refine wpAnyH_done (by kernel_rfl) ?_ _
            go_wp2_with fail
            go_meet
            case rel => exact ⟨b, loR, hiR, _, _, rfl, rfl, X, Y, Zn, RR, hl1R, by omega, by omega, hl2R, P, PR, Q, QM, hB⟩
        case rest =>
          clear X Y P PR Q QM hB hiQz
          obtain ⟨bR, loR, hiR, R1, R2, rfl, rfl, X, Y, R, RR, _, _, _, _, P, PR, Q, QM, hB⟩ := hcut
          obtain ⟨t1, f1, t2, f2, rfl, rfl⟩ := RR.shape
          obtain ⟨_, r0, r1⟩ := R.c2
          obtain ⟨_, p0, p1⟩ := P.c2
          go_wp2_with fail
          refine (KR.out _ _ _ _ _ RR.il RR.tw PR.il PR.tw).mono ?_
          rintro e w13 ⟨rfl, hb13⟩
          replace hB := below_then hB hb13
          replace P := P.below hb13
          replace PR := PR.below hb13
          replace Q := Q.below hb13
          replace QM := QM.below hb13
          clear hb13 r0 r1 p0 p1
          obtain ⟨_, q0, q1⟩ := Q.c2
          go_wp2_with fail
          refine (KH.out _ loQ hiQ _ _ QM).mono ?_
          rintro e w14 ⟨rfl, hb14⟩
          replace hB := below_then hB hb14
          replace P := P.below hb14
          replace PR := PR.below hb14
          replace Q := Q.below hb14
          replace QM := QM.below hb14
          clear hb14 q0 q1
          go_wp2
          go_ret
          exact ⟨rfl, hB⟩
end Go.Proofs.YtcjkdkaahkphfaaDoor
