/-
  impl: linksFrom, lastLess on a good list.
-/
import Derived.Test.YtdaldkcildbcmaaDoorJ2
namespace Go.Proofs.YtdaldkcildbcmaaDoor
open Go.RowKit
set_option linter.unusedVariables false
set_option maxRecDepth 100000

set_option maxHeartbeats 4000000 in
theorem linksFrom_any (x y : Value) (hs : List Int) (ts : List Tw) (a : Int) (lv : Nat) (w : World) (hx : IL w x hs) (hy : TW w y ts) (h5 : hs.length = 5) (hl : lv < 5) (hn : ts.length ≤ 60) (ha : a = -1 ∨ okAt ts lv a) :
    Calls Tryd.prog 85 #[.agg #[x, y], .int .i64 a] w fun e w' => (∃ b off n c, e = .returned (.slice (some ⟨b, off, none⟩) n c) ∧ lv < n ∧ b < w.heap.size ∧ w.cell? ⟨b, off + lv, none⟩ = some (.int .i64 (NX hs ts a lv))) ∧ Below w.heap.size w w' := by
  rcases ha with rfl | ⟨a0, a1, a2⟩
  · rw [NX_head]
    obtain ⟨ax, cx, rfl, hcx⟩ := hx
    obtain ⟨bx, ox, rfl, hbx, hcell⟩ := hcx (by intro e; simp [e] at h5)
    have c0 := hcell lv (by omega)
    rw [show hs[lv] = hs.getD lv 0 from by simp [List.getD, h5, hl]] at c0
    clear hcell hcx
    rw [h5]
    generalize hs.getD lv 0 = h at *
    go_enter Tryd.func85, Tryd.ntmps85
    go_wp2
    go_ret
    exact ⟨⟨bx, ox, 5, cx, rfl, hl, hbx, c0⟩, below_alloc _ _⟩
  · obtain ⟨i, rfl⟩ := Int.eq_ofNat_of_zero_le a0
    rw [NX_at]
    have hit : i < ts.length := by omega
    have hB := below_alloc w (.cells #[x, y] 74)
    obtain ⟨b, off, cap, u, rfl, hbl, ⟨z0, z1, z2, z3, z4⟩, hu⟩ := hy.cells i hit
    have HNX : Hid (nx ts (i : Int) lv = (tw ts (i : Int)).next.getD lv 0) := rfl
    replace z0 := (hB.cell (p := ⟨b, off + i * 5, none⟩) hbl).trans z0
    replace z1 := (hB.cell (p := ⟨b, off + i * 5 + 1, none⟩) hbl).trans z1
    replace z2 := (hB.cell (p := ⟨b, off + i * 5 + 2, none⟩) hbl).trans z2
    replace z3 := (hB.cell (p := ⟨b, off + i * 5 + 3, none⟩) hbl).trans z3
    replace z4 := (hB.cell (p := ⟨b, off + i * 5 + 4, none⟩) hbl).trans z4
    generalize nx ts (i : Int) lv = nn at *
    generalize tw ts (i : Int) = s at *
    obtain ⟨sk, sn, sd, sv, sx⟩ := s
    dsimp only at z0 z1 z2 z3 hu a2 HNX
    obtain ⟨a', cap', rfl, hcu⟩ := hu
    obtain ⟨bu, ou, rfl, hbu, hcu⟩ := hcu (by intro e; simp [e] at a2)
    have cu := hcu lv a2
    rw [show sx[lv] = nn from by rw [HNX.out]; simp [List.getD, a2]] at cu
    have hmt := method_links sk sv sn sd (.slice (some ⟨bu, ou, none⟩) sx.length cap')
    have hne : ((i : Int) == -1) = false := by simp
    clear hcu HNX
    go_enter Tryd.func85, Tryd.ntmps85
    go_wp2_with fail
    refine (links_any sk sv sn sd (.slice (some ⟨bu, ou, none⟩) sx.length cap') _).mono ?_
    rintro e w1 ⟨rfl, hb1⟩
    have hB1 := below_then hB hb1
    clear hb1 hmt z0 z1 z2 z3 z4
    go_wp2
    go_ret
    exact ⟨⟨bu, ou, sx.length, cap', rfl, a2, hbu, cu⟩, hB1⟩

set_option maxHeartbeats 8000000 in
theorem lastLess_any (x : Value) (ay : Option Addr) (cy : Nat) (hs : List Int) (ts : List Tw) (t : Tw) (tu : Value) (w : World) (hx : IL w x hs) (hy : TW w (.slice ay ts.length cy) ts) (G : GoodI hs ts) :
    Calls Tryd.prog 84 #[.agg #[x, .slice ay ts.length cy], .agg #[.string t.key, .int .i64 t.seq, .int .i64 t.kind, .string t.val, tu]] w fun e w' => (∃ g, e = .returned (.tuple #[.slice (some ⟨g, 0, none⟩) 5 5, .int .i64 (SkS hs ts t 5).2]) ∧ w'.ownsRow g 3 1 (.slice (some ⟨g, 0, none⟩) 5 5) 5 ((lastL hs ts t 5).map (.int .i64)) ∧ w.heap.size < g) ∧ Below w.heap.size w w' := by
  have h5 := G.1
  have h60 := G.2.1
  obtain ⟨ax, cx, hxe, _⟩ := id hx
  rw [h5] at hxe
  subst hxe
  obtain ⟨i0, hi, hz0, hz1, hz2⟩ := info_parts Tryd.info3
  have HCT : Hid (∀ o : Tw, cT o t = cIt o.key t.key o.seq t.seq) := fun o => rfl
  have KC := fun (o : Tw) (ou : Value) w => compare_any o.key o.val t.key t.val o.seq o.kind t.seq t.kind ou tu w
  generalize t.key = tk at *
  generalize t.seq = tn at *
  generalize t.kind = td at *
  generalize t.val = tv at *
  have KN := fun a lv w hx hy hl ha => linksFrom_any (.slice ax 5 cx) (.slice ay ts.length cy) hs ts a lv w hx hy h5 hl h60 ha
  go_enter Tryd.func84, Tryd.ntmps84
  go_wp2_with (at_make; refine wpList_make_full _ rfl _ _ 23 rfl (w.heap.size + 2) 3 i0 _ 1 Tryd.underlying23 hi hz0 hz1 .i64 .i64 _ _ 5 rfl rfl rfl rfl (by rw [hz2]; omega) (by unfold maxLen; omega) (by simp) ?_; intro w2 hown2 hgr2; refine Stop.go ?_)
  rw [zerosZ, ← lastL_zero hs ts t] at hown2
  have hbb : Below (w.heap.size + 2) ((w.alloc (.cells #[.slice ax 5 cx, .slice ay ts.length cy] 74)).alloc (.cells #[.string tk, .int .i64 tn, .int .i64 td, .string tv, tu] 73)) w2 := (Below.refl _ _).grown hgr2 (by simp) (by simp)
  have X2 := ((Box.new w #[.slice ax 5 cx, .slice ay ts.length cy] 74).alloc (.cells #[.string tk, .int .i64 tn, .int .i64 td, .string tv, tu] 73)).under hbb (by omega)
  have Y2 := (Box.new (w.alloc (.cells #[.slice ax 5 cx, .slice ay ts.length cy] 74)) #[.string tk, .int .i64 tn, .int .i64 td, .string tv, tu] 73).under hbb (by simp)
  simp only [World.size_alloc] at Y2
  have hB2 : Below w.heap.size w w2 := (below2 _ _ _).trans (hbb.mono (by omega))
  clear hbb hgr2 hi hz0 hz1 hz2
  obtain ⟨g, hg⟩ : ∃ g, g = ((w.alloc (.cells #[.slice ax 5 cx, .slice ay ts.length cy] 74)).alloc (.cells #[.string tk, .int .i64 tn, .int .i64 td, .string tv, tu] 73)).heap.size := ⟨_, rfl⟩
  have hge : g = w.heap.size + 2 := by rw [hg]; simp
  rw [← hg, ← hge] at hown2
  rw [show w.heap.size + 1 + 1 = g from by omega]
  have hg2 : w.heap.size + 1 < g := by omega
  clear hg hge
  unfold Stop
  go_wp2
  go_loopw [7, 8, 9] (fun a n l wr => ∃ k : Nat, k ≤ 5 ∧ a = .int .i64 (SkS hs ts t k).1 ∧ n = .int .i64 (SkS hs ts t k).2 ∧ l = .int .i64 ((4 : Int) - k) ∧ Box wr w.heap.size [.slice ax 5 cx, .slice ay ts.length cy] ∧ Box wr (w.heap.size + 1) [.string tk, .int .i64 tn, .int .i64 td, .string tv, tu] ∧ wr.ownsRow g 3 1 (.slice (some ⟨g, 0, none⟩) 5 5) 5 ((lastL hs ts t k).map (.int .i64)) ∧ Below w.heap.size w wr) (fun _ _ l _ => (intOf l + 1).toNat)
  case atStart => exact ⟨0, by omega, rfl, rfl, rfl, X2, Y2, hown2, hB2⟩
  case round =>
    clear X2 Y2 hown2 hB2
    obtain ⟨k, hk, rfl, rfl, rfl, X, Y, ho, hb⟩ := hrel
    by_cases hlt : k < 5
    · have hlv : ((4 : Int) - k) = ((4 - k : Nat) : Int) := by omega
      rw [hlv]
      have hlv5 : 4 - k < 5 := by omega
      have hsm := SkS_many hs ts t k
      have hok := SkS_ok G t k (by omega) (4 - k) (by omega)
      have KN0 := fun w hx hy => KN (SkS hs ts t k).1 (4 - k) w hx hy hlv5 hok
      have HN0 : Hid (NX hs ts (SkS hs ts t k).1 (4 - k) = NX hs ts (SkS hs ts t k).1 (4 - k)) := rfl
      obtain ⟨_, x0, x1⟩ := X.c2
      have hl4 : ((4 - k : Nat) : Int) < 5 := by omega
      go_wp2_with fail
      refine (KN0 _ (hx.below hb) (hy.below hb)).mono ?_
      rintro e w6 ⟨⟨bl, ol, nl, cl, rfl, hnl, hbl0, cl0⟩, hb6⟩
      have hB6 := below_then hb hb6
      have X6 := X.below hb6
      have Y6 := Y.below hb6
      have o6 := owns_below ho hb6
      replace cl0 := (hb6.cell (p := ⟨bl, ol + (4 - k), none⟩) hbl0).trans cl0
      have hnli : ((4 - k : Nat) : Int) < nl := by omega
      clear hb6 x0 x1 KN0 X Y ho hb
      go_wp2
      go_loopw [7, 8, 10] (fun a n z wr => ∃ (f : Nat) (aa : Int) (nn : Nat), nn ≤ 1000 ∧ a = .int .i64 aa ∧ n = .int .i64 nn ∧ z = .int .i64 (NX hs ts aa (4 - k)) ∧ (aa = -1 ∨ okAt ts (4 - k) aa) ∧ behind ts aa < f ∧ SkS hs ts t (k + 1) = go1 hs ts t (4 - k) f aa nn ∧ nn + f ≤ 700 ∧ Box wr w.heap.size [.slice ax 5 cx, .slice ay ts.length cy] ∧ Box wr (w.heap.size + 1) [.string tk, .int .i64 tn, .int .i64 td, .string tv, tu] ∧ wr.ownsRow g 3 1 (.slice (some ⟨g, 0, none⟩) 5 5) 5 ((lastL hs ts t k).map (.int .i64)) ∧ Below w.heap.size w wr) (fun a _ _ _ => behind ts (intOf a))
      case atStart =>
        refine ⟨ts.length + 1, _, _, ?_, rfl, rfl, rfl, hok, ?_, rfl, ?_, X6, Y6, o6, hB6⟩
        · have : k * (ts.length + 1) ≤ 5 * (ts.length + 1) := Nat.mul_le_mul_right _ hk
          omega
        · have := behind_le ts (SkS hs ts t k).1
          omega
        · have : k * (ts.length + 1) ≤ 5 * (ts.length + 1) := Nat.mul_le_mul_right _ hk
          omega
      case round =>
        clear X6 Y6 o6 hB6 hok hsm cl0 hbl0 hnl hnli HN0
        obtain ⟨f, aa, nn, hnn, rfl, rfl, rfl, ha, hbf, hst, hnf, X, Y, ho, hb⟩ := hrel
        have HST : Hid (SkS hs ts t (k + 1) = go1 hs ts t (4 - k) f aa nn) := hst
        clear hst
        obtain ⟨f, rfl⟩ : ∃ f', f = f' + 1 := ⟨f - 1, by omega⟩
        have hgs := good_step G hlv5 ha
        have HG1 : Hid (∀ N, N = NX hs ts aa (4 - k) → go1 hs ts t (4 - k) (f + 1) aa nn = if N < 0 then (aa, nn) else if cT (tw ts N) t < 0 then go1 hs ts t (4 - k) f N (nn + 1) else (aa, nn + 1)) := fun N h => by subst h; rfl
        have HBH : Hid (∀ N, N = NX hs ts aa (4 - k) → okAt ts (4 - k) N → behind ts N < behind ts aa) := fun N h hN => by
          subst h
          refine behind_lt hN ?_
          rcases ha with ha | ha
          · exact .inl ha
          · rcases hgs with hgs | ⟨_, hgs⟩
            · have := hN.1; omega
            · rcases hgs with hgs | hgs
              · exact .inl hgs
              · exact .inr ⟨ha.1, hgs⟩
        obtain ⟨N, hN⟩ : ∃ N, N = NX hs ts aa (4 - k) := ⟨_, rfl⟩
        have HG2 := HG1.out N hN
        have HB2 := HBH.out N hN
        rw [← hN] at hgs ⊢
        have hok : N = -1 ∨ okAt ts (4 - k) N := by rcases hgs with h | h; exact .inl h; exact .inr h.1
        have HG : Hid (SkS hs ts t (k + 1) = if N < 0 then (aa, nn) else if cT (tw ts N) t < 0 then go1 hs ts t (4 - k) f N (nn + 1) else (aa, nn + 1)) := by show _ = _; rw [HST.out, HG2]
        have HB : Hid (okAt ts (4 - k) N → behind ts N < behind ts aa) := HB2
        clear HG1 HBH HG2 HB2 hgs hN HST
        by_cases hneg : N < 0
        · have HST : Hid (SkS hs ts t (k + 1) = (aa, nn)) := by show _ = _; rw [HG.out, if_pos hneg]
          obtain rfl : N = -1 := by rcases hok with h | h; exact h; have := h.1; omega
          clear HG HB
          have HSE : Hid (SkS hs ts t (k + 1) = (aa, nn)) := HST.out
          have d0 : ∃ u, wr.cell? ⟨g, 4 - k, none⟩ = some u := by rw [ho.cellAt (4 - k) (by omega)]; exact ⟨_, List.getElem?_eq_getElem (by rw [List.length_map, lastL_len]; omega)⟩
          obtain ⟨u0, d0⟩ := d0
          have f0 := ho.frozenAt (4 - k)
          have HO : Hid _ := (ho.stored (4 - k) (.int .i64 (SkS hs ts t (k + 1)).1)).1
          have hst := lastL_set hs ts t k hlt
          have HL2 : Hid (((lastL hs ts t k).map (Value.int .i64)).set (4 - k) (.int .i64 (SkS hs ts t (k + 1)).1) = (lastL hs ts t (k + 1)).map (.int .i64)) := by show _ = _; rw [← List.map_set, hst]
          have HE1 : Hid ((SkS hs ts t (k + 1)).1 = aa) := by show _ = _; rw [HSE.out]
          have o9 : (wr.setCell ⟨g, 4 - k, none⟩ (.int .i64 aa)).ownsRow g 3 1 (.slice (some ⟨g, 0, none⟩) 5 5) 5 ((lastL hs ts t (k + 1)).map (.int .i64)) := by have := HO.out; rw [HL2.out, HE1.out] at this; exact this
          have X9 := X.setOther ⟨g, 4 - k, none⟩ (.int .i64 aa) (by simp; omega)
          have Y9 := Y.setOther ⟨g, 4 - k, none⟩ (.int .i64 aa) (by simp; omega)
          have hB9 : Below w.heap.size w (wr.setCell ⟨g, 4 - k, none⟩ (.int .i64 aa)) := hb.setCell (by simp; omega) _
          clear HO HL2 hst HE1 HST
          go_wp2
          go_roundw
          case rel => exact ⟨k + 1, by omega, by rw [HSE.out], by rw [HSE.out]; try go_num, by go_num, X9, Y9, o9, hB9⟩
          case measure => simp [intOf] <;> omega
        · obtain ⟨i, rfl⟩ := Int.eq_ofNat_of_zero_le (show 0 ≤ N by omega)
          have hoki : okAt ts (4 - k) (i : Int) := by rcases hok with h | h; omega; exact h
          have hit : i < ts.length := by have := hoki.2.1; omega
          have hit' : (i : Int) < ts.length := by omega
          have hbi := HB.out hoki
          have hneb : ((i : Int) == -1) = false := by simp
          have hnei : ¬ (i : Int) = -1 := by omega
          have KNA := fun w hx hy => KN (i : Int) (4 - k) w hx hy hlv5 (.inr hoki)
          obtain ⟨w7, hw7⟩ : ∃ w7, w7 = wr := ⟨_, rfl⟩
          rw [← hw7] at X Y ho hb ⊢
          have X7 := X
          have Y7 := Y
          have o7 := ho
          have hB7 := hb
          clear X Y ho hb hw7
          obtain ⟨b, off, cap, u, hv, hbl, ⟨z0, z1, z2, z3, z4⟩, hu⟩ := (hy.below hB7).cells i hit
          simp only [Value.slice.injEq, true_and] at hv
          obtain ⟨rfl, rfl⟩ := hv
          have hne : Nonempty (WC w7.heap.size w7) := ⟨⟨_, Below.refl _ _⟩⟩
          have px := fun x : WC w7.heap.size w7 => (X7.below x.ok).2.1 1 _ rfl
          have p0 := fun x : WC w7.heap.size w7 => (Y7.below x.ok).2.1 0 _ rfl
          have p1 := fun x : WC w7.heap.size w7 => (Y7.below x.ok).2.1 1 _ rfl
          have p2 := fun x : WC w7.heap.size w7 => (Y7.below x.ok).2.1 2 _ rfl
          have p3 := fun x : WC w7.heap.size w7 => (Y7.below x.ok).2.1 3 _ rfl
          have p4 := fun x : WC w7.heap.size w7 => (Y7.below x.ok).2.1 4 _ rfl
          have q0 := fun x : WC w7.heap.size w7 => (x.ok.cell (p := ⟨b, off + i * 5, none⟩) hbl).trans z0
          have q1 := fun x : WC w7.heap.size w7 => (x.ok.cell (p := ⟨b, off + i * 5 + 1, none⟩) hbl).trans z1
          have q2 := fun x : WC w7.heap.size w7 => (x.ok.cell (p := ⟨b, off + i * 5 + 2, none⟩) hbl).trans z2
          have q3 := fun x : WC w7.heap.size w7 => (x.ok.cell (p := ⟨b, off + i * 5 + 3, none⟩) hbl).trans z3
          have q4 := fun x : WC w7.heap.size w7 => (x.ok.cell (p := ⟨b, off + i * 5 + 4, none⟩) hbl).trans z4
          clear z0 z1 z2 z3 z4
          have KCi := fun w => KC (tw ts (i : Int)) u w
          have hmc := method_compare2 (tw ts (i : Int)).key (tw ts (i : Int)).val (tw ts (i : Int)).seq (tw ts (i : Int)).kind u
          have hct := HCT.out (tw ts (i : Int))
          by_cases hc : cT (tw ts (i : Int)) t < 0
          · have HST : Hid (SkS hs ts t (k + 1) = go1 hs ts t (4 - k) f (i : Int) (nn + 1)) := by show _ = _; rw [HG.out, if_neg hneg, if_pos hc]
            rw [hct] at hc
            clear HG HB hct hu
            generalize tw ts (i : Int) = o at *
            obtain ⟨rk, rn, rd, rv, rx⟩ := o
            dsimp only at q0 q1 q2 q3 KCi hc hmc
            generalize cIt rk tk rn tn = C at *
            have hcd : decide ((0 : Int) ≤ C) = false := decide_eq_false (by omega)
            go_wp2_with fail
            refine wp_region_calm (B := w7.heap.size) (W := w7) (by kernel_rfl) (by kernel_rfl) (Below.refl _ _) ?_
            repeat (go_big_quiet_step (first | (go_at_call 126; exact calm_of_below (Nat.le_refl _) (KCi _))))
            refine wpQuiet_nil ?_
            intro _ hw'
            obtain ⟨x, hxx⟩ := hw'
            subst hxx
            have hB8 := below_then hB7 x.ok
            have X8 := X7.below x.ok
            have Y8 := Y7.below x.ok
            have o8 := owns_below o7 x.ok
            clear px p0 p1 p2 p3 p4 q0 q1 q2 q3 q4 hne X7 Y7 o7 hB7 hmc
            generalize x.w = w8 at *
            clear x
            obtain ⟨_, x0, x1⟩ := X8.c2
            go_wp2_with fail
            refine (KNA _ (hx.below hB8) (hy.below hB8)).mono ?_
            rintro e w9 ⟨⟨bl, ol, nl, cl, rfl, hnl, hbl0, cl0⟩, hb9⟩
            have hB9 := below_then hB8 hb9
            have X9 := X8.below hb9
            have Y9 := Y8.below hb9
            have o9 := owns_below o8 hb9
            replace cl0 := (hb9.cell (p := ⟨bl, ol + (4 - k), none⟩) hbl0).trans cl0
            have hnli : ((4 - k : Nat) : Int) < nl := by omega
            clear hb9 x0 x1 X8 Y8 o8 hB8
            go_wp2
            go_roundw
            case rel => exact ⟨f, (i : Int), nn + 1, by omega, rfl, by go_num, rfl, .inr hoki, by omega, HST.out, by omega, X9, Y9, o9, hB9⟩
            case measure => simp [intOf] <;> omega
          · have HST : Hid (SkS hs ts t (k + 1) = (aa, nn + 1)) := by show _ = _; rw [HG.out, if_neg hneg, if_neg hc]
            rw [hct] at hc
            clear HG HB hct hu
            generalize tw ts (i : Int) = o at *
            obtain ⟨rk, rn, rd, rv, rx⟩ := o
            dsimp only at q0 q1 q2 q3 KCi hc hmc
            generalize cIt rk tk rn tn = C at *
            have hcd : decide ((0 : Int) ≤ C) = true := decide_eq_true (by omega)
            go_wp2_with fail
            refine wp_region_calm (B := w7.heap.size) (W := w7) (by kernel_rfl) (by kernel_rfl) (Below.refl _ _) ?_
            repeat (go_big_quiet_step (first | (go_at_call 126; exact calm_of_below (Nat.le_refl _) (KCi _))))
            refine wpQuiet_nil ?_
            intro _ hw'
            obtain ⟨x, hxx⟩ := hw'
            subst hxx
            have hB8 := below_then hB7 x.ok
            have X8 := X7.below x.ok
            have Y8 := Y7.below x.ok
            have o8 := owns_below o7 x.ok
            clear px p0 p1 p2 p3 p4 q0 q1 q2 q3 q4 hne X7 Y7 o7 hB7 hmc
            generalize x.w = w8 at *
            clear x
            have HSE : Hid (SkS hs ts t (k + 1) = (aa, nn + 1)) := HST.out
            have d0 : ∃ u, w8.cell? ⟨g, 4 - k, none⟩ = some u := by rw [o8.cellAt (4 - k) (by omega)]; exact ⟨_, List.getElem?_eq_getElem (by rw [List.length_map, lastL_len]; omega)⟩
            obtain ⟨u0, d0⟩ := d0
            have f0 := o8.frozenAt (4 - k)
            have HO : Hid _ := (o8.stored (4 - k) (.int .i64 (SkS hs ts t (k + 1)).1)).1
            have hst := lastL_set hs ts t k hlt
            have HL2 : Hid (((lastL hs ts t k).map (Value.int .i64)).set (4 - k) (.int .i64 (SkS hs ts t (k + 1)).1) = (lastL hs ts t (k + 1)).map (.int .i64)) := by show _ = _; rw [← List.map_set, hst]
            have HE1 : Hid ((SkS hs ts t (k + 1)).1 = aa) := by show _ = _; rw [HSE.out]
            have o9 : (w8.setCell ⟨g, 4 - k, none⟩ (.int .i64 aa)).ownsRow g 3 1 (.slice (some ⟨g, 0, none⟩) 5 5) 5 ((lastL hs ts t (k + 1)).map (.int .i64)) := by have := HO.out; rw [HL2.out, HE1.out] at this; exact this
            have X9 := X8.setOther ⟨g, 4 - k, none⟩ (.int .i64 aa) (by simp; omega)
            have Y9 := Y8.setOther ⟨g, 4 - k, none⟩ (.int .i64 aa) (by simp; omega)
            have hB9 : Below w.heap.size w (w8.setCell ⟨g, 4 - k, none⟩ (.int .i64 aa)) := hB8.setCell (by simp; omega) _
            clear HO HL2 hst HE1 HST
            go_wp2
            go_roundw
            case rel => exact ⟨k + 1, by omega, by rw [HSE.out], by rw [HSE.out]; try go_num, by go_num, X9, Y9, o9, hB9⟩
            case measure => simp [intOf] <;> omega
    · obtain rfl : k = 5 := by omega
      go_wp2
      refine bodyPost_ret (v := .tuple #[.slice (some ⟨g, 0, none⟩) 5 5, .int .i64 (SkS hs ts t 5).2]) ?_ rfl ⟨⟨g, rfl, ho, by omega⟩, hb⟩
      simp [results, Tryd.results84, go_sem]
end Go.Proofs.YtdaldkcildbcmaaDoor
