/-
  spec: GoodSkip.
-/
import Derived.Test.YtdaldkcildbcmaaDoorH3
namespace Go.Proofs.YtdaldkcildbcmaaDoor
open Go.RowKit
set_option linter.unusedVariables false
set_option maxRecDepth 100000

theorem okItem_small {k v : ByteArray} {n d : Int} (h : okItem k n d v = true) : toOk k n = true ∧ k.size ≤ 16 ∧ 0 ≤ n ∧ n ≤ 1000000000 := by
  unfold okItem at h
  simp only [Bool.and_eq_true] at h
  obtain ⟨⟨h1, h2⟩, _⟩ := h
  refine ⟨by unfold toOk; rw [h1, h2]; rfl, ?_⟩
  unfold okKey at h1
  unfold okSeq at h2
  simp only [Bool.and_eq_true, decide_eq_true_eq] at h1 h2
  omega
theorem owns_lt3 {w : World} {base g n c : Nat} {e : TypeId} {xs : List Value} (h : w.ownsRow base e 1 (.slice (some ⟨g, 0, none⟩) n c) n xs) : g < w.heap.size := (owns_lt h).2

theorem NX_range {hs : List Int} {ts : List Tw} {lv : Nat} {a : Int} (hT : ∀ i : Nat, i < ts.length → TwG ts i) (hh : hs.getD lv 0 ≤ (ts.length : Int) - 1) (ha : a = -1 ∨ okAt ts lv a) : NX hs ts a lv ≤ (ts.length : Int) - 1 := by
  rcases ha with rfl | ⟨a0, a1, a2⟩
  · exact hh
  · obtain ⟨i, rfl⟩ := Int.eq_ofNat_of_zero_le a0
    rw [NX_at]
    exact ((hT i (by omega)).2.2 lv a2).2

set_option maxHeartbeats 16000000 in
theorem specGoodSkip_any (x : Value) (ay : Option Addr) (cy : Nat) (hs : List Int) (ts : List Tw) (w : World) (hx : IL w x hs) (hy : TW w (.slice ay ts.length cy) ts) (hcy : ts.length ≤ cy) (hcm : cy ≤ 9223372036854775807) (hn : hs.length ≤ 1048576)
    (hf : ∀ i : Nat, i < ts.length → (tw ts i).next.length ≤ 1048576 ∧ (tw ts i).key.size ≤ 1048576 ∧ (tw ts i).val.size ≤ 1048576) :
    Calls Tryd.prog 25 #[.agg #[x, .slice ay ts.length cy]] w fun e w' => (∃ b, e = .returned (.bool b) ∧ (b = true ↔ GoodS hs ts)) ∧ Below w.heap.size w w' := by
  rw [goodS_iff]
  obtain ⟨ax, cx, hxe, _⟩ := id hx
  subst hxe
  by_cases h5 : hs.length = 5
  · by_cases h60 : ts.length ≤ 60
    · rw [h5] at hx ⊢
      have h60' : ¬ (60 : Int) < ts.length := by omega
      obtain ⟨i0, hi, hz0, hz1, hz2⟩ := info_parts Tryd.info3
      go_enter Tryd.func25, Tryd.ntmps25
      go_wp2_with fail
      refine (l2Table_any _).mono ?_
      rintro e w1 ⟨gt, rfl, ownT, hb1⟩
      have hB1 := below_then (below_alloc _ _) hb1
      have X1 := (Box.new w #[.slice ax 5 cx, .slice ay ts.length cy] 26).below hb1
      have tl1 := TL_of_owns ownT
      have hgt := owns_lt3 ownT
      clear hb1 ownT
      obtain ⟨_, x0, x1⟩ := X1.c2
      go_wp2_with (at_make; refine wpList_make_full _ rfl _ _ 23 rfl w1.heap.size 3 i0 _ 1 Tryd.underlying23 hi hz0 hz1 .i64 .i64 _ _ 5 rfl rfl rfl rfl (by rw [hz2]; omega) (by unfold maxLen; omega) (Nat.le_refl _) ?_; intro w2 hown2 hgr2; refine Stop.go ?_)
      rw [zerosZ, ← mkN_zero ts] at hown2
      have hbb : Below w1.heap.size w1 w2 := (Below.refl _ _).grown hgr2 (Nat.le_refl _) (by simp)
      have hB2 := below_then hB1 hbb
      have X2 := X1.below hbb
      have tl2 := tl1.under hbb hgt
      have hgx : w.heap.size < w1.heap.size := X1.1
      generalize w1.heap.size = g at *
      clear hbb hgr2 X1 tl1 x0 x1 hi hz0 hz1 hz2 hB1
      obtain ⟨_, x0, x1⟩ := X2.c2
      unfold Stop
      go_wp2
      clear x0 x1
      go_loopw [29] (fun i wr => ∃ k : Nat, k ≤ ts.length ∧ i = .int .i64 k ∧ (∀ j : Nat, j < k → TwG ts j) ∧ Box wr w.heap.size [.slice ax 5 cx, .slice ay ts.length cy] ∧ TL wr (.slice (some ⟨gt, 0, none⟩) 256 256) ∧ wr.ownsRow g 3 1 (.slice (some ⟨g, 0, none⟩) 5 5) 5 ((mkN ts k).map (.int .i64)) ∧ Below w.heap.size w wr) (fun i _ => ts.length - (intOf i).toNat)
      case atStart => exact ⟨0, by omega, rfl, fun j h => by omega, X2, tl2, hown2, hB2⟩
      case round =>
        clear hown2 X2 tl2 hB2
        obtain ⟨k, hk, rfl, hal, X, tl, ho, hb⟩ := hrel
        have HA : Hid (∀ j : Nat, j < k → TwG ts j) := hal
        clear hal
        by_cases hlt : k < ts.length
        · obtain ⟨b, off, cap, u, hv, hbl, ⟨z0, z1, z2, z3, z4⟩, hu⟩ := hy.cells k hlt
          simp only [Value.slice.injEq, true_and] at hv
          obtain ⟨rfl, rfl⟩ := hv
          replace z0 := (hb.cell (p := ⟨b, off + k * 5, none⟩) hbl).trans z0
          replace z1 := (hb.cell (p := ⟨b, off + k * 5 + 1, none⟩) hbl).trans z1
          replace z2 := (hb.cell (p := ⟨b, off + k * 5 + 2, none⟩) hbl).trans z2
          replace z3 := (hb.cell (p := ⟨b, off + k * 5 + 3, none⟩) hbl).trans z3
          replace z4 := (hb.cell (p := ⟨b, off + k * 5 + 4, none⟩) hbl).trans z4
          obtain ⟨f1, f2, f3⟩ := hf k hlt
          have HW : Hid (¬ TwG ts k → ¬ ∀ i : Nat, i < ts.length → TwG ts i) := fun h h' => h (h' k hlt)
          have HS : Hid (TwG ts k → ∀ j : Nat, j < k + 1 → TwG ts j) := fun h j hj => by
            by_cases e : j < k
            · exact HA.out j e
            · obtain rfl : j = k := by omega
              exact h
          have HT : Hid (TwG ts k ↔ okTw (tw ts k) = true ∧ (∀ j : Nat, j < k → cT (tw ts j) (tw ts k) ≠ 0) ∧ ∀ m, m < (tw ts k).next.length → -1 ≤ nx ts k m ∧ nx ts k m ≤ (ts.length : Int) - 1) := Iff.rfl
          have HNX : Hid (∀ m, nx ts (k : Int) m = (tw ts (k : Int)).next.getD m 0) := fun m => rfl
          have HRT : Hid (∀ m, m = (tw ts (k : Int)).next.length → midN ts k m = mkN ts (k + 1)) := fun m hm => midN_all ts k hlt m (by rw [hm, tw_at ts k hlt])
          have HRS : Hid (∀ m, m < (tw ts (k : Int)).next.length → (midN ts k m).set m ((reach (ts.take k) m : Int) + 1) = midN ts k (m + 1)) := fun m hm => midN_set ts k hlt m (by rwa [tw_at ts k hlt] at hm)
          have HC : Hid (∀ o : Tw, cT o (tw ts (k : Int)) = cIt o.key (tw ts (k : Int)).key o.seq (tw ts (k : Int)).seq) := fun o => rfl
          have HK : Hid (okTw (tw ts (k : Int)) = (okItem (tw ts (k : Int)).key (tw ts (k : Int)).seq (tw ts (k : Int)).kind (tw ts (k : Int)).val && ((tw ts (k : Int)).next.length : Int) == toN (tw ts (k : Int)).key (tw ts (k : Int)).seq)) := rfl
          generalize tw ts (k : Int) = s at *
          obtain ⟨sk, sn, sd, sv, sx⟩ := s
          dsimp only at z0 z1 z2 z3 hu HK f1 f2 f3 HT HNX HRT HRS HC
          obtain ⟨a', cap', rfl, hcu⟩ := hu
          have hu : IL w (.slice a' sx.length cap') sx := ⟨a', cap', rfl, hcu⟩
          have hz := hb.size
          obtain ⟨W0, hW0⟩ : ∃ W0, W0 = wr.alloc (.cells #[.string sk, .int .i64 sn, .int .i64 sd, .string sv, .slice a' sx.length cap'] 73) := ⟨_, rfl⟩
          have T0 : Box W0 wr.heap.size [.string sk, .int .i64 sn, .int .i64 sd, .string sv, .slice a' sx.length cap'] := by rw [hW0]; exact Box.new wr _ 73
          have hW : Below wr.heap.size wr W0 := by rw [hW0]; exact below_alloc _ _
          have X0 := X.below hW
          have tl0 := TL.below tl hW
          have o0 := owns_below ho hW
          have hb0 := below_then hb hW
          have KG := fun w => specGood_any sk sv sn sd w f2 f3
          have p0 := fun x : WC W0.heap.size W0 => (T0.below x.ok).2.1 0 _ rfl
          have p1 := fun x : WC W0.heap.size W0 => (T0.below x.ok).2.1 1 _ rfl
          have p2 := fun x : WC W0.heap.size W0 => (T0.below x.ok).2.1 2 _ rfl
          have p3 := fun x : WC W0.heap.size W0 => (T0.below x.ok).2.1 3 _ rfl
          have p4 := fun x : WC W0.heap.size W0 => (T0.below x.ok).2.1 4 _ rfl
          have hne : Nonempty (WC W0.heap.size W0) := ⟨⟨_, Below.refl _ _⟩⟩
          have hgw : g < wr.heap.size := owns_lt3 ho
          clear hcu X tl ho hW
          cases hG : okItem sk sn sd sv with
          | false =>
            rw [hG] at KG HK
            have HN : Hid (¬ ∀ i : Nat, i < ts.length → TwG ts i) := HW.out (fun h => by have := (HT.out.1 h).1; rw [HK.out] at this; cases this)
            clear HW HS HT HNX HRT HRS HC HK hG
            go_wp2_with fail
            rw [← hW0]; clear hW0 z0 z1 z2 z3 z4
            refine wp_region_calm (B := W0.heap.size) (W := W0) (by kernel_rfl) (by kernel_rfl) (Below.refl _ _) ?_
            repeat (go_big_quiet_step (first | (go_at_call 43; exact calm_of_below (Nat.le_refl _) (KG _))))
            refine wpQuiet_nil ?_
            intro _ hw'
            obtain ⟨x, hxx⟩ := hw'
            subst hxx
            have hB3 := below_then hb0 x.ok
            clear p0 p1 p2 p3 p4 hne
            generalize x.w = w3 at *
            clear x
            go_wp2
            go_ret
            exact ⟨⟨false, rfl, by simp only [Bool.false_eq_true, false_iff]; exact fun h => HN.out h.2.2.1⟩, hB3⟩
          | true =>
            obtain ⟨q1, q2, q3, q4⟩ := okItem_small hG
            obtain ⟨sm, rfl⟩ := Int.eq_ofNat_of_zero_le q3
            have HTN : Hid (toN sk (sm : Int) = (twN sk sm : Int)) := by show _ = _; unfold toN; rw [if_pos q1]; rfl
            have KT := fun x : WC W0.heap.size W0 => l4Tower_any (.slice (some ⟨gt, 0, none⟩) 256 256) sk sm x.w (TL.below tl0 x.ok) q2 (by omega)
            have h5s : okTw ⟨sk, (sm : Int), sd, sv, sx⟩ = true → sx.length ≤ 5 := fun h => high_le h
            rw [hG] at KG HK
            rw [HTN.out] at HK
            clear q1 q2 q3 q4 HTN hG
            by_cases hE : (sx.length : Int) = (twN sk sm : Int)
            · have hok : okTw ⟨sk, (sm : Int), sd, sv, sx⟩ = true := by rw [HK.out, hE]; simp
              have hs5 := h5s hok
              generalize twN sk sm = N at *
              clear HK h5s
              go_wp2_with fail
              rw [← hW0]; clear hW0 z0 z1 z2 z3 z4
              refine wp_region_calm (B := W0.heap.size) (W := W0) (by kernel_rfl) (by kernel_rfl) (Below.refl _ _) ?_
              repeat (go_big_quiet_step (first | (go_at_call 43; exact calm_of_below (Nat.le_refl _) (KG _)) | (go_at_call 52; exact calm_of_below (Nat.le_refl _) (KT _))))
              refine wpQuiet_nil ?_
              intro _ hw'
              obtain ⟨x, hxx⟩ := hw'
              subst hxx
              have hB3 := below_then hb0 x.ok
              have T3 := T0.below x.ok
              have X3 := X0.below x.ok
              have tl3 := TL.below tl0 x.ok
              have o3 := owns_below o0 x.ok
              clear p0 p1 p2 p3 p4 hne T0 X0 tl0 o0 KT KG hb0 hb
              generalize x.w = w3 at *
              clear x
              obtain ⟨bt, hbt⟩ : ∃ bt, bt = wr.heap.size := ⟨_, rfl⟩
              have hgb : g < bt := by rw [hbt]; exact hgw
              rw [← hbt] at T3 ⊢
              clear hbt hgw hz
              obtain ⟨_, x0, x1⟩ := X3.c2
              have hki : (k : Int) ≤ (cy : Int) := by omega
              have hk0 : (0 : Int) ≤ (k : Int) := by omega
              go_wp2
              clear x0 x1
              go_loopw [57] (fun i w4 => ∃ j : Nat, j ≤ k ∧ i = .int .i64 j ∧ (∀ j' : Nat, j' < j → cT (tw ts j') ⟨sk, (sm : Int), sd, sv, sx⟩ ≠ 0) ∧ Below w3.heap.size w3 w4) (fun i _ => k - (intOf i).toNat)
              case atStart => exact ⟨0, by omega, rfl, fun j h => by omega, Below.refl _ _⟩
              case round =>
                obtain ⟨j, hj, rfl, hal, hb4⟩ := hrel
                have HJ : Hid (∀ j' : Nat, j' < j → cT (tw ts j') ⟨sk, (sm : Int), sd, sv, sx⟩ ≠ 0) := hal
                clear hal
                have hB4 := below_then hB3 hb4
                have T4 := T3.below hb4
                by_cases hlj : j < k
                · obtain ⟨b2, off2, cap2, u2, hv, _, ⟨z0, z1, z2, z3, z4⟩, hu2⟩ := hy.cells j (by omega)
                  obtain ⟨a2, c2, rfl, _⟩ := hu2
                  simp only [Value.slice.injEq, Option.some.injEq, Addr.mk.injEq, and_true, true_and] at hv
                  obtain ⟨⟨rfl, rfl⟩, rfl⟩ := hv
                  replace z0 := (hB4.cell (p := ⟨b, off + j * 5, none⟩) hbl).trans z0
                  replace z1 := (hB4.cell (p := ⟨b, off + j * 5 + 1, none⟩) hbl).trans z1
                  replace z2 := (hB4.cell (p := ⟨b, off + j * 5 + 2, none⟩) hbl).trans z2
                  replace z3 := (hB4.cell (p := ⟨b, off + j * 5 + 3, none⟩) hbl).trans z3
                  replace z4 := (hB4.cell (p := ⟨b, off + j * 5 + 4, none⟩) hbl).trans z4
                  have HCJ := HC.out (tw ts (j : Int))
                  have HJS : Hid (cT (tw ts (j : Int)) ⟨sk, (sm : Int), sd, sv, sx⟩ ≠ 0 → ∀ j' : Nat, j' < j + 1 → cT (tw ts j') ⟨sk, (sm : Int), sd, sv, sx⟩ ≠ 0) := fun h j' hj' => by
                    by_cases e : j' < j
                    · exact HJ.out j' e
                    · obtain rfl : j' = j := by omega
                      exact h
                  have HJN : Hid (cT (tw ts (j : Int)) ⟨sk, (sm : Int), sd, sv, sx⟩ = 0 → ¬ ∀ i : Nat, i < ts.length → TwG ts i) := fun h => HW.out fun h' => (HT.out.1 h').2.1 j hlj h
                  rw [HCJ] at HJS HJN
                  have KC := fun w => l4Compare_any (tw ts (j : Int)).key (tw ts (j : Int)).val sk sv (tw ts (j : Int)).seq (tw ts (j : Int)).kind (sm : Int) sd w
                  clear HCJ HJ
                  generalize tw ts (j : Int) = o at *
                  obtain ⟨rk, rn, rd, rv, rx⟩ := o
                  dsimp only at z0 z1 z2 z3 HJS HJN KC
                  generalize cIt rk sk rn (sm : Int) = C at *
                  obtain ⟨hbtl, t0, t1, t2, t3, t4⟩ := T4.c5
                  have hz4 := hB4.size
                  go_wp2_with fail
                  refine (KC _).mono ?_
                  rintro e w5 ⟨rfl, hb5⟩
                  have hz3 := hb4.size
                  have hb6 : Below w3.heap.size w3 w5 := below_then (hb4.alloc hz3 _) hb5
                  have hB6 := below_then hB3 hb6
                  clear hb5 z0 z1 z2 z3 z4 t0 t1 t2 t3 t4 KC T4 hb4
                  by_cases hC0 : C = 0
                  · have HN : Hid (¬ ∀ i : Nat, i < ts.length → TwG ts i) := HJN.out hC0
                    clear HJN HJS
                    go_wp2
                    go_ret
                    exact ⟨⟨false, rfl, by simp only [Bool.false_eq_true, false_iff]; exact fun h => HN.out h.2.2.1⟩, hB6⟩
                  · have HJ2 : Hid (∀ j' : Nat, j' < j + 1 → cT (tw ts j') ⟨sk, (sm : Int), sd, sv, sx⟩ ≠ 0) := HJS.out hC0
                    clear HJN HJS
                    go_wp2
                    go_roundw
                    case rel => exact ⟨j + 1, by omega, by go_num, HJ2.out, hb6⟩
                    case measure => simp [intOf]; omega
                · obtain rfl : j = k := by omega
                  have X4 := X3.below hb4
                  have tl4 := TL.below tl3 hb4
                  have o4 := owns_below o3 hb4
                  clear T3 X3 tl3 o3 hb4 hB3 hlj
                  obtain ⟨_, t0, t1, t2, t3, t4⟩ := T4.c5
                  go_wp2
                  clear t0 t1 t2 t3 t4
                  go_loopw [71] (fun i w5 => ∃ m : Nat, m ≤ sx.length ∧ i = .int .i64 m ∧ (∀ m', m' < m → -1 ≤ nx ts j m' ∧ nx ts j m' ≤ (ts.length : Int) - 1) ∧ Box w5 bt [.string sk, .int .i64 sm, .int .i64 sd, .string sv, .slice a' sx.length cap'] ∧ Box w5 w.heap.size [.slice ax 5 cx, .slice (some ⟨b, off, none⟩) ts.length cy] ∧ TL w5 (.slice (some ⟨gt, 0, none⟩) 256 256) ∧ w5.ownsRow g 3 1 (.slice (some ⟨g, 0, none⟩) 5 5) 5 ((midN ts j m).map (.int .i64)) ∧ Below w.heap.size w w5) (fun i _ => sx.length - (intOf i).toNat)
                  case atStart => exact ⟨0, by omega, rfl, fun m h => by omega, T4, X4, tl4, by rw [midN_zero]; exact o4, hB4⟩
                  case round =>
                    clear T4 X4 tl4 o4 hB4
                    obtain ⟨m, hm, rfl, hal, T, X, tl, ho, hb⟩ := hrel
                    have HM : Hid (∀ m', m' < m → -1 ≤ nx ts j m' ∧ nx ts j m' ≤ (ts.length : Int) - 1) := hal
                    clear hal
                    by_cases hlm : m < sx.length
                    · obtain ⟨a1, c1, he1, hcu⟩ := hu
                      simp only [Value.slice.injEq, true_and] at he1
                      obtain ⟨rfl, rfl⟩ := he1
                      obtain ⟨bu, ou, rfl, hbu, hcu⟩ := hcu (by intro e; simp [e] at hlm)
                      have cu := (hb.cell (p := ⟨bu, ou + m, none⟩) hbu).trans (hcu m hlm)
                      rw [show sx[m] = nx ts (j : Int) m from by rw [HNX.out m]; simp [List.getD, hlm]] at cu
                      have hm5 : m < 5 := by omega
                      have d0 : wr.cell? ⟨g, m, none⟩ = some (.int .i64 (reach (ts.take j) m : Int)) := by
                        rw [ho.cellAt m (by omega), List.getElem?_map, midN_at ts j m hm5]; rfl
                      have f0 := ho.frozenAt m
                      have hR : reach (ts.take j) m ≤ 60 := by have := reach_le (ts.take j) m; rw [List.length_take] at this; omega
                      have HO : Hid _ := (ho.stored m (.int .i64 ((reach (ts.take j) m : Int) + 1))).1
                      have HS2 : Hid (((midN ts j m).map (Value.int .i64)).set m (.int .i64 ((reach (ts.take j) m : Int) + 1)) = (midN ts j (m + 1)).map (.int .i64)) := by
                        show _ = _
                        rw [← List.map_set, HRS.out m hlm]
                      have HMS : Hid ((-1 ≤ nx ts j m ∧ nx ts j m ≤ (ts.length : Int) - 1) → ∀ m', m' < m + 1 → -1 ≤ nx ts j m' ∧ nx ts j m' ≤ (ts.length : Int) - 1) := fun h m' hm' => by
                        by_cases e : m' < m
                        · exact HM.out m' e
                        · obtain rfl : m' = m := by omega
                          exact h
                      have HMN : Hid (¬ (-1 ≤ nx ts j m ∧ nx ts j m ≤ (ts.length : Int) - 1) → ¬ ∀ i : Nat, i < ts.length → TwG ts i) := fun h => HW.out fun h' => h ((HT.out.1 h').2.2 m hlm)
                      clear HM hcu
                      generalize nx ts (j : Int) m = z at *
                      generalize reach (ts.take j) m = R at *
                      obtain ⟨W6, hW6⟩ : ∃ W6, W6 = wr.setCell ⟨g, m, none⟩ (.int .i64 ((R : Int) + 1)) := ⟨_, rfl⟩
                      have o6 : W6.ownsRow g 3 1 (.slice (some ⟨g, 0, none⟩) 5 5) 5 ((midN ts j (m + 1)).map (.int .i64)) := by
                        have := HO.out
                        rw [HS2.out] at this
                        rw [hW6]; exact this
                      have T6 : Box W6 bt [.string sk, .int .i64 sm, .int .i64 sd, .string sv, .slice (some ⟨bu, ou, none⟩) sx.length cap'] := by rw [hW6]; exact T.setOther _ _ (by simp; omega)
                      have X6 : Box W6 w.heap.size [.slice ax 5 cx, .slice (some ⟨b, off, none⟩) ts.length cy] := by rw [hW6]; exact X.setOther _ _ (by simp; omega)
                      have hBg : Below g wr W6 := by rw [hW6]; exact (Below.refl g wr).setCell (by simp) _
                      have tl6 := tl.under hBg hgt
                      have hB6 : Below w.heap.size w W6 := hb.trans (hBg.mono (by omega))
                      have cu6 := (hBg.cell (p := ⟨bu, ou + m, none⟩) (by show bu < g; omega)).trans cu
                      have hlmi : (m : Int) < sx.length := by omega
                      have hm5i : (m : Int) < 5 := by omega
                      have hwl : IntKind.i64.wrap ((ts.length : Int) - 1) = (ts.length : Int) - 1 := by rw [IntKind.wrap_i64]; omega
                      have hwr : IntKind.i64.wrap ((R : Int) + 1) = (R : Int) + 1 := by rw [IntKind.wrap_i64]; omega
                      have K1 := fun w => l1In_any z (-1) ((ts.length : Int) - 1) w
                      clear HO HS2 hBg tl X HRS ho
                      obtain ⟨_, t0, t1, t2, t3, t4⟩ := T.c5
                      go_wp2_with fail
                      rw [← hW6]
                      clear t0 t1 t2 t3 t4 T hW6 d0 f0 cu hb
                      obtain ⟨_, t0, t1, t2, t3, t4⟩ := T6.c5
                      obtain ⟨_, x0, x1⟩ := X6.c2
                      by_cases hq : -1 ≤ z ∧ z ≤ (ts.length : Int) - 1
                      · rw [show (decide (-1 ≤ z) && decide (z ≤ (ts.length : Int) - 1)) = true from by rw [decide_eq_true hq.1, decide_eq_true hq.2]; rfl] at K1
                        have HM2 : Hid (∀ m', m' < m + 1 → -1 ≤ nx ts j m' ∧ nx ts j m' ≤ (ts.length : Int) - 1) := HMS.out hq
                        clear HMS HMN hq
                        go_quiet ((first | (go_at_call 63; exact Calls.quiet_of_same (K1 _))))
                        go_wp2
                        go_roundw
                        case rel => exact ⟨m + 1, by omega, by go_num, HM2.out, T6.below (below_drewN (Below.refl _ _) _), X6.below (below_drewN (Below.refl _ _) _), TL.below tl6 (below_drewN (Below.refl _ _) _), owns_below o6 (below_drewN (Below.refl _ _) _), below_drewN hB6 _⟩
                        case measure => simp [intOf]; omega
                      · rw [show (decide (-1 ≤ z) && decide (z ≤ (ts.length : Int) - 1)) = false from by
                          by_cases h1 : -1 ≤ z
                          · rw [decide_eq_false (fun h2 => hq ⟨h1, h2⟩)]; simp
                          · rw [decide_eq_false h1]; rfl] at K1
                        have HN : Hid (¬ ∀ i : Nat, i < ts.length → TwG ts i) := HMN.out hq
                        clear HMS HMN hq
                        go_quiet ((first | (go_at_call 63; exact Calls.quiet_of_same (K1 _))))
                        go_wp2
                        go_ret
                        exact ⟨⟨false, rfl, by simp only [Bool.false_eq_true, false_iff]; exact fun h => HN.out h.2.2.1⟩, below_drewN hB6 _⟩
                    · obtain rfl : m = sx.length := by omega
                      have HG : Hid (∀ j' : Nat, j' < j + 1 → TwG ts j') := HS.out (HT.out.2 ⟨hok, HJ.out, HM.out⟩)
                      rw [HRT.out _ rfl] at ho
                      clear HS HT HM HJ HRT HRS HC HNX HW HA
                      go_wp2
                      go_roundw
                      case rel => exact ⟨j + 1, by omega, by go_num, HG.out, X, tl, ho, hb⟩
                      case measure => simp [intOf]; omega
            · have HN : Hid (¬ ∀ i : Nat, i < ts.length → TwG ts i) := HW.out (fun h => by have := (HT.out.1 h).1; rw [HK.out] at this; simp [hE] at this)
              generalize twN sk sm = N at *
              clear HW HS HT HNX HRT HRS HC HK h5s
              go_wp2_with fail
              rw [← hW0]; clear hW0 z0 z1 z2 z3 z4
              refine wp_region_calm (B := W0.heap.size) (W := W0) (by kernel_rfl) (by kernel_rfl) (Below.refl _ _) ?_
              repeat (go_big_quiet_step (first | (go_at_call 43; exact calm_of_below (Nat.le_refl _) (KG _)) | (go_at_call 52; exact calm_of_below (Nat.le_refl _) (KT _))))
              refine wpQuiet_nil ?_
              intro _ hw'
              obtain ⟨x, hxx⟩ := hw'
              subst hxx
              have hB3 := below_then hb0 x.ok
              clear p0 p1 p2 p3 p4 hne
              generalize x.w = w3 at *
              clear x
              go_wp2
              go_ret
              exact ⟨⟨false, rfl, by simp only [Bool.false_eq_true, false_iff]; exact fun h => HN.out h.2.2.1⟩, hB3⟩
        · obtain rfl : k = ts.length := by omega
          have hF : ∀ i : Nat, i < ts.length → (tw ts i).next.length ≤ 1048576 := fun i h => (hf i h).1
          clear hf tl hlt
          go_wp2
          go_loopw [95] (fun i w5 => ∃ lv : Nat, lv ≤ 5 ∧ i = .int .i64 lv ∧ (∀ l', l' < lv → LvG hs ts l') ∧ Box w5 w.heap.size [.slice ax 5 cx, .slice ay ts.length cy] ∧ w5.ownsRow g 3 1 (.slice (some ⟨g, 0, none⟩) 5 5) 5 ((mkN ts ts.length).map (.int .i64)) ∧ Below w.heap.size w w5) (fun i _ => 5 - (intOf i).toNat)
          case atStart => exact ⟨0, by omega, rfl, fun m h => by omega, X, ho, hb⟩
          case round =>
            clear X ho hb
            obtain ⟨lv, hl, rfl, hal, X, ho, hb⟩ := hrel
            have HL : Hid (∀ l', l' < lv → LvG hs ts l') := hal
            clear hal
            by_cases hlv : lv < 5
            · have HW : Hid (¬ LvG hs ts lv → ¬ ∀ l', l' < 5 → LvG hs ts l') := fun h h' => h (h' lv hlv)
              have HS : Hid (LvG hs ts lv → ∀ l', l' < lv + 1 → LvG hs ts l') := fun h l' hl' => by
                by_cases e : l' < lv
                · exact HL.out l' e
                · obtain rfl : l' = lv := by omega
                  exact h
              have HG : Hid (LvG hs ts lv ↔ (-1 ≤ hs.getD lv 0 ∧ hs.getD lv 0 ≤ (ts.length : Int) - 1) ∧ stp ts lv (reach ts lv) (-1) (hs.getD lv 0) = true) := Iff.rfl
              have HNH : Hid (NX hs ts (-1) lv = hs.getD lv 0) := rfl
              have d0 : wr.cell? ⟨g, lv, none⟩ = some (.int .i64 (reach ts lv : Int)) := by
                rw [ho.cellAt lv (by omega), List.getElem?_map, mkN_all ts lv hlv]; rfl
              have hR : reach ts lv ≤ 60 := by have := reach_le ts lv; omega
              have KN := fun a w hx hy ha => l4Next_any (.slice ax 5 cx) (.slice ay ts.length cy) hs ts a lv w hx hy h5 hlv h60 ha
              have HRG : Hid (hs.getD lv 0 ≤ (ts.length : Int) - 1 → ∀ a, a = -1 ∨ okAt ts lv a → NX hs ts a lv ≤ (ts.length : Int) - 1) := fun hh a ha => NX_range HA.out hh ha
              have hc5 : ∃ bx ox, ax = some ⟨bx, ox, none⟩ ∧ bx < w.heap.size ∧ w.cell? ⟨bx, ox + lv, none⟩ = some (.int .i64 (hs.getD lv 0)) := by
                obtain ⟨a1, c1, he1, hcu⟩ := hx
                simp only [Value.slice.injEq] at he1
                obtain ⟨rfl, _, rfl⟩ := he1
                obtain ⟨bx, ox, rfl, hbx, hcu⟩ := hcu (by intro e; simp [e] at h5)
                refine ⟨bx, ox, rfl, hbx, ?_⟩
                rw [hcu lv (by omega), show hs[lv] = hs.getD lv 0 from by simp [List.getD, h5, hlv]]
              obtain ⟨bx, ox, rfl, hbx, c0⟩ := hc5
              replace c0 := (hb.cell (p := ⟨bx, ox + lv, none⟩) hbx).trans c0
              have hlvi : (lv : Int) < 5 := by omega
              have hwl : IntKind.i64.wrap ((ts.length : Int) - 1) = (ts.length : Int) - 1 := by rw [IntKind.wrap_i64]; omega
              obtain ⟨_, x0, x1⟩ := X.c2
              generalize hs.getD lv 0 = h at *
              have K1 := fun w => l1In_any h (-1) ((ts.length : Int) - 1) w
              by_cases hq : -1 ≤ h ∧ h ≤ (ts.length : Int) - 1
              · rw [show (decide (-1 ≤ h) && decide (h ≤ (ts.length : Int) - 1)) = true from by rw [decide_eq_true hq.1, decide_eq_true hq.2]; rfl] at K1
                have HRG2 : Hid (∀ a, a = -1 ∨ okAt ts lv a → NX hs ts a lv ≤ (ts.length : Int) - 1) := HRG.out hq.2
                have HG2 : Hid (LvG hs ts lv ↔ stp ts lv (reach ts lv) (-1) h = true) := HG.out.trans ⟨fun h => h.2, fun h => ⟨hq, h⟩⟩
                have HST : Hid (stp ts lv (reach ts lv) (-1) h = stp ts lv (reach ts lv) (-1) (NX hs ts (-1) lv)) := by show _ = _; rw [HNH.out]
                clear HRG HG hq HNH
                generalize stp ts lv (reach ts lv) (-1) h = ST at *
                generalize reach ts lv = R at *
                go_wp2_with fail
                go_quiet ((first | (go_at_call 63; exact Calls.quiet_of_same (K1 _))))
                go_wp2
                go_loopw [11, 12] (fun n a w6 => ∃ (nn : Nat) (aa : Int), nn ≤ 60 ∧ n = .int .i64 nn ∧ a = .int .i64 aa ∧ (aa = -1 ∨ okAt ts lv aa) ∧ ST = stp ts lv nn aa (NX hs ts aa lv) ∧ Box w6 w.heap.size [.slice (some ⟨bx, ox, none⟩) 5 cx, .slice ay ts.length cy] ∧ w6.ownsRow g 3 1 (.slice (some ⟨g, 0, none⟩) 5 5) 5 ((mkN ts ts.length).map (.int .i64)) ∧ Below w.heap.size w w6) (fun n _ _ => (intOf n).toNat)
                case atStart => exact ⟨R, -1, hR, rfl, rfl, .inl rfl, HST.out, X.below (below_drewN (Below.refl _ _) _), owns_below ho (below_drewN (Below.refl _ _) _), below_drewN hb _⟩
                case round =>
                  clear X ho hb HST x0 x1 c0 d0 K1
                  obtain ⟨nn, aa, hnn, rfl, rfl, ha, hst, X, ho, hb⟩ := hrel
                  have HST : Hid (ST = stp ts lv nn aa (NX hs ts aa lv)) := hst
                  clear hst
                  obtain ⟨_, x0, x1⟩ := X.c2
                  have KNA := fun w hx hy => KN aa w hx hy ha
                  have hrg := HRG2.out aa ha
                  obtain ⟨N, hN⟩ : ∃ N, N = NX hs ts aa lv := ⟨_, rfl⟩
                  rw [← hN] at KNA hrg HST
                  clear hN
                  by_cases hn0 : nn = 0
                  · subst hn0
                    go_wp2_with fail
                    refine (KNA _ (hx.below hb) (hy.below hb)).mono ?_
                    rintro e w7 ⟨rfl, hb7⟩
                    have hB7 := below_then hb hb7
                    have X7 := X.below hb7
                    have o7 := owns_below ho hb7
                    clear hb7 X ho hb x0 x1 KNA
                    by_cases hN1 : N = -1
                    · have HG3 : Hid (∀ l', l' < lv + 1 → LvG hs ts l') := HS.out (HG2.out.2 (by rw [HST.out, hN1]; rfl))
                      subst hN1
                      clear HG2 HS HW HST
                      go_wp2
                      go_roundw
                      case rel => exact ⟨lv + 1, by omega, by go_num, HG3.out, X7, o7, hB7⟩
                      case measure => simp [intOf]; omega
                    · have HN : Hid (¬ ∀ l', l' < 5 → LvG hs ts l') := HW.out fun h' => by
                        have := HG2.out.1 h'
                        rw [HST.out] at this
                        simp [stp] at this
                        exact hN1 this
                      clear HG2 HS HW HST
                      go_wp2
                      go_ret
                      exact ⟨⟨false, rfl, by simp only [Bool.false_eq_true, false_iff]; exact fun h => HN.out h.2.2.2⟩, hB7⟩
                  · obtain ⟨n, rfl⟩ : ∃ n, nn = n + 1 := ⟨nn - 1, by omega⟩
                    have hn1 : (0 : Int) < ((n + 1 : Nat) : Int) := by omega
                    have HBAD : Hid (N < 0 ∨ ¬ lv < (tw ts N).next.length ∨ (0 ≤ aa ∧ ¬ cT (tw ts aa) (tw ts N) < 0) → ¬ ∀ l', l' < 5 → LvG hs ts l') := fun hbad => HW.out fun h' => by
                      have h1 := HG2.out.1 h'
                      rw [HST.out, stp_bad (hs := hs) hbad] at h1
                      cases h1
                    have HGOOD : Hid (∀ i : Nat, N = i → i < ts.length → lv < (tw ts N).next.length → (aa < 0 ∨ cT (tw ts aa) (tw ts N) < 0) → okAt ts lv (i : Int) ∧ ST = stp ts lv n (i : Int) (NX hs ts (i : Int) lv)) := fun i hi hil h1 h2 => by
                      subst hi
                      refine ⟨⟨by omega, by omega, h1⟩, ?_⟩
                      rw [HST.out, stp_good (by omega) h1 h2, NX_at]
                    clear HST
                    go_wp2_with fail
                    refine (KNA _ (hx.below hb) (hy.below hb)).mono ?_
                    rintro e w7 ⟨rfl, hb7⟩
                    have hB7 := below_then hb hb7
                    have X7 := X.below hb7
                    have o7 := owns_below ho hb7
                    clear hb7 X ho hb x0 x1 KNA
                    have hne : Nonempty (WC w7.heap.size w7) := ⟨⟨_, Below.refl _ _⟩⟩
                    have px := fun x : WC w7.heap.size w7 => (X7.below x.ok).2.1 1 _ rfl
                    by_cases hneg : N < 0
                    · have HN := HBAD.out (.inl hneg)
                      have HN : Hid (¬ ∀ l', l' < 5 → LvG hs ts l') := HN
                      have hnegd : decide (N < 0) = true := decide_eq_true hneg
                      clear HBAD HGOOD
                      go_wp2_with fail
                      refine wp_region_calm (B := w7.heap.size) (W := w7) (by kernel_rfl) (by kernel_rfl) (Below.refl _ _) ?_
                      repeat (go_big_quiet_step (fail))
                      refine wpQuiet_nil ?_
                      intro _ hw'
                      obtain ⟨x, hxx⟩ := hw'
                      subst hxx
                      have hB8 := below_then hB7 x.ok
                      have X8 := X7.below x.ok
                      have o8 := owns_below o7 x.ok
                      clear px hne X7 o7 hB7
                      generalize x.w = w8 at *
                      clear x
                      go_wp2
                      go_ret
                      exact ⟨⟨false, rfl, by simp only [Bool.false_eq_true, false_iff]; exact fun h => HN.out h.2.2.2⟩, hB8⟩
                    · obtain ⟨i, rfl⟩ := Int.eq_ofNat_of_zero_le (show 0 ≤ N by omega)
                      have hit : i < ts.length := by omega
                      have hnegd : decide ((i : Int) < 0) = false := decide_eq_false hneg
                      obtain ⟨b, off, cap, u, hv, hbl, ⟨z0, z1, z2, z3, z4⟩, hu⟩ := (hy.below hB7).cells i hit
                      simp only [Value.slice.injEq, true_and] at hv
                      obtain ⟨rfl, rfl⟩ := hv
                      obtain ⟨a', cap', rfl, _⟩ := hu
                      have hit' : (i : Int) < ts.length := by omega
                      have hfi := (hF i hit)
                      have q0 := fun x : WC w7.heap.size w7 => (x.ok.cell (p := ⟨b, off + i * 5, none⟩) hbl).trans z0
                      have q1 := fun x : WC w7.heap.size w7 => (x.ok.cell (p := ⟨b, off + i * 5 + 1, none⟩) hbl).trans z1
                      have q2 := fun x : WC w7.heap.size w7 => (x.ok.cell (p := ⟨b, off + i * 5 + 2, none⟩) hbl).trans z2
                      have q3 := fun x : WC w7.heap.size w7 => (x.ok.cell (p := ⟨b, off + i * 5 + 3, none⟩) hbl).trans z3
                      have q4 := fun x : WC w7.heap.size w7 => (x.ok.cell (p := ⟨b, off + i * 5 + 4, none⟩) hbl).trans z4
                      clear z0 z1 z2 z3 z4
                      by_cases hle : lv < (tw ts (i : Int)).next.length
                      · have hlei : decide (((tw ts (i : Int)).next.length : Int) ≤ (lv : Int)) = false := decide_eq_false (by omega)
                        have hleN : decide ((tw ts (i : Int)).next.length ≤ lv) = false := decide_eq_false (by omega)
                        rcases ha with rfl | ⟨a0, a1, a2⟩
                        · have HGD : Hid (okAt ts lv (i : Int) ∧ ST = stp ts lv n (i : Int) (NX hs ts (i : Int) lv)) := HGOOD.out i rfl hit hle (.inl (by omega))
                          have hage : decide ((0 : Int) ≤ -1) = false := by decide
                          clear HBAD HGOOD
                          generalize tw ts (i : Int) = s at *
                          obtain ⟨sk, sn, sd, sv, sx⟩ := s
                          dsimp only at q0 q1 q2 q3 q4 hfi hle hlei hleN
                          go_wp2_with fail
                          refine wp_region_calm (B := w7.heap.size) (W := w7) (by kernel_rfl) (by kernel_rfl) (Below.refl _ _) ?_
                          repeat (go_big_quiet_step (fail))
                          refine wpQuiet_nil ?_
                          intro _ hw'
                          obtain ⟨x, hxx⟩ := hw'
                          subst hxx
                          have hB8 := below_then hB7 x.ok
                          have X8 := X7.below x.ok
                          have o8 := owns_below o7 x.ok
                          clear px q0 q1 q2 q3 q4 hne X7 o7 hB7
                          generalize x.w = w8 at *
                          clear x
                          go_wp2
                          go_roundw
                          case rel => exact ⟨n, (i : Int), by omega, by go_num, rfl, .inr HGD.out.1, HGD.out.2, X8, o8, hB8⟩
                          case measure => simp [intOf]
                        · obtain ⟨a, rfl⟩ := Int.eq_ofNat_of_zero_le a0
                          have hat : a < ts.length := by omega
                          have hat' : (a : Int) < ts.length := by omega
                          have hage : decide ((0 : Int) ≤ (a : Int)) = true := decide_eq_true a0
                          obtain ⟨b2, off2, cap2, u2, hv, _, ⟨z0, z1, z2, z3, z4⟩, hu2⟩ := (hy.below hB7).cells a hat
                          simp only [Value.slice.injEq, Option.some.injEq, Addr.mk.injEq, and_true, true_and] at hv
                          obtain ⟨⟨rfl, rfl⟩, rfl⟩ := hv
                          obtain ⟨a2', c2', rfl, _⟩ := hu2
                          have r0 := fun x : WC w7.heap.size w7 => (x.ok.cell (p := ⟨b, off + a * 5, none⟩) hbl).trans z0
                          have r1 := fun x : WC w7.heap.size w7 => (x.ok.cell (p := ⟨b, off + a * 5 + 1, none⟩) hbl).trans z1
                          have r2 := fun x : WC w7.heap.size w7 => (x.ok.cell (p := ⟨b, off + a * 5 + 2, none⟩) hbl).trans z2
                          have r3 := fun x : WC w7.heap.size w7 => (x.ok.cell (p := ⟨b, off + a * 5 + 3, none⟩) hbl).trans z3
                          have r4 := fun x : WC w7.heap.size w7 => (x.ok.cell (p := ⟨b, off + a * 5 + 4, none⟩) hbl).trans z4
                          clear z0 z1 z2 z3 z4
                          have KC := fun w => l4Compare_any (tw ts (a : Int)).key (tw ts (a : Int)).val (tw ts (i : Int)).key (tw ts (i : Int)).val (tw ts (a : Int)).seq (tw ts (a : Int)).kind (tw ts (i : Int)).seq (tw ts (i : Int)).kind w
                          have HCT : Hid (cT (tw ts (a : Int)) (tw ts (i : Int)) = cIt (tw ts (a : Int)).key (tw ts (i : Int)).key (tw ts (a : Int)).seq (tw ts (i : Int)).seq) := rfl
                          by_cases hc : cT (tw ts (a : Int)) (tw ts (i : Int)) < 0
                          · have HGD : Hid (okAt ts lv (i : Int) ∧ ST = stp ts lv n (i : Int) (NX hs ts (i : Int) lv)) := HGOOD.out i rfl hit hle (.inr hc)
                            rw [HCT.out] at hc
                            clear HBAD HGOOD HCT a2
                            generalize tw ts (i : Int) = s at *
                            generalize tw ts (a : Int) = o at *
                            obtain ⟨sk, sn, sd, sv, sx⟩ := s
                            obtain ⟨rk, rn, rd, rv, rx⟩ := o
                            dsimp only at q0 q1 q2 q3 q4 r0 r1 r2 r3 r4 hfi hle hlei hleN KC hc
                            generalize cIt rk sk rn sn = C at *
                            have hcd : decide ((0 : Int) ≤ C) = false := decide_eq_false (by omega)
                            go_wp2_with fail
                            refine wp_region_calm (B := w7.heap.size) (W := w7) (by kernel_rfl) (by kernel_rfl) (Below.refl _ _) ?_
                            repeat (go_big_quiet_step (first | (go_at_call 45; exact calm_of_below (Nat.le_refl _) (KC _))))
                            refine wpQuiet_nil ?_
                            intro _ hw'
                            obtain ⟨x, hxx⟩ := hw'
                            subst hxx
                            have hB8 := below_then hB7 x.ok
                            have X8 := X7.below x.ok
                            have o8 := owns_below o7 x.ok
                            clear px q0 q1 q2 q3 q4 r0 r1 r2 r3 r4 hne X7 o7 hB7
                            generalize x.w = w8 at *
                            clear x
                            go_wp2
                            go_roundw
                            case rel => exact ⟨n, (i : Int), by omega, by go_num, rfl, .inr HGD.out.1, HGD.out.2, X8, o8, hB8⟩
                            case measure => simp [intOf]
                          · have HN : Hid (¬ ∀ l', l' < 5 → LvG hs ts l') := HBAD.out (.inr (.inr ⟨by omega, by omega⟩))
                            rw [HCT.out] at hc
                            clear HBAD HGOOD HCT a2
                            generalize tw ts (i : Int) = s at *
                            generalize tw ts (a : Int) = o at *
                            obtain ⟨sk, sn, sd, sv, sx⟩ := s
                            obtain ⟨rk, rn, rd, rv, rx⟩ := o
                            dsimp only at q0 q1 q2 q3 q4 r0 r1 r2 r3 r4 hfi hle hlei hleN KC hc
                            generalize cIt rk sk rn sn = C at *
                            have hcd : decide ((0 : Int) ≤ C) = true := decide_eq_true (by omega)
                            go_wp2_with fail
                            refine wp_region_calm (B := w7.heap.size) (W := w7) (by kernel_rfl) (by kernel_rfl) (Below.refl _ _) ?_
                            repeat (go_big_quiet_step (first | (go_at_call 45; exact calm_of_below (Nat.le_refl _) (KC _))))
                            refine wpQuiet_nil ?_
                            intro _ hw'
                            obtain ⟨x, hxx⟩ := hw'
                            subst hxx
                            have hB8 := below_then hB7 x.ok
                            have X8 := X7.below x.ok
                            have o8 := owns_below o7 x.ok
                            clear px q0 q1 q2 q3 q4 r0 r1 r2 r3 r4 hne X7 o7 hB7
                            generalize x.w = w8 at *
                            clear x
                            go_wp2
                            go_ret
                            exact ⟨⟨false, rfl, by simp only [Bool.false_eq_true, false_iff]; exact fun h => HN.out h.2.2.2⟩, hB8⟩
                      · have HN : Hid (¬ ∀ l', l' < 5 → LvG hs ts l') := HBAD.out (.inr (.inl hle))
                        have hlei : decide (((tw ts (i : Int)).next.length : Int) ≤ (lv : Int)) = true := decide_eq_true (by omega)
                        have hleN : decide ((tw ts (i : Int)).next.length ≤ lv) = true := decide_eq_true (by omega)
                        clear HBAD HGOOD
                        generalize tw ts (i : Int) = s at *
                        obtain ⟨sk, sn, sd, sv, sx⟩ := s
                        dsimp only at q0 q1 q2 q3 q4 hfi hle hlei hleN
                        go_wp2_with fail
                        refine wp_region_calm (B := w7.heap.size) (W := w7) (by kernel_rfl) (by kernel_rfl) (Below.refl _ _) ?_
                        repeat (go_big_quiet_step (fail))
                        refine wpQuiet_nil ?_
                        intro _ hw'
                        obtain ⟨x, hxx⟩ := hw'
                        subst hxx
                        have hB8 := below_then hB7 x.ok
                        have X8 := X7.below x.ok
                        have o8 := owns_below o7 x.ok
                        clear px q0 q1 q2 q3 q4 hne X7 o7 hB7
                        generalize x.w = w8 at *
                        clear x
                        go_wp2
                        go_ret
                        exact ⟨⟨false, rfl, by simp only [Bool.false_eq_true, false_iff]; exact fun h => HN.out h.2.2.2⟩, hB8⟩
              · rw [show (decide (-1 ≤ h) && decide (h ≤ (ts.length : Int) - 1)) = false from by
                  by_cases h1 : -1 ≤ h
                  · rw [decide_eq_false (fun h2 => hq ⟨h1, h2⟩)]; simp
                  · rw [decide_eq_false h1]; rfl] at K1
                have HN : Hid (¬ ∀ l', l' < 5 → LvG hs ts l') := HW.out fun h' => hq (HG.out.1 h').1
                clear HRG HG hq HNH HS HW
                generalize reach ts lv = R at *
                go_wp2_with fail
                go_quiet ((first | (go_at_call 63; exact Calls.quiet_of_same (K1 _))))
                go_wp2
                go_ret
                exact ⟨⟨false, rfl, by simp only [Bool.false_eq_true, false_iff]; exact fun h => HN.out h.2.2.2⟩, below_drewN hb _⟩
            · obtain rfl : lv = 5 := by omega
              go_wp2
              go_ret
              exact ⟨⟨true, rfl, by simp only [true_iff]; exact ⟨by simp, h60, HA.out, HL.out⟩⟩, hb⟩
    · have h60' : (60 : Int) < ts.length := by omega
      rw [h5]
      clear hf
      go_enter Tryd.func25, Tryd.ntmps25
      go_wp2
      go_ret
      exact ⟨⟨false, rfl, by simp; omega⟩, below_alloc _ _⟩
  · have h5' : ¬ (hs.length : Int) = 5 := by omega
    clear hf
    go_enter Tryd.func25, Tryd.ntmps25
    go_wp2
    go_ret
    exact ⟨⟨false, rfl, by simp [h5]⟩, below_alloc _ _⟩
end Go.Proofs.YtdaldkcildbcmaaDoor
