/-
  slices.CompactFunc over items, walked.
-/
import Derived.Test.YtcjkdkaahkphfaaZ9
import Derived.Test.YtcjkdkaahkphfaaH9
namespace Go.Proofs.Ytcjkdkaahkphfaa
open Go.RowKit
set_option linter.unusedVariables false
set_option maxRecDepth 100000

theorem owns_cap {w : World} {base : Nat} {e : TypeId} {size g cap n : Nat} {xs : List Value} (h : w.ownsRow base e size (.slice (some ⟨g, 0, none⟩) n cap) n xs) : n ≤ cap := by
  rcases h.2 with ⟨h1, _⟩ | ⟨g', c, cur, h1, h2, h3, h4, _⟩
  · simp at h1
  · simp only [Value.slice.injEq, Option.some.injEq, Addr.mk.injEq, and_true, true_and] at h1
    obtain ⟨rfl, rfl⟩ := h1
    exact h4
theorem owns_it {w : World} {base g cap : Nat} {L : List It} (h : w.ownsRow base 68 4 (.slice (some ⟨g, 0, none⟩) L.length cap) L.length (flat4 L)) (j : Nat) (hj : j < L.length) :
    w.cell? ⟨g, j * 4, none⟩ = some (.string L[j].k) ∧ w.cell? ⟨g, j * 4 + 1, none⟩ = some (.int .i64 L[j].n) ∧ w.cell? ⟨g, j * 4 + 2, none⟩ = some (.int .i64 L[j].d) ∧ w.cell? ⟨g, j * 4 + 3, none⟩ = some (.string L[j].v) := by
  obtain ⟨g0, g1, g2, g3⟩ := flat4_get L j hj
  exact ⟨(h.cellAt _ (by omega)).trans g0, (h.cellAt _ (by omega)).trans g1, (h.cellAt _ (by omega)).trans g2, (h.cellAt _ (by omega)).trans g3⟩

set_option maxHeartbeats 8000000 in
theorem compact_long (g cap base : Nat) (xs : List It) (w : World) (ho : w.ownsRow base 68 4 (.slice (some ⟨g, 0, none⟩) xs.length cap) xs.length (flat4 xs)) (hn : xs.length ≤ 400) (h2 : 2 ≤ xs.length) :
    Calls Try.prog 38 #[.slice (some ⟨g, 0, none⟩) xs.length cap, .func (.func 40) #[] #[]] w fun e w' => ∃ u, e = .returned u ∧ w'.ownsRow base 68 4 u (cmpL xs).length (flat4 (cmpL xs)) ∧ Chg (· = g) w w' := by
  have hcap := owns_cap ho
  have SI := fun (a b : It) w => sameItem_any a.k a.v b.k b.v a.n a.d b.n b.d w
  go_enter Try.func38, Try.ntmps38
  go_wp2
  go_loopw [5] (fun i wr => ∃ k : Nat, 1 ≤ k ∧ k ≤ xs.length ∧ i = .int .i64 k ∧ (∀ j (h : j < xs.length), 1 ≤ j → j < k → sm xs[j] (xs[j - 1]'(by omega)) = false) ∧ wr.ownsRow base 68 4 (.slice (some ⟨g, 0, none⟩) xs.length cap) xs.length (flat4 xs) ∧ Chg (· = g) w wr) (fun i _ => xs.length - (intOf i).toNat)
  case atStart => exact ⟨1, Nat.le_refl _, by omega, rfl, fun j h h1 h2 => by omega, ho, Chg.refl _ _⟩
  case round =>
    clear ho
    obtain ⟨k, h1, hk, rfl, hun, hown, hch⟩ := hrel
    have hgl := (owns_lt hown).2
    by_cases hlt : k < xs.length
    · obtain ⟨x0, x1, x2, x3⟩ := owns_it hown k hlt
      obtain ⟨y0, y1, y2, y3⟩ := owns_it hown (k - 1) (by omega)
      have SX := fun w => SI xs[k] (xs[k - 1]'(by omega)) w
      have HSM : Hid (∀ j, j = k → (h : j < xs.length) → sm xs[j] (xs[j - 1]'(by omega)) = sm xs[k] (xs[k - 1]'(by omega))) := fun j e h => by subst e; rfl
      obtain ⟨a, HA⟩ : ∃ a, Hid (xs[k] = a) := ⟨xs[k], rfl⟩
      obtain ⟨b, HB⟩ : ∃ b, Hid (xs[k - 1]'(by omega) = b) := ⟨xs[k - 1]'(by omega), rfl⟩
      rw [HA.out] at x0 x1 x2 x3 SX
      rw [HB.out] at y0 y1 y2 y3 SX
      have HE : Hid (sm xs[k] (xs[k - 1]'(by omega)) = sm a b) := by show _ = _; rw [HA.out, HB.out]
      generalize sm a b = sb at *
      obtain ⟨k', rfl⟩ : ∃ k', k = k' + 1 := ⟨k - 1, by omega⟩
      rw [Nat.add_sub_cancel] at y0 y1 y2 y3
      have hgx := fun x : WC wr.heap.size wr => Nat.lt_of_lt_of_le hgl x.ok.size
      have X0 := fun x : WC wr.heap.size wr => (x.ok.cell (p := ⟨g, (k' + 1) * 4, none⟩) hgl).trans x0
      have X1 := fun x : WC wr.heap.size wr => (x.ok.cell (p := ⟨g, (k' + 1) * 4 + 1, none⟩) hgl).trans x1
      have X2 := fun x : WC wr.heap.size wr => (x.ok.cell (p := ⟨g, (k' + 1) * 4 + 2, none⟩) hgl).trans x2
      have X3 := fun x : WC wr.heap.size wr => (x.ok.cell (p := ⟨g, (k' + 1) * 4 + 3, none⟩) hgl).trans x3
      have Y0 := fun x : WC wr.heap.size wr => (x.ok.cell (p := ⟨g, k' * 4, none⟩) hgl).trans y0
      have Y1 := fun x : WC wr.heap.size wr => (x.ok.cell (p := ⟨g, k' * 4 + 1, none⟩) hgl).trans y1
      have Y2 := fun x : WC wr.heap.size wr => (x.ok.cell (p := ⟨g, k' * 4 + 2, none⟩) hgl).trans y2
      have Y3 := fun x : WC wr.heap.size wr => (x.ok.cell (p := ⟨g, k' * 4 + 3, none⟩) hgl).trans y3
      have hne : Nonempty (WC wr.heap.size wr) := ⟨⟨_, Below.refl _ _⟩⟩
      clear x0 x1 x2 x3 y0 y1 y2 y3
      obtain ⟨ak, an, ad, av⟩ := a
      obtain ⟨bk, bn, bd, bv⟩ := b
      dsimp only at X0 X1 X2 X3 Y0 Y1 Y2 Y3 SX
      go_wp2_with fail
      refine wp_region_calm (B := wr.heap.size) (W := wr) (by kernel_rfl) (by kernel_rfl) (Below.refl _ _) ?_
      repeat (go_big_quiet_step (first | (go_at_call 40; with_reducible exact calm_of_below (Nat.le_refl _) (SX _))))
      refine wpQuiet_nil ?_
      intro _ hw'
      obtain ⟨x, hx⟩ := hw'
      subst hx
      have hown2 := owns_below hown x.ok
      have hch2 := hch.trans (Chg.of_below x.ok)
      have hgl2 := (owns_lt hown2).2
      clear X0 X1 X2 X3 Y0 Y1 Y2 Y3 SX hgx hne HA HB hown hch
      generalize x.w = w3 at *
      clear x
      cases sb with
      | false =>
        clear SI
        go_wp2
        go_roundw
        case rel => exact ⟨k' + 1 + 1, by omega, by omega, by go_num, fun j h e1 e2 => by
          by_cases e : j = k' + 1
          · rw [HSM.out j e h]; exact HE.out
          · exact hun j h e1 (by omega), hown2, hch2⟩
        case measure => simp [intOf]; omega
      | true =>
        have HCP : Hid (cpTo xs (k' + 1) = xs.take (k' + 1)) := cp_take xs (k' + 1) (by omega) hun
        have HC1 := arrC_skip xs (k' + 1) hlt (by omega) HE.out
        have HSL : Hid ((cpTo xs (k' + 1 + 1)).length = k' + 1) := by show _ = _; rw [HC1.2, HCP.out, List.length_take]; omega
        have HAR : Hid (arrC xs (k' + 1 + 1) = xs) := by show _ = _; rw [HC1.1]; unfold arrC; rw [HCP.out, List.length_take, Nat.min_eq_left (by omega), List.take_append_drop]
        clear HC1 HCP HSM HE hun
        go_wp2
        go_loopw [5, 7] (fun c i wr => ∃ k2 : Nat, 1 ≤ k2 ∧ k' + 1 + k2 ≤ xs.length ∧ i = .int .i64 k2 ∧ c = .int .i64 ((cpTo xs (k' + 1 + k2)).length : Nat) ∧ (cpTo xs (k' + 1 + k2)).length ≤ k' + k2 ∧ wr.ownsRow base 68 4 (.slice (some ⟨g, 0, none⟩) xs.length cap) xs.length (flat4 (arrC xs (k' + 1 + k2))) ∧ Chg (· = g) w wr) (fun _ i _ => xs.length - (intOf i).toNat)
        case atStart => exact ⟨1, Nat.le_refl _, by omega, rfl, by rw [HSL.out], by rw [HSL.out]; omega, by rw [HAR.out]; exact hown2, hch2⟩
        case round =>
          clear hown2 hch2 hgl2 HSL HAR
          obtain ⟨k2, g1, gk, rfl, rfl, hcl, hown, hch⟩ := hrel
          have hgl := (owns_lt hown).2
          obtain ⟨c, HC⟩ : ∃ c, Hid ((cpTo xs (k' + 1 + k2)).length = c) := ⟨(cpTo xs (k' + 1 + k2)).length, rfl⟩
          rw [HC.out] at hcl ⊢
          by_cases hlt2 : k' + 1 + k2 < xs.length
          · have HL : (arrC xs (k' + 1 + k2)).length = xs.length := arrC_len xs _ (by omega)
            have EA := arrC_at xs (k' + 1 + k2) (k' + 1 + k2) (by rw [HC.out]; omega) hlt2
            have EB := arrC_at xs (k' + 1 + k2) (k' + k2) (by rw [HC.out]; omega) (by omega)
            obtain ⟨m, rfl⟩ : ∃ m, k2 = m + 1 := ⟨k2 - 1, by omega⟩
            have hownL : wr.ownsRow base 68 4 (.slice (some ⟨g, 0, none⟩) (arrC xs (k' + 1 + (m + 1))).length cap) (arrC xs (k' + 1 + (m + 1))).length (flat4 (arrC xs (k' + 1 + (m + 1)))) := by rw [HL]; exact hown
            obtain ⟨x0, x1, x2, x3⟩ := owns_it hownL (k' + 1 + (m + 1)) (by omega)
            obtain ⟨y0, y1, y2, y3⟩ := owns_it hownL (k' + (m + 1)) (by omega)
            rw [(List.getElem_eq_iff _).2 EA] at x0 x1 x2 x3
            rw [(List.getElem_eq_iff _).2 EB] at y0 y1 y2 y3
            have SX := fun w => SI xs[k' + 1 + (m + 1)] (xs[k' + (m + 1)]'(by omega)) w
            have HP := arrC_put xs (k' + 1 + (m + 1)) hlt2 (by omega)
            have HK := arrC_skip xs (k' + 1 + (m + 1)) hlt2 (by omega)
            have ei : xs[k' + 1 + (m + 1) - 1]'(by omega) = xs[k' + (m + 1)]'(by omega) := by congr 1; omega
            rw [ei] at HP HK
            rw [HC.out] at HP
            rw [show (k' + 1 + (m + 1)) * 4 = (k' + 1) * 4 + (m + 1) * 4 from by omega] at x0 x1 x2 x3
            rw [show (k' + (m + 1)) * 4 = (k' + 1) * 4 + m * 4 from by omega] at y0 y1 y2 y3
            have HF := flat4_set (arrC xs (k' + 1 + (m + 1))) c xs[k' + 1 + (m + 1)]
            generalize xs[k' + 1 + (m + 1)] = a at *
            generalize xs[k' + (m + 1)]'(by omega) = b at *
            clear EA EB ei hownL HL
            generalize sm a b = sb at *
            obtain ⟨ak, an, ad, av⟩ := a
            obtain ⟨bk, bn, bd, bv⟩ := b
            dsimp only at x0 x1 x2 x3 y0 y1 y2 y3 SX HF
            have HHP : Hid _ := HP
            have HHK : Hid _ := HK
            have HHF : Hid _ := HF
            clear HP HK HF
            have X0 := fun x : WC wr.heap.size wr => (x.ok.cell (p := ⟨g, (k' + 1) * 4 + (m + 1) * 4, none⟩) hgl).trans x0
            have X1 := fun x : WC wr.heap.size wr => (x.ok.cell (p := ⟨g, (k' + 1) * 4 + (m + 1) * 4 + 1, none⟩) hgl).trans x1
            have X2 := fun x : WC wr.heap.size wr => (x.ok.cell (p := ⟨g, (k' + 1) * 4 + (m + 1) * 4 + 2, none⟩) hgl).trans x2
            have X3 := fun x : WC wr.heap.size wr => (x.ok.cell (p := ⟨g, (k' + 1) * 4 + (m + 1) * 4 + 3, none⟩) hgl).trans x3
            have Y0 := fun x : WC wr.heap.size wr => (x.ok.cell (p := ⟨g, (k' + 1) * 4 + m * 4, none⟩) hgl).trans y0
            have Y1 := fun x : WC wr.heap.size wr => (x.ok.cell (p := ⟨g, (k' + 1) * 4 + m * 4 + 1, none⟩) hgl).trans y1
            have Y2 := fun x : WC wr.heap.size wr => (x.ok.cell (p := ⟨g, (k' + 1) * 4 + m * 4 + 2, none⟩) hgl).trans y2
            have Y3 := fun x : WC wr.heap.size wr => (x.ok.cell (p := ⟨g, (k' + 1) * 4 + m * 4 + 3, none⟩) hgl).trans y3
            have hne : Nonempty (WC wr.heap.size wr) := ⟨⟨_, Below.refl _ _⟩⟩
            clear y0 y1 y2 y3
            go_wp2_with fail
            refine wp_region_calm (B := wr.heap.size) (W := wr) (by kernel_rfl) (by kernel_rfl) (Below.refl _ _) ?_
            repeat (go_big_quiet_step (first | (go_at_call 40; with_reducible exact calm_of_below (Nat.le_refl _) (SX _))))
            refine wpQuiet_nil ?_
            intro _ hw'
            obtain ⟨x, hx⟩ := hw'
            subst hx
            have hown2 := owns_below hown x.ok
            have hch2 := hch.trans (Chg.of_below x.ok)
            have hgl2 := (owns_lt hown2).2
            have z0 := X0 x
            have z1 := X1 x
            have z2 := X2 x
            have z3 := X3 x
            clear X0 X1 X2 X3 Y0 Y1 Y2 Y3 SX hne hown hch x0 x1 x2 x3
            generalize x.w = w3 at *
            clear x SI
            cases sb with
            | true =>
              have HH := HHK.out rfl
              go_wp2
              go_roundw
              case rel => exact ⟨m + 1 + 1, by omega, by omega, by go_num, by rw [show k' + 1 + (m + 1 + 1) = k' + 1 + (m + 1) + 1 from by omega, HH.2, HC.out], by rw [show k' + 1 + (m + 1 + 1) = k' + 1 + (m + 1) + 1 from by omega, HH.2, HC.out]; omega, by rw [show k' + 1 + (m + 1 + 1) = k' + 1 + (m + 1) + 1 from by omega, HH.1]; exact hown2, hch2⟩
              case measure => simp [intOf]; omega
            | false =>
              obtain ⟨⟨u4, d4⟩, f4⟩ := owns4_at hown2 c (by omega) 0 (by omega)
              obtain ⟨⟨u5, d5⟩, f5⟩ := owns4_at hown2 c (by omega) 1 (by omega)
              obtain ⟨⟨u6, d6⟩, f6⟩ := owns4_at hown2 c (by omega) 2 (by omega)
              obtain ⟨⟨u7, d7⟩, f7⟩ := owns4_at hown2 c (by omega) 3 (by omega)
              rw [Nat.add_zero] at d4 f4
              have HO := ((((hown2.stored (c * 4) (.string ak)).1.stored (c * 4 + 1) (.int .i64 an)).1.stored (c * 4 + 2) (.int .i64 ad)).1.stored (c * 4 + 3) (.string av)).1
              have HH := HHP.out rfl
              rw [HHF.out, HH.1] at HO
              have CC := (((hch2.setCell (p := ⟨g, c * 4, none⟩) rfl (.string ak)).setCell (p := ⟨g, c * 4 + 1, none⟩) rfl (.int .i64 an)).setCell (p := ⟨g, c * 4 + 2, none⟩) rfl (.int .i64 ad)).setCell (p := ⟨g, c * 4 + 3, none⟩) rfl (.string av)
              have HE2 : Hid ((cpTo xs (k' + 1 + (m + 1) + 1)).length = c + 1) := HH.2
              have HHO : Hid _ := HO
              clear HHK HHP HHF HH HO hown2 hch2
              go_wp2
              go_roundw
              case rel => exact ⟨m + 1 + 1, by omega, by omega, by go_num, by rw [show k' + 1 + (m + 1 + 1) = k' + 1 + (m + 1) + 1 from by omega, HE2.out]; go_num, by rw [show k' + 1 + (m + 1 + 1) = k' + 1 + (m + 1) + 1 from by omega, HE2.out]; omega, by rw [show k' + 1 + (m + 1 + 1) = k' + 1 + (m + 1) + 1 from by omega]; exact HHO.out, CC⟩
              case measure => simp [intOf]; omega
          · have hE : k' + 1 + k2 = xs.length := by omega
            rw [hE] at hown HC
            have HL : (arrC xs xs.length).length = xs.length := arrC_len xs _ (Nat.le_refl _)
            have hown1 := owns_take (m := c) hown (by omega)
            rw [flat4_take] at hown1
            have HT : (arrC xs xs.length).take c = cmpL xs := by
              unfold arrC; rw [HC.out, List.take_left' HC.out]; rfl
            rw [HT] at hown1
            have HC2 : (cmpL xs).length = c := HC.out
            have hcells : ∀ j, j < (xs.length - c) * 4 → (wr.cell? ⟨g, c * 4 + j, none⟩).isSome = true := fun j hj => by
              have h1 := hown.1
              rw [hown.cellAt (c * 4 + j) (by omega)]
              rw [List.getElem?_eq_getElem (by omega)]; rfl
            obtain ⟨vs, hrun⟩ := run_clear_items wr 0 g (c * 4) (xs.length - c) (cap - c) (by omega) hcells (fun j => hown.frozenAt j)
            obtain ⟨ho2, hc2⟩ := owns_behind vs (c * 4) wr (by have := hown1.1; omega) hown1
            have hch3 := hch.trans hc2
            clear hcells HT HL SI hown1 hc2 hch hown
            go_wp2
            go_ret
            exact ⟨_, rfl, by rw [HC2]; exact ho2, hch3⟩
    · obtain rfl : k = xs.length := by omega
      have HCP : Hid (cmpL xs = xs) := by show cpTo xs xs.length = xs; rw [cp_take xs xs.length (Nat.le_refl _) hun, List.take_length]
      clear hun SI
      go_wp2
      go_ret
      exact ⟨_, rfl, by rw [HCP.out]; exact hown, hch⟩

set_option maxHeartbeats 2000000 in
theorem compact_any (v : Value) (base : Nat) (xs : List It) (w : World) (ho : w.ownsRow base 68 4 v xs.length (flat4 xs)) (hn : xs.length ≤ 400) (hB : base ≤ w.heap.size) :
    Calls Try.prog 38 #[v, .func (.func 40) #[] #[]] w fun e w' => ∃ u, e = .returned u ∧ w'.ownsRow base 68 4 u (cmpL xs).length (flat4 (cmpL xs)) ∧ Below base w w' := by
  by_cases h2 : 2 ≤ xs.length
  · rcases ho.2 with ⟨_, h0⟩ | ⟨g, cap, cur, rfl, hbg, _⟩
    · omega
    · refine (compact_long g cap base xs w ho hn h2).mono ?_
      rintro e w' ⟨u, rfl, h3, h4⟩
      exact ⟨u, rfl, h3, h4.below hB (fun k hk => by omega)⟩
  · have HC : Hid (cmpL xs = xs) := by
      show cmpL xs = xs
      match xs, h2 with
      | [], _ => rfl
      | [x], _ => simp [cmpL, cpTo]
      | _ :: _ :: _, h => simp at h
    obtain ⟨a, c, rfl, _⟩ := IR_of_owns ho rfl
    go_enter Try.func38, Try.ntmps38
    go_wp2
    go_ret
    exact ⟨_, rfl, by rw [HC.out]; exact ho, Below.refl _ _⟩
end Go.Proofs.Ytcjkdkaahkphfaa
