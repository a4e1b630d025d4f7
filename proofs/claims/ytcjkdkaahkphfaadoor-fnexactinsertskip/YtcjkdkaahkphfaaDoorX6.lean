/-
  A list held against its marks; marks of a list with heads and towers.
-/
import Derived.Test.YtcjkdkaahkphfaaDoorX5
namespace Go.Proofs.YtcjkdkaahkphfaaDoor
open Go.RowKit
set_option linter.unusedVariables false
set_option maxRecDepth 100000

set_option maxHeartbeats 8000000 in
theorem heldTowers_own (gT c base : Nat) (H : List Int) (T : List Tw) (g1 c1 : Nat) (gs cs : List Nat) (k : Int) (w : World) (h : OwnS w base H (mkTs T k) (.slice (some ⟨gT, 0, none⟩) T.length c) g1 c1 gs cs) (hn : T.length ≤ 1000) (hx : ∀ i (hi : i < T.length), T[i].next.length ≤ 5) (hk1 : 1 ≤ k) (hk : k ≤ 1000) :
    Calls Tryd.prog 34 #[.slice (some ⟨gT, 0, none⟩) T.length c, .int .i64 k] w fun e w' => e = .returned (.int .i64 (mkTe T k)) ∧ Below w.heap.size w w' := by
  have HLE : Hid (∀ j, j ≤ T.length → k ≤ mkTe (T.take j) k ∧ mkTe (T.take j) k ≤ k + 9 * (j : Int)) := mkTe_le T k hx
  have HX : Hid (∀ i (hi : i < T.length), T[i].next.length ≤ 5) := hx
  clear hx
  have hgl := h.len
  have hcl := h.room
  rw [mkTs_len] at hgl
  have HGL : Hid (gs.length = T.length) := hgl
  have HCL : Hid (cs.length = gs.length) := hcl
  clear hgl hcl
  go_enter Tryd.func34, Tryd.ntmps34
  go_wp2
  go_loopw [1, 5] (fun t i wr => ∃ j : Nat, j ≤ T.length ∧ i = .int .i64 j ∧ t = .int .i64 (mkTe (T.take j) k) ∧ Below w.heap.size w wr) (fun _ i _ => T.length - (intOf i).toNat)
  case atStart => exact ⟨0, Nat.zero_le _, rfl, by simp [mkTe], Below.refl _ _⟩
  case round =>
    obtain ⟨j, hj, rfl, rfl, hb⟩ := hrel
    by_cases hlt : j < T.length
    · obtain ⟨m, hm⟩ : ∃ m, m = mkTe (T.take j) k := ⟨_, rfl⟩
      have HLj := HLE.out j hj
      rw [← hm] at HLj ⊢
      have HE : Hid (mkTe (T.take (j + 1)) k = m + 1 + 1 + 1 + 1 + T[j].next.length) := by show _ = _; rw [mkTe_succ T k j hlt, ← hm]
      have hTl := mkTs_len T k
      have hgl := HGL.out
      have hcl := HCL.out
      have hat := (List.getElem_eq_iff (show j < (mkTs T k).length by omega)).2 (mkTs_at T k j hlt)
      have h5 := HX.out j hlt
      obtain ⟨_, hgTe, hnT, hgTl, c0, c1', c2, c3, c4⟩ := h.cells j (by omega) (by omega) (by omega)
      simp only [Option.some.injEq, Addr.mk.injEq, and_true] at hgTe
      subst hgTe
      have lk := h.lnk j (by omega) (by omega) (by omega)
      rw [hat, ← hm] at c0 c1' c2 c3 c4 lk
      have BX := box_of_owns lk
      unfold lnkV at c4
      have hll : (mkTw T[j] m).next.length = T[j].next.length := mkZ_len _ _
      rw [hll] at c4
      have BX2 : Box w (gs[j]'(by omega)) (mkI (m + 1 + 1 + 1 + 1) T[j].next.length) := by rw [← mkZ_map]; exact BX
      clear BX lk hat hll hnT hm
      unfold mkTw at c0 c1' c2 c3
      dsimp only at c0 c1' c2 c3
      generalize gs[j]'(by omega) = gj at *
      generalize cs[j]'(by omega) = cj at *
      clear hgl hcl hTl
      generalize T[j].next.length = nl at *
      have hz := hb.size
      have hbW : gT < wr.heap.size := by omega
      have BX3 := BX2.below hb
      replace c0 := (hb.cell (p := ⟨gT, j * 5, none⟩) hgTl).trans c0
      replace c1' := (hb.cell (p := ⟨gT, j * 5 + 1, none⟩) hgTl).trans c1'
      replace c2 := (hb.cell (p := ⟨gT, j * 5 + 2, none⟩) hgTl).trans c2
      replace c3 := (hb.cell (p := ⟨gT, j * 5 + 3, none⟩) hgTl).trans c3
      replace c4 := (hb.cell (p := ⟨gT, j * 5 + 4, none⟩) hgTl).trans c4
      clear BX2
      have KA := fun w => markText_any m w (by omega) (by omega)
      have KB := fun w => markText_any (m + 1 + 1 + 1) w (by omega) (by omega)
      generalize mkT m = t1 at *
      generalize mkT (m + 1 + 1 + 1) = t2 at *
      have q0 := fun x : WC wr.heap.size wr => (x.ok.cell (p := ⟨gT, j * 5, none⟩) hbW).trans c0
      have hne : Nonempty (WC wr.heap.size wr) := ⟨⟨_, Below.refl _ _⟩⟩
      go_wp2_with fail
      refine wp_region_calm (B := wr.heap.size) (W := wr) (by kernel_rfl) (by kernel_rfl) (Below.refl _ _) ?_
      repeat (go_big_quiet_step (first | (go_at_call 57; with_reducible exact calm_of_below (Nat.le_refl _) (KA _))))
      refine wpQuiet_nil ?_
      intro _ hw'
      obtain ⟨x, hxx⟩ := hw'
      subst hxx
      have hB1 := hb.trans (x.ok.mono hz)
      replace c1' := (x.ok.cell (p := ⟨gT, j * 5 + 1, none⟩) hbW).trans c1'
      replace c2 := (x.ok.cell (p := ⟨gT, j * 5 + 2, none⟩) hbW).trans c2
      replace c3 := (x.ok.cell (p := ⟨gT, j * 5 + 3, none⟩) hbW).trans c3
      replace c4 := (x.ok.cell (p := ⟨gT, j * 5 + 4, none⟩) hbW).trans c4
      have BX4 := BX3.below x.ok
      have hzx := x.ok.size
      clear KA q0 hne c0 hb BX3
      generalize x.w = w1 at *
      clear x
      have hbW1 : gT < w1.heap.size := by omega
      have q3 := fun x : WC w1.heap.size w1 => (x.ok.cell (p := ⟨gT, j * 5 + 3, none⟩) hbW1).trans c3
      have hne : Nonempty (WC w1.heap.size w1) := ⟨⟨_, Below.refl _ _⟩⟩
      go_wp2_with fail
      refine wp_region_calm (B := w1.heap.size) (W := w1) (by kernel_rfl) (by kernel_rfl) (Below.refl _ _) ?_
      repeat (go_big_quiet_step (first | (go_at_call 57; with_reducible exact calm_of_below (Nat.le_refl _) (KB _))))
      refine wpQuiet_nil ?_
      intro _ hw'
      obtain ⟨x, hxx⟩ := hw'
      subst hxx
      have hB2 := hB1.trans (x.ok.mono (by omega))
      replace c4 := (x.ok.cell (p := ⟨gT, j * 5 + 4, none⟩) hbW1).trans c4
      have BX5 := BX4.below x.ok
      have hz2 := x.ok.size
      clear KB q3 hne c1' c2 c3 hB1 BX4
      generalize x.w = w2 at *
      clear x
      have hbW2 : gT < w2.heap.size := by omega
      have KH := heldIntS_any gj cj nl (m + 1 + 1 + 1 + 1) w2 BX5 (by omega) (by omega) (by omega)
      clear BX5
      go_wp2_with fail
      refine KH.mono ?_
      rintro e w3 ⟨rfl, hw⟩
      rw [hw]; clear hw KH
      have hm0 : ¬ m + 1 + 1 + 1 + 1 + (nl : Int) < 0 := by omega
      go_wp2
      go_roundw
      case rel => exact ⟨j + 1, by omega, by go_num, by rw [HE.out], hB2⟩
      case measure => simp [intOf]; omega
    · obtain rfl : j = T.length := by omega
      rw [List.take_length]
      go_wp2
      go_ret
      exact ⟨rfl, hb⟩

/-- The heads marked, then the towers. -/
def mkH (H : List Int) : List Int := mkZ 1 H.length
theorem OwnS.setH {w w' : World} {base : Nat} {H H' : List Int} {T : List Tw} {vT : Value} {g1 c1 : Nat} {gs cs : List Nat} (h : OwnS w base H T vT g1 c1 gs cs) (c : Chg (· = g1) w w') (ho : w'.ownsRow base 3 1 (.slice (some ⟨g1, 0, none⟩) H'.length c1) H'.length (H'.map (.int .i64))) : OwnS w' base H' T vT g1 c1 gs cs :=
  ⟨h.len, h.room, c.owns h.rows (fun b hb e => (h.d1 b hb).2 e), fun i i1 i2 i3 => c.owns (h.lnk i i1 i2 i3) (fun b hb e => by
    have eb : b = gs[i] := blk_eq hb
    exact h.d2 (by rw [← (show b = g1 from e), eb]; exact List.getElem_mem _)), h.nd, ho, h.d1, h.d2⟩

set_option maxHeartbeats 4000000 in
theorem markSkip_own (gT c base : Nat) (H : List Int) (T : List Tw) (g1 c1 : Nat) (gs cs : List Nat) (w : World) (h : OwnS w base H T (.slice (some ⟨gT, 0, none⟩) T.length c) g1 c1 gs cs) (hh : H.length = 5) (hn : T.length ≤ 1000) (hx : ∀ i (hi : i < T.length), T[i].next.length ≤ 5) :
    Calls Tryd.prog 11 #[.agg #[.slice (some ⟨g1, 0, none⟩) H.length c1, .slice (some ⟨gT, 0, none⟩) T.length c], .int .i64 1] w fun e w' => e = .returned (.int .i64 (mkTe T 6)) ∧ OwnS w' base (mkH H) (mkTs T 6) (.slice (some ⟨gT, 0, none⟩) T.length c) g1 c1 gs cs ∧ Chg (fun b => b = g1 ∨ b = gT ∨ b ∈ gs) w w' := by
  obtain ⟨l1, l2, l3⟩ := h.lt
  have hgT := l3 gT rfl
  have hb0 := below_alloc w (.cells #[.slice (some ⟨g1, 0, none⟩) H.length c1, .slice (some ⟨gT, 0, none⟩) T.length c] 32)
  have X0 := Box.new w #[.slice (some ⟨g1, 0, none⟩) H.length c1, .slice (some ⟨gT, 0, none⟩) T.length c] 32
  have S0 := h.below hb0
  have HH5 : Hid (H.length = 5) := hh
  have KM := markInts_own g1 c1 base H.length _ 1 _ S0.head (by omega) (by omega) (by omega)
  have HMH : Hid (∀ W : World, W.ownsRow base 3 1 (.slice (some ⟨g1, 0, none⟩) H.length c1) H.length (mkI 1 H.length) → W.ownsRow base 3 1 (.slice (some ⟨g1, 0, none⟩) (mkH H).length c1) (mkH H).length ((mkH H).map (.int .i64))) := fun W hW => by unfold mkH; rw [mkZ_len, mkZ_map]; exact hW
  clear h hh
  go_enter Tryd.func11, Tryd.ntmps11
  go_wp2_with fail
  refine KM.mono ?_
  rintro e w1 ⟨rfl, o1, hc1⟩
  have S1 := S0.setH hc1 (HMH.out w1 o1)
  have X1 := hc1.box X0 (by omega)
  have C1 : Chg (fun b => b = g1 ∨ b = gT ∨ b ∈ gs) w w1 := (Chg.of_below hb0).trans (hc1.mono (fun b e => .inl e))
  clear S0 X0 KM o1 hc1 hb0 HMH
  have K6 : Hid ((1 : Int) + (H.length : Int) = 6) := by have := HH5.out; show _ = _; omega
  obtain ⟨_, x0, x1⟩ := X1.c2
  rw [K6.out]
  go_wp2_with fail
  refine (markTowers_own gT c base _ T g1 c1 gs cs 6 _ S1 hn hx (by omega) (by omega)).mono ?_
  rintro e w2 ⟨rfl, S2, hc2⟩
  have C2 := C1.trans (hc2.mono (fun b e => .inr e))
  clear S1 C1 hc2 x0 x1
  go_wp2
  go_ret
  exact ⟨rfl, S2, C2⟩
set_option maxHeartbeats 4000000 in
theorem heldSkip_own (gT c base : Nat) (H : List Int) (T : List Tw) (g1 c1 : Nat) (gs cs : List Nat) (w : World) (h : OwnS w base (mkH H) (mkTs T 6) (.slice (some ⟨gT, 0, none⟩) T.length c) g1 c1 gs cs) (hh : H.length = 5) (hn : T.length ≤ 1000) (hx : ∀ i (hi : i < T.length), T[i].next.length ≤ 5) :
    Calls Tryd.prog 12 #[.agg #[.slice (some ⟨g1, 0, none⟩) H.length c1, .slice (some ⟨gT, 0, none⟩) T.length c], .int .i64 1] w fun e w' => e = .returned (.int .i64 (mkTe T 6)) ∧ Below w.heap.size w w' := by
  have hb0 := below_alloc w (.cells #[.slice (some ⟨g1, 0, none⟩) H.length c1, .slice (some ⟨gT, 0, none⟩) T.length c] 32)
  have X0 := Box.new w #[.slice (some ⟨g1, 0, none⟩) H.length c1, .slice (some ⟨gT, 0, none⟩) T.length c] 32
  have S0 := h.below hb0
  have HH5 : Hid (H.length = 5) := hh
  have BH := box_of_owns S0.head
  unfold mkH at BH
  rw [mkZ_map] at BH
  have KM := heldIntS_any g1 c1 H.length 1 _ BH (by omega) (by omega) (by omega)
  have hle := mkTe_le T 6 hx T.length (Nat.le_refl _)
  rw [List.take_length] at hle
  have hm0 : ¬ mkTe T 6 < 0 := by omega
  clear h hh BH
  go_enter Tryd.func12, Tryd.ntmps12
  go_wp2_with fail
  refine KM.mono ?_
  rintro e w1 ⟨rfl, hw⟩
  rw [hw]; clear hw KM
  have K6 : Hid ((1 : Int) + (H.length : Int) = 6) := by have := HH5.out; show _ = _; omega
  rw [K6.out]
  go_wp2_with fail
  refine (heldTowers_own gT c base _ T g1 c1 gs cs 6 _ S0 hn hx (by omega) (by omega)).mono ?_
  rintro e w2 ⟨rfl, hb2⟩
  have hB2 := below_then hb0 hb2
  clear S0 X0 hb0 hb2
  go_wp2
  go_ret
  exact ⟨rfl, hB2⟩
theorem markInts_nil (k : Int) (w : World) : Calls Tryd.prog 31 #[.slice none 0 0, .int .i64 k] w fun e w' => e = .returned (.int .i64 k) ∧ w' = w := by
  go_enter Tryd.func31, Tryd.ntmps31
  go_wp2
  refine wp_loop_rounds 1 ?_; rw [rounds_succ]; go_wp2
  go_ret
  exact ⟨rfl, rfl⟩
theorem markTowers_nil (k : Int) (w : World) : Calls Tryd.prog 32 #[.slice none 0 0, .int .i64 k] w fun e w' => e = .returned (.int .i64 k) ∧ w' = w := by
  go_enter Tryd.func32, Tryd.ntmps32
  go_wp2
  refine wp_loop_rounds 1 ?_; rw [rounds_succ]; go_wp2
  go_ret
  exact ⟨rfl, rfl⟩
theorem heldInts_nil (k : Int) (w : World) : Calls Tryd.prog 33 #[.slice none 0 0, .int .i64 k] w fun e w' => e = .returned (.int .i64 k) ∧ w' = w := by
  go_enter Tryd.func33, Tryd.ntmps33
  go_wp2
  refine wp_loop_rounds 1 ?_; rw [rounds_succ]; go_wp2
  go_ret
  exact ⟨rfl, rfl⟩
theorem heldTowers_nil (k : Int) (w : World) : Calls Tryd.prog 34 #[.slice none 0 0, .int .i64 k] w fun e w' => e = .returned (.int .i64 k) ∧ w' = w := by
  go_enter Tryd.func34, Tryd.ntmps34
  go_wp2
  refine wp_loop_rounds 1 ?_; rw [rounds_succ]; go_wp2
  go_ret
  exact ⟨rfl, rfl⟩
theorem markSkip_none (w : World) : Calls Tryd.prog 11 #[.agg #[.slice none 0 0, .slice none 0 0], .int .i64 1] w fun e w' => e = .returned (.int .i64 1) ∧ Below w.heap.size w w' := by
  go_enter Tryd.func11, Tryd.ntmps11
  go_wp2_with fail
  refine (markInts_nil 1 _).mono ?_
  rintro e w1 ⟨rfl, hw⟩
  rw [hw]; clear hw
  go_wp2_with fail
  refine (markTowers_nil 1 _).mono ?_
  rintro e w2 ⟨rfl, hw⟩
  rw [hw]; clear hw
  go_wp2
  go_ret
  exact ⟨rfl, below_alloc _ _⟩
theorem heldSkip_none (w : World) : Calls Tryd.prog 12 #[.agg #[.slice none 0 0, .slice none 0 0], .int .i64 1] w fun e w' => e = .returned (.int .i64 1) ∧ Below w.heap.size w w' := by
  go_enter Tryd.func12, Tryd.ntmps12
  go_wp2_with fail
  refine (heldInts_nil 1 _).mono ?_
  rintro e w1 ⟨rfl, hw⟩
  rw [hw]; clear hw
  go_wp2_with fail
  refine (heldTowers_nil 1 _).mono ?_
  rintro e w2 ⟨rfl, hw⟩
  rw [hw]; clear hw
  go_wp2
  go_ret
  exact ⟨rfl, below_alloc _ _⟩
end Go.Proofs.YtcjkdkaahkphfaaDoor
