/-
  GoodRun, both.
-/
import Derived.Test.YtcjkdkaahkphfaaM1
namespace Go.Proofs.Ytcjkdkaahkphfaa
open Go.RowKit
set_option linter.unusedVariables false
set_option maxRecDepth 100000

theorem getD_at (l : List It) (i : Nat) (h : i < l.length) : l.getD i default = l[i] := by simp [List.getD_eq_getElem?_getD, h]

set_option maxHeartbeats 2000000 in
theorem specRun_any (v : Value) (l : List It) (w : World) (hv : IR w v l) (hn : l.length ≤ 1048576) (hs : ∀ i (h : i < l.length), l[i].k.size ≤ 1048576 ∧ l[i].v.size ≤ 1048576) :
    Calls Try.prog 70 #[v] w fun e w' => e = .returned (.bool (goodR l)) ∧ Below w.heap.size w w' := by
  obtain ⟨a, cap, rfl, hc⟩ := hv
  go_enter Try.func70, Try.ntmps70
  go_wp2
  go_loopw [7] (fun i wr => ∃ k : Nat, k ≤ l.length ∧ i = .int .i64 k ∧ goodTo l k = true ∧ Below w.heap.size w wr) (fun i _ => l.length - (intOf i).toNat)
  case atStart => exact ⟨0, Nat.zero_le _, rfl, rfl, Below.refl _ _⟩
  case round =>
    obtain ⟨k, hk, rfl, hg, hb⟩ := hrel
    by_cases hlt : k < l.length
    · obtain ⟨b, off, rfl, hbl, hcell⟩ := hc (by intro e; simp [e] at hlt)
      have hc0 := (hb.cell (p := ⟨b, off + k * 4, none⟩) hbl).trans (hcell k hlt).1
      have hc1 := (hb.cell (p := ⟨b, off + k * 4 + 1, none⟩) hbl).trans (hcell k hlt).2.1
      have hc2 := (hb.cell (p := ⟨b, off + k * 4 + 2, none⟩) hbl).trans (hcell k hlt).2.2.1
      have hc3 := (hb.cell (p := ⟨b, off + k * 4 + 3, none⟩) hbl).trans (hcell k hlt).2.2.2
      have hss := hs k hlt
      have GI := fun w => specGood_any l[k].k l[k].v l[k].n l[k].d w hss.1 hss.2
      have HOK : Hid (okIt l[k] = okItem l[k].k l[k].n l[k].d l[k].v) := rfl
      have HAT : Hid (okAt l k = (okIt l[k] && (k == 0 || decide (lessIt (l.getD (k - 1) default) l[k])))) := by show _ = _; unfold okAt; rw [getD_at l k hlt]
      have hz := hb.size
      have hbl2 : b < wr.heap.size := by omega
      obtain ⟨W0, hW0⟩ : ∃ W0, W0 = wr.alloc (.cells #[.string l[k].k, .int .i64 l[k].n, .int .i64 l[k].d, .string l[k].v] 68) := ⟨_, rfl⟩
      have X0 : Box W0 wr.heap.size [.string l[k].k, .int .i64 l[k].n, .int .i64 l[k].d, .string l[k].v] := by rw [hW0]; exact Box.new wr #[.string l[k].k, .int .i64 l[k].n, .int .i64 l[k].d, .string l[k].v] 68
      have hB0 : Below w.heap.size w W0 := by rw [hW0]; exact hb.alloc hz _
      have hz0 := hB0.size
      have p0 := fun x : WC W0.heap.size W0 => (X0.below x.ok).2.1 0 _ rfl
      have p1 := fun x : WC W0.heap.size W0 => (X0.below x.ok).2.1 1 _ rfl
      have p2 := fun x : WC W0.heap.size W0 => (X0.below x.ok).2.1 2 _ rfl
      have p3 := fun x : WC W0.heap.size W0 => (X0.below x.ok).2.1 3 _ rfl
      have hne : Nonempty (WC W0.heap.size W0) := ⟨⟨_, Below.refl _ _⟩⟩
      cases hK : okIt l[k] with
      | false =>
        rw [HOK.out] at hK
        rw [hK] at GI
        have HR : Hid (goodR l = false) := goodTo_stop l k hlt (by rw [HAT.out, HOK.out, hK]; rfl)
        clear hcell hs hc HAT HOK hK hg
        generalize l[k] = s at *
        obtain ⟨sk, sn, sd, sv⟩ := s
        dsimp only at *
        go_wp2_with fail
        rw [← hW0]; clear hW0 hc0 hc1 hc2 hc3
        refine wp_region_calm (B := W0.heap.size) (W := W0) (by kernel_rfl) (by kernel_rfl) (Below.refl _ _) ?_
        repeat (go_big_quiet_step (first | (go_at_call 80; exact calm_of_below (Nat.le_refl _) (GI _))))
        refine wpQuiet_nil ?_
        intro _ hw'
        obtain ⟨x, hx⟩ := hw'
        subst hx
        have hB1 := hB0.trans (x.ok.mono (by omega))
        clear p0 p1 p2 p3 hne X0 hB0
        generalize x.w = w3 at *
        clear x
        go_wp2
        go_ret
        exact ⟨by rw [HR.out]; rfl, hB1⟩
      | true =>
        have hK2 := hK
        rw [HOK.out] at hK2
        rw [hK2] at GI
        by_cases k0 : k = 0
        · subst k0
          have HG : Hid (goodTo l (0 + 1) = true) := by show _ = _; rw [goodTo_succ, HAT.out, hK]; rfl
          rw [show off + 0 * 4 = off from by omega] at hc0 hc1 hc2 hc3
          clear hcell hs hc HAT HOK hK hK2 hg
          generalize l[0] = s at *
          obtain ⟨sk, sn, sd, sv⟩ := s
          dsimp only at *
          go_wp2_with fail
          rw [← hW0]; clear hW0 hc0 hc1 hc2 hc3
          refine wp_region_calm (B := W0.heap.size) (W := W0) (by kernel_rfl) (by kernel_rfl) (Below.refl _ _) ?_
          repeat (go_big_quiet_step (first | (go_at_call 80; exact calm_of_below (Nat.le_refl _) (GI _))))
          refine wpQuiet_nil ?_
          intro _ hw'
          obtain ⟨x, hx⟩ := hw'
          subst hx
          have hB1 := hB0.trans (x.ok.mono (by omega))
          clear p0 p1 p2 p3 hne X0 hB0
          generalize x.w = w3 at *
          clear x
          go_wp2
          go_roundw
          case rel => exact ⟨1, by omega, by go_num, HG.out, hB1⟩
          case measure => simp [intOf]; omega
        · obtain ⟨j, rfl⟩ : ∃ j, k = j + 1 := ⟨k - 1, by omega⟩
          have hj : j < l.length := by omega
          have hbW : b < W0.heap.size := by rw [hW0]; simp; omega
          have c0 : W0.cell? ⟨b, off + j * 4, none⟩ = some (.string l[j].k) := (hB0.cell (p := ⟨b, off + j * 4, none⟩) hbl).trans (hcell j hj).1
          have c1 : W0.cell? ⟨b, off + j * 4 + 1, none⟩ = some (.int .i64 l[j].n) := (hB0.cell (p := ⟨b, off + j * 4 + 1, none⟩) hbl).trans (hcell j hj).2.1
          have c2 : W0.cell? ⟨b, off + j * 4 + 2, none⟩ = some (.int .i64 l[j].d) := (hB0.cell (p := ⟨b, off + j * 4 + 2, none⟩) hbl).trans (hcell j hj).2.2.1
          have c3 : W0.cell? ⟨b, off + j * 4 + 3, none⟩ = some (.string l[j].v) := (hB0.cell (p := ⟨b, off + j * 4 + 3, none⟩) hbl).trans (hcell j hj).2.2.2
          have q0 := fun x : WC W0.heap.size W0 => (x.ok.cell (p := ⟨b, off + j * 4, none⟩) hbW).trans c0
          have q1 := fun x : WC W0.heap.size W0 => (x.ok.cell (p := ⟨b, off + j * 4 + 1, none⟩) hbW).trans c1
          have q2 := fun x : WC W0.heap.size W0 => (x.ok.cell (p := ⟨b, off + j * 4 + 2, none⟩) hbW).trans c2
          have q3 := fun x : WC W0.heap.size W0 => (x.ok.cell (p := ⟨b, off + j * 4 + 3, none⟩) hbW).trans c3
          have OI := fun w => l4Compare_any l[j].k l[j].v l[j+1].k l[j+1].v l[j].n l[j].d l[j+1].n l[j+1].d w
          have HLE : Hid (lessIt (l.getD (j + 1 - 1) default) l[j+1] ↔ cIt l[j].k l[j+1].k l[j].n l[j+1].n < 0) := by show _ ↔ _; rw [show j + 1 - 1 = j from by omega, getD_at l j hj]; exact Iff.rfl
          have eidx : (1 : Int) ≤ ((j + 1 : Nat) : Int) := by omega
          by_cases hle : cIt l[j].k l[j+1].k l[j].n l[j+1].n < 0
          · have HG : Hid (goodTo l (j + 1 + 1) = true) := by show _ = _; rw [goodTo_succ, hg, HAT.out, hK, decide_eq_true (HLE.out.2 hle)]; simp
            clear hcell hs hc HAT HOK hK hK2 hg HLE c0 c1 c2 c3
            generalize cIt l[j].k l[j+1].k l[j].n l[j+1].n = c at *
            generalize l[j] = t at *
            generalize l[j+1] = s at *
            obtain ⟨sk, sn, sd, sv⟩ := s
            obtain ⟨tk, tn, td, tv⟩ := t
            dsimp only at *
            go_wp2_with fail
            rw [← hW0]; clear hW0 hc0 hc1 hc2 hc3
            refine wp_region_calm (B := W0.heap.size) (W := W0) (by kernel_rfl) (by kernel_rfl) (Below.refl _ _) ?_
            repeat (go_big_quiet_step (first | (go_at_call 80; exact calm_of_below (Nat.le_refl _) (GI _)) | (go_at_call 59; exact calm_of_below (Nat.le_refl _) (OI _))))
            refine wpQuiet_nil ?_
            intro _ hw'
            obtain ⟨x, hx⟩ := hw'
            subst hx
            have hB1 := hB0.trans (x.ok.mono (by omega))
            clear p0 p1 p2 p3 q0 q1 q2 q3 hne X0 hB0
            generalize x.w = w3 at *
            clear x
            go_wp2
            go_roundw
            case rel => exact ⟨j + 1 + 1, by omega, by go_num, HG.out, hB1⟩
            case measure => simp [intOf]; omega
          · have HR : Hid (goodR l = false) := goodTo_stop l (j + 1) hlt (by rw [HAT.out, hK, decide_eq_false (fun h => hle (HLE.out.1 h))]; simp)
            clear hcell hs hc HAT HOK hK hK2 hg HLE c0 c1 c2 c3
            generalize cIt l[j].k l[j+1].k l[j].n l[j+1].n = c at *
            generalize l[j] = t at *
            generalize l[j+1] = s at *
            obtain ⟨sk, sn, sd, sv⟩ := s
            obtain ⟨tk, tn, td, tv⟩ := t
            dsimp only at *
            go_wp2_with fail
            rw [← hW0]; clear hW0 hc0 hc1 hc2 hc3
            refine wp_region_calm (B := W0.heap.size) (W := W0) (by kernel_rfl) (by kernel_rfl) (Below.refl _ _) ?_
            repeat (go_big_quiet_step (first | (go_at_call 80; exact calm_of_below (Nat.le_refl _) (GI _)) | (go_at_call 59; exact calm_of_below (Nat.le_refl _) (OI _))))
            refine wpQuiet_nil ?_
            intro _ hw'
            obtain ⟨x, hx⟩ := hw'
            subst hx
            have hB1 := hB0.trans (x.ok.mono (by omega))
            clear p0 p1 p2 p3 q0 q1 q2 q3 hne X0 hB0
            generalize x.w = w3 at *
            clear x
            go_wp2
            go_ret
            exact ⟨by rw [HR.out]; rfl, hB1⟩
    · obtain rfl : k = l.length := by omega
      have HR : Hid (goodR l = true) := hg
      clear hc hs hg
      go_wp2
      go_ret
      exact ⟨by rw [HR.out]; rfl, hb⟩

set_option maxHeartbeats 2000000 in
theorem implRun_any (v : Value) (l : List It) (w : World) (hv : IR w v l) (hn : l.length ≤ 1048576) (hs : ∀ i (h : i < l.length), l[i].k.size ≤ 1048576 ∧ l[i].v.size ≤ 1048576) :
    Calls Try.prog 72 #[v] w fun e w' => e = .returned (.bool (goodR l)) ∧ Below w.heap.size w w' := by
  obtain ⟨a, cap, rfl, hc⟩ := hv
  go_enter Try.func72, Try.ntmps72
  go_wp2
  go_loopw [7] (fun i wr => ∃ k : Nat, k ≤ l.length ∧ i = .int .i64 k ∧ goodTo l k = true ∧ Below w.heap.size w wr) (fun i _ => l.length - (intOf i).toNat)
  case atStart => exact ⟨0, Nat.zero_le _, rfl, rfl, Below.refl _ _⟩
  case round =>
    obtain ⟨k, hk, rfl, hg, hb⟩ := hrel
    by_cases hlt : k < l.length
    · obtain ⟨b, off, rfl, hbl, hcell⟩ := hc (by intro e; simp [e] at hlt)
      have hc0 := (hb.cell (p := ⟨b, off + k * 4, none⟩) hbl).trans (hcell k hlt).1
      have hc1 := (hb.cell (p := ⟨b, off + k * 4 + 1, none⟩) hbl).trans (hcell k hlt).2.1
      have hc2 := (hb.cell (p := ⟨b, off + k * 4 + 2, none⟩) hbl).trans (hcell k hlt).2.2.1
      have hc3 := (hb.cell (p := ⟨b, off + k * 4 + 3, none⟩) hbl).trans (hcell k hlt).2.2.2
      have hss := hs k hlt
      have GI := fun w => implGood_any l[k].k l[k].v l[k].n l[k].d w hss.1 hss.2
      have HOK : Hid (okIt l[k] = okItem l[k].k l[k].n l[k].d l[k].v) := rfl
      have HAT : Hid (okAt l k = (okIt l[k] && (k == 0 || decide (lessIt (l.getD (k - 1) default) l[k])))) := by show _ = _; unfold okAt; rw [getD_at l k hlt]
      have hz := hb.size
      have hbl2 : b < wr.heap.size := by omega
      obtain ⟨W0, hW0⟩ : ∃ W0, W0 = wr.alloc (.cells #[.string l[k].k, .int .i64 l[k].n, .int .i64 l[k].d, .string l[k].v] 68) := ⟨_, rfl⟩
      have X0 : Box W0 wr.heap.size [.string l[k].k, .int .i64 l[k].n, .int .i64 l[k].d, .string l[k].v] := by rw [hW0]; exact Box.new wr #[.string l[k].k, .int .i64 l[k].n, .int .i64 l[k].d, .string l[k].v] 68
      have hB0 : Below w.heap.size w W0 := by rw [hW0]; exact hb.alloc hz _
      have hz0 := hB0.size
      have p0 := fun x : WC W0.heap.size W0 => (X0.below x.ok).2.1 0 _ rfl
      have p1 := fun x : WC W0.heap.size W0 => (X0.below x.ok).2.1 1 _ rfl
      have p2 := fun x : WC W0.heap.size W0 => (X0.below x.ok).2.1 2 _ rfl
      have p3 := fun x : WC W0.heap.size W0 => (X0.below x.ok).2.1 3 _ rfl
      have hne : Nonempty (WC W0.heap.size W0) := ⟨⟨_, Below.refl _ _⟩⟩
      cases hK : okIt l[k] with
      | false =>
        rw [HOK.out] at hK
        rw [hK] at GI
        have HR : Hid (goodR l = false) := goodTo_stop l k hlt (by rw [HAT.out, HOK.out, hK]; rfl)
        clear hcell hs hc HAT HOK hK hg
        generalize l[k] = s at *
        obtain ⟨sk, sn, sd, sv⟩ := s
        dsimp only at *
        go_wp2_with fail
        rw [← hW0]; clear hW0 hc0 hc1 hc2 hc3
        refine wp_region_calm (B := W0.heap.size) (W := W0) (by kernel_rfl) (by kernel_rfl) (Below.refl _ _) ?_
        repeat (go_big_quiet_step (first | (go_at_call 81; exact calm_of_below (Nat.le_refl _) (GI _))))
        refine wpQuiet_nil ?_
        intro _ hw'
        obtain ⟨x, hx⟩ := hw'
        subst hx
        have hB1 := hB0.trans (x.ok.mono (by omega))
        clear p0 p1 p2 p3 hne X0 hB0
        generalize x.w = w3 at *
        clear x
        go_wp2
        go_ret
        exact ⟨by rw [HR.out]; rfl, hB1⟩
      | true =>
        have hK2 := hK
        rw [HOK.out] at hK2
        rw [hK2] at GI
        by_cases k0 : k = 0
        · subst k0
          have HG : Hid (goodTo l (0 + 1) = true) := by show _ = _; rw [goodTo_succ, HAT.out, hK]; rfl
          rw [show off + 0 * 4 = off from by omega] at hc0 hc1 hc2 hc3
          clear hcell hs hc HAT HOK hK hK2 hg
          generalize l[0] = s at *
          obtain ⟨sk, sn, sd, sv⟩ := s
          dsimp only at *
          go_wp2_with fail
          rw [← hW0]; clear hW0 hc0 hc1 hc2 hc3
          refine wp_region_calm (B := W0.heap.size) (W := W0) (by kernel_rfl) (by kernel_rfl) (Below.refl _ _) ?_
          repeat (go_big_quiet_step (first | (go_at_call 81; exact calm_of_below (Nat.le_refl _) (GI _))))
          refine wpQuiet_nil ?_
          intro _ hw'
          obtain ⟨x, hx⟩ := hw'
          subst hx
          have hB1 := hB0.trans (x.ok.mono (by omega))
          clear p0 p1 p2 p3 hne X0 hB0
          generalize x.w = w3 at *
          clear x
          go_wp2
          go_roundw
          case rel => exact ⟨1, by omega, by go_num, HG.out, hB1⟩
          case measure => simp [intOf]; omega
        · obtain ⟨j, rfl⟩ : ∃ j, k = j + 1 := ⟨k - 1, by omega⟩
          have hj : j < l.length := by omega
          have hbW : b < W0.heap.size := by rw [hW0]; simp; omega
          have c0 : W0.cell? ⟨b, off + j * 4, none⟩ = some (.string l[j].k) := (hB0.cell (p := ⟨b, off + j * 4, none⟩) hbl).trans (hcell j hj).1
          have c1 : W0.cell? ⟨b, off + j * 4 + 1, none⟩ = some (.int .i64 l[j].n) := (hB0.cell (p := ⟨b, off + j * 4 + 1, none⟩) hbl).trans (hcell j hj).2.1
          have c2 : W0.cell? ⟨b, off + j * 4 + 2, none⟩ = some (.int .i64 l[j].d) := (hB0.cell (p := ⟨b, off + j * 4 + 2, none⟩) hbl).trans (hcell j hj).2.2.1
          have c3 : W0.cell? ⟨b, off + j * 4 + 3, none⟩ = some (.string l[j].v) := (hB0.cell (p := ⟨b, off + j * 4 + 3, none⟩) hbl).trans (hcell j hj).2.2.2
          have q0 := fun x : WC W0.heap.size W0 => (x.ok.cell (p := ⟨b, off + j * 4, none⟩) hbW).trans c0
          have q1 := fun x : WC W0.heap.size W0 => (x.ok.cell (p := ⟨b, off + j * 4 + 1, none⟩) hbW).trans c1
          have q2 := fun x : WC W0.heap.size W0 => (x.ok.cell (p := ⟨b, off + j * 4 + 2, none⟩) hbW).trans c2
          have q3 := fun x : WC W0.heap.size W0 => (x.ok.cell (p := ⟨b, off + j * 4 + 3, none⟩) hbW).trans c3
          have OI := fun w => orderOf_any l[j].k l[j].v l[j+1].k l[j+1].v l[j].n l[j].d l[j+1].n l[j+1].d w
          have HLE : Hid (lessIt (l.getD (j + 1 - 1) default) l[j+1] ↔ cIt l[j].k l[j+1].k l[j].n l[j+1].n < 0) := by show _ ↔ _; rw [show j + 1 - 1 = j from by omega, getD_at l j hj]; exact Iff.rfl
          have eidx : (1 : Int) ≤ ((j + 1 : Nat) : Int) := by omega
          by_cases hle : cIt l[j].k l[j+1].k l[j].n l[j+1].n < 0
          · have HG : Hid (goodTo l (j + 1 + 1) = true) := by show _ = _; rw [goodTo_succ, hg, HAT.out, hK, decide_eq_true (HLE.out.2 hle)]; simp
            clear hcell hs hc HAT HOK hK hK2 hg HLE c0 c1 c2 c3
            generalize cIt l[j].k l[j+1].k l[j].n l[j+1].n = c at *
            generalize l[j] = t at *
            generalize l[j+1] = s at *
            obtain ⟨sk, sn, sd, sv⟩ := s
            obtain ⟨tk, tn, td, tv⟩ := t
            dsimp only at *
            go_wp2_with fail
            rw [← hW0]; clear hW0 hc0 hc1 hc2 hc3
            refine wp_region_calm (B := W0.heap.size) (W := W0) (by kernel_rfl) (by kernel_rfl) (Below.refl _ _) ?_
            repeat (go_big_quiet_step (first | (go_at_call 81; exact calm_of_below (Nat.le_refl _) (GI _)) | (go_at_call 64; exact calm_of_below (Nat.le_refl _) (OI _))))
            refine wpQuiet_nil ?_
            intro _ hw'
            obtain ⟨x, hx⟩ := hw'
            subst hx
            have hB1 := hB0.trans (x.ok.mono (by omega))
            clear p0 p1 p2 p3 q0 q1 q2 q3 hne X0 hB0
            generalize x.w = w3 at *
            clear x
            go_wp2
            go_roundw
            case rel => exact ⟨j + 1 + 1, by omega, by go_num, HG.out, hB1⟩
            case measure => simp [intOf]; omega
          · have HR : Hid (goodR l = false) := goodTo_stop l (j + 1) hlt (by rw [HAT.out, hK, decide_eq_false (fun h => hle (HLE.out.1 h))]; simp)
            clear hcell hs hc HAT HOK hK hK2 hg HLE c0 c1 c2 c3
            generalize cIt l[j].k l[j+1].k l[j].n l[j+1].n = c at *
            generalize l[j] = t at *
            generalize l[j+1] = s at *
            obtain ⟨sk, sn, sd, sv⟩ := s
            obtain ⟨tk, tn, td, tv⟩ := t
            dsimp only at *
            go_wp2_with fail
            rw [← hW0]; clear hW0 hc0 hc1 hc2 hc3
            refine wp_region_calm (B := W0.heap.size) (W := W0) (by kernel_rfl) (by kernel_rfl) (Below.refl _ _) ?_
            repeat (go_big_quiet_step (first | (go_at_call 81; exact calm_of_below (Nat.le_refl _) (GI _)) | (go_at_call 64; exact calm_of_below (Nat.le_refl _) (OI _))))
            refine wpQuiet_nil ?_
            intro _ hw'
            obtain ⟨x, hx⟩ := hw'
            subst hx
            have hB1 := hB0.trans (x.ok.mono (by omega))
            clear p0 p1 p2 p3 q0 q1 q2 q3 hne X0 hB0
            generalize x.w = w3 at *
            clear x
            go_wp2
            go_ret
            exact ⟨by rw [HR.out]; rfl, hB1⟩
    · obtain rfl : k = l.length := by omega
      have HR : Hid (goodR l = true) := hg
      clear hc hs hg
      go_wp2
      go_ret
      exact ⟨by rw [HR.out]; rfl, hb⟩
end Go.Proofs.Ytcjkdkaahkphfaa
