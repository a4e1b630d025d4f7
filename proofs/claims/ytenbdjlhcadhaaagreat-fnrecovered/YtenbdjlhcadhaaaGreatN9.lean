/-
  Lists of metas that are good: l9Metas, goodMetas.
-/
import Derived.Test.YtenbdjlhcadhaaaGreatG9
namespace Go.Proofs.YtenbdjlhcadhaaaGreat
open Go.RowKit
set_option linter.unusedVariables false
set_option maxRecDepth 100000

set_option maxHeartbeats 2000000 in
theorem l9Metas_any (v : Value) (l : List Mt) (w : World) (hv : IR w v l) (hn : l.length ≤ 1048576) (hs : ∀ i (h : i < l.length), l[i].k.size ≤ 1048576 ∧ l[i].v.size ≤ 1048576) :
    Calls Tryz.prog 60 #[v] w fun e w' => e = .returned (.bool (okMs l)) ∧ Below w.heap.size w w' := by
  have HM : Hid (okMs l = (decide ((l.length : Int) ≤ 30) && goodMs l)) := rfl
  obtain ⟨a, cap, rfl, hc⟩ := hv
  go_enter Tryz.func60, Tryz.ntmps60
  go_wp2
  go_loopw [7] (fun i wr => ∃ k : Nat, k ≤ l.length ∧ i = .int .i64 k ∧ goodTo l k = true ∧ Below w.heap.size w wr) (fun i _ => l.length - (intOf i).toNat)
  case atStart => exact ⟨0, Nat.zero_le _, rfl, rfl, Below.refl _ _⟩
  case round =>
    obtain ⟨k, hk, rfl, hg, hb⟩ := hrel
    by_cases hlt : k < l.length
    · obtain ⟨b, off, rfl, hbl, hcell⟩ := hc (by intro e; simp [e] at hlt)
      have hc0 := (hb.cell (p := ⟨b, off + k * 4, none⟩) hbl).trans (hcell k hlt).1
      have hc1 := (hb.cell (p := ⟨b, off + k * 4 + 1, none⟩) hbl).trans (hcell k hlt).2.1
      have hc2 := (hb.cell (p := ⟨b, off + k * 4 + 2, none⟩) hbl).trans (hcell k hlt).2.2.1
      have hc3 := (hb.cell (p := ⟨b, off + k * 4 + 3, none⟩) hbl).trans (hcell k hlt).2.2.2
      have hss := hs k hlt
      have GI := fun w => l9Meta_any l[k].n l[k].d l[k].k l[k].v w hss.1 hss.2
      have HAT : Hid (okAt l k = (okMt l[k] && (k == 0 || decide ((l.getD (k - 1) default).n < l[k].n)))) := by show _ = _; unfold okAt; rw [getD_at l k hlt]
      have hz := hb.size
      have hbl2 : b < wr.heap.size := by omega
      obtain ⟨W0, hW0⟩ : ∃ W0, W0 = wr.alloc (.cells #[.int .i64 l[k].n, .int .i64 l[k].d, .string l[k].k, .string l[k].v] 71) := ⟨_, rfl⟩
      have X0 : Box W0 wr.heap.size [.int .i64 l[k].n, .int .i64 l[k].d, .string l[k].k, .string l[k].v] := by rw [hW0]; exact Box.new wr #[.int .i64 l[k].n, .int .i64 l[k].d, .string l[k].k, .string l[k].v] 71
      have hB0 : Below w.heap.size w W0 := by rw [hW0]; exact hb.alloc hz _
      have hz0 := hB0.size
      have p0 := fun x : WC W0.heap.size W0 => (X0.below x.ok).2.1 0 _ rfl
      have p1 := fun x : WC W0.heap.size W0 => (X0.below x.ok).2.1 1 _ rfl
      have p2 := fun x : WC W0.heap.size W0 => (X0.below x.ok).2.1 2 _ rfl
      have p3 := fun x : WC W0.heap.size W0 => (X0.below x.ok).2.1 3 _ rfl
      have hne : Nonempty (WC W0.heap.size W0) := ⟨⟨_, Below.refl _ _⟩⟩
      cases hK : okMt l[k] with
      | false =>
        have HR : Hid (goodMs l = false) := goodTo_stop l k hlt (by rw [HAT.out, hK]; rfl)
        clear hcell hs hc HAT hg
        generalize l[k] = s at *
        obtain ⟨sn, sd, sk, sv⟩ := s
        dsimp only at *
        rw [hK] at GI
        clear hK
        go_wp2_with fail
        rw [← hW0]; clear hW0 hc0 hc1 hc2 hc3
        refine wp_region_calm (B := W0.heap.size) (W := W0) (by kernel_rfl) (by kernel_rfl) (Below.refl _ _) ?_
        repeat (go_big_quiet_step (first | (go_at_call 50; exact calm_of_below (Nat.le_refl _) (GI _))))
        refine wpQuiet_nil ?_
        intro _ hw'
        obtain ⟨x, hx⟩ := hw'
        subst hx
        have hB1 := hB0.trans (x.ok.mono (by omega))
        clear p0 p1 p2 p3 hne X0 hB0
        generalize x.w = w3 at *
        clear x
        go_wp2
        go_ret
        exact ⟨by rw [HM.out, HR.out, Bool.and_false]; rfl, hB1⟩
      | true =>
        by_cases k0 : k = 0
        · subst k0
          have HG : Hid (goodTo l (0 + 1) = true) := by show _ = _; rw [goodTo_succ, HAT.out, hK]; rfl
          rw [show off + 0 * 4 = off from by omega] at hc0 hc1 hc2 hc3
          clear hcell hs hc HAT hg
          generalize l[0] = s at *
          obtain ⟨sn, sd, sk, sv⟩ := s
          dsimp only at *
          rw [hK] at GI
          clear hK
          go_wp2_with fail
          rw [← hW0]; clear hW0 hc0 hc1 hc2 hc3
          refine wp_region_calm (B := W0.heap.size) (W := W0) (by kernel_rfl) (by kernel_rfl) (Below.refl _ _) ?_
          repeat (go_big_quiet_step (first | (go_at_call 50; exact calm_of_below (Nat.le_refl _) (GI _))))
          refine wpQuiet_nil ?_
          intro _ hw'
          obtain ⟨x, hx⟩ := hw'
          subst hx
          have hB1 := hB0.trans (x.ok.mono (by omega))
          clear p0 p1 p2 p3 hne X0 hB0
          generalize x.w = w3 at *
          clear x
          go_wp2
          go_roundw
          case rel => exact ⟨1, by omega, by go_num, HG.out, hB1⟩
          case measure => simp [intOf]; omega
        · obtain ⟨j, rfl⟩ : ∃ j, k = j + 1 := ⟨k - 1, by omega⟩
          have hj : j < l.length := by omega
          have hbW : b < W0.heap.size := by rw [hW0]; simp; omega
          have c0 : W0.cell? ⟨b, off + j * 4, none⟩ = some (.int .i64 l[j].n) := (hB0.cell (p := ⟨b, off + j * 4, none⟩) hbl).trans (hcell j hj).1
          have q0 := fun x : WC W0.heap.size W0 => (x.ok.cell (p := ⟨b, off + j * 4, none⟩) hbW).trans c0
          have HLE : Hid ((l.getD (j + 1 - 1) default).n = l[j].n) := by show _ = _; rw [show j + 1 - 1 = j from by omega, getD_at l j hj]
          have eidx : (1 : Int) ≤ ((j + 1 : Nat) : Int) := by omega
          by_cases hle : l[j].n < l[j+1].n
          · have HG : Hid (goodTo l (j + 1 + 1) = true) := by show _ = _; rw [goodTo_succ, hg, HAT.out, hK, HLE.out, decide_eq_true hle]; simp
            clear hcell hs hc HAT hg HLE c0
            generalize l[j].n = tn at *
            generalize l[j+1] = s at *
            obtain ⟨sn, sd, sk, sv⟩ := s
            dsimp only at *
            rw [hK] at GI
            clear hK
            go_wp2_with fail
            rw [← hW0]; clear hW0 hc0 hc1 hc2 hc3
            refine wp_region_calm (B := W0.heap.size) (W := W0) (by kernel_rfl) (by kernel_rfl) (Below.refl _ _) ?_
            repeat (go_big_quiet_step (first | (go_at_call 50; exact calm_of_below (Nat.le_refl _) (GI _))))
            refine wpQuiet_nil ?_
            intro _ hw'
            obtain ⟨x, hx⟩ := hw'
            subst hx
            have hB1 := hB0.trans (x.ok.mono (by omega))
            clear p0 p1 p2 p3 q0 hne X0 hB0
            generalize x.w = w3 at *
            clear x
            go_wp2
            go_roundw
            case rel => exact ⟨j + 1 + 1, by omega, by go_num, HG.out, hB1⟩
            case measure => simp [intOf]; omega
          · have HR : Hid (goodMs l = false) := goodTo_stop l (j + 1) hlt (by rw [HAT.out, hK, HLE.out, decide_eq_false hle]; simp)
            clear hcell hs hc HAT hg HLE c0
            generalize l[j].n = tn at *
            generalize l[j+1] = s at *
            obtain ⟨sn, sd, sk, sv⟩ := s
            dsimp only at *
            rw [hK] at GI
            clear hK
            go_wp2_with fail
            rw [← hW0]; clear hW0 hc0 hc1 hc2 hc3
            refine wp_region_calm (B := W0.heap.size) (W := W0) (by kernel_rfl) (by kernel_rfl) (Below.refl _ _) ?_
            repeat (go_big_quiet_step (first | (go_at_call 50; exact calm_of_below (Nat.le_refl _) (GI _))))
            refine wpQuiet_nil ?_
            intro _ hw'
            obtain ⟨x, hx⟩ := hw'
            subst hx
            have hB1 := hB0.trans (x.ok.mono (by omega))
            clear p0 p1 p2 p3 q0 hne X0 hB0
            generalize x.w = w3 at *
            clear x
            go_wp2
            go_ret
            exact ⟨by rw [HM.out, HR.out, Bool.and_false]; rfl, hB1⟩
    · obtain rfl : k = l.length := by omega
      have HR : Hid (goodMs l = true) := hg
      clear hc hs hg
      go_wp2
      go_ret
      exact ⟨by rw [HM.out, HR.out, Bool.and_true]; rfl, hb⟩

set_option maxHeartbeats 2000000 in
theorem goodMetas_any (v : Value) (l : List Mt) (w : World) (hv : IR w v l) (hn : l.length ≤ 1048576) (hs : ∀ i (h : i < l.length), l[i].k.size ≤ 1048576 ∧ l[i].v.size ≤ 1048576) :
    Calls Tryz.prog 42 #[v] w fun e w' => e = .returned (.bool (okMs l)) ∧ Below w.heap.size w w' := by
  have HM : Hid (okMs l = (decide ((l.length : Int) ≤ 30) && goodMs l)) := rfl
  obtain ⟨a, cap, rfl, hc⟩ := hv
  by_cases h30 : (l.length : Int) ≤ 30
  rotate_left
  · have HR : Hid (okMs l = false) := by show _ = _; rw [HM.out, decide_eq_false h30]; rfl
    clear HM hc hs
    go_enter Tryz.func42, Tryz.ntmps42
    go_wp2
    go_ret
    exact ⟨by rw [HR.out]; rfl, Below.refl _ _⟩
  have HM2 : Hid (okMs l = goodMs l) := by show _ = _; rw [HM.out, decide_eq_true h30]; rfl
  clear HM
  go_enter Tryz.func42, Tryz.ntmps42
  go_wp2
  go_loopw [10] (fun i wr => ∃ k : Nat, k ≤ l.length ∧ i = .int .i64 k ∧ goodTo l k = true ∧ Below w.heap.size w wr) (fun i _ => l.length - (intOf i).toNat)
  case atStart => exact ⟨0, Nat.zero_le _, rfl, rfl, Below.refl _ _⟩
  case round =>
    obtain ⟨k, hk, rfl, hg, hb⟩ := hrel
    by_cases hlt : k < l.length
    · obtain ⟨b, off, rfl, hbl, hcell⟩ := hc (by intro e; simp [e] at hlt)
      have hc0 := (hb.cell (p := ⟨b, off + k * 4, none⟩) hbl).trans (hcell k hlt).1
      have hc1 := (hb.cell (p := ⟨b, off + k * 4 + 1, none⟩) hbl).trans (hcell k hlt).2.1
      have hc2 := (hb.cell (p := ⟨b, off + k * 4 + 2, none⟩) hbl).trans (hcell k hlt).2.2.1
      have hc3 := (hb.cell (p := ⟨b, off + k * 4 + 3, none⟩) hbl).trans (hcell k hlt).2.2.2
      have hss := hs k hlt
      have GI := fun w => goodMeta_any l[k].n l[k].d l[k].k l[k].v w hss.1 hss.2
      have HAT : Hid (okAt l k = (okMt l[k] && (k == 0 || decide ((l.getD (k - 1) default).n < l[k].n)))) := by show _ = _; unfold okAt; rw [getD_at l k hlt]
      have hz := hb.size
      have hbl2 : b < wr.heap.size := by omega
      obtain ⟨W0, hW0⟩ : ∃ W0, W0 = wr.alloc (.cells #[.int .i64 l[k].n, .int .i64 l[k].d, .string l[k].k, .string l[k].v] 71) := ⟨_, rfl⟩
      have X0 : Box W0 wr.heap.size [.int .i64 l[k].n, .int .i64 l[k].d, .string l[k].k, .string l[k].v] := by rw [hW0]; exact Box.new wr #[.int .i64 l[k].n, .int .i64 l[k].d, .string l[k].k, .string l[k].v] 71
      have hB0 : Below w.heap.size w W0 := by rw [hW0]; exact hb.alloc hz _
      have hz0 := hB0.size
      have p0 := fun x : WC W0.heap.size W0 => (X0.below x.ok).2.1 0 _ rfl
      have p1 := fun x : WC W0.heap.size W0 => (X0.below x.ok).2.1 1 _ rfl
      have p2 := fun x : WC W0.heap.size W0 => (X0.below x.ok).2.1 2 _ rfl
      have p3 := fun x : WC W0.heap.size W0 => (X0.below x.ok).2.1 3 _ rfl
      have hne : Nonempty (WC W0.heap.size W0) := ⟨⟨_, Below.refl _ _⟩⟩
      cases hK : okMt l[k] with
      | false =>
        have HR : Hid (goodMs l = false) := goodTo_stop l k hlt (by rw [HAT.out, hK]; rfl)
        clear hcell hs hc HAT hg
        generalize l[k] = s at *
        obtain ⟨sn, sd, sk, sv⟩ := s
        dsimp only at *
        rw [hK] at GI
        clear hK
        go_wp2_with fail
        rw [← hW0]; clear hW0 hc0 hc1 hc2 hc3
        refine wp_region_calm (B := W0.heap.size) (W := W0) (by kernel_rfl) (by kernel_rfl) (Below.refl _ _) ?_
        repeat (go_big_quiet_step (first | (go_at_call 73; exact calm_of_below (Nat.le_refl _) (GI _))))
        refine wpQuiet_nil ?_
        intro _ hw'
        obtain ⟨x, hx⟩ := hw'
        subst hx
        have hB1 := hB0.trans (x.ok.mono (by omega))
        clear p0 p1 p2 p3 hne X0 hB0
        generalize x.w = w3 at *
        clear x
        go_wp2
        go_ret
        exact ⟨by rw [HM2.out, HR.out]; rfl, hB1⟩
      | true =>
        by_cases k0 : k = 0
        · subst k0
          have HG : Hid (goodTo l (0 + 1) = true) := by show _ = _; rw [goodTo_succ, HAT.out, hK]; rfl
          rw [show off + 0 * 4 = off from by omega] at hc0 hc1 hc2 hc3
          clear hcell hs hc HAT hg
          generalize l[0] = s at *
          obtain ⟨sn, sd, sk, sv⟩ := s
          dsimp only at *
          rw [hK] at GI
          clear hK
          go_wp2_with fail
          rw [← hW0]; clear hW0 hc0 hc1 hc2 hc3
          refine wp_region_calm (B := W0.heap.size) (W := W0) (by kernel_rfl) (by kernel_rfl) (Below.refl _ _) ?_
          repeat (go_big_quiet_step (first | (go_at_call 73; exact calm_of_below (Nat.le_refl _) (GI _))))
          refine wpQuiet_nil ?_
          intro _ hw'
          obtain ⟨x, hx⟩ := hw'
          subst hx
          have hB1 := hB0.trans (x.ok.mono (by omega))
          clear p0 p1 p2 p3 hne X0 hB0
          generalize x.w = w3 at *
          clear x
          go_wp2
          go_roundw
          case rel => exact ⟨1, by omega, by go_num, HG.out, hB1⟩
          case measure => simp [intOf]; omega
        · obtain ⟨j, rfl⟩ : ∃ j, k = j + 1 := ⟨k - 1, by omega⟩
          have hj : j < l.length := by omega
          have hbW : b < W0.heap.size := by rw [hW0]; simp; omega
          have c0 : W0.cell? ⟨b, off + j * 4, none⟩ = some (.int .i64 l[j].n) := (hB0.cell (p := ⟨b, off + j * 4, none⟩) hbl).trans (hcell j hj).1
          have q0 := fun x : WC W0.heap.size W0 => (x.ok.cell (p := ⟨b, off + j * 4, none⟩) hbW).trans c0
          have HLE : Hid ((l.getD (j + 1 - 1) default).n = l[j].n) := by show _ = _; rw [show j + 1 - 1 = j from by omega, getD_at l j hj]
          have eidx : (1 : Int) ≤ ((j + 1 : Nat) : Int) := by omega
          by_cases hle : l[j].n < l[j+1].n
          · have HG : Hid (goodTo l (j + 1 + 1) = true) := by show _ = _; rw [goodTo_succ, hg, HAT.out, hK, HLE.out, decide_eq_true hle]; simp
            clear hcell hs hc HAT hg HLE c0
            generalize l[j].n = tn at *
            generalize l[j+1] = s at *
            obtain ⟨sn, sd, sk, sv⟩ := s
            dsimp only at *
            rw [hK] at GI
            clear hK
            go_wp2_with fail
            rw [← hW0]; clear hW0 hc0 hc1 hc2 hc3
            refine wp_region_calm (B := W0.heap.size) (W := W0) (by kernel_rfl) (by kernel_rfl) (Below.refl _ _) ?_
            repeat (go_big_quiet_step (first | (go_at_call 73; exact calm_of_below (Nat.le_refl _) (GI _))))
            refine wpQuiet_nil ?_
            intro _ hw'
            obtain ⟨x, hx⟩ := hw'
            subst hx
            have hB1 := hB0.trans (x.ok.mono (by omega))
            clear p0 p1 p2 p3 q0 hne X0 hB0
            generalize x.w = w3 at *
            clear x
            go_wp2
            go_roundw
            case rel => exact ⟨j + 1 + 1, by omega, by go_num, HG.out, hB1⟩
            case measure => simp [intOf]; omega
          · have HR : Hid (goodMs l = false) := goodTo_stop l (j + 1) hlt (by rw [HAT.out, hK, HLE.out, decide_eq_false hle]; simp)
            clear hcell hs hc HAT hg HLE c0
            generalize l[j].n = tn at *
            generalize l[j+1] = s at *
            obtain ⟨sn, sd, sk, sv⟩ := s
            dsimp only at *
            rw [hK] at GI
            clear hK
            go_wp2_with fail
            rw [← hW0]; clear hW0 hc0 hc1 hc2 hc3
            refine wp_region_calm (B := W0.heap.size) (W := W0) (by kernel_rfl) (by kernel_rfl) (Below.refl _ _) ?_
            repeat (go_big_quiet_step (first | (go_at_call 73; exact calm_of_below (Nat.le_refl _) (GI _))))
            refine wpQuiet_nil ?_
            intro _ hw'
            obtain ⟨x, hx⟩ := hw'
            subst hx
            have hB1 := hB0.trans (x.ok.mono (by omega))
            clear p0 p1 p2 p3 q0 hne X0 hB0
            generalize x.w = w3 at *
            clear x
            go_wp2
            go_ret
            exact ⟨by rw [HM2.out, HR.out]; rfl, hB1⟩
    · obtain rfl : k = l.length := by omega
      have HR : Hid (goodMs l = true) := hg
      clear hc hs hg
      go_wp2
      go_ret
      exact ⟨by rw [HM2.out, HR.out]; rfl, hb⟩
end Go.Proofs.YtenbdjlhcadhaaaGreat
