/-
  The specification's GoodState.
-/
import Derived.Test.YthlllegedfjhlaaG0
import Derived.Deep.Cut
namespace Go.Proofs.Ythlllegedfjhlaa
open Go.RowKit
set_option linter.unusedVariables false
set_option maxRecDepth 100000

set_option maxHeartbeats 16000000 in
theorem specGood_any (a c : Value) (C : List Pr) (S : List Ss) (w : World) (h : KR w a c C S) (hn : C.length ≤ 1048576) (hm : S.length ≤ 1048576) (hp : ∀ i (h : i < C.length), C[i].k.size ≤ 1048576 ∧ C[i].v.size ≤ 1048576) (hs : ∀ i (h : i < S.length), S[i].v.size ≤ 1048576) :
    Calls Try.prog 7 #[.agg #[a, c]] w fun e w' => e = .returned (.bool (gB C S)) ∧ Below w.heap.size w w' := by
  obtain ⟨⟨xa, xb, rfl, hcC⟩, ya, yb, rfl, hcS⟩ := h
  have X0 := Box.new w #[.slice xa C.length xb, .slice ya S.length yb] 31
  have B0 := below_alloc w (.cells #[.slice xa C.length xb, .slice ya S.length yb] 31)
  go_enter Try.func7, Try.ntmps7
  go_wp2
  go_loopw [10] (fun i wr => ∃ k : Nat, k ≤ C.length ∧ i = .int .i64 k ∧ cTo C k = true ∧ Below w.heap.size w wr ∧ Box wr w.heap.size [.slice xa C.length xb, .slice ya S.length yb]) (fun i _ => C.length - (intOf i).toNat)
  case atStart => exact ⟨0, Nat.zero_le _, rfl, rfl, B0, X0⟩
  case round =>
    clear B0 X0
    obtain ⟨k, hk, rfl, hok, hb, X⟩ := hrel
    have HO : Hid (cTo C k = true) := hok
    clear hok
    obtain ⟨hxl, s0, s1⟩ := X.c2
    by_cases hlt : k < C.length
    · skip
      obtain ⟨b, off, rfl, hbl, hcell⟩ := hcC (by intro e; simp [e] at hlt)
      obtain ⟨s, hse⟩ : ∃ s, s = C[k] := ⟨_, rfl⟩
      have hc0 : wr.cell? ⟨b, off + k * 2, none⟩ = some (.string s.k) := by rw [hse]; exact (hb.cell (p := ⟨b, off + k * 2, none⟩) hbl).trans (hcell k hlt).1
      have hc1 : wr.cell? ⟨b, off + k * 2 + 1, none⟩ = some (.string s.v) := by rw [hse]; exact (hb.cell (p := ⟨b, off + k * 2 + 1, none⟩) hbl).trans (hcell k hlt).2
      have hsk : s.k.size ≤ 1048576 := by rw [hse]; exact (hp k hlt).1
      have hsv : s.v.size ≤ 1048576 := by rw [hse]; exact (hp k hlt).2
      have hz := hb.size
      have hz1 : b < wr.heap.size := by omega
      have HE : Hid (cAt C k = (okC s && (decide (k = 0) || less (C.getD (k - 1) default).k s.k))) := by show cAt C k = _; rw [hse]; unfold cAt; rw [getP C k hlt]
      have HSU : Hid (cTo C (k + 1) = cAt C k) := by show _ = _; rw [cTo_succ, HO.out, Bool.true_and]
      have KF : ∀ W : World, Calls Try.prog 18 #[.string s.k] W fun e w' => e = .returned (.bool (okKey s.k)) ∧ Below W.heap.size W w' := fun W => (l4Key_any s.k W hsk).mono fun e w' h => ⟨h.1, by rw [h.2]; exact Below.refl _ _⟩
      by_cases h1 : okKey s.k = true
      · by_cases h2 : decide ((s.v.size : Int) ≤ 40) = true
        · have h40 : (s.v.size : Int) ≤ 40 := by simpa using h2
          have h40d : decide ((40 : Int) < (s.v.size : Int)) = false := by simp; omega
          by_cases hk0 : k = 0
          · have hg : decide ((0 : Int) < (k : Int)) = false := by simp; omega
            have hg' : decide (0 < k) = false := by simp; omega
            have HN : Hid (cTo C (k + 1) = true) := by show _ = true; rw [HSU.out, HE.out]; unfold okC; rw [h1, h2]; simp [hk0]
            clear hk0 hcell hse hcC hcS hp hs HE HSU
            have BA := below_alloc wr (.cells #[.string s.k, .string s.v] 49)
            have Y0 := Box.new wr #[.string s.k, .string s.v] 49
            have hb0 := below_then hb BA
            have hbW0 : b < (wr.alloc (.cells #[.string s.k, .string s.v] 49)).heap.size := by simp; omega
            have X0 := X.below BA
            obtain ⟨W0, hW0⟩ : ∃ W0, W0 = wr.alloc (.cells #[.string s.k, .string s.v] 49) := ⟨_, rfl⟩
            rw [← hW0] at Y0 hb0 hbW0 X0
            have HW0 : Hid (W0 = wr.alloc (.cells #[.string s.k, .string s.v] 49)) := hW0
            clear hW0 BA hb X hxl s0 s1
            obtain ⟨hy, p0, p1⟩ := Y0.c2
            have qp0 := fun x : WC W0.heap.size W0 => (x.ok.cell (p := ⟨wr.heap.size, 0, none⟩) hy).trans p0
            have qp1 := fun x : WC W0.heap.size W0 => (x.ok.cell (p := ⟨wr.heap.size, 1, none⟩) hy).trans p1
            obtain ⟨hxl, s0, s1⟩ := X0.c2
            have qs0 := fun x : WC W0.heap.size W0 => (x.ok.cell (p := ⟨w.heap.size, 0, none⟩) hxl).trans s0
            have qs1 := fun x : WC W0.heap.size W0 => (x.ok.cell (p := ⟨w.heap.size, 1, none⟩) hxl).trans s1
            have hne : Nonempty (WC W0.heap.size W0) := ⟨⟨_, Below.refl _ _⟩⟩
            clear p0 p1 Y0 s0 s1
            obtain ⟨sk, sv⟩ := s
            dsimp only at *
            go_upto_region 4 with fail
            have hw0 := HW0.out.symm
            rw [hw0]
            clear hw0 HW0 hc0 hc1
            refine wp_region_calm (B := W0.heap.size) (W := W0) (by kernel_rfl) (by kernel_rfl) (Below.refl _ _) ?_
            repeat (go_big_quiet_step (first | (go_at_call 18; with_reducible exact calm_of_below (Nat.le_refl _) (KF _))))
            refine wpQuiet_nil ?_
            intro _ hw'
            obtain ⟨x, hx⟩ := hw'
            subst hx
            have hB2 := below_then hb0 x.ok
            have X2 := X0.below x.ok
            clear qp0 qp1 hne KF qs0 qs1 X0
            generalize x.w = w3 at *
            clear x
            go_wp2
            go_roundw
            case rel => exact ⟨k + 1, by omega, by go_num, HN.out, hB2, X2⟩
            case measure => simp [intOf]; omega
          · obtain ⟨sp, hsp⟩ : ∃ sp, sp = (C[k - 1]).k := ⟨_, rfl⟩
            have hp0 : wr.cell? ⟨b, off + (k - 1) * 2, none⟩ = some (.string sp) := by rw [hsp]; exact (hb.cell (p := ⟨b, off + (k - 1) * 2, none⟩) hbl).trans (hcell (k - 1) (by omega)).1
            have hge : (C.getD (k - 1) default).k = sp := by rw [hsp, getP C (k - 1) (by omega)]
            rw [hge] at HE
            have hg : (0 : Int) < (k : Int) := by omega
            have hg1 : decide ((0 : Int) < (k : Int)) = true := by simp; omega
            have hg2 : decide (0 < k) = true := by simp; omega
            by_cases hle : Op.bytesLess sp.toList s.k.toList = true
            · have HN : Hid (cTo C (k + 1) = true) := by show _ = true; rw [HSU.out, HE.out]; unfold okC; rw [h1, h2]; simp [less, hle]
              clear hk0 hcell hse hsp hge hcC hcS hp hs HE HSU
              have BA := below_alloc wr (.cells #[.string s.k, .string s.v] 49)
              have Y0 := Box.new wr #[.string s.k, .string s.v] 49
              have hb0 := below_then hb BA
              have hbW0 : b < (wr.alloc (.cells #[.string s.k, .string s.v] 49)).heap.size := by simp; omega
              have hp0 := (BA.cell (p := ⟨b, off + (k - 1) * 2, none⟩) hz1).trans hp0
              have X0 := X.below BA
              obtain ⟨W0, hW0⟩ : ∃ W0, W0 = wr.alloc (.cells #[.string s.k, .string s.v] 49) := ⟨_, rfl⟩
              rw [← hW0] at Y0 hb0 hbW0 hp0 X0
              have HW0 : Hid (W0 = wr.alloc (.cells #[.string s.k, .string s.v] 49)) := hW0
              clear hW0 BA hb X hxl s0 s1
              obtain ⟨hy, p0, p1⟩ := Y0.c2
              have qp0 := fun x : WC W0.heap.size W0 => (x.ok.cell (p := ⟨wr.heap.size, 0, none⟩) hy).trans p0
              have qp1 := fun x : WC W0.heap.size W0 => (x.ok.cell (p := ⟨wr.heap.size, 1, none⟩) hy).trans p1
              have qpp := fun x : WC W0.heap.size W0 => (x.ok.cell (p := ⟨b, off + (k - 1) * 2, none⟩) hbW0).trans hp0
              obtain ⟨hxl, s0, s1⟩ := X0.c2
              have qs0 := fun x : WC W0.heap.size W0 => (x.ok.cell (p := ⟨w.heap.size, 0, none⟩) hxl).trans s0
              have qs1 := fun x : WC W0.heap.size W0 => (x.ok.cell (p := ⟨w.heap.size, 1, none⟩) hxl).trans s1
              have hne : Nonempty (WC W0.heap.size W0) := ⟨⟨_, Below.refl _ _⟩⟩
              clear p0 p1 Y0 hp0 s0 s1
              obtain ⟨sk, sv⟩ := s
              dsimp only at *
              go_upto_region 4 with fail
              have hw0 := HW0.out.symm
              rw [hw0]
              clear hw0 HW0 hc0 hc1
              refine wp_region_calm (B := W0.heap.size) (W := W0) (by kernel_rfl) (by kernel_rfl) (Below.refl _ _) ?_
              repeat (go_big_quiet_step (first | (go_at_call 18; with_reducible exact calm_of_below (Nat.le_refl _) (KF _))))
              refine wpQuiet_nil ?_
              intro _ hw'
              obtain ⟨x, hx⟩ := hw'
              subst hx
              have hB2 := below_then hb0 x.ok
              have X2 := X0.below x.ok
              clear qp0 qp1 hne KF qpp qs0 qs1 X0
              generalize x.w = w3 at *
              clear x
              go_wp2
              go_roundw
              case rel => exact ⟨k + 1, by omega, by go_num, HN.out, hB2, X2⟩
              case measure => simp [intOf]; omega
            · have hle' : Op.bytesLess sp.toList s.k.toList = false := by simpa using hle
              have HF : Hid (gB C S = false) := by show gB C S = false; unfold gB; rw [(cTo_stop C k hlt (by rw [HE.out]; unfold okC; rw [h1, h2]; simp [less, hle', hk0]))]; rfl
              clear hk0 hcell hse hsp hge hle hcC hcS hp hs HE HSU
              have BA := below_alloc wr (.cells #[.string s.k, .string s.v] 49)
              have Y0 := Box.new wr #[.string s.k, .string s.v] 49
              have hb0 := below_then hb BA
              have hbW0 : b < (wr.alloc (.cells #[.string s.k, .string s.v] 49)).heap.size := by simp; omega
              have hp0 := (BA.cell (p := ⟨b, off + (k - 1) * 2, none⟩) hz1).trans hp0
              have X0 := X.below BA
              obtain ⟨W0, hW0⟩ : ∃ W0, W0 = wr.alloc (.cells #[.string s.k, .string s.v] 49) := ⟨_, rfl⟩
              rw [← hW0] at Y0 hb0 hbW0 hp0 X0
              have HW0 : Hid (W0 = wr.alloc (.cells #[.string s.k, .string s.v] 49)) := hW0
              clear hW0 BA hb X hxl s0 s1
              obtain ⟨hy, p0, p1⟩ := Y0.c2
              have qp0 := fun x : WC W0.heap.size W0 => (x.ok.cell (p := ⟨wr.heap.size, 0, none⟩) hy).trans p0
              have qp1 := fun x : WC W0.heap.size W0 => (x.ok.cell (p := ⟨wr.heap.size, 1, none⟩) hy).trans p1
              have qpp := fun x : WC W0.heap.size W0 => (x.ok.cell (p := ⟨b, off + (k - 1) * 2, none⟩) hbW0).trans hp0
              obtain ⟨hxl, s0, s1⟩ := X0.c2
              have qs0 := fun x : WC W0.heap.size W0 => (x.ok.cell (p := ⟨w.heap.size, 0, none⟩) hxl).trans s0
              have qs1 := fun x : WC W0.heap.size W0 => (x.ok.cell (p := ⟨w.heap.size, 1, none⟩) hxl).trans s1
              have hne : Nonempty (WC W0.heap.size W0) := ⟨⟨_, Below.refl _ _⟩⟩
              clear p0 p1 Y0 hp0 s0 s1
              obtain ⟨sk, sv⟩ := s
              dsimp only at *
              go_upto_region 4 with fail
              have hw0 := HW0.out.symm
              rw [hw0]
              clear hw0 HW0 hc0 hc1
              refine wp_region_calm (B := W0.heap.size) (W := W0) (by kernel_rfl) (by kernel_rfl) (Below.refl _ _) ?_
              repeat (go_big_quiet_step (first | (go_at_call 18; with_reducible exact calm_of_below (Nat.le_refl _) (KF _))))
              refine wpQuiet_nil ?_
              intro _ hw'
              obtain ⟨x, hx⟩ := hw'
              subst hx
              have hB2 := below_then hb0 x.ok
              have X2 := X0.below x.ok
              clear qp0 qp1 hne KF qpp qs0 qs1 X0
              generalize x.w = w3 at *
              clear x
              go_wp2
              go_ret
              exact ⟨ret_bool HF.out.symm, hB2⟩
        · have h2' : decide ((s.v.size : Int) ≤ 40) = false := by simpa using h2
          have HF : Hid (gB C S = false) := by show gB C S = false; unfold gB; rw [(cTo_stop C k hlt (by rw [HE.out]; unfold okC; rw [h1, h2']; simp))]; rfl
          have h2n : ¬ (s.v.size : Int) ≤ 40 := by simpa using h2
          have h2d : decide ((40 : Int) < (s.v.size : Int)) = true := by simp; omega
          clear hcell hse hcC hcS hp hs HE HSU h2
          have BA := below_alloc wr (.cells #[.string s.k, .string s.v] 49)
          have Y0 := Box.new wr #[.string s.k, .string s.v] 49
          have hb0 := below_then hb BA
          have hbW0 : b < (wr.alloc (.cells #[.string s.k, .string s.v] 49)).heap.size := by simp; omega
          have X0 := X.below BA
          obtain ⟨W0, hW0⟩ : ∃ W0, W0 = wr.alloc (.cells #[.string s.k, .string s.v] 49) := ⟨_, rfl⟩
          rw [← hW0] at Y0 hb0 hbW0 X0
          have HW0 : Hid (W0 = wr.alloc (.cells #[.string s.k, .string s.v] 49)) := hW0
          clear hW0 BA hb X hxl s0 s1
          obtain ⟨hy, p0, p1⟩ := Y0.c2
          have qp0 := fun x : WC W0.heap.size W0 => (x.ok.cell (p := ⟨wr.heap.size, 0, none⟩) hy).trans p0
          have qp1 := fun x : WC W0.heap.size W0 => (x.ok.cell (p := ⟨wr.heap.size, 1, none⟩) hy).trans p1
          obtain ⟨hxl, s0, s1⟩ := X0.c2
          have qs0 := fun x : WC W0.heap.size W0 => (x.ok.cell (p := ⟨w.heap.size, 0, none⟩) hxl).trans s0
          have qs1 := fun x : WC W0.heap.size W0 => (x.ok.cell (p := ⟨w.heap.size, 1, none⟩) hxl).trans s1
          have hne : Nonempty (WC W0.heap.size W0) := ⟨⟨_, Below.refl _ _⟩⟩
          clear p0 p1 Y0 s0 s1
          obtain ⟨sk, sv⟩ := s
          dsimp only at *
          go_upto_region 4 with fail
          have hw0 := HW0.out.symm
          rw [hw0]
          clear hw0 HW0 hc0 hc1
          refine wp_region_calm (B := W0.heap.size) (W := W0) (by kernel_rfl) (by kernel_rfl) (Below.refl _ _) ?_
          repeat (go_big_quiet_step (first | (go_at_call 18; with_reducible exact calm_of_below (Nat.le_refl _) (KF _))))
          refine wpQuiet_nil ?_
          intro _ hw'
          obtain ⟨x, hx⟩ := hw'
          subst hx
          have hB2 := below_then hb0 x.ok
          have X2 := X0.below x.ok
          clear qp0 qp1 hne KF qs0 qs1 X0
          generalize x.w = w3 at *
          clear x
          go_wp2
          go_ret
          exact ⟨ret_bool HF.out.symm, hB2⟩
      · have h1' : okKey s.k = false := by simpa using h1
        have HF : Hid (gB C S = false) := by show gB C S = false; unfold gB; rw [(cTo_stop C k hlt (by rw [HE.out]; unfold okC; rw [h1']; simp))]; rfl
        clear hcell hse hcC hcS hp hs HE HSU h1
        have BA := below_alloc wr (.cells #[.string s.k, .string s.v] 49)
        have Y0 := Box.new wr #[.string s.k, .string s.v] 49
        have hb0 := below_then hb BA
        have hbW0 : b < (wr.alloc (.cells #[.string s.k, .string s.v] 49)).heap.size := by simp; omega
        have X0 := X.below BA
        obtain ⟨W0, hW0⟩ : ∃ W0, W0 = wr.alloc (.cells #[.string s.k, .string s.v] 49) := ⟨_, rfl⟩
        rw [← hW0] at Y0 hb0 hbW0 X0
        have HW0 : Hid (W0 = wr.alloc (.cells #[.string s.k, .string s.v] 49)) := hW0
        clear hW0 BA hb X hxl s0 s1
        obtain ⟨hy, p0, p1⟩ := Y0.c2
        have qp0 := fun x : WC W0.heap.size W0 => (x.ok.cell (p := ⟨wr.heap.size, 0, none⟩) hy).trans p0
        have qp1 := fun x : WC W0.heap.size W0 => (x.ok.cell (p := ⟨wr.heap.size, 1, none⟩) hy).trans p1
        obtain ⟨hxl, s0, s1⟩ := X0.c2
        have qs0 := fun x : WC W0.heap.size W0 => (x.ok.cell (p := ⟨w.heap.size, 0, none⟩) hxl).trans s0
        have qs1 := fun x : WC W0.heap.size W0 => (x.ok.cell (p := ⟨w.heap.size, 1, none⟩) hxl).trans s1
        have hne : Nonempty (WC W0.heap.size W0) := ⟨⟨_, Below.refl _ _⟩⟩
        clear p0 p1 Y0 s0 s1
        obtain ⟨sk, sv⟩ := s
        dsimp only at *
        go_upto_region 4 with fail
        have hw0 := HW0.out.symm
        rw [hw0]
        clear hw0 HW0 hc0 hc1
        refine wp_region_calm (B := W0.heap.size) (W := W0) (by kernel_rfl) (by kernel_rfl) (Below.refl _ _) ?_
        repeat (go_big_quiet_step (first | (go_at_call 18; with_reducible exact calm_of_below (Nat.le_refl _) (KF _))))
        refine wpQuiet_nil ?_
        intro _ hw'
        obtain ⟨x, hx⟩ := hw'
        subst hx
        have hB2 := below_then hb0 x.ok
        have X2 := X0.below x.ok
        clear qp0 qp1 hne KF qs0 qs1 X0
        generalize x.w = w3 at *
        clear x
        go_wp2
        go_ret
        exact ⟨ret_bool HF.out.symm, hB2⟩
    · have : k = C.length := by omega
      subst this
      have HC : Hid (gcB C = true) := HO.out
      clear hcC hp HO hk hlt
      go_wp2
      go_loopw [45] (fun i wr => ∃ k : Nat, k ≤ S.length ∧ i = .int .i64 k ∧ sTo S k = true ∧ Below w.heap.size w wr ∧ Box wr w.heap.size [.slice xa C.length xb, .slice ya S.length yb]) (fun i _ => S.length - (intOf i).toNat)
      case atStart => exact ⟨0, Nat.zero_le _, rfl, rfl, hb, X⟩
      case round =>
        clear hb X hxl s0 s1
        obtain ⟨k, hk, rfl, hok, hb, X⟩ := hrel
        have HO : Hid (sTo S k = true) := hok
        clear hok
        obtain ⟨hxl, s0, s1⟩ := X.c2
        by_cases hlt : k < S.length
        · skip
          obtain ⟨b, off, rfl, hbl, hcell⟩ := hcS (by intro e; simp [e] at hlt)
          obtain ⟨s, hse⟩ : ∃ s, s = S[k] := ⟨_, rfl⟩
          have hc0 : wr.cell? ⟨b, off + k * 4, none⟩ = some (.int .i64 s.n) := by rw [hse]; exact (hb.cell (p := ⟨b, off + k * 4, none⟩) hbl).trans (hcell k hlt).1
          have hc1 : wr.cell? ⟨b, off + k * 4 + 1, none⟩ = some (.int .i64 s.d) := by rw [hse]; exact (hb.cell (p := ⟨b, off + k * 4 + 1, none⟩) hbl).trans (hcell k hlt).2.1
          have hc2 : wr.cell? ⟨b, off + k * 4 + 2, none⟩ = some (.int .i64 s.c) := by rw [hse]; exact (hb.cell (p := ⟨b, off + k * 4 + 2, none⟩) hbl).trans (hcell k hlt).2.2.1
          have hc3 : wr.cell? ⟨b, off + k * 4 + 3, none⟩ = some (.string s.v) := by rw [hse]; exact (hb.cell (p := ⟨b, off + k * 4 + 3, none⟩) hbl).trans (hcell k hlt).2.2.2
          have hsv : s.v.size ≤ 1048576 := by rw [hse]; exact hs k hlt
          have hz := hb.size
          have hz1 : b < wr.heap.size := by omega
          have HE : Hid (sAt S k = (okS s && (decide (k = 0) || decide ((S.getD (k - 1) default).n < s.n)))) := by show sAt S k = _; rw [hse]; unfold sAt; rw [getS S k hlt]
          have HSU : Hid (sTo S (k + 1) = sAt S k) := by show _ = _; rw [sTo_succ, HO.out, Bool.true_and]
          have KF : ∀ (n lo hi : Int) (W : World), Calls Try.prog 19 #[.int .i64 n, .int .i64 lo, .int .i64 hi] W fun e w' => e = .returned (.bool (decide (lo ≤ n) && decide (n ≤ hi))) ∧ Below W.heap.size W w' := fun n lo hi W => (l1In_any n lo hi W).mono fun e w' h => ⟨h.1, by rw [h.2]; exact Below.refl _ _⟩
          by_cases h1 : (decide ((0 : Int) ≤ s.n) && decide (s.n ≤ 99)) = true
          · by_cases h2 : (decide ((1 : Int) ≤ s.d) && decide (s.d ≤ 1000000)) = true
            · by_cases h3 : (decide ((0 : Int) ≤ s.c) && decide (s.c ≤ 4)) = true
              · by_cases h4 : decide ((s.v.size : Int) ≤ 40) = true
                · have h40 : (s.v.size : Int) ≤ 40 := by simpa using h4
                  have h40d : decide ((40 : Int) < (s.v.size : Int)) = false := by simp; omega
                  by_cases hk0 : k = 0
                  · have hg : decide ((0 : Int) < (k : Int)) = false := by simp; omega
                    have hg' : decide (0 < k) = false := by simp; omega
                    have HN : Hid (sTo S (k + 1) = true) := by show _ = true; rw [HSU.out, HE.out]; unfold okS; rw [h1, h2, h3, h4]; simp [hk0]
                    clear hk0 hcell hse hcS hs HC HE HSU
                    have BA := below_alloc wr (.cells #[.int .i64 s.n, .int .i64 s.d, .int .i64 s.c, .string s.v] 38)
                    have Y0 := Box.new wr #[.int .i64 s.n, .int .i64 s.d, .int .i64 s.c, .string s.v] 38
                    have hb0 := below_then hb BA
                    have hbW0 : b < (wr.alloc (.cells #[.int .i64 s.n, .int .i64 s.d, .int .i64 s.c, .string s.v] 38)).heap.size := by simp; omega
                    have X0 := X.below BA
                    obtain ⟨W0, hW0⟩ : ∃ W0, W0 = wr.alloc (.cells #[.int .i64 s.n, .int .i64 s.d, .int .i64 s.c, .string s.v] 38) := ⟨_, rfl⟩
                    rw [← hW0] at Y0 hb0 hbW0 X0
                    have HW0 : Hid (W0 = wr.alloc (.cells #[.int .i64 s.n, .int .i64 s.d, .int .i64 s.c, .string s.v] 38)) := hW0
                    clear hW0 BA hb X hxl s0 s1
                    obtain ⟨hy, p0, p1, p2, p3⟩ := Y0.c4
                    have qp0 := fun x : WC W0.heap.size W0 => (x.ok.cell (p := ⟨wr.heap.size, 0, none⟩) hy).trans p0
                    have qp1 := fun x : WC W0.heap.size W0 => (x.ok.cell (p := ⟨wr.heap.size, 1, none⟩) hy).trans p1
                    have qp2 := fun x : WC W0.heap.size W0 => (x.ok.cell (p := ⟨wr.heap.size, 2, none⟩) hy).trans p2
                    have qp3 := fun x : WC W0.heap.size W0 => (x.ok.cell (p := ⟨wr.heap.size, 3, none⟩) hy).trans p3
                    obtain ⟨hxl, s0, s1⟩ := X0.c2
                    have qs0 := fun x : WC W0.heap.size W0 => (x.ok.cell (p := ⟨w.heap.size, 0, none⟩) hxl).trans s0
                    have qs1 := fun x : WC W0.heap.size W0 => (x.ok.cell (p := ⟨w.heap.size, 1, none⟩) hxl).trans s1
                    have hne : Nonempty (WC W0.heap.size W0) := ⟨⟨_, Below.refl _ _⟩⟩
                    clear p0 p1 p2 p3 Y0 s0 s1
                    obtain ⟨sn, sd, sc, sv⟩ := s
                    dsimp only at *
                    go_upto_region 10 with fail
                    have hw0 := HW0.out.symm
                    rw [hw0]
                    clear hw0 HW0 hc0 hc1 hc2 hc3
                    refine wp_region_calm (B := W0.heap.size) (W := W0) (by kernel_rfl) (by kernel_rfl) (Below.refl _ _) ?_
                    repeat (go_big_quiet_step (first | (go_at_call 19; with_reducible exact calm_of_below (Nat.le_refl _) (KF _ _ _ _))))
                    refine wpQuiet_nil ?_
                    intro _ hw'
                    obtain ⟨x, hx⟩ := hw'
                    subst hx
                    have hB2 := below_then hb0 x.ok
                    have X2 := X0.below x.ok
                    clear qp0 qp1 qp2 qp3 hne KF qs0 qs1 X0
                    generalize x.w = w3 at *
                    clear x
                    go_wp2
                    go_roundw
                    case rel => exact ⟨k + 1, by omega, by go_num, HN.out, hB2, X2⟩
                    case measure => simp [intOf]; omega
                  · obtain ⟨sp, hsp⟩ : ∃ sp, sp = (S[k - 1]).n := ⟨_, rfl⟩
                    have hp0 : wr.cell? ⟨b, off + (k - 1) * 4, none⟩ = some (.int .i64 sp) := by rw [hsp]; exact (hb.cell (p := ⟨b, off + (k - 1) * 4, none⟩) hbl).trans (hcell (k - 1) (by omega)).1
                    have hge : (S.getD (k - 1) default).n = sp := by rw [hsp, getS S (k - 1) (by omega)]
                    rw [hge] at HE
                    have hg : (0 : Int) < (k : Int) := by omega
                    have hg1 : decide ((0 : Int) < (k : Int)) = true := by simp; omega
                    have hg2 : decide (0 < k) = true := by simp; omega
                    by_cases hle : sp < s.n
                    · have HN : Hid (sTo S (k + 1) = true) := by show _ = true; rw [HSU.out, HE.out]; unfold okS; rw [h1, h2, h3, h4]; simp [hle]
                      have hle1 : decide (s.n ≤ sp) = false := by simp; omega
                      clear hk0 hcell hse hsp hge hcS hs HC HE HSU
                      have BA := below_alloc wr (.cells #[.int .i64 s.n, .int .i64 s.d, .int .i64 s.c, .string s.v] 38)
                      have Y0 := Box.new wr #[.int .i64 s.n, .int .i64 s.d, .int .i64 s.c, .string s.v] 38
                      have hb0 := below_then hb BA
                      have hbW0 : b < (wr.alloc (.cells #[.int .i64 s.n, .int .i64 s.d, .int .i64 s.c, .string s.v] 38)).heap.size := by simp; omega
                      have hp0 := (BA.cell (p := ⟨b, off + (k - 1) * 4, none⟩) hz1).trans hp0
                      have X0 := X.below BA
                      obtain ⟨W0, hW0⟩ : ∃ W0, W0 = wr.alloc (.cells #[.int .i64 s.n, .int .i64 s.d, .int .i64 s.c, .string s.v] 38) := ⟨_, rfl⟩
                      rw [← hW0] at Y0 hb0 hbW0 hp0 X0
                      have HW0 : Hid (W0 = wr.alloc (.cells #[.int .i64 s.n, .int .i64 s.d, .int .i64 s.c, .string s.v] 38)) := hW0
                      clear hW0 BA hb X hxl s0 s1
                      obtain ⟨hy, p0, p1, p2, p3⟩ := Y0.c4
                      have qp0 := fun x : WC W0.heap.size W0 => (x.ok.cell (p := ⟨wr.heap.size, 0, none⟩) hy).trans p0
                      have qp1 := fun x : WC W0.heap.size W0 => (x.ok.cell (p := ⟨wr.heap.size, 1, none⟩) hy).trans p1
                      have qp2 := fun x : WC W0.heap.size W0 => (x.ok.cell (p := ⟨wr.heap.size, 2, none⟩) hy).trans p2
                      have qp3 := fun x : WC W0.heap.size W0 => (x.ok.cell (p := ⟨wr.heap.size, 3, none⟩) hy).trans p3
                      have qpp := fun x : WC W0.heap.size W0 => (x.ok.cell (p := ⟨b, off + (k - 1) * 4, none⟩) hbW0).trans hp0
                      obtain ⟨hxl, s0, s1⟩ := X0.c2
                      have qs0 := fun x : WC W0.heap.size W0 => (x.ok.cell (p := ⟨w.heap.size, 0, none⟩) hxl).trans s0
                      have qs1 := fun x : WC W0.heap.size W0 => (x.ok.cell (p := ⟨w.heap.size, 1, none⟩) hxl).trans s1
                      have hne : Nonempty (WC W0.heap.size W0) := ⟨⟨_, Below.refl _ _⟩⟩
                      clear p0 p1 p2 p3 Y0 hp0 s0 s1
                      obtain ⟨sn, sd, sc, sv⟩ := s
                      dsimp only at *
                      go_upto_region 10 with fail
                      have hw0 := HW0.out.symm
                      rw [hw0]
                      clear hw0 HW0 hc0 hc1 hc2 hc3
                      refine wp_region_calm (B := W0.heap.size) (W := W0) (by kernel_rfl) (by kernel_rfl) (Below.refl _ _) ?_
                      repeat (go_big_quiet_step (first | (go_at_call 19; with_reducible exact calm_of_below (Nat.le_refl _) (KF _ _ _ _))))
                      refine wpQuiet_nil ?_
                      intro _ hw'
                      obtain ⟨x, hx⟩ := hw'
                      subst hx
                      have hB2 := below_then hb0 x.ok
                      have X2 := X0.below x.ok
                      clear qp0 qp1 qp2 qp3 hne KF qpp qs0 qs1 X0
                      generalize x.w = w3 at *
                      clear x
                      go_wp2
                      go_roundw
                      case rel => exact ⟨k + 1, by omega, by go_num, HN.out, hB2, X2⟩
                      case measure => simp [intOf]; omega
                    · have hle1 : decide (s.n ≤ sp) = true := by simp; omega
                      have HF : Hid (gB C S = false) := by show gB C S = false; unfold gB; rw [(sTo_stop S k hlt (by rw [HE.out]; unfold okS; rw [h1, h2, h3, h4]; simp [hle, hk0]))]; simp
                      clear hk0 hcell hse hsp hge hle hcS hs HC HE HSU
                      have BA := below_alloc wr (.cells #[.int .i64 s.n, .int .i64 s.d, .int .i64 s.c, .string s.v] 38)
                      have Y0 := Box.new wr #[.int .i64 s.n, .int .i64 s.d, .int .i64 s.c, .string s.v] 38
                      have hb0 := below_then hb BA
                      have hbW0 : b < (wr.alloc (.cells #[.int .i64 s.n, .int .i64 s.d, .int .i64 s.c, .string s.v] 38)).heap.size := by simp; omega
                      have hp0 := (BA.cell (p := ⟨b, off + (k - 1) * 4, none⟩) hz1).trans hp0
                      have X0 := X.below BA
                      obtain ⟨W0, hW0⟩ : ∃ W0, W0 = wr.alloc (.cells #[.int .i64 s.n, .int .i64 s.d, .int .i64 s.c, .string s.v] 38) := ⟨_, rfl⟩
                      rw [← hW0] at Y0 hb0 hbW0 hp0 X0
                      have HW0 : Hid (W0 = wr.alloc (.cells #[.int .i64 s.n, .int .i64 s.d, .int .i64 s.c, .string s.v] 38)) := hW0
                      clear hW0 BA hb X hxl s0 s1
                      obtain ⟨hy, p0, p1, p2, p3⟩ := Y0.c4
                      have qp0 := fun x : WC W0.heap.size W0 => (x.ok.cell (p := ⟨wr.heap.size, 0, none⟩) hy).trans p0
                      have qp1 := fun x : WC W0.heap.size W0 => (x.ok.cell (p := ⟨wr.heap.size, 1, none⟩) hy).trans p1
                      have qp2 := fun x : WC W0.heap.size W0 => (x.ok.cell (p := ⟨wr.heap.size, 2, none⟩) hy).trans p2
                      have qp3 := fun x : WC W0.heap.size W0 => (x.ok.cell (p := ⟨wr.heap.size, 3, none⟩) hy).trans p3
                      have qpp := fun x : WC W0.heap.size W0 => (x.ok.cell (p := ⟨b, off + (k - 1) * 4, none⟩) hbW0).trans hp0
                      obtain ⟨hxl, s0, s1⟩ := X0.c2
                      have qs0 := fun x : WC W0.heap.size W0 => (x.ok.cell (p := ⟨w.heap.size, 0, none⟩) hxl).trans s0
                      have qs1 := fun x : WC W0.heap.size W0 => (x.ok.cell (p := ⟨w.heap.size, 1, none⟩) hxl).trans s1
                      have hne : Nonempty (WC W0.heap.size W0) := ⟨⟨_, Below.refl _ _⟩⟩
                      clear p0 p1 p2 p3 Y0 hp0 s0 s1
                      obtain ⟨sn, sd, sc, sv⟩ := s
                      dsimp only at *
                      go_upto_region 10 with fail
                      have hw0 := HW0.out.symm
                      rw [hw0]
                      clear hw0 HW0 hc0 hc1 hc2 hc3
                      refine wp_region_calm (B := W0.heap.size) (W := W0) (by kernel_rfl) (by kernel_rfl) (Below.refl _ _) ?_
                      repeat (go_big_quiet_step (first | (go_at_call 19; with_reducible exact calm_of_below (Nat.le_refl _) (KF _ _ _ _))))
                      refine wpQuiet_nil ?_
                      intro _ hw'
                      obtain ⟨x, hx⟩ := hw'
                      subst hx
                      have hB2 := below_then hb0 x.ok
                      have X2 := X0.below x.ok
                      clear qp0 qp1 qp2 qp3 hne KF qpp qs0 qs1 X0
                      generalize x.w = w3 at *
                      clear x
                      go_wp2
                      go_ret
                      exact ⟨ret_bool HF.out.symm, hB2⟩
                · have h4' : decide ((s.v.size : Int) ≤ 40) = false := by simpa using h4
                  have HF : Hid (gB C S = false) := by show gB C S = false; unfold gB; rw [(sTo_stop S k hlt (by rw [HE.out]; unfold okS; rw [h1, h2, h3, h4']; simp))]; simp
                  have h4n : ¬ (s.v.size : Int) ≤ 40 := by simpa using h4
                  have h4d : decide ((40 : Int) < (s.v.size : Int)) = true := by simp; omega
                  clear hcell hse hcS hs HC HE HSU h4
                  have BA := below_alloc wr (.cells #[.int .i64 s.n, .int .i64 s.d, .int .i64 s.c, .string s.v] 38)
                  have Y0 := Box.new wr #[.int .i64 s.n, .int .i64 s.d, .int .i64 s.c, .string s.v] 38
                  have hb0 := below_then hb BA
                  have hbW0 : b < (wr.alloc (.cells #[.int .i64 s.n, .int .i64 s.d, .int .i64 s.c, .string s.v] 38)).heap.size := by simp; omega
                  have X0 := X.below BA
                  obtain ⟨W0, hW0⟩ : ∃ W0, W0 = wr.alloc (.cells #[.int .i64 s.n, .int .i64 s.d, .int .i64 s.c, .string s.v] 38) := ⟨_, rfl⟩
                  rw [← hW0] at Y0 hb0 hbW0 X0
                  have HW0 : Hid (W0 = wr.alloc (.cells #[.int .i64 s.n, .int .i64 s.d, .int .i64 s.c, .string s.v] 38)) := hW0
                  clear hW0 BA hb X hxl s0 s1
                  obtain ⟨hy, p0, p1, p2, p3⟩ := Y0.c4
                  have qp0 := fun x : WC W0.heap.size W0 => (x.ok.cell (p := ⟨wr.heap.size, 0, none⟩) hy).trans p0
                  have qp1 := fun x : WC W0.heap.size W0 => (x.ok.cell (p := ⟨wr.heap.size, 1, none⟩) hy).trans p1
                  have qp2 := fun x : WC W0.heap.size W0 => (x.ok.cell (p := ⟨wr.heap.size, 2, none⟩) hy).trans p2
                  have qp3 := fun x : WC W0.heap.size W0 => (x.ok.cell (p := ⟨wr.heap.size, 3, none⟩) hy).trans p3
                  obtain ⟨hxl, s0, s1⟩ := X0.c2
                  have qs0 := fun x : WC W0.heap.size W0 => (x.ok.cell (p := ⟨w.heap.size, 0, none⟩) hxl).trans s0
                  have qs1 := fun x : WC W0.heap.size W0 => (x.ok.cell (p := ⟨w.heap.size, 1, none⟩) hxl).trans s1
                  have hne : Nonempty (WC W0.heap.size W0) := ⟨⟨_, Below.refl _ _⟩⟩
                  clear p0 p1 p2 p3 Y0 s0 s1
                  obtain ⟨sn, sd, sc, sv⟩ := s
                  dsimp only at *
                  go_upto_region 10 with fail
                  have hw0 := HW0.out.symm
                  rw [hw0]
                  clear hw0 HW0 hc0 hc1 hc2 hc3
                  refine wp_region_calm (B := W0.heap.size) (W := W0) (by kernel_rfl) (by kernel_rfl) (Below.refl _ _) ?_
                  repeat (go_big_quiet_step (first | (go_at_call 19; with_reducible exact calm_of_below (Nat.le_refl _) (KF _ _ _ _))))
                  refine wpQuiet_nil ?_
                  intro _ hw'
                  obtain ⟨x, hx⟩ := hw'
                  subst hx
                  have hB2 := below_then hb0 x.ok
                  have X2 := X0.below x.ok
                  clear qp0 qp1 qp2 qp3 hne KF qs0 qs1 X0
                  generalize x.w = w3 at *
                  clear x
                  go_wp2
                  go_ret
                  exact ⟨ret_bool HF.out.symm, hB2⟩
              · have h3' : (decide ((0 : Int) ≤ s.c) && decide (s.c ≤ 4)) = false := by simpa using h3
                have HF : Hid (gB C S = false) := by show gB C S = false; unfold gB; rw [(sTo_stop S k hlt (by rw [HE.out]; unfold okS; rw [h1, h2, h3']; simp))]; simp
                clear hcell hse hcS hs HC HE HSU h3
                have BA := below_alloc wr (.cells #[.int .i64 s.n, .int .i64 s.d, .int .i64 s.c, .string s.v] 38)
                have Y0 := Box.new wr #[.int .i64 s.n, .int .i64 s.d, .int .i64 s.c, .string s.v] 38
                have hb0 := below_then hb BA
                have hbW0 : b < (wr.alloc (.cells #[.int .i64 s.n, .int .i64 s.d, .int .i64 s.c, .string s.v] 38)).heap.size := by simp; omega
                have X0 := X.below BA
                obtain ⟨W0, hW0⟩ : ∃ W0, W0 = wr.alloc (.cells #[.int .i64 s.n, .int .i64 s.d, .int .i64 s.c, .string s.v] 38) := ⟨_, rfl⟩
                rw [← hW0] at Y0 hb0 hbW0 X0
                have HW0 : Hid (W0 = wr.alloc (.cells #[.int .i64 s.n, .int .i64 s.d, .int .i64 s.c, .string s.v] 38)) := hW0
                clear hW0 BA hb X hxl s0 s1
                obtain ⟨hy, p0, p1, p2, p3⟩ := Y0.c4
                have qp0 := fun x : WC W0.heap.size W0 => (x.ok.cell (p := ⟨wr.heap.size, 0, none⟩) hy).trans p0
                have qp1 := fun x : WC W0.heap.size W0 => (x.ok.cell (p := ⟨wr.heap.size, 1, none⟩) hy).trans p1
                have qp2 := fun x : WC W0.heap.size W0 => (x.ok.cell (p := ⟨wr.heap.size, 2, none⟩) hy).trans p2
                have qp3 := fun x : WC W0.heap.size W0 => (x.ok.cell (p := ⟨wr.heap.size, 3, none⟩) hy).trans p3
                obtain ⟨hxl, s0, s1⟩ := X0.c2
                have qs0 := fun x : WC W0.heap.size W0 => (x.ok.cell (p := ⟨w.heap.size, 0, none⟩) hxl).trans s0
                have qs1 := fun x : WC W0.heap.size W0 => (x.ok.cell (p := ⟨w.heap.size, 1, none⟩) hxl).trans s1
                have hne : Nonempty (WC W0.heap.size W0) := ⟨⟨_, Below.refl _ _⟩⟩
                clear p0 p1 p2 p3 Y0 s0 s1
                obtain ⟨sn, sd, sc, sv⟩ := s
                dsimp only at *
                go_upto_region 10 with fail
                have hw0 := HW0.out.symm
                rw [hw0]
                clear hw0 HW0 hc0 hc1 hc2 hc3
                refine wp_region_calm (B := W0.heap.size) (W := W0) (by kernel_rfl) (by kernel_rfl) (Below.refl _ _) ?_
                repeat (go_big_quiet_step (first | (go_at_call 19; with_reducible exact calm_of_below (Nat.le_refl _) (KF _ _ _ _))))
                refine wpQuiet_nil ?_
                intro _ hw'
                obtain ⟨x, hx⟩ := hw'
                subst hx
                have hB2 := below_then hb0 x.ok
                have X2 := X0.below x.ok
                clear qp0 qp1 qp2 qp3 hne KF qs0 qs1 X0
                generalize x.w = w3 at *
                clear x
                go_wp2
                go_ret
                exact ⟨ret_bool HF.out.symm, hB2⟩
            · have h2' : (decide ((1 : Int) ≤ s.d) && decide (s.d ≤ 1000000)) = false := by simpa using h2
              have HF : Hid (gB C S = false) := by show gB C S = false; unfold gB; rw [(sTo_stop S k hlt (by rw [HE.out]; unfold okS; rw [h1, h2']; simp))]; simp
              clear hcell hse hcS hs HC HE HSU h2
              have BA := below_alloc wr (.cells #[.int .i64 s.n, .int .i64 s.d, .int .i64 s.c, .string s.v] 38)
              have Y0 := Box.new wr #[.int .i64 s.n, .int .i64 s.d, .int .i64 s.c, .string s.v] 38
              have hb0 := below_then hb BA
              have hbW0 : b < (wr.alloc (.cells #[.int .i64 s.n, .int .i64 s.d, .int .i64 s.c, .string s.v] 38)).heap.size := by simp; omega
              have X0 := X.below BA
              obtain ⟨W0, hW0⟩ : ∃ W0, W0 = wr.alloc (.cells #[.int .i64 s.n, .int .i64 s.d, .int .i64 s.c, .string s.v] 38) := ⟨_, rfl⟩
              rw [← hW0] at Y0 hb0 hbW0 X0
              have HW0 : Hid (W0 = wr.alloc (.cells #[.int .i64 s.n, .int .i64 s.d, .int .i64 s.c, .string s.v] 38)) := hW0
              clear hW0 BA hb X hxl s0 s1
              obtain ⟨hy, p0, p1, p2, p3⟩ := Y0.c4
              have qp0 := fun x : WC W0.heap.size W0 => (x.ok.cell (p := ⟨wr.heap.size, 0, none⟩) hy).trans p0
              have qp1 := fun x : WC W0.heap.size W0 => (x.ok.cell (p := ⟨wr.heap.size, 1, none⟩) hy).trans p1
              have qp2 := fun x : WC W0.heap.size W0 => (x.ok.cell (p := ⟨wr.heap.size, 2, none⟩) hy).trans p2
              have qp3 := fun x : WC W0.heap.size W0 => (x.ok.cell (p := ⟨wr.heap.size, 3, none⟩) hy).trans p3
              obtain ⟨hxl, s0, s1⟩ := X0.c2
              have qs0 := fun x : WC W0.heap.size W0 => (x.ok.cell (p := ⟨w.heap.size, 0, none⟩) hxl).trans s0
              have qs1 := fun x : WC W0.heap.size W0 => (x.ok.cell (p := ⟨w.heap.size, 1, none⟩) hxl).trans s1
              have hne : Nonempty (WC W0.heap.size W0) := ⟨⟨_, Below.refl _ _⟩⟩
              clear p0 p1 p2 p3 Y0 s0 s1
              obtain ⟨sn, sd, sc, sv⟩ := s
              dsimp only at *
              go_upto_region 10 with fail
              have hw0 := HW0.out.symm
              rw [hw0]
              clear hw0 HW0 hc0 hc1 hc2 hc3
              refine wp_region_calm (B := W0.heap.size) (W := W0) (by kernel_rfl) (by kernel_rfl) (Below.refl _ _) ?_
              repeat (go_big_quiet_step (first | (go_at_call 19; with_reducible exact calm_of_below (Nat.le_refl _) (KF _ _ _ _))))
              refine wpQuiet_nil ?_
              intro _ hw'
              obtain ⟨x, hx⟩ := hw'
              subst hx
              have hB2 := below_then hb0 x.ok
              have X2 := X0.below x.ok
              clear qp0 qp1 qp2 qp3 hne KF qs0 qs1 X0
              generalize x.w = w3 at *
              clear x
              go_wp2
              go_ret
              exact ⟨ret_bool HF.out.symm, hB2⟩
          · have h1' : (decide ((0 : Int) ≤ s.n) && decide (s.n ≤ 99)) = false := by simpa using h1
            have HF : Hid (gB C S = false) := by show gB C S = false; unfold gB; rw [(sTo_stop S k hlt (by rw [HE.out]; unfold okS; rw [h1']; simp))]; simp
            clear hcell hse hcS hs HC HE HSU h1
            have BA := below_alloc wr (.cells #[.int .i64 s.n, .int .i64 s.d, .int .i64 s.c, .string s.v] 38)
            have Y0 := Box.new wr #[.int .i64 s.n, .int .i64 s.d, .int .i64 s.c, .string s.v] 38
            have hb0 := below_then hb BA
            have hbW0 : b < (wr.alloc (.cells #[.int .i64 s.n, .int .i64 s.d, .int .i64 s.c, .string s.v] 38)).heap.size := by simp; omega
            have X0 := X.below BA
            obtain ⟨W0, hW0⟩ : ∃ W0, W0 = wr.alloc (.cells #[.int .i64 s.n, .int .i64 s.d, .int .i64 s.c, .string s.v] 38) := ⟨_, rfl⟩
            rw [← hW0] at Y0 hb0 hbW0 X0
            have HW0 : Hid (W0 = wr.alloc (.cells #[.int .i64 s.n, .int .i64 s.d, .int .i64 s.c, .string s.v] 38)) := hW0
            clear hW0 BA hb X hxl s0 s1
            obtain ⟨hy, p0, p1, p2, p3⟩ := Y0.c4
            have qp0 := fun x : WC W0.heap.size W0 => (x.ok.cell (p := ⟨wr.heap.size, 0, none⟩) hy).trans p0
            have qp1 := fun x : WC W0.heap.size W0 => (x.ok.cell (p := ⟨wr.heap.size, 1, none⟩) hy).trans p1
            have qp2 := fun x : WC W0.heap.size W0 => (x.ok.cell (p := ⟨wr.heap.size, 2, none⟩) hy).trans p2
            have qp3 := fun x : WC W0.heap.size W0 => (x.ok.cell (p := ⟨wr.heap.size, 3, none⟩) hy).trans p3
            obtain ⟨hxl, s0, s1⟩ := X0.c2
            have qs0 := fun x : WC W0.heap.size W0 => (x.ok.cell (p := ⟨w.heap.size, 0, none⟩) hxl).trans s0
            have qs1 := fun x : WC W0.heap.size W0 => (x.ok.cell (p := ⟨w.heap.size, 1, none⟩) hxl).trans s1
            have hne : Nonempty (WC W0.heap.size W0) := ⟨⟨_, Below.refl _ _⟩⟩
            clear p0 p1 p2 p3 Y0 s0 s1
            obtain ⟨sn, sd, sc, sv⟩ := s
            dsimp only at *
            go_upto_region 10 with fail
            have hw0 := HW0.out.symm
            rw [hw0]
            clear hw0 HW0 hc0 hc1 hc2 hc3
            refine wp_region_calm (B := W0.heap.size) (W := W0) (by kernel_rfl) (by kernel_rfl) (Below.refl _ _) ?_
            repeat (go_big_quiet_step (first | (go_at_call 19; with_reducible exact calm_of_below (Nat.le_refl _) (KF _ _ _ _))))
            refine wpQuiet_nil ?_
            intro _ hw'
            obtain ⟨x, hx⟩ := hw'
            subst hx
            have hB2 := below_then hb0 x.ok
            have X2 := X0.below x.ok
            clear qp0 qp1 qp2 qp3 hne KF qs0 qs1 X0
            generalize x.w = w3 at *
            clear x
            go_wp2
            go_ret
            exact ⟨ret_bool HF.out.symm, hB2⟩
        · have : k = S.length := by omega
          subst this
          have HF : Hid (gB C S = (decide (C.length ≤ 40) && decide (S.length ≤ 12))) := by show _ = _; unfold gB; rw [HC.out, show gsB S = true from HO.out]; simp
          clear hcS hs HO HC hk hlt
          by_cases q1 : C.length ≤ 40
          · by_cases q2 : S.length ≤ 12
            · have HG : Hid (gB C S = true) := by show _ = _; rw [HF.out]; simp [q1, q2]
              clear HF
              go_wp2
              go_ret
              exact ⟨ret_bool (by rw [HG.out]; simp; omega), hb⟩
            · have HG : Hid (gB C S = false) := by show _ = _; rw [HF.out]; simp [q1]; omega
              clear HF
              go_wp2
              go_ret
              exact ⟨ret_bool (by rw [HG.out]; simp; omega), hb⟩
          · have HG : Hid (gB C S = false) := by show _ = _; rw [HF.out]; simp; omega
            clear HF
            go_wp2
            go_ret
            exact ⟨ret_bool HG.out.symm, hb⟩
end Go.Proofs.Ythlllegedfjhlaa
