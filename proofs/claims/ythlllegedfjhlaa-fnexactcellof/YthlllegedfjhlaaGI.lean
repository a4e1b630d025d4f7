/-
  The program's goodCells, goodSessions, GoodState.
-/
import Derived.Test.YthlllegedfjhlaaG0
import Derived.Deep.Cut
namespace Go.Proofs.Ythlllegedfjhlaa
open Go.RowKit
set_option linter.unusedVariables false
set_option maxRecDepth 100000

theorem goodId_any (n : Int) (w : World) : Calls Try.prog 47 #[.int .i64 n] w fun e w' => e = .returned (.bool (decide ((0 : Int) ≤ n) && decide (n ≤ 99))) ∧ w' = w := by
  by_cases h1 : (0 : Int) ≤ n <;> by_cases h2 : n ≤ 99
  all_goals
    go_enter Try.func47, Try.ntmps47
    go_wp2
    go_ret
    simp [h1, h2]
theorem goodN_any (n : Int) (w : World) : Calls Try.prog 48 #[.int .i64 n] w fun e w' => e = .returned (.bool (decide ((1 : Int) ≤ n) && decide (n ≤ 1000000))) ∧ w' = w := by
  by_cases h1 : (1 : Int) ≤ n <;> by_cases h2 : n ≤ 1000000
  all_goals
    go_enter Try.func48, Try.ntmps48
    go_wp2
    go_ret
    simp [h1, h2]
theorem goodReply_any (c : Int) (v : ByteArray) (w : World) (hv : v.size ≤ 1048576) : Calls Try.prog 49 #[.agg #[.int .i64 c, .string v]] w fun e w' => e = .returned (.bool ((decide ((0 : Int) ≤ c) && decide (c ≤ 4)) && decide ((v.size : Int) ≤ 40))) ∧ Below w.heap.size w w' := by
  have KV := fun W => goodValue_any v W hv
  have B0 := below_alloc w (.cells #[.int .i64 c, .string v] 36)
  by_cases h1 : (0 : Int) ≤ c
  · by_cases h2 : c ≤ 4
    · go_enter Try.func49, Try.ntmps49
      go_wp2_with fail
      refine (KV _).mono ?_
      rintro e w1 ⟨rfl, rfl⟩
      go_wp2
      go_ret
      exact ⟨by simp [h1, h2], B0⟩
    · rw [show (decide (c ≤ 4)) = false from by simpa using h2, Bool.and_false, Bool.false_and]
      clear KV
      go_enter Try.func49, Try.ntmps49
      go_wp2
      go_ret
      exact ⟨rfl, B0⟩
  · rw [show (decide (0 ≤ c)) = false from by simpa using h1, Bool.false_and, Bool.false_and]
    clear KV
    go_enter Try.func49, Try.ntmps49
    go_wp2
    go_ret
    exact ⟨rfl, B0⟩
set_option maxHeartbeats 4000000 in
theorem goodSession_any (n d c : Int) (v : ByteArray) (w : World) (hv : v.size ≤ 1048576) : Calls Try.prog 37 #[.agg #[.int .i64 n, .int .i64 d, .int .i64 c, .string v]] w fun e w' => e = .returned (.bool (okS ⟨n, d, c, v⟩)) ∧ Below w.heap.size w w' := by
  have KR := fun W => goodReply_any c v W hv
  have B0 := below_alloc w (.cells #[.int .i64 n, .int .i64 d, .int .i64 c, .string v] 38)
  have HE : Hid (okS ⟨n, d, c, v⟩ = ((decide ((0 : Int) ≤ n) && decide (n ≤ 99)) && ((decide ((1 : Int) ≤ d) && decide (d ≤ 1000000)) && ((decide ((0 : Int) ≤ c) && decide (c ≤ 4)) && decide ((v.size : Int) ≤ 40))))) := rfl
  have K1 := fun W => goodId_any n W
  have K2 := fun W => goodN_any d W
  generalize okS ⟨n, d, c, v⟩ = R at *
  generalize (decide ((0 : Int) ≤ n) && decide (n ≤ 99)) = b1 at *
  generalize (decide ((1 : Int) ≤ d) && decide (d ≤ 1000000)) = b2 at *
  generalize ((decide ((0 : Int) ≤ c) && decide (c ≤ 4)) && decide ((v.size : Int) ≤ 40)) = b3 at *
  cases b1 with
  | false =>
    go_enter Try.func37, Try.ntmps37
    go_wp2_with fail
    refine (K1 _).mono ?_
    rintro e w1 ⟨rfl, rfl⟩
    go_wp2
    go_ret
    exact ⟨ret_bool HE.out.symm, B0⟩
  | true =>
    cases b2 with
    | false =>
      go_enter Try.func37, Try.ntmps37
      go_wp2_with fail
      refine (K1 _).mono ?_
      rintro e w1 ⟨rfl, rfl⟩
      go_wp2_with fail
      refine (K2 _).mono ?_
      rintro e w1 ⟨rfl, rfl⟩
      go_wp2
      go_ret
      exact ⟨ret_bool HE.out.symm, B0⟩
    | true =>
      go_enter Try.func37, Try.ntmps37
      go_wp2_with fail
      refine (K1 _).mono ?_
      rintro e w1 ⟨rfl, rfl⟩
      go_wp2_with fail
      refine (K2 _).mono ?_
      rintro e w1 ⟨rfl, rfl⟩
      go_wp2_with fail
      refine (KR _).mono ?_
      rintro e w1 ⟨rfl, hb1⟩
      have B1 := below_then B0 hb1
      go_wp2
      go_ret
      exact ⟨ret_bool (by rw [HE.out]; simp), B1⟩

set_option maxHeartbeats 8000000 in
theorem goodCells_any (v : Value) (l : List Pr) (w : World) (hv : PR w v l) (hn : l.length ≤ 1048576) (hs : ∀ i (h : i < l.length), l[i].k.size ≤ 1048576 ∧ l[i].v.size ≤ 1048576) :
    Calls Try.prog 22 #[v] w fun e w' => e = .returned (.bool (gcB l && decide (l.length ≤ 40))) ∧ Below w.heap.size w w' := by
  obtain ⟨a, cap, rfl, hc⟩ := hv
  by_cases hl : l.length ≤ 40
  · rw [show decide (l.length ≤ 40) = true from by simpa using hl, Bool.and_true]
    go_enter Try.func22, Try.ntmps22
    go_wp2
    go_loopw [10] (fun i wr => ∃ k : Nat, k ≤ l.length ∧ i = .int .i64 k ∧ cTo l k = true ∧ Below w.heap.size w wr) (fun i _ => l.length - (intOf i).toNat)
    case atStart => exact ⟨0, Nat.zero_le _, rfl, rfl, Below.refl _ _⟩
    case round =>
      obtain ⟨k, hk, rfl, hok, hb⟩ := hrel
      have HO : Hid (cTo l k = true) := hok
      clear hok
      by_cases hlt : k < l.length
      · skip
        obtain ⟨b, off, rfl, hbl, hcell⟩ := hc (by intro e; simp [e] at hlt)
        obtain ⟨s, hse⟩ : ∃ s, s = l[k] := ⟨_, rfl⟩
        have hc0 : wr.cell? ⟨b, off + k * 2, none⟩ = some (.string s.k) := by rw [hse]; exact (hb.cell (p := ⟨b, off + k * 2, none⟩) hbl).trans (hcell k hlt).1
        have hc1 : wr.cell? ⟨b, off + k * 2 + 1, none⟩ = some (.string s.v) := by rw [hse]; exact (hb.cell (p := ⟨b, off + k * 2 + 1, none⟩) hbl).trans (hcell k hlt).2
        have hsk : s.k.size ≤ 1048576 := by rw [hse]; exact (hs k hlt).1
        have hsv : s.v.size ≤ 1048576 := by rw [hse]; exact (hs k hlt).2
        have hz := hb.size
        have hz1 : b < wr.heap.size := by omega
        have HE : Hid (cAt l k = (okC s && (decide (k = 0) || less (l.getD (k - 1) default).k s.k))) := by show cAt l k = _; rw [hse]; unfold cAt; rw [getP l k hlt]
        have HSU : Hid (cTo l (k + 1) = cAt l k) := by show _ = _; rw [cTo_succ, HO.out, Bool.true_and]
        by_cases h1 : okKey s.k = true
        · by_cases h2 : decide ((s.v.size : Int) ≤ 40) = true
          · have h40 : (s.v.size : Int) ≤ 40 := by simpa using h2
            by_cases hk0 : k = 0
            · have hg : decide ((0 : Int) < (k : Int)) = false := by simp; omega
              have hg' : decide (0 < k) = false := by simp; omega
              have HN : Hid (cTo l (k + 1) = true) := by show _ = true; rw [HSU.out, HE.out]; unfold okC; rw [h1, h2]; simp [hk0]
              clear hk0 hcell hse hc hs HE HSU
              obtain ⟨sk, sv⟩ := s
              dsimp only at *
              go_wp2_with fail
              go_quiet ((first | (go_at_call 35; exact Calls.quiet_of_same (goodKey_any _ _ hsk)) | (go_at_call 36; exact Calls.quiet_of_same (goodValue_any _ _ hsv))))
              go_wp2
              go_roundw
              case rel => exact ⟨k + 1, by omega, by go_num, HN.out, below_drewN (hb.alloc hz _) _⟩
              case measure => simp [intOf]; omega
            · obtain ⟨sp, hsp⟩ : ∃ sp, sp = (l[k - 1]).k := ⟨_, rfl⟩
              have hp0 : wr.cell? ⟨b, off + (k - 1) * 2, none⟩ = some (.string sp) := by rw [hsp]; exact (hb.cell (p := ⟨b, off + (k - 1) * 2, none⟩) hbl).trans (hcell (k - 1) (by omega)).1
              have hge : (l.getD (k - 1) default).k = sp := by rw [hsp, getP l (k - 1) (by omega)]
              rw [hge] at HE
              have hg : (0 : Int) < (k : Int) := by omega
              have hg1 : decide ((0 : Int) < (k : Int)) = true := by simp; omega
              have hg2 : decide (0 < k) = true := by simp; omega
              by_cases hle : Op.bytesLess sp.toList s.k.toList = true
              · have HN : Hid (cTo l (k + 1) = true) := by show _ = true; rw [HSU.out, HE.out]; unfold okC; rw [h1, h2]; simp [less, hle]
                clear hk0 hcell hse hsp hge hc hs HE HSU
                obtain ⟨sk, sv⟩ := s
                dsimp only at *
                go_wp2_with fail
                go_quiet ((first | (go_at_call 35; exact Calls.quiet_of_same (goodKey_any _ _ hsk)) | (go_at_call 36; exact Calls.quiet_of_same (goodValue_any _ _ hsv))))
                go_wp2
                go_roundw
                case rel => exact ⟨k + 1, by omega, by go_num, HN.out, below_drewN (hb.alloc hz _) _⟩
                case measure => simp [intOf]; omega
              · have hle' : Op.bytesLess sp.toList s.k.toList = false := by simpa using hle
                have HF : Hid (gcB l = false) := by show gcB l = false; exact (cTo_stop l k hlt (by rw [HE.out]; unfold okC; rw [h1, h2]; simp [less, hle', hk0]))
                clear hk0 hcell hse hsp hge hle hc hs HE HSU
                obtain ⟨sk, sv⟩ := s
                dsimp only at *
                go_wp2_with fail
                go_quiet ((first | (go_at_call 35; exact Calls.quiet_of_same (goodKey_any _ _ hsk)) | (go_at_call 36; exact Calls.quiet_of_same (goodValue_any _ _ hsv))))
                go_wp2
                go_ret
                exact ⟨ret_bool HF.out.symm, below_drewN (hb.alloc hz _) _⟩
          · have h2' : decide ((s.v.size : Int) ≤ 40) = false := by simpa using h2
            have HF : Hid (gcB l = false) := by show gcB l = false; exact (cTo_stop l k hlt (by rw [HE.out]; unfold okC; rw [h1, h2']; simp))
            have h2n : ¬ (s.v.size : Int) ≤ 40 := by simpa using h2
            clear hcell hse hc hs HE HSU h2
            obtain ⟨sk, sv⟩ := s
            dsimp only at *
            go_wp2_with fail
            go_quiet ((first | (go_at_call 35; exact Calls.quiet_of_same (goodKey_any _ _ hsk)) | (go_at_call 36; exact Calls.quiet_of_same (goodValue_any _ _ hsv))))
            go_wp2
            go_ret
            exact ⟨ret_bool HF.out.symm, below_drewN (hb.alloc hz _) _⟩
        · have h1' : okKey s.k = false := by simpa using h1
          have HF : Hid (gcB l = false) := by show gcB l = false; exact (cTo_stop l k hlt (by rw [HE.out]; unfold okC; rw [h1']; simp))
          clear hcell hse hc hs HE HSU h1
          obtain ⟨sk, sv⟩ := s
          dsimp only at *
          go_wp2_with fail
          go_quiet ((first | (go_at_call 35; exact Calls.quiet_of_same (goodKey_any _ _ hsk)) | (go_at_call 36; exact Calls.quiet_of_same (goodValue_any _ _ hsv))))
          go_wp2
          go_ret
          exact ⟨ret_bool HF.out.symm, below_drewN (hb.alloc hz _) _⟩
      · have : k = l.length := by omega
        subst this
        have HF : Hid (gcB l = true) := HO.out
        clear hc hs
        go_wp2
        go_ret
        exact ⟨ret_bool HF.out.symm, hb⟩
  · rw [show decide (l.length ≤ 40) = false from by simpa using hl, Bool.and_false]
    clear hc hs
    go_enter Try.func22, Try.ntmps22
    go_wp2
    go_ret
    exact ⟨rfl, Below.refl _ _⟩

set_option maxHeartbeats 8000000 in
theorem goodSessions_any (v : Value) (l : List Ss) (w : World) (hv : SR w v l) (hn : l.length ≤ 1048576) (hs : ∀ i (h : i < l.length), l[i].v.size ≤ 1048576) :
    Calls Try.prog 23 #[v] w fun e w' => e = .returned (.bool (gsB l && decide (l.length ≤ 12))) ∧ Below w.heap.size w w' := by
  obtain ⟨a, cap, rfl, hc⟩ := hv
  by_cases hl : l.length ≤ 12
  · rw [show decide (l.length ≤ 12) = true from by simpa using hl, Bool.and_true]
    go_enter Try.func23, Try.ntmps23
    go_wp2
    go_loopw [10] (fun i wr => ∃ k : Nat, k ≤ l.length ∧ i = .int .i64 k ∧ sTo l k = true ∧ Below w.heap.size w wr) (fun i _ => l.length - (intOf i).toNat)
    case atStart => exact ⟨0, Nat.zero_le _, rfl, rfl, Below.refl _ _⟩
    case round =>
      obtain ⟨k, hk, rfl, hok, hb⟩ := hrel
      have HO : Hid (sTo l k = true) := hok
      clear hok
      by_cases hlt : k < l.length
      · skip
        obtain ⟨b, off, rfl, hbl, hcell⟩ := hc (by intro e; simp [e] at hlt)
        obtain ⟨s, hse⟩ : ∃ s, s = l[k] := ⟨_, rfl⟩
        have hc0 : wr.cell? ⟨b, off + k * 4, none⟩ = some (.int .i64 s.n) := by rw [hse]; exact (hb.cell (p := ⟨b, off + k * 4, none⟩) hbl).trans (hcell k hlt).1
        have hc1 : wr.cell? ⟨b, off + k * 4 + 1, none⟩ = some (.int .i64 s.d) := by rw [hse]; exact (hb.cell (p := ⟨b, off + k * 4 + 1, none⟩) hbl).trans (hcell k hlt).2.1
        have hc2 : wr.cell? ⟨b, off + k * 4 + 2, none⟩ = some (.int .i64 s.c) := by rw [hse]; exact (hb.cell (p := ⟨b, off + k * 4 + 2, none⟩) hbl).trans (hcell k hlt).2.2.1
        have hc3 : wr.cell? ⟨b, off + k * 4 + 3, none⟩ = some (.string s.v) := by rw [hse]; exact (hb.cell (p := ⟨b, off + k * 4 + 3, none⟩) hbl).trans (hcell k hlt).2.2.2
        have hsv : s.v.size ≤ 1048576 := by rw [hse]; exact hs k hlt
        have hz := hb.size
        have hz1 : b < wr.heap.size := by omega
        have HE : Hid (sAt l k = (okS s && (decide (k = 0) || decide ((l.getD (k - 1) default).n < s.n)))) := by show sAt l k = _; rw [hse]; unfold sAt; rw [getS l k hlt]
        have HSU : Hid (sTo l (k + 1) = sAt l k) := by show _ = _; rw [sTo_succ, HO.out, Bool.true_and]
        have KF := fun W => goodSession_any s.n s.d s.c s.v W hsv
        by_cases h1 : okS s = true
        · rw [h1] at KF
          by_cases hk0 : k = 0
          · have hg : decide ((0 : Int) < (k : Int)) = false := by simp; omega
            have hg' : decide (0 < k) = false := by simp; omega
            have HN : Hid (sTo l (k + 1) = true) := by show _ = true; rw [HSU.out, HE.out]; rw [h1]; simp [hk0]
            clear hk0 hcell hse hc hs HE HSU
            have BA := below_alloc wr (.cells #[.int .i64 s.n, .int .i64 s.d, .int .i64 s.c, .string s.v] 38)
            have Y0 := Box.new wr #[.int .i64 s.n, .int .i64 s.d, .int .i64 s.c, .string s.v] 38
            have hb0 := below_then hb BA
            have hbW0 : b < (wr.alloc (.cells #[.int .i64 s.n, .int .i64 s.d, .int .i64 s.c, .string s.v] 38)).heap.size := by simp; omega
            obtain ⟨W0, hW0⟩ : ∃ W0, W0 = wr.alloc (.cells #[.int .i64 s.n, .int .i64 s.d, .int .i64 s.c, .string s.v] 38) := ⟨_, rfl⟩
            rw [← hW0] at Y0 hb0 hbW0
            have HW0 : Hid (W0 = wr.alloc (.cells #[.int .i64 s.n, .int .i64 s.d, .int .i64 s.c, .string s.v] 38)) := hW0
            clear hW0 BA hb
            obtain ⟨hy, p0, p1, p2, p3⟩ := Y0.c4
            have qp0 := fun x : WC W0.heap.size W0 => (x.ok.cell (p := ⟨wr.heap.size, 0, none⟩) hy).trans p0
            have qp1 := fun x : WC W0.heap.size W0 => (x.ok.cell (p := ⟨wr.heap.size, 1, none⟩) hy).trans p1
            have qp2 := fun x : WC W0.heap.size W0 => (x.ok.cell (p := ⟨wr.heap.size, 2, none⟩) hy).trans p2
            have qp3 := fun x : WC W0.heap.size W0 => (x.ok.cell (p := ⟨wr.heap.size, 3, none⟩) hy).trans p3
            have hne : Nonempty (WC W0.heap.size W0) := ⟨⟨_, Below.refl _ _⟩⟩
            clear p0 p1 p2 p3 Y0
            obtain ⟨sn, sd, sc, sv⟩ := s
            dsimp only at *
            go_upto_region 6 with fail
            have hw0 := HW0.out.symm
            rw [hw0]
            clear hw0 HW0 hc0 hc1 hc2 hc3
            refine wp_region_calm (B := W0.heap.size) (W := W0) (by kernel_rfl) (by kernel_rfl) (Below.refl _ _) ?_
            repeat (go_big_quiet_step (first | (go_at_call 37; with_reducible exact calm_of_below (Nat.le_refl _) (KF _))))
            refine wpQuiet_nil ?_
            intro _ hw'
            obtain ⟨x, hx⟩ := hw'
            subst hx
            have hB2 := below_then hb0 x.ok
            clear qp0 qp1 qp2 qp3 hne KF
            generalize x.w = w3 at *
            clear x
            go_wp2
            go_roundw
            case rel => exact ⟨k + 1, by omega, by go_num, HN.out, hB2⟩
            case measure => simp [intOf]; omega
          · obtain ⟨sp, hsp⟩ : ∃ sp, sp = (l[k - 1]).n := ⟨_, rfl⟩
            have hp0 : wr.cell? ⟨b, off + (k - 1) * 4, none⟩ = some (.int .i64 sp) := by rw [hsp]; exact (hb.cell (p := ⟨b, off + (k - 1) * 4, none⟩) hbl).trans (hcell (k - 1) (by omega)).1
            have hge : (l.getD (k - 1) default).n = sp := by rw [hsp, getS l (k - 1) (by omega)]
            rw [hge] at HE
            have hg : (0 : Int) < (k : Int) := by omega
            have hg1 : decide ((0 : Int) < (k : Int)) = true := by simp; omega
            have hg2 : decide (0 < k) = true := by simp; omega
            by_cases hle : sp < s.n
            · have HN : Hid (sTo l (k + 1) = true) := by show _ = true; rw [HSU.out, HE.out]; rw [h1]; simp [hle]
              have hle1 : decide (s.n ≤ sp) = false := by simp; omega
              clear hk0 hcell hse hsp hge hc hs HE HSU
              have BA := below_alloc wr (.cells #[.int .i64 s.n, .int .i64 s.d, .int .i64 s.c, .string s.v] 38)
              have Y0 := Box.new wr #[.int .i64 s.n, .int .i64 s.d, .int .i64 s.c, .string s.v] 38
              have hb0 := below_then hb BA
              have hbW0 : b < (wr.alloc (.cells #[.int .i64 s.n, .int .i64 s.d, .int .i64 s.c, .string s.v] 38)).heap.size := by simp; omega
              have hp0 := (BA.cell (p := ⟨b, off + (k - 1) * 4, none⟩) hz1).trans hp0
              obtain ⟨W0, hW0⟩ : ∃ W0, W0 = wr.alloc (.cells #[.int .i64 s.n, .int .i64 s.d, .int .i64 s.c, .string s.v] 38) := ⟨_, rfl⟩
              rw [← hW0] at Y0 hb0 hbW0 hp0
              have HW0 : Hid (W0 = wr.alloc (.cells #[.int .i64 s.n, .int .i64 s.d, .int .i64 s.c, .string s.v] 38)) := hW0
              clear hW0 BA hb
              obtain ⟨hy, p0, p1, p2, p3⟩ := Y0.c4
              have qp0 := fun x : WC W0.heap.size W0 => (x.ok.cell (p := ⟨wr.heap.size, 0, none⟩) hy).trans p0
              have qp1 := fun x : WC W0.heap.size W0 => (x.ok.cell (p := ⟨wr.heap.size, 1, none⟩) hy).trans p1
              have qp2 := fun x : WC W0.heap.size W0 => (x.ok.cell (p := ⟨wr.heap.size, 2, none⟩) hy).trans p2
              have qp3 := fun x : WC W0.heap.size W0 => (x.ok.cell (p := ⟨wr.heap.size, 3, none⟩) hy).trans p3
              have qpp := fun x : WC W0.heap.size W0 => (x.ok.cell (p := ⟨b, off + (k - 1) * 4, none⟩) hbW0).trans hp0
              have hne : Nonempty (WC W0.heap.size W0) := ⟨⟨_, Below.refl _ _⟩⟩
              clear p0 p1 p2 p3 Y0 hp0
              obtain ⟨sn, sd, sc, sv⟩ := s
              dsimp only at *
              go_upto_region 6 with fail
              have hw0 := HW0.out.symm
              rw [hw0]
              clear hw0 HW0 hc0 hc1 hc2 hc3
              refine wp_region_calm (B := W0.heap.size) (W := W0) (by kernel_rfl) (by kernel_rfl) (Below.refl _ _) ?_
              repeat (go_big_quiet_step (first | (go_at_call 37; with_reducible exact calm_of_below (Nat.le_refl _) (KF _))))
              refine wpQuiet_nil ?_
              intro _ hw'
              obtain ⟨x, hx⟩ := hw'
              subst hx
              have hB2 := below_then hb0 x.ok
              clear qp0 qp1 qp2 qp3 hne KF qpp
              generalize x.w = w3 at *
              clear x
              go_wp2
              go_roundw
              case rel => exact ⟨k + 1, by omega, by go_num, HN.out, hB2⟩
              case measure => simp [intOf]; omega
            · have hle1 : decide (s.n ≤ sp) = true := by simp; omega
              have HF : Hid (gsB l = false) := by show gsB l = false; exact (sTo_stop l k hlt (by rw [HE.out]; rw [h1]; simp [hle, hk0]))
              clear hk0 hcell hse hsp hge hle hc hs HE HSU
              have BA := below_alloc wr (.cells #[.int .i64 s.n, .int .i64 s.d, .int .i64 s.c, .string s.v] 38)
              have Y0 := Box.new wr #[.int .i64 s.n, .int .i64 s.d, .int .i64 s.c, .string s.v] 38
              have hb0 := below_then hb BA
              have hbW0 : b < (wr.alloc (.cells #[.int .i64 s.n, .int .i64 s.d, .int .i64 s.c, .string s.v] 38)).heap.size := by simp; omega
              have hp0 := (BA.cell (p := ⟨b, off + (k - 1) * 4, none⟩) hz1).trans hp0
              obtain ⟨W0, hW0⟩ : ∃ W0, W0 = wr.alloc (.cells #[.int .i64 s.n, .int .i64 s.d, .int .i64 s.c, .string s.v] 38) := ⟨_, rfl⟩
              rw [← hW0] at Y0 hb0 hbW0 hp0
              have HW0 : Hid (W0 = wr.alloc (.cells #[.int .i64 s.n, .int .i64 s.d, .int .i64 s.c, .string s.v] 38)) := hW0
              clear hW0 BA hb
              obtain ⟨hy, p0, p1, p2, p3⟩ := Y0.c4
              have qp0 := fun x : WC W0.heap.size W0 => (x.ok.cell (p := ⟨wr.heap.size, 0, none⟩) hy).trans p0
              have qp1 := fun x : WC W0.heap.size W0 => (x.ok.cell (p := ⟨wr.heap.size, 1, none⟩) hy).trans p1
              have qp2 := fun x : WC W0.heap.size W0 => (x.ok.cell (p := ⟨wr.heap.size, 2, none⟩) hy).trans p2
              have qp3 := fun x : WC W0.heap.size W0 => (x.ok.cell (p := ⟨wr.heap.size, 3, none⟩) hy).trans p3
              have qpp := fun x : WC W0.heap.size W0 => (x.ok.cell (p := ⟨b, off + (k - 1) * 4, none⟩) hbW0).trans hp0
              have hne : Nonempty (WC W0.heap.size W0) := ⟨⟨_, Below.refl _ _⟩⟩
              clear p0 p1 p2 p3 Y0 hp0
              obtain ⟨sn, sd, sc, sv⟩ := s
              dsimp only at *
              go_upto_region 6 with fail
              have hw0 := HW0.out.symm
              rw [hw0]
              clear hw0 HW0 hc0 hc1 hc2 hc3
              refine wp_region_calm (B := W0.heap.size) (W := W0) (by kernel_rfl) (by kernel_rfl) (Below.refl _ _) ?_
              repeat (go_big_quiet_step (first | (go_at_call 37; with_reducible exact calm_of_below (Nat.le_refl _) (KF _))))
              refine wpQuiet_nil ?_
              intro _ hw'
              obtain ⟨x, hx⟩ := hw'
              subst hx
              have hB2 := below_then hb0 x.ok
              clear qp0 qp1 qp2 qp3 hne KF qpp
              generalize x.w = w3 at *
              clear x
              go_wp2
              go_ret
              exact ⟨ret_bool HF.out.symm, hB2⟩
        · have h1' : okS s = false := by simpa using h1
          have HF : Hid (gsB l = false) := by show gsB l = false; exact (sTo_stop l k hlt (by rw [HE.out]; rw [h1']; rfl))
          rw [h1'] at KF
          clear hcell hse hc hs HE HSU h1
          have BA := below_alloc wr (.cells #[.int .i64 s.n, .int .i64 s.d, .int .i64 s.c, .string s.v] 38)
          have Y0 := Box.new wr #[.int .i64 s.n, .int .i64 s.d, .int .i64 s.c, .string s.v] 38
          have hb0 := below_then hb BA
          have hbW0 : b < (wr.alloc (.cells #[.int .i64 s.n, .int .i64 s.d, .int .i64 s.c, .string s.v] 38)).heap.size := by simp; omega
          obtain ⟨W0, hW0⟩ : ∃ W0, W0 = wr.alloc (.cells #[.int .i64 s.n, .int .i64 s.d, .int .i64 s.c, .string s.v] 38) := ⟨_, rfl⟩
          rw [← hW0] at Y0 hb0 hbW0
          have HW0 : Hid (W0 = wr.alloc (.cells #[.int .i64 s.n, .int .i64 s.d, .int .i64 s.c, .string s.v] 38)) := hW0
          clear hW0 BA hb
          obtain ⟨hy, p0, p1, p2, p3⟩ := Y0.c4
          have qp0 := fun x : WC W0.heap.size W0 => (x.ok.cell (p := ⟨wr.heap.size, 0, none⟩) hy).trans p0
          have qp1 := fun x : WC W0.heap.size W0 => (x.ok.cell (p := ⟨wr.heap.size, 1, none⟩) hy).trans p1
          have qp2 := fun x : WC W0.heap.size W0 => (x.ok.cell (p := ⟨wr.heap.size, 2, none⟩) hy).trans p2
          have qp3 := fun x : WC W0.heap.size W0 => (x.ok.cell (p := ⟨wr.heap.size, 3, none⟩) hy).trans p3
          have hne : Nonempty (WC W0.heap.size W0) := ⟨⟨_, Below.refl _ _⟩⟩
          clear p0 p1 p2 p3 Y0
          obtain ⟨sn, sd, sc, sv⟩ := s
          dsimp only at *
          go_upto_region 6 with fail
          have hw0 := HW0.out.symm
          rw [hw0]
          clear hw0 HW0 hc0 hc1 hc2 hc3
          refine wp_region_calm (B := W0.heap.size) (W := W0) (by kernel_rfl) (by kernel_rfl) (Below.refl _ _) ?_
          repeat (go_big_quiet_step (first | (go_at_call 37; with_reducible exact calm_of_below (Nat.le_refl _) (KF _))))
          refine wpQuiet_nil ?_
          intro _ hw'
          obtain ⟨x, hx⟩ := hw'
          subst hx
          have hB2 := below_then hb0 x.ok
          clear qp0 qp1 qp2 qp3 hne KF
          generalize x.w = w3 at *
          clear x
          go_wp2
          go_ret
          exact ⟨ret_bool HF.out.symm, hB2⟩
      · have : k = l.length := by omega
        subst this
        have HF : Hid (gsB l = true) := HO.out
        clear hc hs
        go_wp2
        go_ret
        exact ⟨ret_bool HF.out.symm, hb⟩
  · rw [show decide (l.length ≤ 12) = false from by simpa using hl, Bool.and_false]
    clear hc hs
    go_enter Try.func23, Try.ntmps23
    go_wp2
    go_ret
    exact ⟨rfl, Below.refl _ _⟩

set_option maxHeartbeats 4000000 in
theorem implGood_any (a c : Value) (C : List Pr) (S : List Ss) (w : World) (h : KR w a c C S) (hn : C.length ≤ 1048576) (hm : S.length ≤ 1048576) (hp : ∀ i (h : i < C.length), C[i].k.size ≤ 1048576 ∧ C[i].v.size ≤ 1048576) (hs : ∀ i (h : i < S.length), S[i].v.size ≤ 1048576) :
    Calls Try.prog 9 #[.agg #[a, c]] w fun e w' => e = .returned (.bool (gB C S)) ∧ Below w.heap.size w w' := by
  have KC := fun W' (hb : Below w.heap.size w W') => goodCells_any a C W' (h.1.below hb) hn hp
  have KS := fun W' (hb : Below w.heap.size w W') => goodSessions_any c S W' (h.2.below hb) hm hs
  obtain ⟨⟨xa, xb, rfl, _⟩, ya, yb, rfl, _⟩ := h
  have X0 := Box.new w #[.slice xa C.length xb, .slice ya S.length yb] 31
  have B0 := below_alloc w (.cells #[.slice xa C.length xb, .slice ya S.length yb] 31)
  have HE : Hid (gB C S = ((gcB C && decide (C.length ≤ 40)) && (gsB S && decide (S.length ≤ 12)))) := rfl
  generalize (gcB C && decide (C.length ≤ 40)) = b1 at *
  generalize (gsB S && decide (S.length ≤ 12)) = b2 at *
  generalize gB C S = R at *
  clear hp hs hn hm
  cases b1 with
  | false =>
    go_enter Try.func9, Try.ntmps9
    go_wp2_with fail
    refine (KC _ B0).mono ?_
    rintro e w1 ⟨rfl, hb1⟩
    have B1 := below_then B0 hb1
    clear KC KS hb1 X0 B0
    go_wp2
    go_ret
    exact ⟨ret_bool HE.out.symm, B1⟩
  | true =>
    go_enter Try.func9, Try.ntmps9
    go_wp2_with fail
    refine (KC _ B0).mono ?_
    rintro e w1 ⟨rfl, hb1⟩
    have B1 := below_then B0 hb1
    have X1 := X0.below hb1
    clear KC hb1 X0 B0
    obtain ⟨hx, x0, x1⟩ := X1.c2
    go_wp2_with fail
    refine (KS _ B1).mono ?_
    rintro e w2 ⟨rfl, hb2⟩
    have B2 := below_then B1 hb2
    clear KS hb2 X1 B1 hx x0 x1
    go_wp2
    go_ret
    exact ⟨ret_bool (by rw [HE.out]; simp), B2⟩
end Go.Proofs.Ythlllegedfjhlaa
