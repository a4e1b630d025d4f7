/-
  What is seen of a key alone and among all: the walk of FnSeen.
-/
import Derived.Test.YtjenogmpmkkbiaaP9
import Derived.Test.YtjenogmpmkkbiaaW8
import Derived.Test.YtjenogmpmkkbiaaC8
namespace Go.Proofs.Ytjenogmpmkkbiaa
open Go.RowKit
set_option linter.unusedVariables false
set_option maxRecDepth 100000

theorem lk_true {l : List It} {key : ByteArray} {q : Int} (h : (lkR l key q).2.2 = true) : ∃ x, lookL l q key = some x ∧ lkR l key q = (x.v, x.d, true) ∧ vsB l q = true ∧ vsL l q = prs (seenL l q) ∧ goodR l = true := by
  unfold lkR at h
  cases hc : (mayM l && okKey key && okSeq q) with
  | false => rw [hc] at h; simp at h
  | true =>
    rw [hc, if_pos rfl] at h
    have hc2 := hc
    rw [Bool.and_eq_true, Bool.and_eq_true] at hc2
    have hvs : vsB l q = true := by unfold vsB; rw [hc2.1.1, hc2.2]; rfl
    cases hl : lookL l q key with
    | none => rw [hl] at h; simp [ofO] at h
    | some x =>
      refine ⟨x, rfl, ?_, hvs, ?_, (mayM_good hc2.1.1).1⟩
      · unfold lkR; rw [hc, if_pos rfl, hl]; rfl
      · unfold vsL; rw [if_pos hvs]
theorem sc_facts (l : List It) (f t : ByteArray) (q : Int) : (∀ i (h : i < (scL l f t q).length), inB f t (scL l f t q)[i].1 = true) ∧ (scL l f t q).Pairwise (fun a b => ltK a.1 b.1) := by
  cases hc : scB l f t q with
  | false =>
    have : scL l f t q = [] := by unfold scL; rw [hc]; rfl
    rw [this]
    exact ⟨fun i h => by simp at h, List.Pairwise.nil⟩
  | true =>
    have e : scL l f t q = scanL (prs (seenL l q)) f t := by unfold scL; rw [hc]; rfl
    have hg : goodR l = true := by
      unfold scB at hc
      rw [Bool.and_eq_true, Bool.and_eq_true, Bool.and_eq_true] at hc
      exact (mayM_good hc.1.1.1).1
    rw [e]
    exact ⟨fun i h => scan_in i h, scan_pair (prs_pair (seen_pair hg q l.length (Nat.le_refl _))) f t⟩

set_option maxHeartbeats 16000000 in
theorem lawSeen (v u : Value) (l m0 : List UInt8) (w : World) (hv : YL w v l) (hn : l.length ≤ maxLen) (hu : YL w u m0) (hn2 : m0.length ≤ maxLen) :
    Calls Try.prog 4 #[v, u] w fun e w' => e = .returned (.bool true) ∧ Below w.heap.size w w' := by
  have hnv := hn
  have hnu := hn2
  unfold maxLen at hn hn2
  have hv' := hv
  have hu' := hu
  obtain ⟨va, vc, rfl, _⟩ := hv'
  obtain ⟨ua, uc, rfl, _⟩ := hu'
  have KD := drawLook_any _ l w hv hnv
  by_cases hg : wrap64 ((l.length : Int) + m0.length) ≤ 1048576
  · go_enter Try.func4, Try.ntmps4
    go_wp2_with fail
    refine KD.mono ?_
    rintro e w1 ⟨s, L, key, q, rfl, ⟨⟨a1, c1, rfl⟩, O1, hsm, hle⟩, hk, hq, hb1⟩
    replace hu := hu.below hb1
    have X1 := Box.new w1 #[.slice a1 L.length c1] 25
    have hbX := below_alloc w1 (.cells #[.slice a1 L.length c1] 25)
    replace hu := hu.below hbX
    have ir := (IR_of_owns O1 rfl).below hbX
    have hB := below_then hb1 hbX
    have KI := fun w h => implLook_any (.slice a1 L.length c1) L key (q : Int) w h (by omega) (small_big hsm) (by omega)
    have KS := fun w h => specLook_any (.slice a1 L.length c1) L key (q : Int) w h (by omega) (small_big hsm) (by omega)
    have KV := fun w h => implVisible_any (.slice a1 L.length c1) L (q : Int) w h (by omega) (small_big hsm)
    have hvl := vs_len L (q : Int)
    clear KD hv O1 hb1 hbX hg hn hn2
    have HT := fun h => lk_true (l := L) (key := key) (q := (q : Int)) h
    generalize hRR : lkR L key (q : Int) = R at *
    obtain ⟨R1, R2, R3⟩ := R
    dsimp only at KI KS HT
    go_wp2_with fail
    refine (KI _ ir).mono ?_
    rintro e w2 ⟨rfl, hb2⟩
    have X2 := X1.below hb2
    replace ir := ir.below hb2
    replace hu := hu.below hb2
    replace hB := below_then hB hb2
    have x2 := X2.2.1 0 _ rfl
    have hx2 := X2.1
    clear KI hb2 X1
    go_wp2_with fail
    refine (KS _ ir).mono ?_
    rintro e w3 ⟨rfl, hb3⟩
    have X3 := X2.below hb3
    replace ir := ir.below hb3
    replace hu := hu.below hb3
    replace hB := below_then hB hb3
    have x3 := X3.2.1 0 _ rfl
    have hx3 := X3.1
    clear KS hb3 X2 x2 hx2
    cases R3 with
    | false =>
      clear HT hRR
      generalize vsL L (q : Int) = Z at *
      generalize vsB L (q : Int) = vb at *
      go_wp2_with fail
      refine (KV _ ir).mono ?_
      rintro e w4 ⟨uV, rfl, oV, hb4⟩
      replace hu := hu.below hb4
      replace hB := below_then hB hb4
      clear KV hb4 X3 ir x3 hx3 oV hvl hsm
      have KS2 := fun w h => drawScan_any (.slice ua m0.length uc) m0 w h hnu
      go_wp2_with fail
      refine (KS2 _ hu).mono ?_
      rintro e w7 ⟨s2, L2, f, t, q2, rfl, ⟨⟨a2, c2, rfl⟩, O7, hsm2, hle2⟩, hf, ht, hq2, hb7⟩
      replace hB := below_then hB hb7
      clear KS2 hu hb7
      have X7 := Box.new w7 #[.slice a2 L2.length c2] 25
      have hbX7 := below_alloc w7 (.cells #[.slice a2 L2.length c2] 25)
      have ir7 := (IR_of_owns O7 rfl).below hbX7
      replace hB := below_then hB hbX7
      have KI2 := fun w h => implScan_any (.slice a2 L2.length c2) L2 f t (q2 : Int) w h (by omega) (small_big hsm2) (by omega) (by omega)
      have KP2 := fun w h => specScan_any (.slice a2 L2.length c2) L2 f t (q2 : Int) w h (by omega) (small_big hsm2) (by omega) (by omega)
      have hZl := sc_len L2 f t (q2 : Int)
      have hZin := (sc_facts L2 f t (q2 : Int)).1
      have hZp := (sc_facts L2 f t (q2 : Int)).2
      generalize scL L2 f t (q2 : Int) = Z2 at *
      generalize scB L2 f t (q2 : Int) = ok2 at *
      clear O7 hsm2 hbX7 hle2
      have x7 := X7.2.1 0 _ rfl
      go_wp2_with fail
      refine (KI2 _ ir7).mono ?_
      rintro e w8 ⟨uA, rfl, oA, hb8⟩
      have X8 := X7.below hb8
      have ir8 := ir7.below hb8
      replace hB := below_then hB hb8
      have x8 := X8.2.1 0 _ rfl
      have hx8 := X8.1
      clear KI2 X7 ir7 hb8 x7
      go_wp2_with fail
      refine (KP2 _ ir8).mono ?_
      rintro e w9 ⟨uB, rfl, oB, hb9⟩
      replace oA := owns_below oA hb9
      replace hB := below_then hB hb9
      clear KP2 X8 ir8 hb9 x8 hx8
      have prA := PR_of_owns oA rfl
      have prB := PR_of_owns oB rfl
      clear oA oB
      cases ok2
      all_goals
        go_wp2_with fail
        refine (samePairs_same _ _ Z2 _ prA prB (by omega)).mono ?_
        rintro e wa ⟨rfl, hba⟩
        have prC := prA.below hba
        have hBa := below_then hB hba
        obtain ⟨aA, cA, rfl, hcA⟩ := prC
        clear prA prB hba hB
        go_wp2
        go_loopw [138] (fun i wr => ∃ k : Nat, k ≤ Z2.length ∧ i = .int .i64 k ∧ Below wa.heap.size wa wr) (fun i _ => Z2.length - (intOf i).toNat)
        case atStart => exact ⟨0, Nat.zero_le _, rfl, Below.refl _ _⟩
        case round =>
          obtain ⟨k, hk, rfl, hb⟩ := hrel
          have hz := hb.size
          by_cases hlt : k < Z2.length
          · obtain ⟨bq, off, rfl, hbl, hcell⟩ := hcA (by intro e; simp [e] at hlt)
            have hc0 := (hb.cell (p := ⟨bq, off + k * 2, none⟩) hbl).trans (hcell k hlt).1
            have hc1 := (hb.cell (p := ⟨bq, off + k * 2 + 1, none⟩) hbl).trans (hcell k hlt).2
            have hbW : bq < wr.heap.size := by omega
            have hin := hZin k hlt
            rw [inB, ← isEmpty_eq, Bool.and_eq_true, Bool.not_eq_true'] at hin
            obtain ⟨hi1, hi2⟩ := hin
            rcases Nat.eq_zero_or_pos k with rfl | hkp
            · rw [show off + 0 * 2 = off from by omega] at hc0 hc1
              clear hcell hcA hZin hZp
              generalize Z2[0] = s at *
              obtain ⟨sk, sv⟩ := s
              dsimp only at *
              cases h5 : t.toList.isEmpty with
              | true =>
                clear hi2
                go_wp2_with fail
                go_quiet (fail)
                go_wp2
                go_roundw
                case rel => exact ⟨1, by omega, by go_num, hb.trans (below_drewN ((below_alloc _ _).mono hz) _)⟩
                case measure => simp [intOf]; omega
              | false =>
                rw [h5, Bool.false_or] at hi2
                go_wp2_with fail
                go_quiet (fail)
                go_wp2
                go_roundw
                case rel => exact ⟨1, by omega, by go_num, hb.trans (below_drewN ((below_alloc _ _).mono hz) _)⟩
                case measure => simp [intOf]; omega
            · obtain ⟨j, hkj⟩ : ∃ j, k = j + 1 := ⟨k - 1, by omega⟩
              have hjl : j < Z2.length := by omega
              have hd0 := (hb.cell (p := ⟨bq, off + j * 2, none⟩) hbl).trans (hcell j hjl).1
              have hlt2 : ltK Z2[j].1 Z2[k].1 := List.pairwise_iff_getElem.1 hZp j k hjl hlt (by omega)
              unfold ltK at hlt2
              have k1 : decide ((0 : Int) < (k : Int)) = true := decide_eq_true (by omega)
              have k3 : (k : Int) - 1 = (j : Int) := by omega
              have k4 : IntKind.i64.wrap ((k : Int) - 1) = (j : Int) := by rw [k3, IntKind.wrap_i64]; omega
              have k5 : IntKind.i64.wrap (j : Int) = (j : Int) := by rw [IntKind.wrap_i64]; omega
              clear hcell hcA hZin hZp hkj
              generalize Z2[k] = s at *
              generalize Z2[j] = r at *
              obtain ⟨sk, sv⟩ := s
              obtain ⟨rk, rv⟩ := r
              dsimp only at *
              cases h5 : t.toList.isEmpty with
              | true =>
                clear hi2
                go_wp2_with fail
                go_quiet (fail)
                go_wp2
                go_roundw
                case rel => exact ⟨k + 1, by omega, by go_num, hb.trans (below_drewN ((below_alloc _ _).mono hz) _)⟩
                case measure => simp [intOf]; omega
              | false =>
                rw [h5, Bool.false_or] at hi2
                go_wp2_with fail
                go_quiet (fail)
                go_wp2
                go_roundw
                case rel => exact ⟨k + 1, by omega, by go_num, hb.trans (below_drewN ((below_alloc _ _).mono hz) _)⟩
                case measure => simp [intOf]; omega
          · clear hcA hZin hZp
            go_wp2
            go_ret
            exact ⟨rfl, below_then hBa hb⟩
    | true =>
      obtain ⟨x, hlk, hRx, hvb, hvL, hgr⟩ := HT rfl
      have hfe := found_eq hgr (q : Int) key hlk
      rw [hvL] at KV hvl
      rw [hvb] at KV
      simp only [Prod.mk.injEq, and_true] at hRx
      obtain ⟨rfl, rfl⟩ := hRx
      generalize prs (seenL L (q : Int)) = Z at *
      clear HT hRR hlk hvb hvL hgr
      go_wp2_with fail
      refine (KV _ ir).mono ?_
      rintro e w4 ⟨uV, rfl, oV, hb4⟩
      replace hu := hu.below hb4
      replace hB := below_then hB hb4
      obtain ⟨aV, cV, rfl, hcV⟩ := PR_of_owns oV rfl
      clear KV hb4 X3 ir x3 hx3 oV hsm
      generalize x.v = xv at *
      generalize x.d = xd at *
      go_wp2
      go_loopw [16, 82] (fun fd i wr => ∃ k : Nat, k ≤ Z.length ∧ i = .int .i64 k ∧ fd = .bool (fnd Z key xv k) ∧ Below w4.heap.size w4 wr) (fun _ i _ => Z.length - (intOf i).toNat)
      case atStart => exact ⟨0, Nat.zero_le _, rfl, rfl, Below.refl _ _⟩
      case round =>
        obtain ⟨k, hk2, rfl, rfl, hb⟩ := hrel
        have hz := hb.size
        by_cases hlt : k < Z.length
        · obtain ⟨bq, off, rfl, hbl, hcell⟩ := hcV (by intro e; simp [e] at hlt)
          have hc0 := (hb.cell (p := ⟨bq, off + k * 2, none⟩) hbl).trans (hcell k hlt).1
          have hc1 := (hb.cell (p := ⟨bq, off + k * 2 + 1, none⟩) hbl).trans (hcell k hlt).2
          have hbW : bq < wr.heap.size := by omega
          have HF : Hid (fnd Z key xv (k + 1) = (fnd Z key xv k || (decide (Z[k].1 = key) && decide (Z[k].2 = xv)))) := fnd_succ Z key xv k hlt
          have e1 := keyEq Z[k].1 key
          have e2 := keyEq Z[k].2 xv
          clear hcell hcV hfe hu
          generalize Z[k] = s at *
          obtain ⟨sk, sv⟩ := s
          dsimp only at *
          generalize decide (sk = key) = d1 at *
          generalize decide (sv = xv) = d2 at *
          generalize fnd Z key xv k = fk at *
          cases fk
          · cases d1
            · go_wp2
              go_roundw
              case rel => exact ⟨k + 1, by omega, by go_num, by rw [HF.out]; rfl, hb.alloc hz _⟩
              case measure => simp [intOf]; omega
            · cases d2
              all_goals
                go_wp2
                go_roundw
                case rel => exact ⟨k + 1, by omega, by go_num, by rw [HF.out]; rfl, hb.alloc hz _⟩
                case measure => simp [intOf]; omega
          · go_wp2
            go_roundw
            case rel => exact ⟨k + 1, by omega, by go_num, by rw [HF.out]; rfl, hb.alloc hz _⟩
            case measure => simp [intOf]; omega
        · obtain rfl : k = Z.length := by omega
          rw [hfe]
          replace hu := hu.below hb
          replace hB := below_then hB hb
          clear hcV hfe hvl
          have hxd : (xd == 1) = decide (xd = 1) := by rw [Bool.eq_iff_iff]; simp
          generalize decide (xd = 1) = dx at *
          cases dx
          all_goals
            have KS2 := fun w h => drawScan_any (.slice ua m0.length uc) m0 w h hnu
            go_wp2_with fail
            refine (KS2 _ hu).mono ?_
            rintro e w7 ⟨s2, L2, f, t, q2, rfl, ⟨⟨a2, c2, rfl⟩, O7, hsm2, hle2⟩, hf, ht, hq2, hb7⟩
            replace hB := below_then hB hb7
            clear KS2 hu hb7
            have X7 := Box.new w7 #[.slice a2 L2.length c2] 25
            have hbX7 := below_alloc w7 (.cells #[.slice a2 L2.length c2] 25)
            have ir7 := (IR_of_owns O7 rfl).below hbX7
            replace hB := below_then hB hbX7
            have KI2 := fun w h => implScan_any (.slice a2 L2.length c2) L2 f t (q2 : Int) w h (by omega) (small_big hsm2) (by omega) (by omega)
            have KP2 := fun w h => specScan_any (.slice a2 L2.length c2) L2 f t (q2 : Int) w h (by omega) (small_big hsm2) (by omega) (by omega)
            have hZl := sc_len L2 f t (q2 : Int)
            have hZin := (sc_facts L2 f t (q2 : Int)).1
            have hZp := (sc_facts L2 f t (q2 : Int)).2
            generalize scL L2 f t (q2 : Int) = Z2 at *
            generalize scB L2 f t (q2 : Int) = ok2 at *
            clear O7 hsm2 hbX7 hle2
            have x7 := X7.2.1 0 _ rfl
            go_wp2_with fail
            refine (KI2 _ ir7).mono ?_
            rintro e w8 ⟨uA, rfl, oA, hb8⟩
            have X8 := X7.below hb8
            have ir8 := ir7.below hb8
            replace hB := below_then hB hb8
            have x8 := X8.2.1 0 _ rfl
            have hx8 := X8.1
            clear KI2 X7 ir7 hb8 x7
            go_wp2_with fail
            refine (KP2 _ ir8).mono ?_
            rintro e w9 ⟨uB, rfl, oB, hb9⟩
            replace oA := owns_below oA hb9
            replace hB := below_then hB hb9
            clear KP2 X8 ir8 hb9 x8 hx8
            have prA := PR_of_owns oA rfl
            have prB := PR_of_owns oB rfl
            clear oA oB
            cases ok2
            all_goals
              go_wp2_with fail
              refine (samePairs_same _ _ Z2 _ prA prB (by omega)).mono ?_
              rintro e wa ⟨rfl, hba⟩
              have prC := prA.below hba
              have hBa := below_then hB hba
              obtain ⟨aA, cA, rfl, hcA⟩ := prC
              clear prA prB hba hB
              go_wp2
              go_loopw [138] (fun i wr => ∃ k : Nat, k ≤ Z2.length ∧ i = .int .i64 k ∧ Below wa.heap.size wa wr) (fun i _ => Z2.length - (intOf i).toNat)
              case atStart => exact ⟨0, Nat.zero_le _, rfl, Below.refl _ _⟩
              case round =>
                obtain ⟨k, hk, rfl, hb⟩ := hrel
                have hz := hb.size
                by_cases hlt : k < Z2.length
                · obtain ⟨bq, off, rfl, hbl, hcell⟩ := hcA (by intro e; simp [e] at hlt)
                  have hc0 := (hb.cell (p := ⟨bq, off + k * 2, none⟩) hbl).trans (hcell k hlt).1
                  have hc1 := (hb.cell (p := ⟨bq, off + k * 2 + 1, none⟩) hbl).trans (hcell k hlt).2
                  have hbW : bq < wr.heap.size := by omega
                  have hin := hZin k hlt
                  rw [inB, ← isEmpty_eq, Bool.and_eq_true, Bool.not_eq_true'] at hin
                  obtain ⟨hi1, hi2⟩ := hin
                  rcases Nat.eq_zero_or_pos k with rfl | hkp
                  · rw [show off + 0 * 2 = off from by omega] at hc0 hc1
                    clear hcell hcA hZin hZp
                    generalize Z2[0] = s at *
                    obtain ⟨sk, sv⟩ := s
                    dsimp only at *
                    cases h5 : t.toList.isEmpty with
                    | true =>
                      clear hi2
                      go_wp2_with fail
                      go_quiet (fail)
                      go_wp2
                      go_roundw
                      case rel => exact ⟨1, by omega, by go_num, hb.trans (below_drewN ((below_alloc _ _).mono hz) _)⟩
                      case measure => simp [intOf]; omega
                    | false =>
                      rw [h5, Bool.false_or] at hi2
                      go_wp2_with fail
                      go_quiet (fail)
                      go_wp2
                      go_roundw
                      case rel => exact ⟨1, by omega, by go_num, hb.trans (below_drewN ((below_alloc _ _).mono hz) _)⟩
                      case measure => simp [intOf]; omega
                  · obtain ⟨j, hkj⟩ : ∃ j, k = j + 1 := ⟨k - 1, by omega⟩
                    have hjl : j < Z2.length := by omega
                    have hd0 := (hb.cell (p := ⟨bq, off + j * 2, none⟩) hbl).trans (hcell j hjl).1
                    have hlt2 : ltK Z2[j].1 Z2[k].1 := List.pairwise_iff_getElem.1 hZp j k hjl hlt (by omega)
                    unfold ltK at hlt2
                    have k1 : decide ((0 : Int) < (k : Int)) = true := decide_eq_true (by omega)
                    have k3 : (k : Int) - 1 = (j : Int) := by omega
                    have k4 : IntKind.i64.wrap ((k : Int) - 1) = (j : Int) := by rw [k3, IntKind.wrap_i64]; omega
                    have k5 : IntKind.i64.wrap (j : Int) = (j : Int) := by rw [IntKind.wrap_i64]; omega
                    clear hcell hcA hZin hZp hkj
                    generalize Z2[k] = s at *
                    generalize Z2[j] = r at *
                    obtain ⟨sk, sv⟩ := s
                    obtain ⟨rk, rv⟩ := r
                    dsimp only at *
                    cases h5 : t.toList.isEmpty with
                    | true =>
                      clear hi2
                      go_wp2_with fail
                      go_quiet (fail)
                      go_wp2
                      go_roundw
                      case rel => exact ⟨k + 1, by omega, by go_num, hb.trans (below_drewN ((below_alloc _ _).mono hz) _)⟩
                      case measure => simp [intOf]; omega
                    | false =>
                      rw [h5, Bool.false_or] at hi2
                      go_wp2_with fail
                      go_quiet (fail)
                      go_wp2
                      go_roundw
                      case rel => exact ⟨k + 1, by omega, by go_num, hb.trans (below_drewN ((below_alloc _ _).mono hz) _)⟩
                      case measure => simp [intOf]; omega
                · clear hcA hZin hZp
                  go_wp2
                  go_ret
                  exact ⟨rfl, below_then hBa hb⟩
  · clear KD hv hu hnv hnu
    go_enter Try.func4, Try.ntmps4
    go_wp2
    go_ret
    exact ⟨rfl, Below.refl _ _⟩
end Go.Proofs.Ytjenogmpmkkbiaa
