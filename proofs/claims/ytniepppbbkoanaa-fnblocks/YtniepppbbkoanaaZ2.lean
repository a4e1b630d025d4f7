/-
  Items come back from their block, and its restarts are each fourth: the walk of FnBlocks.
-/
import Derived.Test.YtniepppbbkoanaaZ1
namespace Go.Proofs.Ytniepppbbkoanaa
open Go.RowKit
set_option linter.unusedVariables false
set_option maxRecDepth 100000

set_option maxHeartbeats 8000000 in
theorem lawBlocks (v : Value) (l : List UInt8) (w : World) (hv : YL w v l) (hn : l.length ≤ maxLen) :
    Calls Try.prog 3 #[v] w fun e w' => e = .returned (.bool true) ∧ Below w.heap.size w w' := by
  have hnv := hn
  unfold maxLen at hn
  have hv' := hv
  obtain ⟨va, vc, rfl, _⟩ := hv'
  have KD := drawBlock_any _ l w hv hnv
  clear hnv hv
  by_cases hg : (l.length : Int) ≤ 1048576
  · go_enter Try.func3, Try.ntmps3
    go_wp2_with fail
    refine KD.mono ?_
    rintro e w1 ⟨u, L, rfl, hir, hle, hsm, hB⟩
    clear KD
    have KI := fun w h => implBlk_any u L w h (by omega) (small_big hsm)
    have KS := fun w h => specBlk_any u L w h (by omega) (small_big hsm)
    clear hsm
    go_wp2_with fail
    refine (KI _ hir).mono ?_
    rintro e w2 ⟨rfl, hb2⟩
    replace hir := hir.below hb2
    replace hB := below_then hB hb2
    clear KI hb2
    go_wp2_with fail
    refine (KS _ hir).mono ?_
    rintro e w3 ⟨rfl, hb3⟩
    replace hir := hir.below hb3
    replace hB := below_then hB hb3
    clear KS hb3
    cases hok : okBlk L with
    | false =>
      have hT : blkF L = ⟨#[]⟩ := by unfold blkF; rw [if_neg (by rw [hok]; simp)]
      rw [hT]
      clear hT hok hir
      go_wp2
      go_ret
      exact ⟨rfl, hB⟩
    | true =>
      obtain ⟨f1, f2, f3, f4, f5⟩ := made_facts hok
      obtain ⟨f6, f7⟩ := made_first hok
      have hsz := made_size L
      have KR := fun w => implRead_rb (blkF L) w hsz
      have KZ := fun w => implRest_any (blkF L) w hsz
      have KF := fun w => implFirst_any (blkF L) w hsz
      rw [f1, f2] at KR
      rw [f1] at KZ
      rw [f6, f7] at KF
      have hpk : ∃ Z : List Int, rsL (blkF L) = Z ∧ Z.length = (L.length + 3) / 4 ∧ (∀ j (h1 : j + 1 < Z.length), Z[j]'(Nat.lt_of_succ_lt h1) < Z[j + 1]'h1) ∧ (∀ h0 : 0 < Z.length, Z[0]'h0 = 0) := ⟨_, rfl, f3, f4, f5⟩
      clear f3 f4 f5
      obtain ⟨Z, hZ, f3, f4, f5⟩ := hpk
      rw [hZ] at KZ
      clear f1 f2 f6 f7 hok hsz hZ
      generalize blkF L = T at *
      have E3 : ((L.length : Int) + 3) / 4 = (Z.length : Int) := by omega
      have HZ4 : Hid (∀ j (h1 : j + 1 < Z.length), Z[j]'(Nat.lt_of_succ_lt h1) < Z[j + 1]'h1) := f4
      have HZ5 : Hid (∀ h0 : 0 < Z.length, Z[0]'h0 = 0) := f5
      clear f4 f5
      obtain ⟨la, lc, rfl, _⟩ := id hir
      by_cases hL0 : L.length ≠ 0
      · rw [decide_eq_true hL0, if_pos hL0] at KF
        have hZ0 : 0 < Z.length := by omega
        have hZb : Z.length ≤ 1048576 := by omega
        clear f3
        go_wp2_with fail
        refine (KR _).mono ?_
        rintro e w4 ⟨m, rfl, om, hb4⟩
        replace hir := hir.below hb4
        replace hB := below_then hB hb4
        have irm := IR_of_owns om rfl
        clear KR hb4 om
        go_wp2_with fail
        refine (KZ _).mono ?_
        rintro e w5 ⟨r, rfl, oz, hb5⟩
        replace hir := hir.below hb5
        replace irm := irm.below hb5
        replace hB := below_then hB hb5
        have ilz := IL_of_owns oz rfl
        clear KZ hb5 oz
        go_wp2_with fail
        refine (KF _).mono ?_
        rintro e w6 ⟨rfl, hb6⟩
        replace hir := hir.below hb6
        replace irm := irm.below hb6
        replace ilz := ilz.below hb6
        replace hB := below_then hB hb6
        clear KF hb6
        obtain ⟨za, zc, rfl, hzc⟩ := id ilz
        clear hzc
        go_wp2_with fail
        refine (sameItems_same _ _ L _ hir irm (by omega)).mono ?_
        rintro e w7 ⟨rfl, hb7⟩
        replace hir := hir.below hb7
        replace ilz := ilz.below hb7
        replace hB := below_then hB hb7
        clear irm hb7
        have hLp : (0 : Int) < (L.length : Int) := by omega
        have hLn : 0 < L.length := by omega
        go_wp2
        go_loopw [14] (fun i wr => ∃ j : Nat, 1 ≤ j ∧ i = .int .i64 j ∧ Below w.heap.size w wr ∧ Below w7.heap.size w7 wr) (fun i _ => Z.length - (intOf i).toNat)
        case atStart => exact ⟨1, by omega, rfl, hB, Below.refl _ _⟩
        case round =>
          clear hB
          obtain ⟨j, hj, rfl, hB, hb⟩ := hrel
          by_cases hlt : j < Z.length
          · obtain ⟨a', c', hv', hc⟩ := ilz
            simp only [Value.slice.injEq, true_and] at hv'
            obtain ⟨rfl, rfl⟩ := hv'
            obtain ⟨b, off, rfl, hbl, hcell⟩ := hc (by intro e; simp [e] at hlt)
            obtain ⟨i, rfl⟩ : ∃ i, j = i + 1 := ⟨j - 1, by omega⟩
            have hr := HZ4.out i hlt
            have c0 := (hb.cell (p := ⟨b, off + i, none⟩) hbl).trans (hcell i (by omega))
            have c1 := (hb.cell (p := ⟨b, off + (i + 1), none⟩) hbl).trans (hcell (i + 1) hlt)
            clear hc hcell HZ4 HZ5 hir
            generalize Z[i] = x at *
            generalize Z[i + 1] = y at *
            have hxy : ¬ y ≤ x := by omega
            have hxd : decide (y ≤ x) = false := decide_eq_false hxy
            clear E3
            go_wp2_with fail
            go_quiet (fail)
            go_wp2
            go_roundw
            case rel => exact ⟨i + 1 + 1, by omega, by go_num, below_drewN hB _, below_drewN hb _⟩
            case measure => simp [intOf]; omega
          · replace hir := hir.below hb
            replace ilz := ilz.below hb
            obtain ⟨a1, c1, hv1, hc1⟩ := hir
            simp only [Value.slice.injEq, true_and] at hv1
            obtain ⟨rfl, rfl⟩ := hv1
            obtain ⟨b, off, rfl, hbl, hcell⟩ := hc1 (by intro e; simp [e] at hL0)
            obtain ⟨a2, c2, hv2, hc2⟩ := ilz
            simp only [Value.slice.injEq, true_and] at hv2
            obtain ⟨rfl, rfl⟩ := hv2
            obtain ⟨b2, off2, rfl, hbl2, hcell2⟩ := hc2 (by intro e; simp [e] at hZ0)
            have d0 := (hcell 0 hLn).1
            rw [show off + 0 * 4 = off from by omega] at d0
            have d1 := hcell2 0 hZ0
            rw [HZ5.out hZ0, Nat.add_zero] at d1
            have hZp : (0 : Int) < (Z.length : Int) := by omega
            clear hcell hcell2 hc1 hc2 HZ4 HZ5 hb E3
            generalize L[0].k = kk at *
            go_wp2
            go_ret
            exact ⟨rfl, hB⟩
      · have hL0' : L.length = 0 := by omega
        rw [decide_eq_false hL0, if_neg hL0] at KF
        obtain rfl : L = [] := List.eq_nil_of_length_eq_zero hL0'
        obtain rfl : Z = [] := List.eq_nil_of_length_eq_zero (by rw [f3]; rfl)
        clear hL0 hL0' HZ4 HZ5 E3 f3
        go_wp2_with fail
        refine (KR _).mono ?_
        rintro e w4 ⟨m, rfl, om, hb4⟩
        replace hir := hir.below hb4
        replace hB := below_then hB hb4
        have irm := IR_of_owns om rfl
        clear KR hb4 om
        go_wp2_with fail
        refine (KZ _).mono ?_
        rintro e w5 ⟨r, rfl, oz, hb5⟩
        replace hir := hir.below hb5
        replace irm := irm.below hb5
        replace hB := below_then hB hb5
        have ilz := IL_of_owns oz rfl
        clear KZ hb5 oz
        go_wp2_with fail
        refine (KF _).mono ?_
        rintro e w6 ⟨rfl, hb6⟩
        replace hir := hir.below hb6
        replace irm := irm.below hb6
        replace hB := below_then hB hb6
        clear KF hb6
        obtain ⟨za, zc, rfl, hzc⟩ := id ilz
        clear hzc ilz
        go_wp2_with fail
        refine (sameItems_same _ _ [] _ hir irm (by simp)).mono ?_
        rintro e w7 ⟨rfl, hb7⟩
        replace hB := below_then hB hb7
        clear irm hb7 hir
        go_wp2
        go_loopw [14] (fun i wr => i = .int .i64 1 ∧ Below w.heap.size w wr) (fun _ _ => 0)
        case atStart => exact ⟨rfl, hB⟩
        case round =>
          clear hB
          obtain ⟨rfl, hB⟩ := hrel
          go_wp2
          go_ret
          exact ⟨rfl, hB⟩
  · clear KD
    go_enter Try.func3, Try.ntmps3
    go_wp2
    go_ret
    exact ⟨rfl, Below.refl _ _⟩
end Go.Proofs.Ytniepppbbkoanaa
