/-
  An index has its blocks side by side with their last items, a filter knows all keys, and a range is from the first to the last one: the walk of FnIndexed.
-/
import Derived.Test.YtfdaffnkgpdhhaaGreatWt
import Derived.Test.YtfdaffnkgpdhhaaGreatIy
import Derived.Test.YtfdaffnkgpdhhaaGreatWM
namespace Go.Proofs.YtfdaffnkgpdhhaaGreat
open Go.RowKit
set_option linter.unusedVariables false
set_option maxRecDepth 100000

theorem place_at {L : List It} (h : okT L = true) (j : Nat) (hj : j < (plsL L (nb L)).length) : ∃ (t z : Nat) (ht : t < L.length), (plsL L (nb L))[j] = ⟨L[t].k, L[t].n, ((bsL L j).length : Nat), (z : Nat)⟩ ∧ (bsL L j).length + z = (bsL L (j + 1)).length ∧ (bsL L (j + 1)).length ≤ 10000 ∧ ((L.length ≤ 8 * j + 7 ∧ t + 1 = L.length) ∨ (8 * j + 7 < L.length ∧ t = 8 * j + 7)) := by
  have hp := okT_parts h
  have hn := nb_le h
  have hjn : j < nb L := by rw [plsL_len] at hj; exact hj
  have h8 := nb_lt hjn
  have hc := chk_len L j
  have hl := lastI_at L j hjn
  have hb := bsL_len hp.1 (j + 1)
  have ht : 8 * j + ((chk L j).length - 1) < L.length := by omega
  rw [getD_at L _ ht] at hl
  refine ⟨8 * j + ((chk L j).length - 1), (blkL (chk L j)).length, ht, ?_, ?_, by omega, by omega⟩
  · have e : (plsL L (nb L))[j] = plc L j := by simp [plsL]
    rw [e]; unfold plc; rw [hl]
  · show _ = (bsL L j ++ blkL (chk L j)).length
    rw [List.length_append]
theorem filter_tab {L : List It} (h : okT L = true) : ∃ m, fOf L true = (4, fbT L, m) ∧ ∀ j (hj : j < L.length) (w : World), Calls Tryz.prog 21 #[.agg #[.int .i64 4, .string (fbT L), .int .i64 m], .string L[j].k] w fun e w' => e = .returned (.tuple #[.bool true, .bool true]) ∧ Below w.heap.size w w' := by
  obtain ⟨m, h1, h2, h3⟩ := filF_run h
  refine ⟨m, by unfold fOf; rw [if_pos rfl, h1], fun j hj w => ?_⟩
  have ht := tab_has h hj
  rw [getD_at L j hj] at ht
  have := implMay_good 4 (fbT L) m L[j].k w ht.1 h2
  rw [ht.2] at this
  exact this

set_option maxHeartbeats 8000000 in
theorem lawIndexed (v : Value) (l : List UInt8) (w : World) (hv : YL w v l) (hn : l.length ≤ maxLen) :
    Calls Tryz.prog 4 #[v] w fun e w' => e = .returned (.bool true) ∧ Below w.heap.size w w' := by
  have hnv := hn
  unfold maxLen at hn
  have hv' := hv
  obtain ⟨va, vc, rfl, _⟩ := hv'
  have KD := drawIndex_any _ l w hv hnv
  clear hnv hv
  by_cases hg : (l.length : Int) ≤ 1048576
  · go_enter Tryz.func4, Tryz.ntmps4
    go_wp2_with fail
    refine KD.mono ?_
    rintro e w1 ⟨T, rfl, hT, hB⟩
    clear KD hg hn
    have KI := fun w => implIndex_any T w (by omega)
    have KX := fun w => specIndex_any T w (by omega)
    have KR := fun w => implReadT_any T w (by omega)
    have KG := fun w => implRange_any T w (by omega)
    have KF := fun w => implFilterIn_any T w (by omega)
    clear hT
    go_wp2_with fail
    refine (KI _).mono ?_
    rintro e w2 ⟨L, ok, pv, hres, rfl, o1, hb2⟩
    replace hB := below_then hB hb2
    clear KI hb2
    obtain ⟨pa, pc, rfl⟩ := slice_form o1
    have ip := PR_of_owns o1 (plsL_len L (nb L)).symm
    clear o1
    go_wp2_with fail
    refine (KX _).mono ?_
    rintro e w3 ⟨L', ok', qv, hres', rfl, o2, hb3⟩
    obtain ⟨rfl, rfl⟩ := hres'.same hres
    clear hres'
    replace hB := below_then hB hb3
    replace ip := ip.below hb3
    clear KX hb3
    obtain ⟨qa, qc, rfl⟩ := slice_form o2
    have iq := PR_of_owns o2 (plsL_len L' (nb L')).symm
    clear o2
    go_wp2_with fail
    refine (KR _).mono ?_
    rintro e w4 ⟨L, ok, lv, hres', rfl, o3, hb4⟩
    obtain ⟨rfl, rfl⟩ := hres'.same hres
    clear hres'
    replace hB := below_then hB hb4
    replace ip := ip.below hb4
    replace iq := iq.below hb4
    clear KR hb4
    obtain ⟨la, lc, rfl⟩ := slice_form o3
    have il := IR_of_owns o3 rfl
    clear o3
    have hll := hres.len
    have hnb : nb L ≤ 16 := by unfold nb; omega
    go_wp2_with fail
    refine (KG _).mono ?_
    rintro e w5 ⟨L', ok', hres', rfl, hb5⟩
    obtain ⟨rfl, rfl⟩ := hres'.same hres
    clear hres'
    replace hB := below_then hB hb5
    replace ip := ip.below hb5
    replace iq := iq.below hb5
    replace il := il.below hb5
    clear KG hb5
    go_wp2_with fail
    refine (KF _).mono ?_
    rintro e w6 ⟨L, ok, hres', rfl, hb6⟩
    obtain ⟨rfl, rfl⟩ := hres'.same hres
    clear hres'
    replace hB := below_then hB hb6
    replace ip := ip.below hb6
    replace iq := iq.below hb6
    replace il := il.below hb6
    clear KF hb6
    cases ok with
    | false =>
      obtain rfl : L = [] := by rcases hres with ⟨h, _⟩ | ⟨_, h, _⟩; cases h; exact h
      generalize r0 [] = ra at *
      generalize r1 [] = rb at *
      generalize fOf [] false = F at *
      obtain ⟨f1, f2, f3⟩ := F
      dsimp only
      have hB7 := below_then hB (below_alloc w6 (.cells #[.int .i64 f1, .string f2, .int .i64 f3] 46))
      clear hres ip iq il hB
      generalize nb [] = N at *
      go_wp2
      go_ret
      exact ⟨rfl, hB7⟩
    | true =>
      have hok := hres.okT
      obtain ⟨m, hF, KM⟩ := filter_tab hok
      rw [hF]
      dsimp only
      have HPF : Hid (∀ (j : Nat) (hj : j < (plsL L (nb L)).length), ∃ (t z : Nat) (ht : t < L.length), (plsL L (nb L))[j] = ⟨L[t].k, L[t].n, ((bsL L j).length : Nat), (z : Nat)⟩ ∧ (bsL L j).length + z = (bsL L (j + 1)).length ∧ (bsL L (j + 1)).length ≤ 10000 ∧ ((L.length ≤ 8 * j + 7 ∧ t + 1 = L.length) ∨ (8 * j + 7 < L.length ∧ t = 8 * j + 7))) := place_at hok
      have hL0 : 0 < L.length := (okT_parts hok).2.1
      have e0 : r0 L = L[0].k := by unfold r0; rw [getD_at L 0 hL0]
      obtain ⟨m1, hm1⟩ : ∃ m1, m1 = L.length - 1 := ⟨_, rfl⟩
      have m1lt : m1 < L.length := by omega
      have e1 : r1 L = (L[m1]'m1lt).k := by unfold r1; rw [← hm1, getD_at L m1 m1lt]
      have HM1 : Hid (m1 + 1 = L.length) := by show _ = _; omega
      rw [e0, e1]
      have hPl := plsL_len L (nb L)
      have hNB : nb L = (L.length + 7) / 8 := rfl
      obtain ⟨P, hP⟩ : ∃ P, P = plsL L (nb L) := ⟨_, rfl⟩
      rw [← hP] at HPF ip iq hPl
      have hA0 : (bsL L 0).length = 0 := rfl
      obtain ⟨A, hA⟩ : ∃ A : Nat → Nat, ∀ j, A j = (bsL L j).length := ⟨_, fun _ => rfl⟩
      simp only [← hA] at HPF hA0
      have KM2 : Hid (∀ j (hj : j < L.length) (w : World), Calls Tryz.prog 21 #[.agg #[.int .i64 4, .string (fbT L), .int .i64 m], .string L[j].k] w fun e w' => e = .returned (.tuple #[.bool true, .bool true]) ∧ Below w.heap.size w w') := KM
      clear KM hA hP e0 e1 hF hres hok
      generalize fbT L = F at *
      generalize nb L = N at *
      have X7 := Box.new w6 #[.int .i64 4, .string F, .int .i64 m] 46
      have hb7 := below_alloc w6 (.cells #[.int .i64 4, .string F, .int .i64 m] 46)
      obtain ⟨W, hW⟩ : ∃ W, W = w6.alloc (.cells #[.int .i64 4, .string F, .int .i64 m] 46) := ⟨_, rfl⟩
      rw [← hW] at X7 hb7
      replace hB := below_then hB hb7
      replace ip := ip.below hb7
      replace iq := iq.below hb7
      replace il := il.below hb7
      clear hb7
      clear hm1
      subst hPl
      have EN : ((L.length : Int) + 8 - 1) / 8 = (P.length : Int) := by omega
      have HEN : Hid (((L.length : Int) + 8 - 1) / 8 = (P.length : Int)) := EN
      have HNB : Hid (P.length = (L.length + 7) / 8) := hNB
      clear EN hNB
      go_wp2
      rw [← hW]
      clear hW
      go_loopw [15, 84] (fun a i wr => ∃ j : Nat, j ≤ P.length ∧ i = .int .i64 j ∧ a = .int .i64 (A j : Int) ∧ Below w.heap.size w wr ∧ Below W.heap.size W wr) (fun _ i _ => P.length - (intOf i).toNat)
      case atStart => exact ⟨0, Nat.zero_le _, rfl, by rw [hA0]; rfl, hB, Below.refl _ _⟩
      case round =>
        clear hB
        obtain ⟨j, hj, rfl, rfl, hB, hb⟩ := hrel
        by_cases hlt : j < P.length
        · obtain ⟨t, z, ht, hPj, hAz, hA1, hcase⟩ := HPF.out j hlt
          obtain ⟨a1, c1, he1, hc1⟩ := ip
          injection he1 with e1 e2 e3
          subst e1
          obtain ⟨b1, off1, rfl, hbl1, hcell1⟩ := hc1 (by intro e; rw [e] at hlt; simp at hlt)
          obtain ⟨a2, c2, he2, hc2⟩ := iq
          injection he2 with f1 f2 f3
          subst f1
          obtain ⟨b2, off2, rfl, hbl2, hcell2⟩ := hc2 (by intro e; rw [e] at hlt; simp at hlt)
          obtain ⟨a3, c3, he3, hc3⟩ := il
          injection he3 with g1 g2 g3
          subst g1
          obtain ⟨b3, off3, rfl, hbl3, hcell3⟩ := hc3 (by intro e; rw [e] at ht; simp at ht)
          have p0 := (hb.cell (p := ⟨b1, off1 + j * 4, none⟩) hbl1).trans (hcell1 j hlt).1
          have p1 := (hb.cell (p := ⟨b1, off1 + j * 4 + 1, none⟩) hbl1).trans (hcell1 j hlt).2.1
          have p2 := (hb.cell (p := ⟨b1, off1 + j * 4 + 2, none⟩) hbl1).trans (hcell1 j hlt).2.2.1
          have p3 := (hb.cell (p := ⟨b1, off1 + j * 4 + 3, none⟩) hbl1).trans (hcell1 j hlt).2.2.2
          have q0 := (hb.cell (p := ⟨b2, off2 + j * 4, none⟩) hbl2).trans (hcell2 j hlt).1
          have q1 := (hb.cell (p := ⟨b2, off2 + j * 4 + 1, none⟩) hbl2).trans (hcell2 j hlt).2.1
          have q2 := (hb.cell (p := ⟨b2, off2 + j * 4 + 2, none⟩) hbl2).trans (hcell2 j hlt).2.2.1
          have q3 := (hb.cell (p := ⟨b2, off2 + j * 4 + 3, none⟩) hbl2).trans (hcell2 j hlt).2.2.2
          have l0 := (hb.cell (p := ⟨b3, off3 + t * 4, none⟩) hbl3).trans (hcell3 t ht).1
          have l1 := (hb.cell (p := ⟨b3, off3 + t * 4 + 1, none⟩) hbl3).trans (hcell3 t ht).2.1
          rw [hPj] at p0 p1 p2 p3 q0 q1 q2 q3
          dsimp only at p0 p1 p2 p3 q0 q1 q2 q3
          have hw1 := Nat.lt_of_lt_of_le hbl1 hb.size
          have hw2 := Nat.lt_of_lt_of_le hbl2 hb.size
          have hw3 := Nat.lt_of_lt_of_le hbl3 hb.size
          obtain ⟨a4, ha4⟩ : ∃ a4, a4 = A (j + 1) := ⟨_, rfl⟩
          rw [← ha4] at hAz hA1
          have HA4 : Hid (a4 = A (j + 1)) := ha4
          obtain ⟨j1, hj1⟩ : ∃ j1, j1 = j + 1 := ⟨_, rfl⟩
          have HJ1 : Hid (j1 = j + 1) := hj1
          obtain ⟨j8, hj8⟩ : ∃ j8, j8 = j1 * 8 := ⟨_, rfl⟩
          have hz := hB.size
          have hzz := hb.size
          have E1 : (j : Int) + 1 = (j1 : Int) := by omega
          have E2 : (j1 : Int) * 8 = (j8 : Int) := by omega
          have V1 : IntKind.i64.wrap (j1 : Int) = (j1 : Int) := by rw [IntKind.wrap_i64]; omega
          have V2 : IntKind.i64.wrap (j8 : Int) = (j8 : Int) := by rw [IntKind.wrap_i64]; omega
          have HN : Hid (j1 ≤ P.length) := by show _ ≤ _; omega
          have HM : Hid (P.length - j1 < P.length - j) := by show _ < _; omega
          clear ha4 hcell1 hcell2 hcell3 hc1 hc2 hc3 hPj KM2 HPF HEN HNB X7 hA0 e2 e3 f2 f3 g2 g3
          generalize A j = a0 at *
          generalize L[t] = x at *
          obtain ⟨xk, xn, xd, xv⟩ := x
          dsimp only at *
          have E5 : (a0 : Int) + (z : Int) = (a4 : Int) := by omega
          have V5 : IntKind.i64.wrap (a4 : Int) = (a4 : Int) := by rw [IntKind.wrap_i64]; omega
          rcases hcase with ⟨h1, h2⟩ | ⟨h1, h2⟩
          · obtain ⟨lw, hlw⟩ : ∃ lw, lw = j8 - 1 := ⟨_, rfl⟩
            have E3 : (j8 : Int) - 1 = (lw : Int) := by omega
            have V3 : IntKind.i64.wrap (lw : Int) = (lw : Int) := by rw [IntKind.wrap_i64]; omega
            have hge : (L.length : Int) ≤ (lw : Int) := by omega
            have E4 : (L.length : Int) - 1 = (t : Int) := by omega
            have V4 : IntKind.i64.wrap (t : Int) = (t : Int) := by rw [IntKind.wrap_i64]; omega
            clear hlw hj8 hj1 h1 h2 hAz
            go_wp2_with fail
            go_quiet (fail)
            go_wp2
            go_roundw
            case rel => exact ⟨j1, HN.out, rfl, by rw [HJ1.out, ← HA4.out], below_drewN (hB.alloc hz _) _, below_drewN (hb.alloc hzz _) _⟩
            case measure => simpa [intOf] using HM.out
          · have E3 : (j8 : Int) - 1 = (t : Int) := by omega
            have V3 : IntKind.i64.wrap (t : Int) = (t : Int) := by rw [IntKind.wrap_i64]; omega
            have hge : ¬ (L.length : Int) ≤ (t : Int) := by omega
            clear hj8 hj1 h1 h2 hAz
            go_wp2_with fail
            go_quiet (fail)
            go_wp2
            go_roundw
            case rel => exact ⟨j1, HN.out, rfl, by rw [HJ1.out, ← HA4.out], below_drewN (hB.alloc hz _) _, below_drewN (hb.alloc hzz _) _⟩
            case measure => simpa [intOf] using HM.out
        · obtain rfl : j = P.length := by omega
          have X8 := X7.below hb
          have il8 := il.below hb
          clear HPF X7 il ip iq hb hA0
          obtain ⟨W8, hW8⟩ : ∃ W8, W8 = wr := ⟨_, rfl⟩
          go_wp2
          go_loopw [139] (fun i wr => ∃ k : Nat, k ≤ L.length ∧ i = .int .i64 k ∧ Below w.heap.size w wr ∧ Below W8.heap.size W8 wr) (fun i _ => L.length - (intOf i).toNat)
          case atStart => exact ⟨0, Nat.zero_le _, rfl, hB, by rw [hW8]; exact Below.refl _ _⟩
          case round =>
            subst hW8
            clear hB
            obtain ⟨k, hk, rfl, hB, hb⟩ := hrel
            have hz := hB.size
            have hzz := hb.size
            obtain ⟨a3, c3, he3, hc3⟩ := il8
            injection he3 with g1 g2 g3
            subst g1
            obtain ⟨b3, off3, rfl, hbl3, hcell3⟩ := hc3 (by intro e; rw [e] at hL0; simp at hL0)
            have X9 := X8.below hb
            obtain ⟨hxl, x0, x1, x2⟩ := X9.c3
            by_cases hlt2 : k < L.length
            · have c0 := (hb.cell (p := ⟨b3, off3 + k * 4, none⟩) hbl3).trans (hcell3 k hlt2).1
              have c1 := (hb.cell (p := ⟨b3, off3 + k * 4 + 1, none⟩) hbl3).trans (hcell3 k hlt2).2.1
              have c2 := (hb.cell (p := ⟨b3, off3 + k * 4 + 2, none⟩) hbl3).trans (hcell3 k hlt2).2.2.1
              have c3' := (hb.cell (p := ⟨b3, off3 + k * 4 + 3, none⟩) hbl3).trans (hcell3 k hlt2).2.2.2
              have hw3 := Nat.lt_of_lt_of_le hbl3 hb.size
              have KO := KM2.out k hlt2
              clear KM2 hcell3 hc3 HEN HNB X8 X9 g2 g3
              generalize L[k] = x at *
              obtain ⟨xk, xn, xd, xv⟩ := x
              dsimp only at *
              generalize w6.heap.size = g at *
              go_wp2_with fail
              refine (KO _).mono ?_
              rintro e w9 ⟨rfl, hb9⟩
              have hB9 := below_then (hB.alloc hz _) hb9
              have hb99 := below_then (hb.alloc hzz _) hb9
              clear KO hb9 hB hb c0 c1 c2 c3' x0 x1 x2
              go_wp2
              go_roundw
              case rel => exact ⟨k + 1, by omega, by go_num, hB9, hb99⟩
              case measure => simp [intOf]; omega
            · obtain rfl : k = L.length := by omega
              have d0 := (hb.cell (p := ⟨b3, off3 + 0 * 4, none⟩) hbl3).trans (hcell3 0 hL0).1
              have d1 := (hb.cell (p := ⟨b3, off3 + m1 * 4, none⟩) hbl3).trans (hcell3 m1 m1lt).1
              rw [show off3 + 0 * 4 = off3 from by omega] at d0
              have EM : (L.length : Int) - 1 = (m1 : Int) := by have := HM1.out; omega
              have VM : IntKind.i64.wrap (m1 : Int) = (m1 : Int) := by rw [IntKind.wrap_i64]; omega
              have hw3 := Nat.lt_of_lt_of_le hbl3 hb.size
              have hl0 : (0 : Int) < (L.length : Int) := by omega
              obtain ⟨s8, hs8⟩ : ∃ s8, s8 = L.length + 8 := ⟨_, rfl⟩
              obtain ⟨s7, hs7⟩ : ∃ s7, s7 = L.length + 7 := ⟨_, rfl⟩
              have T8 : (L.length : Int) + 8 = (s8 : Int) := by omega
              have T7 : (s8 : Int) - 1 = (s7 : Int) := by omega
              have TP : (s7 : Int) / 8 = (P.length : Int) := by have := HNB.out; omega
              have U8 : IntKind.i64.wrap (s8 : Int) = (s8 : Int) := by rw [IntKind.wrap_i64]; omega
              have U7 : IntKind.i64.wrap (s7 : Int) = (s7 : Int) := by rw [IntKind.wrap_i64]; omega
              clear KM2 hcell3 hc3 HEN HNB X8 X9 g2 g3 HM1 hs8 hs7 x0 x1 x2
              generalize L[0].k = ka at *
              generalize L[m1].k = kb at *
              go_wp2
              go_ret
              exact ⟨rfl, hB⟩
  · clear KD
    go_enter Tryz.func4, Tryz.ntmps4
    go_wp2
    go_ret
    exact ⟨rfl, Below.refl _ _⟩
end Go.Proofs.YtfdaffnkgpdhhaaGreat
