/-
  A node is good: the program's side (hasGoodVotes, hasGoodMatch, hasGoodRole, GoodNode).
-/
import Derived.Test.YtapfhhmimkkhnaaP1ToP2
namespace Go.Proofs.Ytapfhhmimkkhnaa
open Go.RowKit
set_option linter.unusedVariables false
set_option maxRecDepth 100000

theorem Box.e9 {w : World} {b : Nat} {v0 v1 v2 v3 v4 v5 v6 v7 v8 : Value} (h : Box w b [v0, v1, v2, v3, v4, v5, v6, v7, v8]) : b < w.heap.size ∧ w.cell? ⟨b, 0, none⟩ = some v0 ∧ w.cell? ⟨b, 1, none⟩ = some v1 ∧ w.cell? ⟨b, 2, none⟩ = some v2 ∧ w.cell? ⟨b, 3, none⟩ = some v3 ∧ w.cell? ⟨b, 4, none⟩ = some v4 ∧ w.cell? ⟨b, 5, none⟩ = some v5 ∧ w.cell? ⟨b, 6, none⟩ = some v6 ∧ w.cell? ⟨b, 7, none⟩ = some v7 ∧ w.cell? ⟨b, 8, none⟩ = some v8 :=
  ⟨h.1, h.2.1 0 _ rfl, h.2.1 1 _ rfl, h.2.1 2 _ rfl, h.2.1 3 _ rfl, h.2.1 4 _ rfl, h.2.1 5 _ rfl, h.2.1 6 _ rfl, h.2.1 7 _ rfl, h.2.1 8 _ rfl⟩
theorem vAt_eq (pe : Int) (l : List Int) (k : Nat) (h : k < l.length) : vAt pe l k = (isP l[k] pe && (k == 0 || decide (l.getD (k - 1) 0 < l[k]))) := by unfold vAt; rw [getI_at l k h]

set_option maxHeartbeats 4000000 in
theorem hasGoodVotes_any (id pe te vo co ro : Int) (vl vv vm : Value) (log : List En) (vs mt : List Int) (w : World) (hl : ER w vl log) (hv : IL w vv vs) (hm : IL w vm mt) (nl : log.length ≤ 1048576) (nv : vs.length ≤ 1048576) (nm : mt.length ≤ 1048576) (ns : ∀ i (h : i < log.length), log[i].d.size ≤ 1048576) :
    Calls Try.prog 135 #[.agg #[.int .i64 id, .int .i64 pe, .int .i64 te, .int .i64 vo, vl, .int .i64 co, .int .i64 ro, vv, vm]] w fun e w' => e = .returned (.bool (goodVs pe id vs)) ∧ Below w.heap.size w w' := by
  have hv0 := hv
  obtain ⟨la, lc, rfl, hlc⟩ := hl
  obtain ⟨va, vc, rfl, hvc⟩ := hv
  obtain ⟨ma, mc, rfl, hmc⟩ := hm
  have hB := below_alloc w (.cells #[.int .i64 id, .int .i64 pe, .int .i64 te, .int .i64 vo, .slice la log.length lc, .int .i64 co, .int .i64 ro, .slice va vs.length vc, .slice ma mt.length mc] 26)
  have X := Box.new w #[.int .i64 id, .int .i64 pe, .int .i64 te, .int .i64 vo, .slice la log.length lc, .int .i64 co, .int .i64 ro, .slice va vs.length vc, .slice ma mt.length mc] 26
  obtain ⟨W0, hW0⟩ : ∃ W0, W0 = w.alloc (.cells #[.int .i64 id, .int .i64 pe, .int .i64 te, .int .i64 vo, .slice la log.length lc, .int .i64 co, .int .i64 ro, .slice va vs.length vc, .slice ma mt.length mc] 26) := ⟨_, rfl⟩
  rw [← hW0] at hB X
  obtain ⟨hxl, x0, x1, x2, x3, x4, x5, x6, x7, x8⟩ := X.e9
  have HO : Hid (goodVs pe id vs = (gV pe vs && (hsI vs id && !decide (pe < 2 * (vs.length : Int))))) := rfl
  clear hlc hmc ns
  go_enter Try.func135, Try.ntmps135
  go_wp2
  rw [← hW0]; clear hW0
  go_loopw [8] (fun i wr => ∃ k : Nat, k ≤ vs.length ∧ i = .int .i64 k ∧ vTo pe vs k = true ∧ wr = W0) (fun i _ => vs.length - (intOf i).toNat)
  case atStart => exact ⟨0, Nat.zero_le _, rfl, rfl, rfl⟩
  case round =>
    obtain ⟨k, hk, rfl, hg, rfl⟩ := hrel
    by_cases hlt : k < vs.length
    · obtain ⟨b, off, rfl, hbl, hcell⟩ := hvc (by intro e; simp [e] at hlt)
      have hc0 := (hB.cell (p := ⟨b, off + k, none⟩) hbl).trans (hcell k hlt)
      have KI := fun w => isPeer_any vs[k] pe w
      have HAT : Hid (vAt pe vs k = (isP vs[k] pe && (k == 0 || decide (vs.getD (k - 1) 0 < vs[k])))) := vAt_eq pe vs k hlt
      have HF : Hid (vAt pe vs k = false → gV pe vs = false) := fun h => vTo_false pe vs k _ hlt h
      have HN : Hid (vAt pe vs k = true → vTo pe vs (k + 1) = true) := fun h => by simp only [vTo, hg, h]; rfl
      have hbW : b < wr.heap.size := by have := hB.size; omega
      cases hK : isP vs[k] pe with
      | false =>
        have HR : Hid (gV pe vs = false) := HF.out (by rw [HAT.out, hK]; rfl)
        rw [hK] at KI
        clear hcell hvc HAT hg hK HF HN hv0
        generalize vs[k] = s at *
        go_wp2_with fail
        refine (KI _).mono ?_
        rintro e w1 ⟨rfl, rfl⟩
        go_wp2
        go_ret
        exact ⟨by rw [HO.out, HR.out]; rfl, hB⟩
      | true =>
        rw [hK] at KI
        by_cases k0 : k = 0
        · subst k0
          have HG : Hid (vTo pe vs (0 + 1) = true) := HN.out (by rw [HAT.out, hK]; rfl)
          rw [Nat.add_zero] at hc0
          clear hcell hvc HAT hg hK HF HN hv0
          generalize vs[0] = s at *
          go_wp2_with fail
          refine (KI _).mono ?_
          rintro e w1 ⟨rfl, rfl⟩
          go_wp2
          go_roundw
          case rel => exact ⟨1, by omega, by go_num, HG.out, by first | rfl | trivial⟩
          case measure => simp [intOf]; omega
        · obtain ⟨j, rfl⟩ : ∃ j, k = j + 1 := ⟨k - 1, by omega⟩
          have hj : j < vs.length := by omega
          have hd0 := (hB.cell (p := ⟨b, off + j, none⟩) hbl).trans (hcell j hj)
          have hdd : vs.getD (j + 1 - 1) 0 = vs[j] := getI_at vs j hj
          have HAT2 : Hid (vAt pe vs (j + 1) = decide (vs[j] < vs[j + 1])) := by show _ = _; rw [HAT.out, hK, hdd]; simp
          have hpos : (0 : Int) < ((j + 1 : Nat) : Int) := by omega
          have hj1 : (((j + 1 : Nat) : Int) - 1) = (j : Int) := by omega
          by_cases hle : vs[j + 1] ≤ vs[j]
          · have HR : Hid (gV pe vs = false) := HF.out (by rw [HAT2.out]; simp; omega)
            clear hcell hvc HAT hg hK HF HN hv0 HAT2 hdd
            generalize vs[j + 1] = s at *
            generalize vs[j] = q at *
            go_wp2_with fail
            refine (KI _).mono ?_
            rintro e w1 ⟨rfl, rfl⟩
            go_wp2
            go_ret
            exact ⟨by rw [HO.out, HR.out]; rfl, hB⟩
          · have HG : Hid (vTo pe vs (j + 1 + 1) = true) := HN.out (by rw [HAT2.out]; simp; omega)
            clear hcell hvc HAT hg hK HF HN hv0 HAT2 hdd
            generalize vs[j + 1] = s at *
            generalize vs[j] = q at *
            go_wp2_with fail
            refine (KI _).mono ?_
            rintro e w1 ⟨rfl, rfl⟩
            go_wp2
            go_roundw
            case rel => exact ⟨j + 1 + 1, by omega, by go_num, HG.out, by first | rfl | trivial⟩
            case measure => simp [intOf]; omega
    · obtain rfl : k = vs.length := by omega
      have HR : Hid (gV pe vs = true) := hg
      have KC := contains_any _ vs id wr (hv0.below hB) nv
      have KM := fun w => areMost_any id pe te vo co ro (vs.length : Int) (.slice la log.length lc) (.slice va vs.length vc) (.slice ma mt.length mc) w (by omega) (by omega)
      clear hvc hg hv0
      generalize hsI vs id = b1 at *
      generalize decide (pe < 2 * (vs.length : Int)) = b2 at *
      go_wp2_with fail
      refine KC.mono ?_
      rintro e w1 ⟨rfl, rfl⟩
      clear KC
      cases b1 with
      | false =>
        go_wp2
        go_ret
        exact ⟨by rw [HO.out, HR.out]; rfl, hB⟩
      | true =>
        go_wp2_with fail
        refine (KM _).mono ?_
        rintro e w1 ⟨rfl, hb1⟩
        clear KM
        go_wp2
        go_ret
        exact ⟨by rw [HO.out, HR.out]; rfl, below_then hB hb1⟩

set_option maxHeartbeats 4000000 in
theorem hasGoodMatch_any (id pe te vo co ro : Int) (vl vv vm : Value) (log : List En) (vs mt : List Int) (w : World) (hl : ER w vl log) (hv : IL w vv vs) (hm : IL w vm mt) (nl : log.length ≤ 1048576) (nv : vs.length ≤ 1048576) (nm : mt.length ≤ 1048576) (ns : ∀ i (h : i < log.length), log[i].d.size ≤ 1048576) (hi0 : 0 ≤ id) (hi1 : id < pe) :
    Calls Try.prog 136 #[.agg #[.int .i64 id, .int .i64 pe, .int .i64 te, .int .i64 vo, vl, .int .i64 co, .int .i64 ro, vv, vm]] w fun e w' => e = .returned (.bool (goodMt pe id log.length mt)) ∧ Below w.heap.size w w' := by
  obtain ⟨la, lc, rfl, hlc⟩ := hl
  obtain ⟨va, vc, rfl, hvc⟩ := hv
  obtain ⟨ma, mc, rfl, hmc⟩ := hm
  have hB := below_alloc w (.cells #[.int .i64 id, .int .i64 pe, .int .i64 te, .int .i64 vo, .slice la log.length lc, .int .i64 co, .int .i64 ro, .slice va vs.length vc, .slice ma mt.length mc] 26)
  have X := Box.new w #[.int .i64 id, .int .i64 pe, .int .i64 te, .int .i64 vo, .slice la log.length lc, .int .i64 co, .int .i64 ro, .slice va vs.length vc, .slice ma mt.length mc] 26
  obtain ⟨W0, hW0⟩ : ∃ W0, W0 = w.alloc (.cells #[.int .i64 id, .int .i64 pe, .int .i64 te, .int .i64 vo, .slice la log.length lc, .int .i64 co, .int .i64 ro, .slice va vs.length vc, .slice ma mt.length mc] 26) := ⟨_, rfl⟩
  rw [← hW0] at hB X
  obtain ⟨hxl, x0, x1, x2, x3, x4, x5, x6, x7, x8⟩ := X.e9
  have HO : Hid (goodMt pe id log.length mt = (decide ((mt.length : Int) = pe) && (gM log.length mt && decide (mt.getD id.toNat 0 = (log.length : Int))))) := rfl
  clear hlc hvc ns
  by_cases hp : (mt.length : Int) = pe
  · obtain ⟨i, rfl⟩ := Int.eq_ofNat_of_zero_le hi0
    have hil : i < mt.length := by omega
    have HE : Hid (goodMt pe (i : Int) log.length mt = (gM log.length mt && decide (mt[i] = (log.length : Int)))) := by
      show _ = _
      rw [HO.out, decide_eq_true hp, Int.toNat_natCast, getI_at mt i hil]; rfl
    clear HO
    have HP : Hid ((mt.length : Int) = pe) := hp
    subst hp
    go_enter Try.func136, Try.ntmps136
    go_wp2
    rw [← hW0]; clear hW0
    go_loopw [14] (fun z wr => ∃ k : Nat, k ≤ mt.length ∧ z = .int .i64 k ∧ gM log.length mt = gM log.length (mt.drop k) ∧ wr = W0) (fun z _ => mt.length - (intOf z).toNat)
    case atStart => exact ⟨0, Nat.zero_le _, rfl, rfl, rfl⟩
    case round =>
      obtain ⟨k, hk, rfl, hg, rfl⟩ := hrel
      obtain ⟨b, off, rfl, hbl, hcell⟩ := hmc (by intro e; simp [e] at hil)
      by_cases hlt : k < mt.length
      · have hc0 := (hB.cell (p := ⟨b, off + k, none⟩) hbl).trans (hcell k hlt)
        have HD : Hid (gM log.length mt = ((decide (0 ≤ mt[k]) && decide (mt[k] ≤ (log.length : Int))) && gM log.length (mt.drop (k + 1)))) := by show _ = _; rw [hg, gM_drop _ mt k hlt]
        clear hcell hmc hg
        generalize mt[k] = s at *
        by_cases h1 : s < 0
        · have HR : Hid (gM log.length mt = false) := by show _ = _; rw [HD.out, decide_eq_false (by omega)]; rfl
          clear HD
          go_wp2
          go_ret
          exact ⟨by rw [HE.out, HR.out]; rfl, hB⟩
        · by_cases h2 : (log.length : Int) < s
          · have HR : Hid (gM log.length mt = false) := by show _ = _; rw [HD.out, decide_eq_false (show ¬ s ≤ (log.length : Int) from by omega), Bool.and_false]; rfl
            clear HD
            go_wp2
            go_ret
            exact ⟨by rw [HE.out, HR.out]; rfl, hB⟩
          · have HR : Hid (gM log.length mt = gM log.length (mt.drop (k + 1))) := by show _ = _; rw [HD.out, decide_eq_true (show 0 ≤ s from by omega), decide_eq_true (show s ≤ (log.length : Int) from by omega)]; rfl
            clear HD
            go_wp2
            go_roundw
            case rel => exact ⟨k + 1, by omega, by go_num, HR.out, by first | rfl | trivial⟩
            case measure => simp [intOf]; omega
      · obtain rfl : k = mt.length := by omega
        have hd0 := (hB.cell (p := ⟨b, off + i, none⟩) hbl).trans (hcell i hil)
        have HR : Hid (gM log.length mt = true) := by show _ = _; rw [hg, List.drop_length]; rfl
        clear hcell hmc hg
        generalize mt[i] = s at *
        by_cases hse : s = (log.length : Int)
        · subst hse
          go_wp2_with fail
          go_quiet (fail)
          go_wp2
          go_ret
          exact ⟨by rw [HE.out, HR.out]; simp, below_drewN hB _⟩
        · go_wp2_with fail
          go_quiet (fail)
          go_wp2
          go_ret
          exact ⟨by rw [HE.out, HR.out]; simp [hse], below_drewN hB _⟩
  · have HE : Hid (goodMt pe id log.length mt = false) := by
      show _ = _
      rw [HO.out, decide_eq_false hp]; rfl
    clear HO
    go_enter Try.func136, Try.ntmps136
    go_wp2
    rw [← hW0]
    go_ret
    exact ⟨by rw [HE.out]; try rfl, hB⟩
end Go.Proofs.Ytapfhhmimkkhnaa
