/-
  Edits that are good: goodDrop, goodEdit, l9Edit.
-/
import Derived.Test.YtenbdjlhcadhaaaGreatN9
import Derived.Test.YtenbdjlhcadhaaaGreatK9ToM0
namespace Go.Proofs.YtenbdjlhcadhaaaGreat
open Go.RowKit
set_option linter.unusedVariables false
set_option maxRecDepth 100000

theorem drAt_eq (l : List Int) (k : Nat) (h : k < l.length) : drAt l k = (okNum l[k] && (k == 0 || decide (l.getD (k - 1) 0 < l[k]))) := by unfold drAt; rw [getI_at l k h]
theorem okDr_eq (l : List Int) : okDr l = (decide ((l.length : Int) ≤ 30) && goodDr l) := rfl

set_option maxHeartbeats 2000000 in
theorem goodDrop_any (v : Value) (l : List Int) (w : World) (hv : IL w v l) (hn : l.length ≤ 1048576) :
    Calls Tryz.prog 52 #[v] w fun e w' => e = .returned (.bool (okDr l)) ∧ w' = w := by
  have HM : Hid (okDr l = (decide ((l.length : Int) ≤ 30) && goodDr l)) := rfl
  obtain ⟨a, cap, rfl, hc⟩ := hv
  by_cases h30 : (l.length : Int) ≤ 30
  rotate_left
  · have HR : Hid (okDr l = false) := by show _ = _; rw [HM.out, decide_eq_false h30]; rfl
    clear HM hc
    go_enter Tryz.func52, Tryz.ntmps52
    go_wp2
    go_ret
    exact ⟨by rw [HR.out]; rfl, rfl⟩
  have HM2 : Hid (okDr l = goodDr l) := by show _ = _; rw [HM.out, decide_eq_true h30]; rfl
  clear HM
  go_enter Tryz.func52, Tryz.ntmps52
  go_wp2
  go_loopw [10] (fun i wr => ∃ k : Nat, k ≤ l.length ∧ i = .int .i64 k ∧ drTo l k = true ∧ wr = w) (fun i _ => l.length - (intOf i).toNat)
  case atStart => exact ⟨0, Nat.zero_le _, rfl, rfl, rfl⟩
  case round =>
    obtain ⟨k, hk, rfl, hg, rfl⟩ := hrel
    by_cases hlt : k < l.length
    · obtain ⟨b, off, rfl, hbl, hcell⟩ := hc (by intro e; simp [e] at hlt)
      have hc0 := hcell k hlt
      have GI := fun w => goodNumber_any l[k] w
      have HAT : Hid (drAt l k = (okNum l[k] && (k == 0 || decide (l.getD (k - 1) 0 < l[k])))) := drAt_eq l k hlt
      cases hK : okNum l[k] with
      | false =>
        have HR : Hid (goodDr l = false) := drTo_stop l k hlt (by rw [HAT.out, hK]; rfl)
        rw [hK] at GI
        clear hcell hc HAT hg hK
        generalize l[k] = s at *
        go_wp2_with fail
        refine (GI _).mono ?_
        rintro e w1 ⟨rfl, rfl⟩
        go_wp2
        go_ret
        exact ⟨by rw [HM2.out, HR.out]; rfl, rfl⟩
      | true =>
        rw [hK] at GI
        by_cases k0 : k = 0
        · subst k0
          have HG : Hid (drTo l (0 + 1) = true) := by show _ = _; rw [drTo_succ, HAT.out, hK]; rfl
          rw [Nat.add_zero] at hc0
          clear hcell hc HAT hg hK
          generalize l[0] = s at *
          go_wp2_with fail
          refine (GI _).mono ?_
          rintro e w1 ⟨rfl, rfl⟩
          go_wp2
          go_roundw
          case rel => exact ⟨1, by omega, by go_num, HG.out, by trivial⟩
          case measure => simp [intOf]; omega
        · obtain ⟨j, rfl⟩ : ∃ j, k = j + 1 := ⟨k - 1, by omega⟩
          have hj : j < l.length := by omega
          have q0 := hcell j hj
          have HLE : Hid (l.getD (j + 1 - 1) 0 = l[j]) := by show _ = _; rw [show j + 1 - 1 = j from by omega, getI_at l j hj]
          have eidx : (1 : Int) ≤ ((j + 1 : Nat) : Int) := by omega
          by_cases hle : l[j] < l[j+1]
          · have HG : Hid (drTo l (j + 1 + 1) = true) := by show _ = _; rw [drTo_succ, hg, HAT.out, hK, HLE.out, decide_eq_true hle]; simp
            clear hcell hc HAT hg HLE hK
            generalize l[j+1] = s at *
            generalize l[j] = t at *
            go_wp2_with fail
            refine (GI _).mono ?_
            rintro e w1 ⟨rfl, rfl⟩
            go_wp2
            go_roundw
            case rel => exact ⟨j + 1 + 1, by omega, by go_num, HG.out, by trivial⟩
            case measure => simp [intOf]; omega
          · have HR : Hid (goodDr l = false) := drTo_stop l (j + 1) hlt (by rw [HAT.out, hK, HLE.out, decide_eq_false hle]; simp)
            clear hcell hc HAT hg HLE hK
            generalize l[j+1] = s at *
            generalize l[j] = t at *
            go_wp2_with fail
            refine (GI _).mono ?_
            rintro e w1 ⟨rfl, rfl⟩
            go_wp2
            go_ret
            exact ⟨by rw [HM2.out, HR.out]; rfl, rfl⟩
    · obtain rfl : k = l.length := by omega
      have HR : Hid (goodDr l = true) := hg
      clear hc hg
      go_wp2
      go_ret
      exact ⟨by rw [HM2.out, HR.out]; rfl, rfl⟩

theorem Box.e4 {w : World} {b : Nat} {v0 v1 v2 v3 : Value} (h : Box w b [v0, v1, v2, v3]) : b < w.heap.size ∧ w.cell? ⟨b, 0, none⟩ = some v0 ∧ w.cell? ⟨b, 1, none⟩ = some v1 ∧ w.cell? ⟨b, 2, none⟩ = some v2 ∧ w.cell? ⟨b, 3, none⟩ = some v3 ∧ w.frozen? ⟨b, 0, none⟩ = false ∧ w.frozen? ⟨b, 1, none⟩ = false ∧ w.frozen? ⟨b, 2, none⟩ = false ∧ w.frozen? ⟨b, 3, none⟩ = false :=
  ⟨h.1, h.2.1 0 _ rfl, h.2.1 1 _ rfl, h.2.1 2 _ rfl, h.2.1 3 _ rfl, h.2.2 0, h.2.2 1, h.2.2 2, h.2.2 3⟩

set_option maxHeartbeats 2000000 in
theorem goodEdit_any (nx sq : Int) (q v : Value) (dr : List Int) (l : List Mt) (w : World) (hq : IL w q dr) (hv : IR w v l) (hd : dr.length ≤ 1048576) (hn : l.length ≤ 1048576) (hs : ∀ i (h : i < l.length), l[i].k.size ≤ 1048576 ∧ l[i].v.size ≤ 1048576) :
    Calls Tryz.prog 21 #[.agg #[.int .i64 nx, .int .i64 sq, q, v]] w fun e w' => e = .returned (.bool (goodE nx sq dr l)) ∧ Below w.heap.size w w' := by
  have hB := below_alloc w (.cells #[.int .i64 nx, .int .i64 sq, q, v] 26)
  have A := fun w => goodNext_any nx w
  have B := fun w => goodSeq_any sq w
  have C := goodDrop_any q dr _ (hq.below hB) hd
  have D := goodMetas_any v l _ (hv.below hB) hn hs
  have HO : Hid (goodE nx sq dr l = (okNext nx && okSeq sq && okDr dr && okMs l)) := rfl
  generalize goodE nx sq dr l = R at *
  generalize okNext nx = b1 at *
  generalize okSeq sq = b2 at *
  generalize okDr dr = b3 at *
  generalize okMs l = b4 at *
  obtain ⟨qa, qc, rfl, _⟩ := hq
  obtain ⟨a, cap, rfl, _⟩ := hv
  clear hs
  go_enter Tryz.func21, Tryz.ntmps21
  go_wp2_with fail
  refine (A _).mono ?_
  rintro e w1 ⟨rfl, rfl⟩
  cases b1
  · go_wp2
    go_ret
    exact ⟨by rw [HO.out]; rfl, hB⟩
  go_wp2_with fail
  refine (B _).mono ?_
  rintro e w1 ⟨rfl, rfl⟩
  cases b2
  · go_wp2
    go_ret
    exact ⟨by rw [HO.out]; rfl, hB⟩
  go_wp2_with fail
  refine C.mono ?_
  rintro e w1 ⟨rfl, rfl⟩
  cases b3
  · go_wp2
    go_ret
    exact ⟨by rw [HO.out]; rfl, hB⟩
  go_wp2_with fail
  refine D.mono ?_
  rintro e w2 ⟨rfl, hb⟩
  have hB2 := below_then hB hb
  go_wp2
  go_ret
  exact ⟨by rw [HO.out]; rfl, hB2⟩

set_option maxHeartbeats 4000000 in
theorem l9Edit_any (nx sq : Int) (q v : Value) (dr : List Int) (l : List Mt) (w : World) (hq : IL w q dr) (hv : IR w v l) (hd : dr.length ≤ 1048576) (hn : l.length ≤ 1048576) (hs : ∀ i (h : i < l.length), l[i].k.size ≤ 1048576 ∧ l[i].v.size ≤ 1048576) :
    Calls Tryz.prog 25 #[.agg #[.int .i64 nx, .int .i64 sq, q, v]] w fun e w' => e = .returned (.bool (goodE nx sq dr l)) ∧ Below w.heap.size w w' := by
  have hB := below_alloc w (.cells #[.int .i64 nx, .int .i64 sq, q, v] 26)
  have X := Box.new w #[.int .i64 nx, .int .i64 sq, q, v] 26
  have A := fun w => l9Counts_any nx sq w
  have D := l9Metas_any v l _ (hv.below hB) hn hs
  have HO : Hid (goodE nx sq dr l = (okNext nx && okSeq sq && (decide ((dr.length : Int) ≤ 30) && goodDr dr) && okMs l)) := rfl
  generalize goodE nx sq dr l = R at *
  generalize (okNext nx && okSeq sq) = b1 at *
  generalize okMs l = b4 at *
  obtain ⟨qa, qc, rfl, hc⟩ := hq
  obtain ⟨a, cap, rfl, _⟩ := hv
  clear hs
  obtain ⟨W0, hW0⟩ : ∃ W0, W0 = w.alloc (.cells #[.int .i64 nx, .int .i64 sq, .slice qa dr.length qc, .slice a l.length cap] 26) := ⟨_, rfl⟩
  rw [← hW0] at hB X D
  obtain ⟨hxl, x0, x1, x2, x3, _⟩ := X.e4
  go_enter Tryz.func25, Tryz.ntmps25
  go_wp2
  rw [← hW0]; clear hW0
  go_loopw [8] (fun i wr => ∃ k : Nat, k ≤ dr.length ∧ i = .int .i64 k ∧ drTo dr k = true ∧ wr = W0) (fun i _ => dr.length - (intOf i).toNat)
  case atStart => exact ⟨0, Nat.zero_le _, rfl, rfl, rfl⟩
  case round =>
    obtain ⟨k, hk, rfl, hg, rfl⟩ := hrel
    by_cases hlt : k < dr.length
    · obtain ⟨b, off, rfl, hbl, hcell⟩ := hc (by intro e; simp [e] at hlt)
      have hc0 := (hB.cell (p := ⟨b, off + k, none⟩) hbl).trans (hcell k hlt)
      have GI : ∀ w, Calls Tryz.prog 58 #[.int .i64 dr[k], .int .i64 1, .int .i64 100000] w fun e w' => e = .returned (.bool (okNum dr[k])) ∧ w' = w := fun w => l1In_any dr[k] 1 100000 w
      have HAT : Hid (drAt dr k = (okNum dr[k] && (k == 0 || decide (dr.getD (k - 1) 0 < dr[k])))) := drAt_eq dr k hlt
      have hbW : b < wr.heap.size := by have := hB.size; omega
      cases hK : okNum dr[k] with
      | false =>
        have HR : Hid (goodDr dr = false) := drTo_stop dr k hlt (by rw [HAT.out, hK]; rfl)
        rw [hK] at GI
        clear hcell hc HAT hg hK D
        generalize dr[k] = s at *
        go_wp2_with fail
        refine (GI _).mono ?_
        rintro e w1 ⟨rfl, rfl⟩
        go_wp2
        go_ret
        exact ⟨by rw [HO.out, HR.out, Bool.and_false, Bool.and_false]; rfl, hB⟩
      | true =>
        rw [hK] at GI
        by_cases k0 : k = 0
        · subst k0
          have HG : Hid (drTo dr (0 + 1) = true) := by show _ = _; rw [drTo_succ, HAT.out, hK]; rfl
          rw [Nat.add_zero] at hc0
          clear hcell hc HAT hg hK D
          generalize dr[0] = s at *
          go_wp2_with fail
          refine (GI _).mono ?_
          rintro e w1 ⟨rfl, rfl⟩
          go_wp2
          go_roundw
          case rel => exact ⟨1, by omega, by go_num, HG.out, by trivial⟩
          case measure => simp [intOf]; omega
        · obtain ⟨j, rfl⟩ : ∃ j, k = j + 1 := ⟨k - 1, by omega⟩
          have hj : j < dr.length := by omega
          have q0 := (hB.cell (p := ⟨b, off + j, none⟩) hbl).trans (hcell j hj)
          have HLE : Hid (dr.getD (j + 1 - 1) 0 = dr[j]) := by show _ = _; rw [show j + 1 - 1 = j from by omega, getI_at dr j hj]
          have eidx : (1 : Int) ≤ ((j + 1 : Nat) : Int) := by omega
          by_cases hle : dr[j] < dr[j+1]
          · have HG : Hid (drTo dr (j + 1 + 1) = true) := by show _ = _; rw [drTo_succ, hg, HAT.out, hK, HLE.out, decide_eq_true hle]; simp
            clear hcell hc HAT hg HLE hK D
            generalize dr[j+1] = s at *
            generalize dr[j] = t at *
            go_wp2_with fail
            refine (GI _).mono ?_
            rintro e w1 ⟨rfl, rfl⟩
            go_wp2
            go_roundw
            case rel => exact ⟨j + 1 + 1, by omega, by go_num, HG.out, by trivial⟩
            case measure => simp [intOf]; omega
          · have HR : Hid (goodDr dr = false) := drTo_stop dr (j + 1) hlt (by rw [HAT.out, hK, HLE.out, decide_eq_false hle]; simp)
            clear hcell hc HAT hg HLE hK D
            generalize dr[j+1] = s at *
            generalize dr[j] = t at *
            go_wp2_with fail
            refine (GI _).mono ?_
            rintro e w1 ⟨rfl, rfl⟩
            go_wp2
            go_ret
            exact ⟨by rw [HO.out, HR.out, Bool.and_false, Bool.and_false]; rfl, hB⟩
    · obtain rfl : k = dr.length := by omega
      have HR : Hid (goodDr dr = true) := hg
      clear hc hg
      go_wp2_with fail
      refine (A _).mono ?_
      rintro e w1 ⟨rfl, rfl⟩
      cases b1
      · clear D
        go_wp2
        go_ret
        exact ⟨by rw [HO.out]; rfl, hB⟩
      by_cases h30 : (dr.length : Int) ≤ 30
      · go_wp2_with fail
        refine D.mono ?_
        rintro e w2 ⟨rfl, hb⟩
        have hB2 := below_then hB hb
        go_wp2
        go_ret
        exact ⟨by rw [HO.out, HR.out, decide_eq_true h30]; rfl, hB2⟩
      · clear D
        go_wp2
        go_ret
        exact ⟨by rw [HO.out, HR.out, decide_eq_false (show ¬ (dr.length : Int) ≤ 30 from by omega)]; rfl, hB⟩
end Go.Proofs.YtenbdjlhcadhaaaGreat
