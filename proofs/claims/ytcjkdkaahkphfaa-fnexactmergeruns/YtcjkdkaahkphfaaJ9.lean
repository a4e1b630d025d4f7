/-
  Merging, the program's side: allMayMerge, itemsTogether, next, orderOfNext, sameItem.
-/
import Derived.Test.YtcjkdkaahkphfaaG9
namespace Go.Proofs.Ytcjkdkaahkphfaa
open Go.RowKit
set_option linter.unusedVariables false
set_option maxRecDepth 100000

set_option maxHeartbeats 4000000 in
theorem allMay_any (v : Value) (R : List (List It)) (w : World) (hv : RL w v R) (hn : R.length ≤ 1048576) (hs : ∀ i (h : i < R.length), R[i].length ≤ 1048576 ∧ ∀ j (hj : j < R[i].length), R[i][j].k.size ≤ 1048576 ∧ R[i][j].v.size ≤ 1048576) :
    Calls Try.prog 36 #[v] w fun e w' => e = .returned (.bool (allM R R.length)) ∧ Below w.heap.size w w' := by
  obtain ⟨a, cap, rfl, hc⟩ := hv
  go_enter Try.func36, Try.ntmps36
  go_wp2
  go_loopw [7] (fun i wr => ∃ k : Nat, k ≤ R.length ∧ i = .int .i64 k ∧ allM R k = true ∧ Below w.heap.size w wr) (fun i _ => R.length - (intOf i).toNat)
  case atStart => exact ⟨0, Nat.zero_le _, rfl, rfl, Below.refl _ _⟩
  case round =>
    obtain ⟨k, hk, rfl, hal, hb⟩ := hrel
    have hz := hb.size
    by_cases hlt : k < R.length
    · obtain ⟨b, off, rfl, hbl, hcell⟩ := hc (by intro e; simp [e] at hlt)
      obtain ⟨u, hu, hir⟩ := hcell k hlt
      have hc0 := (hb.cell (p := ⟨b, off + k, none⟩) hbl).trans hu
      have hb1 := below_alloc wr (.cells #[u] 40)
      have KR := mayMerge_any u R[k] _ ((hir.below hb).below hb1) (hs k hlt).1 (hs k hlt).2
      have HA : Hid (allM R (k + 1) = (allM R k && mayM R[k])) := by show _ = _; rw [allM, getD_in R k [] hlt]
      have HN : Hid (mayM R[k] = false → allM R R.length = false) := fun h => allM_no R k (by rw [getD_in R k [] hlt]; exact h) R.length hlt
      obtain ⟨ua, uc, rfl, _⟩ := hir
      have hbW : b < wr.heap.size := by omega
      clear hcell hc hs hu
      generalize mayM R[k] = m at *
      generalize R[k] = s at *
      go_wp2_with fail
      refine KR.mono ?_
      rintro e w2 ⟨rfl, hb2⟩
      have hB2 := hb.trans ((below_then hb1 hb2).mono hz)
      clear KR hb1 hb2 hc0
      cases m with
      | false =>
        have HM := HN.out rfl
        go_wp2
        go_ret
        exact ⟨by rw [HM]; rfl, hB2⟩
      | true =>
        go_wp2
        go_roundw
        case rel => exact ⟨k + 1, by omega, by go_num, by rw [HA.out, hal]; rfl, hB2⟩
        case measure => simp [intOf]; omega
    · obtain rfl : k = R.length := by omega
      have HM : Hid (allM R R.length = true) := hal
      clear hc hs hal
      go_wp2
      go_ret
      exact ⟨by rw [HM.out]; rfl, hb⟩

set_option maxHeartbeats 4000000 in
theorem itemsTog_any (v : Value) (R : List (List It)) (w : World) (hv : RL w v R) (hn : R.length ≤ 1048576) (hs : ∀ i (h : i < R.length), R[i].length ≤ 1048576) :
    Calls Try.prog 37 #[v] w fun e w' => e = .returned (.int .i64 (totR R R.length)) ∧ Below w.heap.size w w' := by
  obtain ⟨a, cap, rfl, hc⟩ := hv
  have hT := totR_le R hs
  go_enter Try.func37, Try.ntmps37
  go_wp2
  go_loopw [3, 8] (fun t i wr => ∃ k : Nat, k ≤ R.length ∧ i = .int .i64 k ∧ t = .int .i64 (totR R k) ∧ Below w.heap.size w wr) (fun _ i _ => R.length - (intOf i).toNat)
  case atStart => exact ⟨0, Nat.zero_le _, rfl, rfl, Below.refl _ _⟩
  case round =>
    obtain ⟨k, hk, rfl, rfl, hb⟩ := hrel
    have hz := hb.size
    by_cases hlt : k < R.length
    · obtain ⟨b, off, rfl, hbl, hcell⟩ := hc (by intro e; simp [e] at hlt)
      obtain ⟨u, hu, hir⟩ := hcell k hlt
      have hc0 := (hb.cell (p := ⟨b, off + k, none⟩) hbl).trans hu
      have HT : Hid (totR R (k + 1) = totR R k + R[k].length) := by show _ = _; rw [totR, getD_in R k [] hlt]
      have hTk := hT k hk
      obtain ⟨ua, uc, rfl, _⟩ := hir
      have hbW : b < wr.heap.size := by omega
      have hsl := hs k hlt
      clear hcell hc hs hu hT
      generalize totR R k = tt at *
      generalize R[k] = s at *
      go_wp2
      go_roundw
      case rel => exact ⟨k + 1, by omega, by go_num, by rw [HT.out]; go_num, hb.alloc hz _⟩
      case measure => simp [intOf]; omega
    · obtain rfl : k = R.length := by omega
      clear hc hs hT
      go_wp2
      go_ret
      exact ⟨rfl, hb⟩

set_option maxHeartbeats 4000000 in
theorem next_it (v : Value) (R : List (List It)) (gb cp : Nat) (at_ : List Nat) (i : Nat) (w : World) (hv : RL w v R) (ha : AT w gb at_) (hn : R.length ≤ 1048576) (hl : at_.length = R.length) (hi : i < R.length) (hai : at_[i]'(by omega) < R[i].length) (hs : R[i].length ≤ 1048576) :
    Calls Try.prog 76 #[.agg #[v, .slice (some ⟨gb, 0, none⟩) R.length cp], .int .i64 i] w fun e w' => e = .returned (.agg #[.string (R[i][at_[i]'(by omega)]).k, .int .i64 (R[i][at_[i]'(by omega)]).n, .int .i64 (R[i][at_[i]'(by omega)]).d, .string (R[i][at_[i]'(by omega)]).v]) ∧ Below w.heap.size w w' := by
  obtain ⟨a, cap, rfl, hc⟩ := hv
  obtain ⟨b, off, rfl, hbl, hcell⟩ := hc (by intro e; simp [e] at hi)
  obtain ⟨u, hu, hir⟩ := hcell i hi
  obtain ⟨ua, uc, rfl, hcu⟩ := hir
  obtain ⟨ib, io, rfl, hibl, hic⟩ := hcu (by intro e; rw [e] at hai; simp at hai)
  have a0 := ha.2 i (by omega)
  have hg := ha.1
  have k0 := (hic _ hai).1
  have k1 := (hic _ hai).2.1
  have k2 := (hic _ hai).2.2.1
  have k3 := (hic _ hai).2.2.2
  clear hcell hc hcu hic ha
  generalize R[i][at_[i]'(by omega)] = s at *
  generalize (at_[i]'(by omega)) = ai at *
  generalize R[i].length = n1 at *
  obtain ⟨sk, sn, sd, sv⟩ := s
  dsimp only at *
  go_enter Try.func76, Try.ntmps76
  go_wp2
  go_region
  go_wp2
  refine bodyPost_ret (v := .agg #[.string sk, .int .i64 sn, .int .i64 sd, .string sv]) (by simp [results, Try.results76, go_sem]) rfl ⟨rfl, ?_⟩
  exact (below2 _ _ _).drew

set_option maxHeartbeats 4000000 in
theorem orderNext_any (v : Value) (R : List (List It)) (gb cp : Nat) (at_ : List Nat) (i j : Nat) (w : World) (hv : RL w v R) (ha : AT w gb at_) (hn : R.length ≤ 1048576) (hl : at_.length = R.length) (hi : i < R.length) (hj : j < R.length) (hio : opn R at_ i = true) (hjo : opn R at_ j = true) (hs : ∀ i (h : i < R.length), R[i].length ≤ 1048576) :
    Calls Try.prog 85 #[.agg #[v, .slice (some ⟨gb, 0, none⟩) R.length cp], .int .i64 i, .int .i64 j] w fun e w' => e = .returned (.int .i64 (cIt (itAt R at_ i).k (itAt R at_ j).k (itAt R at_ i).n (itAt R at_ j).n)) ∧ Below w.heap.size w w' := by
  have hai : at_[i]'(by omega) < R[i].length := by rw [opn_in R at_ i hi (by omega)] at hio; exact of_decide_eq_true hio
  have haj : at_[j]'(by omega) < R[j].length := by rw [opn_in R at_ j hj (by omega)] at hjo; exact of_decide_eq_true hjo
  rw [itAt_in R at_ i hi (by omega) hai, itAt_in R at_ j hj (by omega) haj]
  obtain ⟨W0, hW0⟩ : ∃ W0, W0 = w.alloc (.cells #[v, .slice (some ⟨gb, 0, none⟩) R.length cp] 90) := ⟨_, rfl⟩
  have hb1 : Below w.heap.size w W0 := by rw [hW0]; exact below_alloc _ _
  have X0 : Box W0 w.heap.size [v, .slice (some ⟨gb, 0, none⟩) R.length cp] := by rw [hW0]; exact Box.new w #[v, .slice (some ⟨gb, 0, none⟩) R.length cp] 90
  have N1 := fun x : WC W0.heap.size W0 => next_it v R gb cp at_ i x.w ((hv.below hb1).below x.ok) ((ha.below hb1).below x.ok) hn hl hi hai (hs i hi)
  have N2 := fun x : WC W0.heap.size W0 => next_it v R gb cp at_ j x.w ((hv.below hb1).below x.ok) ((ha.below hb1).below x.ok) hn hl hj haj (hs j hj)
  have p0 := fun x : WC W0.heap.size W0 => (X0.below x.ok).2.1 0 _ rfl
  have p1 := fun x : WC W0.heap.size W0 => (X0.below x.ok).2.1 1 _ rfl
  have hne : Nonempty (WC W0.heap.size W0) := ⟨⟨_, Below.refl _ _⟩⟩
  have OI := fun w => orderOf_any R[i][at_[i]'(by omega)].k R[i][at_[i]'(by omega)].v R[j][at_[j]'(by omega)].k R[j][at_[j]'(by omega)].v R[i][at_[i]'(by omega)].n R[i][at_[i]'(by omega)].d R[j][at_[j]'(by omega)].n R[j][at_[j]'(by omega)].d w
  obtain ⟨va, vc, rfl, _⟩ := hv
  clear ha hs hio hjo X0
  generalize R[i][at_[i]'(by omega)] = x1 at *
  generalize R[j][at_[j]'(by omega)] = x2 at *
  obtain ⟨x1k, x1n, x1d, x1v⟩ := x1
  obtain ⟨x2k, x2n, x2d, x2v⟩ := x2
  dsimp only at *
  generalize cIt x1k x2k x1n x2n = c at *
  clear hai haj
  go_enter Try.func85, Try.ntmps85
  go_wp2_with fail
  rw [← hW0]; clear hW0
  refine wp_region_calm (B := W0.heap.size) (W := W0) (by kernel_rfl) (by kernel_rfl) (Below.refl _ _) ?_
  repeat (go_big_quiet_step (first | (go_at_call 76; first | (with_reducible exact calm_of_below (Nat.le_refl _) (N1 _)) | (with_reducible exact calm_of_below (Nat.le_refl _) (N2 _))) | (go_at_call 64; with_reducible exact calm_of_below (Nat.le_refl _) (OI _))))
  refine wpQuiet_nil ?_
  intro _ hw'
  obtain ⟨x, hx⟩ := hw'
  subst hx
  have hB1 := below_then hb1 x.ok
  clear p0 p1 hne N1 N2 OI
  generalize x.w = w3 at *
  clear x
  go_wp2
  go_ret
  exact ⟨rfl, hB1⟩

theorem sameItem_any (k v k' v' : ByteArray) (n d n' d' : Int) (w : World) :
    Calls Try.prog 40 #[.agg #[.string k, .int .i64 n, .int .i64 d, .string v], .agg #[.string k', .int .i64 n', .int .i64 d', .string v']] w fun e w' => e = .returned (.bool (sm ⟨k, n, d, v⟩ ⟨k', n', d', v'⟩)) ∧ Below w.heap.size w w' := by
  have K := orderOf_any k v k' v' n d n' d' ((w.alloc (.cells #[.string k, .int .i64 n, .int .i64 d, .string v] 68)).alloc (.cells #[.string k', .int .i64 n', .int .i64 d', .string v'] 68))
  have HS : Hid (sm ⟨k, n, d, v⟩ ⟨k', n', d', v'⟩ = decide (cIt k k' n n' = 0)) := rfl
  generalize sm ⟨k, n, d, v⟩ ⟨k', n', d', v'⟩ = sb at *
  generalize cIt k k' n n' = c at *
  go_enter Try.func40, Try.ntmps40
  go_wp2_with fail
  refine K.mono ?_
  rintro e w1 ⟨rfl, hb⟩
  have hB := below_then (below2 w (.cells #[.string k, .int .i64 n, .int .i64 d, .string v] 68) (.cells #[.string k', .int .i64 n', .int .i64 d', .string v'] 68)) hb
  have hcd : (c == 0) = decide (c = 0) := by rw [Bool.eq_iff_iff]; simp
  clear K hb
  go_wp2
  go_ret
  exact ⟨by rw [HS.out]; first | rfl | (simp [hcd]), hB⟩
end Go.Proofs.Ytcjkdkaahkphfaa
