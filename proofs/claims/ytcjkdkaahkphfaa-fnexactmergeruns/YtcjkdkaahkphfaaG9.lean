/-
  Merging, the specification's side: l8Runs, l8Least.
-/
import Derived.Test.YtcjkdkaahkphfaaR9
import Derived.Test.YtcjkdkaahkphfaaS8
namespace Go.Proofs.Ytcjkdkaahkphfaa
open Go.RowKit
set_option linter.unusedVariables false
set_option maxRecDepth 100000

theorem getD_in {α : Type} (R : List α) (i : Nat) (d : α) (h : i < R.length) : R.getD i d = R[i] := by simp [List.getD_eq_getElem?_getD, h]
theorem allM_no (R : List (List It)) (k : Nat) (hk : mayM (R.getD k []) = false) : ∀ n, k < n → allM R n = false
  | 0, h => by omega
  | n + 1, h => by
    unfold allM
    rcases Nat.lt_or_ge k n with h1 | h1
    · rw [allM_no R k hk n h1]; rfl
    · obtain rfl : k = n := by omega
      rw [hk]; simp
theorem totR_le (R : List (List It)) (h : ∀ i (h : i < R.length), R[i].length ≤ 1048576) : ∀ n, n ≤ R.length → totR R n ≤ n * 1048576
  | 0, _ => by simp [totR]
  | n + 1, hn => by
    have := totR_le R h n (by omega)
    unfold totR
    rw [getD_in R n [] (by omega)]
    have := h n (by omega)
    omega

set_option maxHeartbeats 4000000 in
theorem l8Runs_any (v : Value) (R : List (List It)) (w : World) (hv : RL w v R) (hn : R.length ≤ 1048576) (hs : ∀ i (h : i < R.length), R[i].length ≤ 1048576 ∧ ∀ j (hj : j < R[i].length), R[i][j].k.size ≤ 1048576 ∧ R[i][j].v.size ≤ 1048576) :
    Calls Try.prog 33 #[v] w fun e w' => e = .returned (.bool (mgB R)) ∧ Below w.heap.size w w' := by
  obtain ⟨a, cap, rfl, hc⟩ := hv
  have hT := totR_le R (fun i h => (hs i h).1)
  go_enter Try.func33, Try.ntmps33
  go_wp2
  go_loopw [3, 8] (fun t i wr => ∃ k : Nat, k ≤ R.length ∧ i = .int .i64 k ∧ t = .int .i64 (totR R k) ∧ allM R k = true ∧ Below w.heap.size w wr) (fun _ i _ => R.length - (intOf i).toNat)
  case atStart => exact ⟨0, Nat.zero_le _, rfl, rfl, rfl, Below.refl _ _⟩
  case round =>
    obtain ⟨k, hk, rfl, rfl, hal, hb⟩ := hrel
    have hz := hb.size
    by_cases hlt : k < R.length
    · obtain ⟨b, off, rfl, hbl, hcell⟩ := hc (by intro e; simp [e] at hlt)
      obtain ⟨u, hu, hir⟩ := hcell k hlt
      have hc0 := (hb.cell (p := ⟨b, off + k, none⟩) hbl).trans hu
      have hb1 := below_alloc wr (.cells #[u] 40)
      have KR := l8Run_any u R[k] _ ((hir.below hb).below hb1) (hs k hlt).1 (hs k hlt).2
      have X := Box.new wr #[u] 40
      have HA : Hid (allM R (k + 1) = (allM R k && mayM R[k])) := by show _ = _; rw [allM, getD_in R k [] hlt]
      have HN : Hid (mayM R[k] = false → mgB R = false) := fun h => by
        unfold mgB
        rw [allM_no R k (by rw [getD_in R k [] hlt]; exact h) R.length hlt]; simp
      have HT : Hid (totR R (k + 1) = totR R k + R[k].length) := by show _ = _; rw [totR, getD_in R k [] hlt]
      have hTk := hT k hk
      obtain ⟨ua, uc, rfl, _⟩ := hir
      have hbW : b < wr.heap.size := by omega
      have hsl := (hs k hlt).1
      clear hcell hc hs hu hT
      generalize mayM R[k] = m at *
      generalize totR R k = tt at *
      generalize R[k] = s at *
      go_wp2_with fail
      refine KR.mono ?_
      rintro e w2 ⟨rfl, hb2⟩
      have X2 := X.below hb2
      have x2 := X2.2.1 0 _ rfl
      have hx2 := X2.1
      have hB2 := hb.trans ((below_then hb1 hb2).mono hz)
      clear KR hb1 hb2 X X2 hc0
      cases m with
      | false =>
        have HM := HN.out rfl
        go_wp2
        go_ret
        exact ⟨by rw [HM]; rfl, hB2⟩
      | true =>
        go_wp2
        go_roundw
        case rel => exact ⟨k + 1, by omega, by go_num, by rw [HT.out]; go_num, by rw [HA.out, hal]; rfl, hB2⟩
        case measure => simp [intOf]; omega
    · obtain rfl : k = R.length := by omega
      have HM : Hid (mgB R = (decide ((R.length : Int) ≤ 12) && decide ((totR R R.length : Int) ≤ 400))) := by
        show _ = _
        unfold mgB
        rw [hal, Bool.and_true]
        congr 1
        · rw [Bool.eq_iff_iff, decide_eq_true_eq, decide_eq_true_eq]; omega
        · rw [Bool.eq_iff_iff, decide_eq_true_eq, decide_eq_true_eq]; omega
      have hTk := hT R.length (Nat.le_refl _)
      clear hc hs hT hal
      generalize totR R R.length = tt at *
      by_cases h1 : (R.length : Int) ≤ 12
      · have HM2 : Hid (mgB R = decide ((tt : Int) ≤ 400)) := by show _ = _; rw [HM.out, decide_eq_true h1]; rfl
        go_wp2
        go_ret
        exact ⟨by rw [HM2.out]; rfl, hb⟩
      · have HM2 : Hid (mgB R = false) := by show _ = _; rw [HM.out, decide_eq_false h1]; rfl
        have h1d := decide_eq_false h1
        go_wp2
        go_ret
        exact ⟨by rw [HM2.out]; rfl, hb⟩

/-- How many items of each run are read: a slice of numbers at the head of block b. -/
def AT (w : World) (b : Nat) (at_ : List Nat) : Prop := b < w.heap.size ∧ ∀ i (h : i < at_.length), w.cell? ⟨b, i, none⟩ = some (.int .i64 (at_[i] : Int))
theorem AT.below {w w' : World} {b : Nat} {at_ : List Nat} (h : AT w b at_) (hb : Below w.heap.size w w') : AT w' b at_ :=
  ⟨Nat.lt_of_lt_of_le h.1 hb.size, fun i hi => (hb.cell (p := ⟨b, i, none⟩) h.1).trans (h.2 i hi)⟩
theorem itAt_in (R : List (List It)) (at_ : List Nat) (i : Nat) (h1 : i < R.length) (h2 : i < at_.length) (h3 : at_[i] < R[i].length) : itAt R at_ i = R[i][at_[i]] := by
  unfold itAt; rw [getD_in R i [] h1, getD_in at_ i 0 h2, getD_in _ _ _ h3]
theorem opn_in (R : List (List It)) (at_ : List Nat) (i : Nat) (h1 : i < R.length) (h2 : i < at_.length) : opn R at_ i = decide (at_[i] < R[i].length) := by
  unfold opn; rw [getD_in R i [] h1, getD_in at_ i 0 h2]
def lsI (o : Option Nat) : Int := match o with | none => 0 | some i => (i : Int)
def lsB (o : Option Nat) : Bool := o.isSome
def lsV (o : Option Nat) : Int := match o with | none => -1 | some i => (i : Int)

set_option maxHeartbeats 8000000 in
theorem l8Least_any (v : Value) (R : List (List It)) (gb cp : Nat) (at_ : List Nat) (w : World) (hv : RL w v R) (ha : AT w gb at_) (hn : R.length ≤ 1048576) (hl : at_.length = R.length) (hs : ∀ i (h : i < R.length), R[i].length ≤ 1048576) (hat : ∀ i (h : i < at_.length), at_[i] ≤ 1048576) :
    Calls Try.prog 58 #[v, .slice (some ⟨gb, 0, none⟩) R.length cp] w fun e w' => e = .returned (.tuple #[.int .i64 (lsI (lst R at_)), .bool (lsB (lst R at_))]) ∧ Below w.heap.size w w' := by
  obtain ⟨a, cap, rfl, hc⟩ := hv
  go_enter Try.func58, Try.ntmps58
  go_wp2
  go_loopw [6, 11] (fun t i wr => ∃ k : Nat, k ≤ R.length ∧ i = .int .i64 k ∧ t = .int .i64 (lsV (lstTo R at_ k)) ∧ Below w.heap.size w wr) (fun _ i _ => R.length - (intOf i).toNat)
  case atStart => exact ⟨0, Nat.zero_le _, rfl, rfl, Below.refl _ _⟩
  case round =>
    obtain ⟨k, hk, rfl, rfl, hb⟩ := hrel
    have hz := hb.size
    by_cases hlt : k < R.length
    · obtain ⟨b, off, rfl, hbl, hcell⟩ := hc (by intro e; simp [e] at hlt)
      obtain ⟨u, hu, hir⟩ := hcell k hlt
      have hc0 := (hb.cell (p := ⟨b, off + k, none⟩) hbl).trans hu
      have hgw : gb < wr.heap.size := Nat.lt_of_lt_of_le ha.1 hz
      have hak := (hb.cell (p := ⟨gb, k, none⟩) ha.1).trans (ha.2 k (by omega))
      have hbW : b < wr.heap.size := by omega
      have hOP := opn_in R at_ k hlt (by omega)
      have HST : Hid (lstTo R at_ (k + 1) = if opn R at_ k = true then (match lstTo R at_ k with | none => some k | some b => some (stpM R at_ b k)) else lstTo R at_ k) := rfl
      obtain ⟨ua, uc, rfl, hcu⟩ := hir
      obtain ⟨W0, hW0⟩ : ∃ W0, W0 = wr.alloc (.cells #[.slice ua R[k].length uc] 40) := ⟨_, rfl⟩
      have X0 : Box W0 wr.heap.size [.slice ua R[k].length uc] := by rw [hW0]; exact Box.new wr #[.slice ua R[k].length uc] 40
      have hb1 : Below wr.heap.size wr W0 := by rw [hW0]; exact below_alloc _ _
      have hB0 : Below w.heap.size w W0 := hb.trans (hb1.mono hz)
      have hz1 := hb1.size
      have hne : Nonempty (WC W0.heap.size W0) := ⟨⟨_, Below.refl _ _⟩⟩
      have p0 := fun x : WC W0.heap.size W0 => (X0.below x.ok).2.1 0 _ rfl
      have gW : gb < W0.heap.size := by omega
      have a1 := (hb1.cell (p := ⟨gb, k, none⟩) hgw).trans hak
      have p1 := fun x : WC W0.heap.size W0 => (x.ok.cell (p := ⟨gb, k, none⟩) gW).trans a1
      have hax := hat k (by omega)
      have hsx := hs k hlt
      cases hop : opn R at_ k with
      | false =>
        have HS2 : Hid (lstTo R at_ (k + 1) = lstTo R at_ k) := by show _ = _; rw [HST.out, hop]; rfl
        have hnl : ¬ at_[k]'(by omega) < R[k].length := by rw [hop] at hOP; exact of_decide_eq_false hOP.symm
        have hnd : decide (((at_[k]'(by omega) : Nat) : Int) < (R[k].length : Int)) = false := decide_eq_false (by omega)
        clear hcell hc hs hcu HST hOP hop ha hat hu X0 a1 hak
        generalize (at_[k]'(by omega)) = ak at *
        generalize R[k] = s at *
        obtain ⟨lv, HLV⟩ : ∃ lv, Hid (lsV (lstTo R at_ k) = lv) := ⟨_, rfl⟩
        rw [HLV.out]
        go_wp2_with fail
        rw [← hW0]; clear hW0 hc0
        refine wp_region_calm (B := W0.heap.size) (W := W0) (by kernel_rfl) (by kernel_rfl) (Below.refl _ _) ?_
        repeat (go_big_quiet_step (fail))
        refine wpQuiet_nil ?_
        intro _ hw'
        obtain ⟨x, hx⟩ := hw'
        subst hx
        have hB1 := hB0.trans (x.ok.mono (by omega))
        clear p0 p1 hne hB0
        generalize x.w = w3 at *
        clear x
        go_wp2
        go_roundw
        case rel => exact ⟨k + 1, by omega, by go_num, by rw [HS2.out, HLV.out], hB1⟩
        case measure => simp [intOf]; omega
      | true =>
        have hil : at_[k]'(by omega) < R[k].length := by rw [hop] at hOP; exact of_decide_eq_true hOP.symm
        have hid : decide (((at_[k]'(by omega) : Nat) : Int) < (R[k].length : Int)) = true := decide_eq_true (by omega)
        cases hls : lstTo R at_ k with
        | none =>
          have HS2 : Hid (lstTo R at_ (k + 1) = some k) := by show _ = _; rw [HST.out, hop, hls]; rfl
          clear hcell hc hs hcu HST hOP hop ha hat hu X0 a1 hak hls
          show Code.wp _ _ _ _ _
          generalize (at_[k]'(by omega)) = ak at *
          generalize R[k] = s at *
          dsimp only [lsV]
          go_wp2_with fail
          rw [← hW0]; clear hW0 hc0
          refine wp_region_calm (B := W0.heap.size) (W := W0) (by kernel_rfl) (by kernel_rfl) (Below.refl _ _) ?_
          repeat (go_big_quiet_step (fail))
          refine wpQuiet_nil ?_
          intro _ hw'
          obtain ⟨x, hx⟩ := hw'
          subst hx
          have hB1 := hB0.trans (x.ok.mono (by omega))
          clear p0 p1 hne hB0
          generalize x.w = w3 at *
          clear x
          go_wp2
          go_roundw
          case rel => exact ⟨k + 1, by omega, by go_num, by rw [HS2.out], hB1⟩
          case measure => simp [intOf]; omega
        | some bs =>
          obtain ⟨hbk, hbo⟩ := lstTo_some R at_ k bs hls
          have hbR : bs < R.length := by omega
          have hbl2 : at_[bs]'(by omega) < R[bs].length := by rw [opn_in R at_ bs hbR (by omega)] at hbo; exact of_decide_eq_true hbo
          have HS2 : Hid (lstTo R at_ (k + 1) = some (stpM R at_ bs k)) := by show _ = _; rw [HST.out, hop, hls]; rfl
          have HSM : Hid (stpM R at_ bs k = if decide (cIt R[k][at_[k]'(by omega)].k R[bs][at_[bs]'(by omega)].k R[k][at_[k]'(by omega)].n R[bs][at_[bs]'(by omega)].n < 0) = true then k else bs) := by
            show _ = _
            unfold stpM ltI
            rw [itAt_in R at_ k hlt (by omega) hil, itAt_in R at_ bs hbR (by omega) hbl2]
          obtain ⟨ub, hub, hirb⟩ := hcell bs hbR
          obtain ⟨ib, io, rfl, hil2, hic⟩ := hcu (by intro e; rw [e] at hil; simp at hil)
          obtain ⟨uba, ubc, rfl, hcb⟩ := hirb
          obtain ⟨jb, jo, rfl, hjl, hjc⟩ := hcb (by intro e; rw [e] at hbl2; simp at hbl2)
          have hib : ib < W0.heap.size := by have := hB0.size; omega
          have hjb : jb < W0.heap.size := by have := hB0.size; omega
          have hbW0 : b < W0.heap.size := by omega
          have i0 := (hB0.cell (p := ⟨ib, io + at_[k]'(by omega) * 4, none⟩) hil2).trans (hic _ hil).1
          have i1 := (hB0.cell (p := ⟨ib, io + at_[k]'(by omega) * 4 + 1, none⟩) hil2).trans (hic _ hil).2.1
          have i2 := (hB0.cell (p := ⟨ib, io + at_[k]'(by omega) * 4 + 2, none⟩) hil2).trans (hic _ hil).2.2.1
          have i3 := (hB0.cell (p := ⟨ib, io + at_[k]'(by omega) * 4 + 3, none⟩) hil2).trans (hic _ hil).2.2.2
          have j0 := (hB0.cell (p := ⟨jb, jo + at_[bs]'(by omega) * 4, none⟩) hjl).trans (hjc _ hbl2).1
          have j1 := (hB0.cell (p := ⟨jb, jo + at_[bs]'(by omega) * 4 + 1, none⟩) hjl).trans (hjc _ hbl2).2.1
          have j2 := (hB0.cell (p := ⟨jb, jo + at_[bs]'(by omega) * 4 + 2, none⟩) hjl).trans (hjc _ hbl2).2.2.1
          have j3 := (hB0.cell (p := ⟨jb, jo + at_[bs]'(by omega) * 4 + 3, none⟩) hjl).trans (hjc _ hbl2).2.2.2
          have r0 := (hB0.cell (p := ⟨b, off + bs, none⟩) hbl).trans hub
          have s0 := (hB0.cell (p := ⟨gb, bs, none⟩) ha.1).trans (ha.2 bs (by omega))
          have P0 := fun x : WC W0.heap.size W0 => (x.ok.cell (p := ⟨ib, io + at_[k]'(by omega) * 4, none⟩) hib).trans i0
          have P1 := fun x : WC W0.heap.size W0 => (x.ok.cell (p := ⟨ib, io + at_[k]'(by omega) * 4 + 1, none⟩) hib).trans i1
          have P2 := fun x : WC W0.heap.size W0 => (x.ok.cell (p := ⟨ib, io + at_[k]'(by omega) * 4 + 2, none⟩) hib).trans i2
          have P3 := fun x : WC W0.heap.size W0 => (x.ok.cell (p := ⟨ib, io + at_[k]'(by omega) * 4 + 3, none⟩) hib).trans i3
          have Q0 := fun x : WC W0.heap.size W0 => (x.ok.cell (p := ⟨jb, jo + at_[bs]'(by omega) * 4, none⟩) hjb).trans j0
          have Q1 := fun x : WC W0.heap.size W0 => (x.ok.cell (p := ⟨jb, jo + at_[bs]'(by omega) * 4 + 1, none⟩) hjb).trans j1
          have Q2 := fun x : WC W0.heap.size W0 => (x.ok.cell (p := ⟨jb, jo + at_[bs]'(by omega) * 4 + 2, none⟩) hjb).trans j2
          have Q3 := fun x : WC W0.heap.size W0 => (x.ok.cell (p := ⟨jb, jo + at_[bs]'(by omega) * 4 + 3, none⟩) hjb).trans j3
          have R0 := fun x : WC W0.heap.size W0 => (x.ok.cell (p := ⟨b, off + bs, none⟩) hbW0).trans r0
          have S0 := fun x : WC W0.heap.size W0 => (x.ok.cell (p := ⟨gb, bs, none⟩) gW).trans s0
          have CP := fun w => l4Compare_any R[k][at_[k]'(by omega)].k R[k][at_[k]'(by omega)].v R[bs][at_[bs]'(by omega)].k R[bs][at_[bs]'(by omega)].v R[k][at_[k]'(by omega)].n R[k][at_[k]'(by omega)].d R[bs][at_[bs]'(by omega)].n R[bs][at_[bs]'(by omega)].d w
          have hbs0 : decide ((bs : Int) < 0) = false := decide_eq_false (by omega)
          have hbn : bs < R.length := hbR
          have hbx := hat bs (by omega)
          have hsb := hs bs hbR
          clear hcell hc hs hcu HST hOP hop ha hat hu X0 a1 hak hls hic hjc hcb hub i0 i1 i2 i3 j0 j1 j2 j3 r0 s0 hbo
          generalize hck : cIt R[k][at_[k]'(by omega)].k R[bs][at_[bs]'(by omega)].k R[k][at_[k]'(by omega)].n R[bs][at_[bs]'(by omega)].n = c at *
          clear hck
          generalize R[k][at_[k]'(by omega)] = x1 at *
          generalize R[bs][at_[bs]'(by omega)] = x2 at *
          generalize (at_[k]'(by omega)) = ak at *
          generalize (at_[bs]'(by omega)) = ab at *
          generalize R[k].length = n1 at *
          generalize R[bs].length = n2 at *
          obtain ⟨x1k, x1n, x1d, x1v⟩ := x1
          obtain ⟨x2k, x2n, x2d, x2v⟩ := x2
          dsimp only [lsV] at *
          by_cases hcc : c < 0
          · have HS3 : Hid (lstTo R at_ (k + 1) = some k) := by show _ = _; rw [HS2.out, HSM.out, decide_eq_true hcc]; rfl
            clear HS2 HSM
            go_wp2_with fail
            rw [← hW0]; clear hW0 hc0
            refine wp_region_calm (B := W0.heap.size) (W := W0) (by kernel_rfl) (by kernel_rfl) (Below.refl _ _) ?_
            repeat (go_big_quiet_step (first | (go_at_call 59; with_reducible exact calm_of_below (Nat.le_refl _) (CP _))))
            refine wpQuiet_nil ?_
            intro _ hw'
            obtain ⟨x, hx⟩ := hw'
            subst hx
            have hB1 := hB0.trans (x.ok.mono (by omega))
            clear p0 p1 hne hB0 P0 P1 P2 P3 Q0 Q1 Q2 Q3 R0 S0 CP
            generalize x.w = w3 at *
            clear x
            go_wp2
            go_roundw
            case rel => exact ⟨k + 1, by omega, by go_num, by rw [HS3.out], hB1⟩
            case measure => simp [intOf]; omega
          · have HS3 : Hid (lstTo R at_ (k + 1) = some bs) := by show _ = _; rw [HS2.out, HSM.out, decide_eq_false hcc]; rfl
            have hcd := decide_eq_false hcc
            clear HS2 HSM
            go_wp2_with fail
            rw [← hW0]; clear hW0 hc0
            refine wp_region_calm (B := W0.heap.size) (W := W0) (by kernel_rfl) (by kernel_rfl) (Below.refl _ _) ?_
            repeat (go_big_quiet_step (first | (go_at_call 59; with_reducible exact calm_of_below (Nat.le_refl _) (CP _))))
            refine wpQuiet_nil ?_
            intro _ hw'
            obtain ⟨x, hx⟩ := hw'
            subst hx
            have hB1 := hB0.trans (x.ok.mono (by omega))
            clear p0 p1 hne hB0 P0 P1 P2 P3 Q0 Q1 Q2 Q3 R0 S0 CP
            generalize x.w = w3 at *
            clear x
            go_wp2
            go_roundw
            case rel => exact ⟨k + 1, by omega, by go_num, by rw [HS3.out], hB1⟩
            case measure => simp [intOf]; omega
    · obtain rfl : k = R.length := by omega
      have HL : Hid (lst R at_ = lstTo R at_ R.length) := rfl
      have HS := fun i h => lstTo_some R at_ R.length i h
      clear hc hs ha hat
      cases hls : lstTo R at_ R.length with
      | none =>
        rw [hls] at HL
        dsimp only [lsV]
        go_wp2
        exact bodyPost_ret (v := .tuple #[.int .i64 0, .bool false]) (by simp [results, Try.results58, go_sem]) rfl ⟨by rw [HL.out]; rfl, hb⟩
      | some i =>
        rw [hls] at HL
        have hir := (HS i hls).1
        have hi0 : decide ((i : Int) < 0) = false := decide_eq_false (by omega)
        clear HS hls
        dsimp only [lsV]
        go_wp2
        exact bodyPost_ret (v := .tuple #[.int .i64 (i : Int), .bool true]) (by simp [results, Try.results58, go_sem]) rfl ⟨by rw [HL.out]; rfl, hb⟩
end Go.Proofs.Ytcjkdkaahkphfaa
