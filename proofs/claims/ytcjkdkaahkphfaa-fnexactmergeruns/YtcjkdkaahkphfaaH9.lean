/-
  Merging, the specification's side: l8Merge, MergeRuns.
-/
import Derived.Test.YtcjkdkaahkphfaaG9
import Derived.Test.YtcjkdkaahkphfaaV8
namespace Go.Proofs.Ytcjkdkaahkphfaa
open Go.RowKit
set_option linter.unusedVariables false
set_option maxRecDepth 100000

def rdA (w : World) (b n : Nat) : List Nat := (List.range n).map fun i => match w.cell? ⟨b, i, none⟩ with | some (.int _ z) => z.toNat | _ => 0
theorem rdA_eq {w : World} {b : Nat} {at_ : List Nat} (h : AT w b at_) : rdA w b at_.length = at_ := by
  apply List.ext_getElem
  · simp [rdA]
  · intro i h1 h2
    simp [rdA, h.2 i h2]
theorem AT.set {w : World} {b : Nat} {at_ : List Nat} (h : AT w b at_) (i : Nat) (hi : i < at_.length) (x : Nat) : AT (w.setCell ⟨b, i, none⟩ (.int .i64 (x : Int))) b (at_.set i x) := by
  refine ⟨by simpa using h.1, fun j hj => ?_⟩
  rw [List.length_set] at hj
  by_cases hji : j = i
  · subst hji
    rw [World.cell?_setCell_same _ _ _ (h.2 j hi)]; simp
  · rw [World.cell?_setCell_other _ _ _ _ (fun e => hji (congrArg Addr.off e).symm), h.2 j hj, List.getElem_set_ne (fun e => hji e.symm)]
theorem Try.info3 : (Try.prog.info? 3).map (fun i => (i.zero, i.size, i.bytes)) = some (some (.int .i64 0), 1, 8) := by kernel_rfl
theorem madeI (n : Nat) : (madeCells (Value.int .i64 0).cells (n * 1)).toList = (List.replicate n (0 : Int)).map (Value.int .i64) := by
  have h : (Value.int .i64 0).cells = #[.int .i64 0] := rfl
  rw [h]
  apply List.ext_getElem?
  intro i
  by_cases hi : i < n
  · simp [madeCells, hi, Nat.mod_one]
  · simp [madeCells, hi]
theorem AT_of_made {w : World} {base g cap n : Nat} (h : w.ownsRow base 3 1 (.slice (some ⟨g, 0, none⟩) n cap) n ((List.replicate n (0 : Int)).map (Value.int .i64))) : AT w g (List.replicate n 0) := by
  refine ⟨(owns_lt h).2, fun i hi => ?_⟩
  have hi' : i < n := by simpa using hi
  rw [h.cellAt i (by omega)]
  simp [hi']

theorem AT_grown {X Y : World} {row : Option Nat} {b : Nat} {at_ : List Nat} (h : AT X b at_) (hg : X.grownBy Y row) (hr : some b ≠ row) : AT Y b at_ ∧ ∀ i, Y.frozen? ⟨b, i, none⟩ = X.frozen? ⟨b, i, none⟩ := by
  have e := hg.block b h.1 hr
  exact ⟨⟨Nat.lt_of_lt_of_le h.1 hg.size, fun i hi => by rw [← h.2 i hi]; simp [World.cell?, e]⟩, fun i => by simp [World.frozen?, e]⟩
theorem putM_nil (x : It) : putM [] x = [x] := rfl
theorem putM_last (O : List It) (x : It) (m : Nat) (h : m + 1 = O.length) : putM O x = if sm (O[m]'(by omega)) x = true then O else O ++ [x] := by
  unfold putM; rw [last_at O m h]
theorem putM_len (O : List It) (x : It) : (putM O x).length ≤ O.length + 1 := by
  unfold putM
  split
  · simp
  · split <;> simp
set_option maxHeartbeats 8000000 in
theorem l8Merge_any (v : Value) (R : List (List It)) (w : World) (hv : RL w v R) (hn : R.length ≤ 12) (hs : ∀ i (h : i < R.length), R[i].length ≤ 400) (hT : totR R R.length ≤ 400) :
    Calls Try.prog 34 #[v] w fun e w' => ∃ u, e = .returned u ∧ w'.ownsRow w.heap.size 68 4 u (cmpL (mrg R (List.replicate R.length 0))).length (flat4 (cmpL (mrg R (List.replicate R.length 0)))) ∧ Below w.heap.size w w' := by
  have hvv := hv
  obtain ⟨a, cap, rfl, hc⟩ := hv
  obtain ⟨i0, hi, hz0, hzs, hzb⟩ := info_parts Try.info68
  obtain ⟨j0, hj, hy0, hy1, hy2⟩ := info_parts Try.info3
  go_enter Try.func34, Try.ntmps34
  go_wp2_with (at_make; refine wpList_make_full _ rfl _ _ 22 rfl w.heap.size 3 j0 _ 1 Try.underlying22 hj hy0 hy1 .i64 .i64 _ _ R.length rfl rfl rfl rfl (by rw [hy2]; omega) (by unfold maxLen; omega) (Nat.le_refl _) ?_; intro w0 hown0 hgr0)
  rw [madeI] at hown0
  have hb0 : Below w.heap.size w w0 := (Below.refl _ _).grown hgr0 (Nat.le_refl _) (by simp)
  have hA0 := AT_of_made hown0
  have hfz : ∀ i, w0.frozen? ⟨w.heap.size, i, none⟩ = false := fun i => hown0.frozenAt i
  clear hgr0 hj hy0 hy1 hy2 hown0
  have HRZ : Hid (remTo R (List.replicate R.length 0) R.length ≤ 400) := by show _ ≤ _; rw [remTo_zero]; exact hT
  go_loopw [3] (fun u wr => ∃ (O : List It) (at_ : List Nat), at_.length = R.length ∧ AT wr w.heap.size at_ ∧ (∀ i (h : i < at_.length), at_[i] ≤ 400) ∧ (∀ i, wr.frozen? ⟨w.heap.size, i, none⟩ = false) ∧ O.length + remTo R at_ R.length ≤ 400 ∧ (mrg R (List.replicate R.length 0)).foldl putM [] = (mrg R at_).foldl putM O ∧ wr.ownsRow (w.heap.size + 1) 68 4 u O.length (flat4 O) ∧ Below w.heap.size w wr) (fun _ wr => remTo R (rdA wr w.heap.size R.length) R.length)
  case atStart => exact ⟨[], List.replicate R.length 0, by simp, hA0, fun i h => by simp, hfz, by have := HRZ.out; simp; omega, rfl, World.ownsRow_nil _ _ _ _, hb0⟩
  case round =>
    clear hA0 hfz HRZ hb0
    obtain ⟨O, at_, hl, hA, hat, hfz, hrem, hfold, hown, hb⟩ := hrel
    have HF : Hid ((mrg R (List.replicate R.length 0)).foldl putM [] = (mrg R at_).foldl putM O) := hfold
    clear hfold
    have hrl := hvv.below hb
    have KL := l8Least_any _ R w.heap.size R.length at_ wr hrl hA (by omega) hl (fun i h => by have := hs i h; omega) (fun i h => by have := hat i h; omega)
    have HMS : Hid (remTo R (rdA wr w.heap.size R.length) R.length = remTo R at_ R.length) := by show _ = _; rw [← hl, rdA_eq hA, hl]
    obtain ⟨av, cv, rfl, hcv⟩ := IR_of_owns hown rfl
    cases hls : lst R at_ with
    | none =>
      rw [hls] at KL
      have HE : Hid (cmpL (mrg R (List.replicate R.length 0)) = O) := by show _ = _; rw [← cmp_put, HF.out, mrg_none hls]; rfl
      clear HF hc hi hz0 hzs hzb hcv hls HMS
      go_wp2_with fail
      refine KL.mono ?_
      rintro e w1 ⟨rfl, hb1⟩
      have hown1 := owns_below hown hb1
      have hB1 := hb.trans (hb1.mono hb.size)
      clear KL hown hb1
      dsimp only [lsI, lsB, Option.isSome]
      go_wp2
      go_ret
      refine ⟨_, rfl, ?_, hB1⟩
      rw [HE.out]
      exact owns_lower hown1 (by omega)
    | some i =>
      obtain ⟨hiR, hop⟩ := lstTo_some R at_ R.length i hls
      have hia : i < at_.length := by omega
      have hil : at_[i] < R[i].length := by rw [opn_in R at_ i hiR hia] at hop; exact of_decide_eq_true hop
      rw [hls] at KL
      have hadv := rem_adv R at_ i hia hop R.length
      rw [if_pos hiR] at hadv
      have HF2 : Hid ((mrg R (List.replicate R.length 0)).foldl putM [] = (mrg R (adv at_ i)).foldl putM (putM O R[i][at_[i]])) := by
        show _ = _
        rw [HF.out, mrg_some hl hls, List.foldl_cons, itAt_in R at_ i hiR hia hil]
      have hadE : adv at_ i = at_.set i (at_[i] + 1) := by unfold adv; rw [getD_in at_ i 0 hia]
      have hai := hat i hia
      have hsi := hs i hiR
      obtain ⟨b, off, rfl, hbl, hcell⟩ := hc (by intro e; simp [e] at hiR)
      obtain ⟨u, hu, hir⟩ := hcell i hiR
      obtain ⟨ua, uc, rfl, hcu⟩ := hir
      obtain ⟨ib, io, rfl, hibl, hic⟩ := hcu (by intro e; rw [e] at hil; simp at hil)
      clear hc hcell hls hop HF
      go_wp2_with fail
      refine KL.mono ?_
      rintro e w1 ⟨rfl, hb1⟩
      have hown1 := owns_below hown hb1
      have hB1 := hb.trans (hb1.mono hb.size)
      have hA1 := hA.below hb1
      have hfz1 : ∀ i, w1.frozen? ⟨w.heap.size, i, none⟩ = false := fun i => (hb1.frozen (p := ⟨w.heap.size, i, none⟩) hA.1).trans (hfz i)
      have hz1 := hB1.size
      have r0 := (hB1.cell (p := ⟨b, off + i, none⟩) hbl).trans hu
      have a0 := hA1.2 i hia
      have k0 := (hB1.cell (p := ⟨ib, io + at_[i] * 4, none⟩) hibl).trans (hic _ hil).1
      have k1 := (hB1.cell (p := ⟨ib, io + at_[i] * 4 + 1, none⟩) hibl).trans (hic _ hil).2.1
      have k2 := (hB1.cell (p := ⟨ib, io + at_[i] * 4 + 2, none⟩) hibl).trans (hic _ hil).2.2.1
      have k3 := (hB1.cell (p := ⟨ib, io + at_[i] * 4 + 3, none⟩) hibl).trans (hic _ hil).2.2.2
      have hbw : b < w1.heap.size := by omega
      have hibw : ib < w1.heap.size := by omega
      have hgw : w.heap.size < w1.heap.size := hA1.1
      clear KL hb1 hown hb hA hfz hic hcu hu
      generalize hs1 : R[i][at_[i]] = s at *
      obtain ⟨ai, HAI⟩ : ∃ ai : Nat, Hid (at_[i] = ai) := ⟨at_[i], (rfl : at_[i] = at_[i])⟩
      rw [HAI.out] at a0 k0 k1 k2 k3 hil hai hadE
      obtain ⟨ni, HNI⟩ : ∃ ni : Nat, Hid (R[i].length = ni) := ⟨R[i].length, (rfl : R[i].length = R[i].length)⟩
      rw [HNI.out] at r0 hil hsi
      obtain ⟨sk, sn, sd, sv⟩ := s
      dsimp only [lsI, lsB, Option.isSome] at *
      clear hs1
      go_wp2
      go_region
      have hbX : Below w1.heap.size w1 (w1.alloc (.cells #[.string sk, .int .i64 sn, .int .i64 sd, .string sv] 68)).drew := (below_alloc _ _).drew
      have X2 : Box (w1.alloc (.cells #[.string sk, .int .i64 sn, .int .i64 sd, .string sv] 68)).drew w1.heap.size [.string sk, .int .i64 sn, .int .i64 sd, .string sv] := (Box.new w1 #[.string sk, .int .i64 sn, .int .i64 sd, .string sv] 68).below (Below.refl _ _).drew
      generalize (w1.alloc (.cells #[.string sk, .int .i64 sn, .int .i64 sd, .string sv] 68)).drew = w2 at *
      have hown2 := owns_below hown1 hbX
      have hA2 := hA1.below hbX
      have hfz2 : ∀ i, w2.frozen? ⟨w.heap.size, i, none⟩ = false := fun i => (hbX.frozen (p := ⟨w.heap.size, i, none⟩) hgw).trans (hfz1 i)
      have hB2 := hB1.trans (hbX.mono hz1)
      have hz2 := hbX.size
      have hcv2 := IR_of_owns hown2 rfl
      have HP := HF2.out
      have hPL := putM_len O ⟨sk, sn, sd, sv⟩
      have HNA : ∀ (W : World), AT W w.heap.size at_ → AT (W.setCell ⟨w.heap.size, i, none⟩ (.int .i64 ((ai + 1 : Nat) : Int))) w.heap.size (adv at_ i) := fun W h => by rw [hadE]; exact h.set i hia (ai + 1)
      have HBD : ∀ j (h : j < (adv at_ i).length), (adv at_ i)[j] ≤ 400 := fun j h => by
        have h' : j < at_.length := by rw [adv_len] at h; exact h
        simp only [hadE]
        rw [List.getElem_set]
        split
        · omega
        · exact hat j h'
      have HRM : Hid (remTo R (adv at_ i) R.length + 1 = remTo R at_ R.length) := hadv
      have HLA : (adv at_ i).length = R.length := by rw [adv_len]; exact hl
      have hMEA : ∀ W : World, AT W w.heap.size (adv at_ i) → remTo R (rdA W w.heap.size R.length) R.length < remTo R (rdA wr w.heap.size R.length) R.length := fun W h => by
        rw [HMS.out, ← HLA, rdA_eq h, HLA]; have := HRM.out; omega
      clear hown1 hA1 hfz1 hB1 hbX r0 k0 k1 k2 k3 hcv hat hadv HF2 hadE HMS a0
      have x4 := X2.c4
      obtain ⟨hXl, x0, x1, x2, x3⟩ := x4
      have hgw2 := hA2.1
      have a2 : w2.cell? ⟨w.heap.size, i, none⟩ = some (.int .i64 (ai : Int)) := by have := hA2.2 i hia; rwa [HAI.out] at this
      have hcn := cells_new4 w2 ⟨sk, sn, sd, sv⟩
      have hfi := hfz2 i
      have hOl : O.length ≤ 400 := by omega
      have hbase : w.heap.size + 1 ≤ w2.heap.size := by omega
      by_cases hO0 : O = []
      · subst hO0
        rw [putM_nil] at HP
        clear hcv2 hPL
        have HPE : (mrg R (List.replicate R.length 0)).foldl putM [] = (mrg R (adv at_ i)).foldl putM [⟨sk, sn, sd, sv⟩] := HP
        clear HP
        go_wp2_with fail
        go_quiet (fail)
        have hbD : Below w2.heap.size w2 (w2.drewN nq) := below_drewN (Below.refl _ _) _
        have hown3 := owns_below hown2 hbD
        have hA3 := hA2.below hbD
        have hfz3 : ∀ i, (w2.drewN nq).frozen? ⟨w.heap.size, i, none⟩ = false := fun i => (hbD.frozen (p := ⟨w.heap.size, i, none⟩) hgw2).trans (hfz2 i)
        have hB3 := hB2.trans (hbD.mono (by omega))
        have X3 := X2.below hbD
        have hcn3 := cells_new4 (w2.drewN nq) ⟨sk, sn, sd, sv⟩
        have hz3 := hB3.size
        have hzD := hbD.size
        clear hown2 hA2 hfz2 hB2 X2 hcn hbD x0 x1 x2 x3 a2 hfi
        generalize w2.drewN nq = w3 at *
        obtain ⟨_, x0, x1, x2, x3⟩ := X3.c4
        have hgw3 := hA3.1
        have hbase3 : w.heap.size + 1 ≤ w3.heap.size := by omega
        go_wp2_with (at_builtin; refine wpList_append_own _ rfl _ _ 38 rfl (w.heap.size + 1) 68 i0 (.agg #[.string ⟨#[]⟩, .int .i64 0, .int .i64 0, .string ⟨#[]⟩]) 4 48 Try.underlying38 hi hz0 hzs hzb rfl (by decide) _ 0 (flat4 []) rfl (owns_below hown3 (below_alloc _ _)) ⟨w3.heap.size, 0, none⟩ 1 1 (flat4 [⟨sk, sn, sd, sv⟩]) rfl rfl hcn3 (one4 _) (by unfold maxLen; omega) (by omega) (by simp; omega) ?_; intro v' w4 hown4 hgrow4 _; have hnr : some w.heap.size ≠ Value.ownBlock (.slice av 0 cv) := (fun h => by have := owns_ge hown3 w.heap.size h.symm; omega); have hAF := AT_grown (hA3.below (below_alloc w3 (.cells #[.string sk, .int .i64 sn, .int .i64 sd, .string sv] 68))) hgrow4 hnr; have a4 : w4.cell? ⟨w.heap.size, i, none⟩ = some (.int .i64 (ai : Int)) := (by have := hAF.1.2 i hia; rwa [HAI.out] at this); have f4 : w4.frozen? ⟨w.heap.size, i, none⟩ = false := (by rw [hAF.2 i]; exact ((below_alloc w3 (.cells #[.string sk, .int .i64 sn, .int .i64 sd, .string sv] 68)).frozen (p := ⟨w.heap.size, i, none⟩) hgw3).trans (hfz3 i)); have g4 := hAF.1.1)
        go_roundw
        case rel =>
          refine ⟨[⟨sk, sn, sd, sv⟩], adv at_ i, HLA, HNA _ hAF.1, HBD, ?_, ?_, HPE, ?_, ?_⟩
          · intro j
            rw [World.frozen?_setCell, hAF.2 j]
            exact ((below_alloc w3 (.cells #[.string sk, .int .i64 sn, .int .i64 sd, .string sv] 68)).frozen (p := ⟨w.heap.size, j, none⟩) hgw3).trans (hfz3 j)
          · have := HRM.out; simp; omega
          · have hO4 : w4.ownsRow (w.heap.size + 1) 68 4 v' ([⟨sk, sn, sd, sv⟩] : List It).length (flat4 [⟨sk, sn, sd, sv⟩]) := hown4
            exact (Chg.setCell (Chg.refl (fun k => k = w.heap.size) w4) (p := ⟨w.heap.size, i, none⟩) rfl _).owns hO4 (fun b hb hh => by have := owns_ge hO4 b hb; omega)
          · exact (((hB3.alloc hz3 _).grown hgrow4 (by simp; omega) (fun g hg => by have := owns_ge hown3 g hg; omega))).setCell (by simp) _
        case measure => exact hMEA _ (HNA _ hAF.1)
      · obtain ⟨m, hm⟩ : ∃ m, m + 1 = O.length := ⟨O.length - 1, by have := List.length_pos_iff.2 hO0; omega⟩
        rw [putM_last O _ m hm] at HP
        obtain ⟨av', cv', hve, hcO⟩ := hcv2
        simp only [Value.slice.injEq, true_and] at hve
        obtain ⟨rfl, rfl⟩ := hve
        obtain ⟨g', off', rfl, hgl, hce⟩ := hcO hO0
        have hml : m < O.length := by omega
        have y0 := (hce m hml).1
        have y1 := (hce m hml).2.1
        have y2 := (hce m hml).2.2.1
        have y3 := (hce m hml).2.2.2
        have HSM : Hid (sm O[m] ⟨sk, sn, sd, sv⟩ = decide (cIt O[m].k sk O[m].n sn = 0)) := rfl
        have CP := fun w => l4Compare_any O[m].k O[m].v sk sv O[m].n O[m].d sn sd w
        obtain ⟨N, hNL⟩ : ∃ N, N = O.length := ⟨_, rfl⟩
        have n1 : ((N : Int) == 0) = false := by simp; omega
        have n2 : decide ((N : Int) = 0) = false := decide_eq_false (by omega)
        have n3 : (N : Int) - 1 = (m : Int) := by omega
        have n4 : IntKind.i64.wrap ((N : Int) - 1) = (m : Int) := by rw [n3, IntKind.wrap_i64]; omega
        have n5 : IntKind.i64.wrap (m : Int) = (m : Int) := by rw [IntKind.wrap_i64]; omega
        have n6 : m < N := by omega
        have n7 : N ≤ 400 := by omega
        have HN : Hid (N = O.length) := hNL
        rw [← hNL] at hown2 hm hrem ⊢
        have hne : Nonempty (WC w2.heap.size w2) := ⟨⟨_, Below.refl _ _⟩⟩
        have Z0 := fun x : WC w2.heap.size w2 => (x.ok.cell (p := ⟨g', off' + m * 4, none⟩) hgl).trans y0
        have Z1 := fun x : WC w2.heap.size w2 => (x.ok.cell (p := ⟨g', off' + m * 4 + 1, none⟩) hgl).trans y1
        have Z2 := fun x : WC w2.heap.size w2 => (x.ok.cell (p := ⟨g', off' + m * 4 + 2, none⟩) hgl).trans y2
        have Z3 := fun x : WC w2.heap.size w2 => (x.ok.cell (p := ⟨g', off' + m * 4 + 3, none⟩) hgl).trans y3
        have Y0 := fun x : WC w2.heap.size w2 => (x.ok.cell (p := ⟨w1.heap.size, 0, none⟩) hXl).trans x0
        have Y1 := fun x : WC w2.heap.size w2 => (x.ok.cell (p := ⟨w1.heap.size, 1, none⟩) hXl).trans x1
        have Y2 := fun x : WC w2.heap.size w2 => (x.ok.cell (p := ⟨w1.heap.size, 2, none⟩) hXl).trans x2
        have Y3 := fun x : WC w2.heap.size w2 => (x.ok.cell (p := ⟨w1.heap.size, 3, none⟩) hXl).trans x3
        clear hce hcO hO0 hOl hPL y0 y1 y2 y3
        generalize cIt O[m].k sk O[m].n sn = c at *
        generalize sm O[m] ⟨sk, sn, sd, sv⟩ = sb at *
        generalize O[m] = y at *
        obtain ⟨yk, yn, yd, yv⟩ := y
        dsimp only at *
        clear hNL hml hm
        by_cases hcc : c = 0
        · have hsb : sb = true := by rw [HSM.out]; exact decide_eq_true hcc
          rw [hsb, if_pos rfl] at HP
          subst hcc
          clear HSM hsb
          have HPE : Hid ((mrg R (List.replicate R.length 0)).foldl putM [] = (mrg R (adv at_ i)).foldl putM O) := HP
          clear HP
          go_wp2_with fail
          refine wp_region_calm (B := w2.heap.size) (W := w2) (by kernel_rfl) (by kernel_rfl) (Below.refl _ _) ?_
          repeat (go_big_quiet_step (first | (go_at_call 59; with_reducible exact calm_of_below (Nat.le_refl _) (CP _))))
          refine wpQuiet_nil ?_
          intro _ hw'
          obtain ⟨x, hx⟩ := hw'
          subst hx
          have hbD := x.ok
          have hown3 := owns_below hown2 hbD
          have hA3 := hA2.below hbD
          have hfz3 : ∀ i, x.w.frozen? ⟨w.heap.size, i, none⟩ = false := fun i => (hbD.frozen (p := ⟨w.heap.size, i, none⟩) hgw2).trans (hfz2 i)
          have hB3 := hB2.trans (hbD.mono (by omega))
          have X3 := X2.below hbD
          have hcn3 := cells_new4 x.w ⟨sk, sn, sd, sv⟩
          have hz3 := hB3.size
          have hzD := hbD.size
          clear hown2 hA2 hfz2 hB2 X2 hcn hbD x0 x1 x2 x3 a2 hfi Z0 Z1 Z2 Z3 Y0 Y1 Y2 Y3 hne CP
          generalize x.w = w3 at *
          clear x
          obtain ⟨_, x0, x1, x2, x3⟩ := X3.c4
          have hgw3 := hA3.1
          have a3 : w3.cell? ⟨w.heap.size, i, none⟩ = some (.int .i64 (ai : Int)) := by have := hA3.2 i hia; rwa [HAI.out] at this
          have f3 := hfz3 i
          have hbase3 : w.heap.size + 1 ≤ w3.heap.size := by omega
          go_wp2
          go_roundw
          case rel =>
            refine ⟨O, adv at_ i, HLA, HNA _ hA3, HBD, fun j => by rw [World.frozen?_setCell]; exact hfz3 j, by have := HRM.out; rw [← HN.out]; omega, HPE.out, ?_, hB3.setCell (by simp) _⟩
            rw [← HN.out]
            exact (Chg.setCell (Chg.refl (fun k => k = w.heap.size) w3) (p := ⟨w.heap.size, i, none⟩) rfl _).owns hown3 (fun b hb hh => by have := owns_ge hown3 b hb; omega)
          case measure => exact hMEA _ (HNA _ hA3)
        · have hsb : sb = false := by rw [HSM.out]; exact decide_eq_false hcc
          rw [hsb] at HP
          have hc1 : (c == 0) = false := by simpa using hcc
          have hc2 : decide (c = 0) = false := decide_eq_false hcc
          have HPE : (mrg R (List.replicate R.length 0)).foldl putM [] = (mrg R (adv at_ i)).foldl putM (O ++ [⟨sk, sn, sd, sv⟩]) := by rw [HP]; rfl
          clear HP HSM hsb hcc
          go_wp2_with fail
          refine wp_region_calm (B := w2.heap.size) (W := w2) (by kernel_rfl) (by kernel_rfl) (Below.refl _ _) ?_
          repeat (go_big_quiet_step (first | (go_at_call 59; with_reducible exact calm_of_below (Nat.le_refl _) (CP _))))
          refine wpQuiet_nil ?_
          intro _ hw'
          obtain ⟨x, hx⟩ := hw'
          subst hx
          have hbD := x.ok
          have hown3 := owns_below hown2 hbD
          have hA3 := hA2.below hbD
          have hfz3 : ∀ i, x.w.frozen? ⟨w.heap.size, i, none⟩ = false := fun i => (hbD.frozen (p := ⟨w.heap.size, i, none⟩) hgw2).trans (hfz2 i)
          have hB3 := hB2.trans (hbD.mono (by omega))
          have X3 := X2.below hbD
          have hcn3 := cells_new4 x.w ⟨sk, sn, sd, sv⟩
          have hz3 := hB3.size
          have hzD := hbD.size
          clear hown2 hA2 hfz2 hB2 X2 hcn hbD x0 x1 x2 x3 a2 hfi Z0 Z1 Z2 Z3 Y0 Y1 Y2 Y3 hne CP
          generalize x.w = w3 at *
          clear x
          obtain ⟨_, x0, x1, x2, x3⟩ := X3.c4
          have hgw3 := hA3.1
          have a3 : w3.cell? ⟨w.heap.size, i, none⟩ = some (.int .i64 (ai : Int)) := by have := hA3.2 i hia; rwa [HAI.out] at this
          have f3 := hfz3 i
          have hbase3 : w.heap.size + 1 ≤ w3.heap.size := by omega
          have hrem3 : N + remTo R at_ R.length ≤ 400 := hrem
          go_wp2_with (at_builtin; refine wpList_append_own _ rfl _ _ 38 rfl (w.heap.size + 1) 68 i0 (.agg #[.string ⟨#[]⟩, .int .i64 0, .int .i64 0, .string ⟨#[]⟩]) 4 48 Try.underlying38 hi hz0 hzs hzb rfl (by decide) _ N (flat4 O) rfl (owns_below hown3 (below_alloc _ _)) ⟨w3.heap.size, 0, none⟩ 1 1 (flat4 [⟨sk, sn, sd, sv⟩]) rfl rfl hcn3 (one4 _) (by unfold maxLen; omega) (by omega) (by simp; omega) ?_; intro v' w4 hown4 hgrow4 _; have hnr : some w.heap.size ≠ Value.ownBlock (.slice (some ⟨g', off', none⟩) N cv) := (fun h => by have := owns_ge hown3 w.heap.size h.symm; omega); have hAF := AT_grown (hA3.below (below_alloc w3 (.cells #[.string sk, .int .i64 sn, .int .i64 sd, .string sv] 68))) hgrow4 hnr; have a4 : w4.cell? ⟨w.heap.size, i, none⟩ = some (.int .i64 (ai : Int)) := (by have := hAF.1.2 i hia; rwa [HAI.out] at this); have f4 : w4.frozen? ⟨w.heap.size, i, none⟩ = false := (by rw [hAF.2 i]; exact ((below_alloc w3 (.cells #[.string sk, .int .i64 sn, .int .i64 sd, .string sv] 68)).frozen (p := ⟨w.heap.size, i, none⟩) hgw3).trans (hfz3 i)); have g4 := hAF.1.1)
          go_roundw
          case rel =>
            refine ⟨O ++ [⟨sk, sn, sd, sv⟩], adv at_ i, HLA, HNA _ hAF.1, HBD, ?_, ?_, HPE, ?_, ?_⟩
            · intro j
              rw [World.frozen?_setCell, hAF.2 j]
              exact ((below_alloc w3 (.cells #[.string sk, .int .i64 sn, .int .i64 sd, .string sv] 68)).frozen (p := ⟨w.heap.size, j, none⟩) hgw3).trans (hfz3 j)
            · have := HRM.out; rw [List.length_append, ← HN.out]; simp; omega
            · have hO4 : w4.ownsRow (w.heap.size + 1) 68 4 v' (O ++ [(⟨sk, sn, sd, sv⟩ : It)]).length (flat4 (O ++ [(⟨sk, sn, sd, sv⟩ : It)])) := by rw [List.length_append, flat4_append, ← HN.out]; exact hown4
              exact (Chg.setCell (Chg.refl (fun k => k = w.heap.size) w4) (p := ⟨w.heap.size, i, none⟩) rfl _).owns hO4 (fun b hb hh => by have := owns_ge hO4 b hb; omega)
            · exact (((hB3.alloc hz3 _).grown hgrow4 (by simp; omega) (fun g hg => by have := owns_ge hown3 g hg; omega))).setCell (by simp) _
          case measure => exact hMEA _ (HNA _ hAF.1)

theorem mrg_len (R : List (List It)) : ∀ (n : Nat) (at_ : List Nat), at_.length = R.length → remTo R at_ R.length = n → (mrg R at_).length ≤ n
  | 0, at_, hl, hr => by
    cases h : lst R at_ with
    | none => rw [mrg_none h]; simp
    | some i =>
      obtain ⟨hi, ho⟩ := lstTo_some R at_ R.length i h
      have := rem_adv R at_ i (by omega) ho R.length
      rw [if_pos hi] at this
      omega
  | n + 1, at_, hl, hr => by
    cases h : lst R at_ with
    | none => rw [mrg_none h]; simp
    | some i =>
      obtain ⟨hi, ho⟩ := lstTo_some R at_ R.length i h
      have := rem_adv R at_ i (by omega) ho R.length
      rw [if_pos hi] at this
      rw [mrg_some hl h, List.length_cons]
      have := mrg_len R n (adv at_ i) (by rw [adv_len]; exact hl) (by omega)
      omega
theorem mg_true {R : List (List It)} (h : mgB R = true) : R.length ≤ 12 ∧ allM R R.length = true ∧ totR R R.length ≤ 400 := by
  unfold mgB at h
  rw [Bool.and_eq_true, Bool.and_eq_true, decide_eq_true_eq, decide_eq_true_eq] at h
  exact ⟨h.1.1, h.1.2, h.2⟩
theorem allM_at (R : List (List It)) : ∀ n, allM R n = true → ∀ i, i < n → mayM (R.getD i []) = true
  | 0, _, i, hi => by omega
  | n + 1, h, i, hi => by
    unfold allM at h
    rw [Bool.and_eq_true] at h
    rcases Nat.lt_or_ge i n with h1 | h1
    · exact allM_at R n h.1 i h1
    · obtain rfl : i = n := by omega
      exact h.2
theorem mg_len (R : List (List It)) : (mgL R).length ≤ 400 := by
  unfold mgL
  split
  · rename_i h
    have := (mg_true h).2.2
    refine Nat.le_trans (cpTo_len _ _) ?_
    have e : remTo R (List.replicate R.length 0) R.length = totR R R.length := remTo_zero R R.length R.length
    have h2 := mrg_len R _ (List.replicate R.length 0) (by simp) rfl
    omega
  · simp

set_option maxHeartbeats 4000000 in
theorem specMerge_any (v : Value) (R : List (List It)) (w : World) (hv : RL w v R) (hn : R.length ≤ 1048576) (hs : ∀ i (h : i < R.length), R[i].length ≤ 1048576 ∧ ∀ j (hj : j < R[i].length), R[i][j].k.size ≤ 1048576 ∧ R[i][j].v.size ≤ 1048576) :
    Calls Try.prog 11 #[v] w fun e w' => ∃ u, e = .returned (.tuple #[.agg #[u], .bool (mgB R)]) ∧ w'.ownsRow w.heap.size 68 4 u (mgL R).length (flat4 (mgL R)) ∧ Below w.heap.size w w' := by
  have hB0 := below_alloc w (.cells #[.slice none 0 0] 40)
  have b1 := Boxed.new w 40 (.slice none 0 0)
  have hv1 := hv.below hB0
  have K := l8Runs_any v R _ hv1 hn hs
  have KM := fun (h : mgB R = true) w' (hr : RL w' v R) => l8Merge_any v R w' hr (mg_true h).1 (fun i hi => by have := (mayM_good (allM_at R R.length (mg_true h).2.1 i hi)).2; rw [getD_in R i [] hi] at this; exact this) (mg_true h).2.2
  have HV : Hid (mgL R = if mgB R then cmpL (mrg R (List.replicate R.length 0)) else []) := rfl
  generalize cmpL (mrg R (List.replicate R.length 0)) = Z at *
  generalize mgL R = VL at *
  generalize mgB R = VB at *
  obtain ⟨a, cap, rfl, _⟩ := hv
  clear hs
  go_enter Try.func11, Try.ntmps11
  go_wp2_with fail
  refine K.mono ?_
  rintro e w1 ⟨rfl, hb1⟩
  have e1 : Boxed w1 w.heap.size 40 (.slice none 0 0) := (hb1.block _ b1.lt).trans b1
  have hv2 := hv1.below hb1
  have hB1 := below_then hB0 hb1
  have n1 := e1.lt
  have c1 := e1.cell
  have f1 := e1.frozen
  clear K b1 hB0 hb1 hv1
  cases VB with
  | false =>
    obtain rfl : VL = [] := HV.out
    clear HV KM hv2
    go_wp2
    exact bodyPost_ret (v := .tuple #[.agg #[.slice none 0 0], .bool false]) (by simp [results, Try.results11, go_sem, c1]) rfl ⟨_, rfl, World.ownsRow_nil _ _ _ _, hB1.setCell (by simp) _⟩
  | true =>
    obtain rfl : VL = Z := HV.out
    clear HV
    go_wp2_with fail
    refine (KM trivial _ hv2).mono ?_
    rintro e w3 ⟨u, rfl, ho, hb3⟩
    have E1 : Boxed w3 w.heap.size 40 (.slice none 0 0) := (hb3.block _ n1).trans e1
    have hB3 := below_then hB1 hb3
    obtain ⟨av, cv, rfl, _⟩ := IR_of_owns ho rfl
    have c3 := E1.cell
    have f3 := E1.frozen
    have n3 := E1.lt
    have hO : (w3.setCell ⟨w.heap.size, 0, none⟩ (.slice av VL.length cv)).ownsRow w.heap.size 68 4 (.slice av VL.length cv) VL.length (flat4 VL) := by
      refine owns_lower (base := w1.heap.size) ?_ (by omega)
      have c : Chg (fun k => k = w.heap.size) w3 (w3.setCell ⟨w.heap.size, 0, none⟩ (.slice av VL.length cv)) := (Chg.refl (fun k => k = w.heap.size) w3).setCell (p := ⟨w.heap.size, 0, none⟩) rfl _
      exact c.owns ho (fun b hb hh => by have := owns_ge ho b hb; omega)
    have hC : Below w.heap.size w (w3.setCell ⟨w.heap.size, 0, none⟩ (.slice av VL.length cv)) := hB3.setCell (by simp) _
    clear KM ho hb3 c1 f1 e1 hB1 hB3 hv2
    go_wp2
    exact bodyPost_ret (v := .tuple #[.agg #[.slice av VL.length cv], .bool true]) (by simp [results, Try.results11, go_sem, c3]) rfl ⟨_, rfl, hO, hC⟩
end Go.Proofs.Ytcjkdkaahkphfaa
