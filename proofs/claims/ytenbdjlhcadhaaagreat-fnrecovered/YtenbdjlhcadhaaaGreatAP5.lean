/-
  l9Apply: the specification's way to apply an edit.
-/
import Derived.Test.YtenbdjlhcadhaaaGreatAP4ToJ
import Derived.BigQuiet
namespace Go.Proofs.YtenbdjlhcadhaaaGreat
open Go.RowKit Go.Maps
set_option linter.unusedVariables false
set_option maxRecDepth 100000

/-- Where the walk is to stand. -/
def StopP (p : Prop) : Prop := p
theorem StopP.go {p : Prop} (h : StopP p) : p := h
theorem any_take_succI (f : Int → Bool) (l : List Int) (k : Nat) (h : k < l.length) : (l.take (k + 1)).any f = ((l.take k).any f || f l[k]) := by
  rw [List.take_succ_eq_append_getElem h, List.any_append]; simp
theorem kp_gone (l : List Mt) (dr : List Int) (k : Nat) (h : k < l.length) (hg : goneM dr l[k] = true) : kpL l dr (k + 1) = kpL l dr k ∧ gnC l dr (k + 1) = gnC l dr k + 1 := by
  refine ⟨by rw [kpL_step l dr k h, hg]; simp, ?_⟩
  simp only [gnC]
  rw [getD_at l k h, hg]; rfl
theorem kp_kept (l : List Mt) (dr : List Int) (k : Nat) (h : k < l.length) (hg : goneM dr l[k] = false) : kpL l dr (k + 1) = kpL l dr k ++ [l[k]] ∧ gnC l dr (k + 1) = gnC l dr k := by
  refine ⟨by rw [kpL_step l dr k h, hg]; simp, ?_⟩
  simp only [gnC]
  rw [getD_at l k h, hg]; simp
theorem ins_succ (K ad : List Mt) (k : Nat) (h : k < ad.length) : insTo K ad (k + 1) = insM (insTo K ad k) ad[k] := by
  simp only [insTo]
  rw [getD_at ad k h]

set_option maxHeartbeats 8000000 in
theorem l9Apply_any (nx sq nx2 sq2 : Int) (va vq vb : Value) (l : List Mt) (dr : List Int) (ad : List Mt) (w : World) (HA : IX w va l) (hvq : IL w vq dr) (hvb : IR w vb ad) (hna : l.length ≤ 1048576) (hnd : dr.length ≤ 1048576) (hnb : ad.length ≤ 1048576) (hsa : ∀ i (h : i < l.length), l[i].k.size ≤ 1048576 ∧ l[i].v.size ≤ 1048576) (hsb : ∀ i (h : i < ad.length), ad[i].k.size ≤ 1048576 ∧ ad[i].v.size ≤ 1048576) (hgv : goodV nx sq l = true) :
    Calls Tryz.prog 39 #[.agg #[.int .i64 nx, .int .i64 sq, va], .agg #[.int .i64 nx2, .int .i64 sq2, vq, vb]] w fun e w' => ∃ u, e = .returned (.tuple #[.agg #[.int .i64 (apX nx sq l nx2 sq2 dr ad), .int .i64 (apY nx sq l nx2 sq2 dr ad), u], .bool (apB nx sq l nx2 sq2 dr ad)]) ∧ w'.ownsRow w.heap.size 71 4 u (apA nx sq l nx2 sq2 dr ad).length (flat4 (apA nx sq l nx2 sq2 dr ad)) ∧ Below w.heap.size w w' := by
  obtain ⟨W0, hW0⟩ : ∃ W0, W0 = ((w.alloc (.cells #[.int .i64 nx, .int .i64 sq, va] 35)).alloc (.cells #[.int .i64 nx2, .int .i64 sq2, vq, vb] 26)).alloc (.cells #[.int .i64 0, .int .i64 0, .slice none 0 0] 35) := ⟨_, rfl⟩
  have hB : Below w.heap.size w W0 := by rw [hW0]; exact below3 _ _ _ _
  have X : Box W0 w.heap.size [.int .i64 nx, .int .i64 sq, va] := by rw [hW0]; exact ((Box.new w #[.int .i64 nx, .int .i64 sq, va] 35).alloc _).alloc _
  have Y : Box W0 (w.heap.size + 1) [.int .i64 nx2, .int .i64 sq2, vq, vb] := by
    rw [hW0]
    have := (Box.new (w.alloc (.cells #[.int .i64 nx, .int .i64 sq, va] 35)) #[.int .i64 nx2, .int .i64 sq2, vq, vb] 26).alloc (.cells #[.int .i64 0, .int .i64 0, .slice none 0 0] 35)
    simpa using this
  have R : Box W0 (w.heap.size + 1 + 1) [.int .i64 0, .int .i64 0, .slice none 0 0] := by
    rw [hW0]
    have := Box.new ((w.alloc (.cells #[.int .i64 nx, .int .i64 sq, va] 35)).alloc (.cells #[.int .i64 nx2, .int .i64 sq2, vq, vb] 26)) #[.int .i64 0, .int .i64 0, .slice none 0 0] 35
    simpa using this
  have KB := l9Edit_any nx2 sq2 vq vb dr ad W0 (hvq.below hB) (hvb.below hB) hnd hnb hsb
  have HZS : Hid (∀ i (h : i < (insTo (kpL l dr l.length) ad ad.length).length), (insTo (kpL l dr l.length) ad ad.length)[i].k.size ≤ 1048576 ∧ (insTo (kpL l dr l.length) ad ad.length)[i].v.size ≤ 1048576) := ap_sizes dr hsa hsb
  have hms := goodV_ms hgv
  have h30a := goodV_len hgv
  have HP : Hid (apB nx sq l nx2 sq2 dr ad = (goodE nx2 sq2 dr ad && decide (nx ≤ nx2) && decide (sq ≤ sq2) && decide (gnC l dr l.length = dr.length) && goodV nx2 sq2 (insTo (kpL l dr l.length) ad ad.length)) ∧ apX nx sq l nx2 sq2 dr ad = (if apB nx sq l nx2 sq2 dr ad then nx2 else 0) ∧ apY nx sq l nx2 sq2 dr ad = (if apB nx sq l nx2 sq2 dr ad then sq2 else 0) ∧ apA nx sq l nx2 sq2 dr ad = (if apB nx sq l nx2 sq2 dr ad then insTo (kpL l dr l.length) ad ad.length else [])) := by
    refine ⟨?_, rfl, rfl, rfl⟩
    have e : decide (gnC l dr l.length = dr.length) = thTo l dr dr.length := by rw [Bool.eq_iff_iff, decide_eq_true_eq]; exact gnC_iff (ms_apart hms) dr
    unfold apB
    rw [hgv, e, Bool.true_and]; rfl
  have HGB : Hid (goodE nx2 sq2 dr ad = true → (1 ≤ nx2 ∧ nx2 ≤ 100001) ∧ (0 ≤ sq2 ∧ sq2 ≤ 1000000000) ∧ (dr.length ≤ 30 ∧ goodDr dr = true) ∧ (ad.length ≤ 30 ∧ goodMs ad = true)) := goodE_parts
  generalize apB nx sq l nx2 sq2 dr ad = BB at *
  generalize apX nx sq l nx2 sq2 dr ad = RX at *
  generalize apY nx sq l nx2 sq2 dr ad = RY at *
  generalize apA nx sq l nx2 sq2 dr ad = RA at *
  generalize goodE nx2 sq2 dr ad = g2 at *
  have hva := HA.1
  obtain ⟨a, ca, hve, _⟩ := id hva
  obtain ⟨a2, cq, hve2, _⟩ := id hvq
  obtain ⟨a3, cb, hve3, _⟩ := id hvb
  subst hve hve2 hve3
  clear hsa hsb HA hgv hms
  obtain ⟨hp, p0, p1, p2, p3, _⟩ := Y.e4
  go_enter Tryz.func39, Tryz.ntmps39
  go_wp2_with fail
  rw [← hW0]; clear hW0
  refine KB.mono ?_
  rintro e w2 ⟨rfl, hb1⟩
  replace hB := below_then hB hb1
  replace X := X.below hb1
  replace Y := Y.below hb1
  replace R := R.below hb1
  clear hb1 KB hp p0 p1 p2 p3
  cases g2
  · obtain rfl : BB = false := by rw [HP.out.1]; simp
    obtain ⟨rfl, rfl, rfl⟩ : RX = 0 ∧ RY = 0 ∧ RA = [] := ⟨HP.out.2.1, HP.out.2.2.1, HP.out.2.2.2⟩
    obtain ⟨hr, r0, r1, r2, f0, f1, f2⟩ := R.c3
    have hBE := hB.trans ((put3_chg _ (w.heap.size + 1 + 1) (.int .i64 0) (.int .i64 0) (.slice none 0 0)).below (B := w.heap.size) hB.size (fun k hk => by omega))
    clear HP HGB HZS
    go_wp2
    exact bodyPost_ret (v := .tuple #[.agg #[.int .i64 0, .int .i64 0, .slice none 0 0], .bool false]) (by simp [results, Tryz.results39, go_sem, r0, r1, r2]) rfl ⟨_, rfl, World.ownsRow_nil _ _ _ _, hBE⟩
  obtain ⟨hp, p0, p1, p2, _⟩ := X.c3
  obtain ⟨hq, q0, q1, q2, q3, _⟩ := Y.e4
  by_cases h1 : nx ≤ nx2
  rotate_left
  · obtain rfl : BB = false := by rw [HP.out.1]; simp [h1]
    obtain ⟨rfl, rfl, rfl⟩ : RX = 0 ∧ RY = 0 ∧ RA = [] := ⟨HP.out.2.1, HP.out.2.2.1, HP.out.2.2.2⟩
    obtain ⟨hr, r0, r1, r2, f0, f1, f2⟩ := R.c3
    have hBE := hB.trans ((put3_chg _ (w.heap.size + 1 + 1) (.int .i64 0) (.int .i64 0) (.slice none 0 0)).below (B := w.heap.size) hB.size (fun k hk => by omega))
    clear HP HGB HZS
    go_wp2
    exact bodyPost_ret (v := .tuple #[.agg #[.int .i64 0, .int .i64 0, .slice none 0 0], .bool false]) (by simp [results, Tryz.results39, go_sem, r0, r1, r2]) rfl ⟨_, rfl, World.ownsRow_nil _ _ _ _, hBE⟩
  by_cases h2 : sq ≤ sq2
  rotate_left
  · obtain rfl : BB = false := by rw [HP.out.1]; simp [h2]
    obtain ⟨rfl, rfl, rfl⟩ : RX = 0 ∧ RY = 0 ∧ RA = [] := ⟨HP.out.2.1, HP.out.2.2.1, HP.out.2.2.2⟩
    obtain ⟨hr, r0, r1, r2, f0, f1, f2⟩ := R.c3
    have hBE := hB.trans ((put3_chg _ (w.heap.size + 1 + 1) (.int .i64 0) (.int .i64 0) (.slice none 0 0)).below (B := w.heap.size) hB.size (fun k hk => by omega))
    clear HP HGB HZS
    go_wp2
    exact bodyPost_ret (v := .tuple #[.agg #[.int .i64 0, .int .i64 0, .slice none 0 0], .bool false]) (by simp [results, Tryz.results39, go_sem, r0, r1, r2]) rfl ⟨_, rfl, World.ownsRow_nil _ _ _ _, hBE⟩
  obtain ⟨i0, hi, hz0, hzs, hzb⟩ := info_parts Tryz.info71
  obtain ⟨_, _, ⟨h30d, gD⟩, h30b, gB⟩ := HGB.out (by trivial)
  clear HGB gD gB
  obtain ⟨a', ca', hve, hc⟩ := hva.below hB
  simp only [Value.slice.injEq, true_and] at hve
  obtain ⟨rfl, rfl⟩ := hve
  obtain ⟨a2', cq', hve, hcq⟩ := hvq.below hB
  simp only [Value.slice.injEq, true_and] at hve
  obtain ⟨rfl, rfl⟩ := hve
  obtain ⟨a3', cb', hve, hcb⟩ := hvb.below hB
  simp only [Value.slice.injEq, true_and] at hve
  obtain ⟨rfl, rfl⟩ := hve
  clear hva hvq hvb
  go_wp2
  clear hp p0 p1 p2 hq q0 q1 q2 q3 X
  go_loopw [6, 7, 39] (fun s6 s7 i wr => ∃ (k : Nat), k ≤ l.length ∧ i = .int .i64 k ∧ s7 = .int .i64 (gnC l dr k : Nat) ∧ wr.ownsRow w2.heap.size 71 4 s6 (kpL l dr k).length (flat4 (kpL l dr k)) ∧ Below w2.heap.size w2 wr) (fun _ _ i _ => l.length - (intOf i).toNat)
  case atStart => exact ⟨0, Nat.zero_le _, rfl, rfl, World.ownsRow_nil _ _ _ _, Below.refl _ _⟩
  case round =>
    obtain ⟨k, hk, rfl, rfl, hown, hbr⟩ := hrel
    have hzr := hbr.size
    obtain ⟨yl, y0, y1, y2, y3, _⟩ := (Y.below hbr).e4
    by_cases hlt : k < l.length
    · obtain ⟨b, off, rfl, hbl, hcell⟩ := hc (by intro e; simp [e] at hlt)
      have hc0 := (hbr.cell (p := ⟨b, off + k * 4, none⟩) hbl).trans (hcell k hlt).1
      have hc1 := (hbr.cell (p := ⟨b, off + k * 4 + 1, none⟩) hbl).trans (hcell k hlt).2.1
      have hc2 := (hbr.cell (p := ⟨b, off + k * 4 + 2, none⟩) hbl).trans (hcell k hlt).2.2.1
      have hc3 := (hbr.cell (p := ⟨b, off + k * 4 + 3, none⟩) hbl).trans (hcell k hlt).2.2.2
      have hbl2 : b < wr.heap.size := by omega
      have hgc := gnC_le l dr k
      have hkl := kpL_len l dr k hk
      have HYG : Hid (goneM dr l[k] = true → kpL l dr (k + 1) = kpL l dr k ∧ gnC l dr (k + 1) = gnC l dr k + 1) := kp_gone l dr k hlt
      have HNG : Hid (goneM dr l[k] = false → kpL l dr (k + 1) = kpL l dr k ++ [l[k]] ∧ gnC l dr (k + 1) = gnC l dr k) := kp_kept l dr k hlt
      clear hcell hc HP HZS hcb
      generalize l[k] = t at *
      obtain ⟨tn, td, tk, tv⟩ := t
      dsimp only at *
      generalize kpL l dr k = zs at *
      generalize gnC l dr k = G at *
      obtain ⟨W1, hW1⟩ : ∃ W1, W1 = wr.alloc (.cells #[.int .i64 tn, .int .i64 td, .string tk, .string tv] 71) := ⟨_, rfl⟩
      have Z1 : Box W1 wr.heap.size [.int .i64 tn, .int .i64 td, .string tk, .string tv] := by rw [hW1]; exact Box.new wr #[.int .i64 tn, .int .i64 td, .string tk, .string tv] 71
      have hB1 : Below w2.heap.size w2 W1 := by rw [hW1]; exact hbr.alloc hzr _
      have O1 : W1.ownsRow w2.heap.size 71 4 u6 zs.length (flat4 zs) := by rw [hW1]; exact owns_below hown (below_alloc _ _)
      have Y1 := Y.below hB1
      go_wp2
      rw [← hW1]; clear hW1 hc0 hc1 hc2 hc3 y0 y1 y2 y3 hown hbr
      go_loopw [10, 46] (fun g i wq => ∃ j : Nat, j ≤ dr.length ∧ i = .int .i64 j ∧ g = .bool ((dr.take j).any (fun d => d == tn)) ∧ wq = W1) (fun _ i _ => dr.length - (intOf i).toNat)
      case atStart => exact ⟨0, Nat.zero_le _, rfl, rfl, rfl⟩
      case round =>
        obtain ⟨j, hj, rfl, rfl, rfl⟩ := hrel
        obtain ⟨zl, z0, z1, z2, z3, _⟩ := Z1.e4
        by_cases hjl : j < dr.length
        · obtain ⟨bq, offq, rfl, hblq, hcellq⟩ := hcq (by intro e; simp [e] at hjl)
          have hd0 := (hB1.cell (p := ⟨bq, offq + j, none⟩) hblq).trans (hcellq j hjl)
          have hzq := hB1.size
          have hblq2 : bq < wr.heap.size := by omega
          have HS : Hid ((dr.take (j + 1)).any (fun d => d == tn) = ((dr.take j).any (fun d => d == tn) || (dr[j] == tn))) := any_take_succI _ dr j hjl
          clear hcellq hcq
          generalize (dr.take j).any (fun d => d == tn) = gj at *
          generalize dr[j] = d at *
          cases gj
          · by_cases hd : d = tn
            · go_wp2
              go_roundw
              case rel => exact ⟨j + 1, by omega, by go_num, by rw [HS.out]; simp [hd], trivial⟩
              case measure => simp [intOf]; omega
            · go_wp2
              go_roundw
              case rel => exact ⟨j + 1, by omega, by go_num, by rw [HS.out]; simp, trivial⟩
              case measure => simp [intOf]; omega
          · go_wp2
            go_roundw
            case rel => exact ⟨j + 1, by omega, by go_num, by rw [HS.out]; simp, trivial⟩
            case measure => simp [intOf]; omega
        · obtain rfl : j = dr.length := by omega
          rw [List.take_length]
          have hgd : dr.any (fun d => d == tn) = goneM dr ⟨tn, td, tk, tv⟩ := rfl
          rw [hgd]
          clear hgd hcq
          generalize goneM dr ⟨tn, td, tk, tv⟩ = c at *
          cases c
          · obtain ⟨e1, e2⟩ := HNG.out (by trivial)
            have E1 : Hid (kpL l dr (k + 1) = zs ++ [⟨tn, td, tk, tv⟩] ∧ gnC l dr (k + 1) = G) := ⟨e1, e2⟩
            have HFL : Hid (flat4 (zs ++ [⟨tn, td, tk, tv⟩]) = flat4 zs ++ [.int .i64 tn, .int .i64 td, .string tk, .string tv]) := by show _ = _; rw [flat4_append]; rfl
            have ON := four_new wr tn td tk tv
            have hz1 := hB1.size
            clear e1 e2 HYG HNG
            go_wp2_with (at_builtin; refine wpList_append_own _ rfl _ _ 24 rfl w2.heap.size 71 i0 (.agg #[.int .i64 0, .int .i64 0, .string ⟨#[]⟩, .string ⟨#[]⟩]) 4 48 Tryz.underlying24 hi hz0 hzs hzb rfl (by decide) _ zs.length (flat4 zs) rfl (owns_below O1 (below_alloc _ _)) ⟨wr.heap.size, 0, none⟩ 1 1 [.int .i64 tn, .int .i64 td, .string tk, .string tv] rfl rfl ON (flat4_ones tn td tk tv) (by unfold maxLen; omega) (by omega) (by simp; omega) ?_; intro v' w4 hown4 hgrow4 _)
            go_roundw
            case rel =>
              refine ⟨k + 1, by omega, by go_num, by rw [E1.out.2], ?_, ?_⟩
              · rw [E1.out.1, HFL.out, List.length_append]; exact hown4
              · exact (hB1.alloc hz1 _).grown hgrow4 (by simp; omega) (owns_ge O1)
            case measure => simp [intOf]; omega
          · obtain ⟨e1, e2⟩ := HYG.out (by trivial)
            have E1 : Hid (kpL l dr (k + 1) = zs ∧ gnC l dr (k + 1) = G + 1) := ⟨e1, e2⟩
            clear e1 e2 HYG HNG
            go_wp2
            go_roundw
            case rel => exact ⟨k + 1, by omega, by go_num, by rw [E1.out.2]; go_num, by rw [E1.out.1]; exact O1, hB1⟩
            case measure => simp [intOf]; omega
    · obtain rfl : k = l.length := by omega
      have hKl := kpL_len l dr l.length (Nat.le_refl _)
      have KC := fun v W h => specGoodV_any nx2 sq2 v (insTo (kpL l dr l.length) ad ad.length) W h (by rw [insTo_len _ _ _ (Nat.le_refl _)]; omega) HZS.out
      clear HZS hc hcq
      generalize kpL l dr l.length = K at *
      generalize gnC l dr l.length = G at *
      go_wp2
      clear yl y0 y1 y2 y3
      go_loopw [6, 69] (fun s6 i wq => ∃ k : Nat, k ≤ ad.length ∧ i = .int .i64 k ∧ wq.ownsRow w2.heap.size 71 4 s6 (insTo K ad k).length (flat4 (insTo K ad k)) ∧ Below w2.heap.size w2 wq) (fun _ i _ => ad.length - (intOf i).toNat)
      case atStart => exact ⟨0, Nat.zero_le _, rfl, hown, hbr⟩
      case round =>
        clear hown hbr hzr
        obtain ⟨k, hk, rfl, hown, hbr⟩ := hrel
        have hzr := hbr.size
        have hil : (insTo K ad k).length ≤ 60 := by rw [insTo_len K ad k hk]; omega
        by_cases hlt : k < ad.length
        · obtain ⟨b, off, rfl, hbl, hcell⟩ := hcb (by intro e; simp [e] at hlt)
          have hc0 := (hbr.cell (p := ⟨b, off + k * 4, none⟩) hbl).trans (hcell k hlt).1
          have hc1 := (hbr.cell (p := ⟨b, off + k * 4 + 1, none⟩) hbl).trans (hcell k hlt).2.1
          have hc2 := (hbr.cell (p := ⟨b, off + k * 4 + 2, none⟩) hbl).trans (hcell k hlt).2.2.1
          have hc3 := (hbr.cell (p := ⟨b, off + k * 4 + 3, none⟩) hbl).trans (hcell k hlt).2.2.2
          have hbl2 : b < wr.heap.size := by omega
          have HIN : Hid (insTo K ad (k + 1) = (insTo K ad k).take (posM (insTo K ad k) ad[k]) ++ [ad[k]] ++ (insTo K ad k).drop (posM (insTo K ad k) ad[k])) := ins_succ K ad k hlt
          have HST : Hid (∀ j, j ≤ posM (insTo K ad k) ad[k] → ((j < (insTo K ad k).length ∧ ((insTo K ad k).getD j default).n < (ad[k]).n) ↔ j < posM (insTo K ad k) ad[k])) := fun j hj => posM_step _ _ j hj
          have hpl := posM_le (insTo K ad k) ad[k]
          clear hcell hcb KC HP
          generalize insTo K ad k = zs at *
          generalize posM zs ad[k] = p at *
          generalize ad[k] = t at *
          obtain ⟨tn, td, tk, tv⟩ := t
          dsimp only at *
          obtain ⟨_, sa, sc, hse, hsc⟩ := IX_of_owns hown rfl
          subst hse
          obtain ⟨W1, hW1⟩ : ∃ W1, W1 = wr.alloc (.cells #[.int .i64 tn, .int .i64 td, .string tk, .string tv] 71) := ⟨_, rfl⟩
          have Z1 : Box W1 wr.heap.size [.int .i64 tn, .int .i64 td, .string tk, .string tv] := by rw [hW1]; exact Box.new wr #[.int .i64 tn, .int .i64 td, .string tk, .string tv] 71
          have hB1 : Below w2.heap.size w2 W1 := by rw [hW1]; exact hbr.alloc hzr _
          have O1 : W1.ownsRow w2.heap.size 71 4 (.slice sa zs.length sc) zs.length (flat4 zs) := by rw [hW1]; exact owns_below hown (below_alloc _ _)
          go_wp2
          rw [← hW1]; clear hW1 hc0 hc1 hc2 hc3 hown hbr
          go_loopw [15] (fun i wq => ∃ j : Nat, j ≤ p ∧ i = .int .i64 j ∧ Below W1.heap.size W1 wq) (fun i _ => p - (intOf i).toNat)
          case atStart => exact ⟨0, Nat.zero_le _, rfl, Below.refl _ _⟩
          case round =>
            obtain ⟨j, hj, rfl, hbj⟩ := hrel
            have OJ := owns_below O1 hbj
            have hIJ := IR_of_owns OJ rfl
            obtain ⟨zl, z0, z1, z2, z3, _⟩ := (Z1.below hbj).e4
            obtain ⟨a', c', hse, hcz⟩ := id hIJ
            simp only [Value.slice.injEq, true_and] at hse
            obtain ⟨rfl, rfl⟩ := hse
            have HSj := HST.out j hj
            have hz1 := hB1.size
            have hzj := hbj.size
            have hBJ := hB1.trans (hbj.mono hz1)
            by_cases hjl : j < zs.length
            · obtain ⟨bz, offz, rfl, hbz, hcellz⟩ := hcz (by intro e; simp [e] at hjl)
              have hd0 := (hcellz j hjl).1
              rw [getD_at zs j hjl] at HSj
              by_cases hn : zs[j].n < tn
              · have hjp : j < p := HSj.1 ⟨hjl, hn⟩
                clear hcellz hcz hIJ HSj HST HIN OJ
                generalize zs[j].n = mn at *
                have hdj : decide ((j : Int) < (zs.length : Int)) = true := decide_eq_true (by omega)
                have hdj' : decide (j < zs.length) = true := decide_eq_true (by omega)
                go_wp2_with fail
                go_quiet (fail)
                go_wp2
                go_roundw
                case rel => exact ⟨j + 1, by omega, by go_num, below_drewN hbj _⟩
                case measure => simp [intOf]; omega
              · have hjp : ¬ j < p := fun h => hn (HSj.2 h).2
                clear hcellz hcz HSj HST
                generalize zs[j].n = mn at *
                have hdj : decide ((j : Int) < (zs.length : Int)) = true := decide_eq_true (by omega)
                have hdj' : decide (j < zs.length) = true := decide_eq_true (by omega)
                obtain rfl : j = p := by omega
                go_wp2_with fail
                go_quiet (fail)
                have hDw : Below wr.heap.size wr (wr.drewN nq) := below_drewN (Below.refl _ _) nq
                have OD := owns_below OJ hDw
                have ID := hIJ.below hDw
                have ZD := (Z1.below hbj).below hDw
                have hBD : Below w2.heap.size w2 (wr.drewN nq) := hBJ.trans (hDw.mono (Nat.le_trans hz1 hzj))
                clear z0 z1 z2 z3 zl hDw OJ hIJ hBJ hd0
                generalize wr.drewN nq = WD at *
                obtain ⟨zl, z0, z1, z2, z3, _⟩ := ZD.e4
                have HS1 := fun w => sl_to (some ⟨bz, offz, none⟩) zs.length sc j w (by omega)
                have I1 := IR_to ID hpl
                obtain ⟨sb, HS2, I2⟩ := sl_from WD (some ⟨bz, offz, none⟩) sc j zs ID hsc hpl
                have hA1 : (zs.take j).length ≤ 60 := by rw [List.length_take]; omega
                have hA2 : (zs.drop j).length ≤ 60 := by rw [List.length_drop]; omega
                have hzD := hBD.size
                clear ID OD
                generalize zs.take j = A1 at *
                generalize zs.drop j = A2 at *
                go_wp2_with (first | (refine wpList_sliceOp _ rfl 23 _ _ _ _ rfl _ (HS1 _) ?_; simp only [Act.put, List.setIfInBounds_toArray, List.set_cons_zero, List.set_cons_succ]) | (at_builtin; refine wpList_append_row _ rfl _ _ rfl rfl WD.heap.size _ 0 [] rfl (World.ownsRow_nil _ _ _ _) _ A1 rfl I1 (by omega) (Nat.le_refl _) ?_; intro v1 w3 hown3 hgrow3; refine StopP.go ?_))
                simp only [List.nil_append, Nat.zero_add] at hown3
                have hB3 : Below WD.heap.size WD w3 := (Below.refl _ _).grown hgrow3 (Nat.le_refl _) (fun j hj => by cases hj)
                have hz3 := hB3.size
                clear zl z0 z1 z2 z3 hgrow3 HS1 I1
                obtain ⟨zl, z0, z1, z2, z3, _⟩ := (ZD.below hB3).e4
                have ON := four_new w3 tn td tk tv
                have HFL : Hid (flat4 (A1 ++ [⟨tn, td, tk, tv⟩]) = flat4 A1 ++ [.int .i64 tn, .int .i64 td, .string tk, .string tv]) := by show _ = _; rw [flat4_append]; rfl
                unfold StopP
                go_wp2_with (at_builtin; refine wpList_append_own _ rfl _ _ 24 rfl WD.heap.size 71 i0 (.agg #[.int .i64 0, .int .i64 0, .string ⟨#[]⟩, .string ⟨#[]⟩]) 4 48 Tryz.underlying24 hi hz0 hzs hzb rfl (by decide) _ A1.length (flat4 A1) rfl (owns_below hown3 (below_alloc _ _)) ⟨w3.heap.size, 0, none⟩ 1 1 [.int .i64 tn, .int .i64 td, .string tk, .string tv] rfl rfl ON (flat4_ones tn td tk tv) (by unfold maxLen; omega) (by omega) (by simp; omega) ?_; intro v2 w4 hown4 hgrow4 _; refine StopP.go ?_)
                have hB4 : Below WD.heap.size WD w4 := (hB3.alloc hz3 _).grown hgrow4 (by simp; omega) (owns_ge hown3)
                rw [← HFL.out] at hown4
                have I4 := I2.below hB4
                have hz4 := hB4.size
                clear zl z0 z1 z2 z3 hgrow4 hown3 ON I2 ZD
                unfold StopP
                go_wp2_with (first | (refine wpList_sliceOp _ rfl 23 _ _ _ _ rfl _ (HS2 _) ?_; simp only [Act.put, List.setIfInBounds_toArray, List.set_cons_zero, List.set_cons_succ]) | (at_builtin; refine StopP.go ?_))
                unfold StopP
                refine wpList_append_row _ rfl _ _ rfl rfl WD.heap.size v2 (A1.length + 1) (A1 ++ [⟨tn, td, tk, tv⟩]) rfl hown4 (.slice sb (zs.length - j) (sc - j)) A2 rfl I4 (by omega) hz4 ?_
                intro v3 w5 hown5 hgrow5
                go_wp2
                go_roundw
                case rel =>
                  refine ⟨k + 1, by omega, by go_num, ?_, ?_⟩
                  · rw [HIN.out, List.length_append, List.length_append]; exact owns_mono hown5 hzD
                  · exact (hBD.trans (hB4.mono hzD)).grown hgrow5 (Nat.le_trans hzD hz4) (fun j hj => Nat.le_trans hzD (owns_ge hown4 j hj))
                case measure => simp [intOf]; omega
            · have hjp : ¬ j < p := fun h => hjl (HSj.2 h).1
              clear hcz HSj HST
              have hdj : decide ((j : Int) < (zs.length : Int)) = false := decide_eq_false (by omega)
              have hdj' : decide (j < zs.length) = false := decide_eq_false (by omega)
              obtain rfl : j = p := by omega
              go_wp2_with fail
              go_quiet (fail)
              have hDw : Below wr.heap.size wr (wr.drewN nq) := below_drewN (Below.refl _ _) nq
              have OD := owns_below OJ hDw
              have ID := hIJ.below hDw
              have ZD := (Z1.below hbj).below hDw
              have hBD : Below w2.heap.size w2 (wr.drewN nq) := hBJ.trans (hDw.mono (Nat.le_trans hz1 hzj))
              clear z0 z1 z2 z3 zl hDw OJ hIJ hBJ 
              generalize wr.drewN nq = WD at *
              obtain ⟨zl, z0, z1, z2, z3, _⟩ := ZD.e4
              have HS1 := fun w => sl_to sa zs.length sc j w (by omega)
              have I1 := IR_to ID hpl
              obtain ⟨sb, HS2, I2⟩ := sl_from WD sa sc j zs ID hsc hpl
              have hA1 : (zs.take j).length ≤ 60 := by rw [List.length_take]; omega
              have hA2 : (zs.drop j).length ≤ 60 := by rw [List.length_drop]; omega
              have hzD := hBD.size
              clear ID OD
              generalize zs.take j = A1 at *
              generalize zs.drop j = A2 at *
              go_wp2_with (first | (refine wpList_sliceOp _ rfl 23 _ _ _ _ rfl _ (HS1 _) ?_; simp only [Act.put, List.setIfInBounds_toArray, List.set_cons_zero, List.set_cons_succ]) | (at_builtin; refine wpList_append_row _ rfl _ _ rfl rfl WD.heap.size _ 0 [] rfl (World.ownsRow_nil _ _ _ _) _ A1 rfl I1 (by omega) (Nat.le_refl _) ?_; intro v1 w3 hown3 hgrow3; refine StopP.go ?_))
              simp only [List.nil_append, Nat.zero_add] at hown3
              have hB3 : Below WD.heap.size WD w3 := (Below.refl _ _).grown hgrow3 (Nat.le_refl _) (fun j hj => by cases hj)
              have hz3 := hB3.size
              clear zl z0 z1 z2 z3 hgrow3 HS1 I1
              obtain ⟨zl, z0, z1, z2, z3, _⟩ := (ZD.below hB3).e4
              have ON := four_new w3 tn td tk tv
              have HFL : Hid (flat4 (A1 ++ [⟨tn, td, tk, tv⟩]) = flat4 A1 ++ [.int .i64 tn, .int .i64 td, .string tk, .string tv]) := by show _ = _; rw [flat4_append]; rfl
              unfold StopP
              go_wp2_with (at_builtin; refine wpList_append_own _ rfl _ _ 24 rfl WD.heap.size 71 i0 (.agg #[.int .i64 0, .int .i64 0, .string ⟨#[]⟩, .string ⟨#[]⟩]) 4 48 Tryz.underlying24 hi hz0 hzs hzb rfl (by decide) _ A1.length (flat4 A1) rfl (owns_below hown3 (below_alloc _ _)) ⟨w3.heap.size, 0, none⟩ 1 1 [.int .i64 tn, .int .i64 td, .string tk, .string tv] rfl rfl ON (flat4_ones tn td tk tv) (by unfold maxLen; omega) (by omega) (by simp; omega) ?_; intro v2 w4 hown4 hgrow4 _; refine StopP.go ?_)
              have hB4 : Below WD.heap.size WD w4 := (hB3.alloc hz3 _).grown hgrow4 (by simp; omega) (owns_ge hown3)
              rw [← HFL.out] at hown4
              have I4 := I2.below hB4
              have hz4 := hB4.size
              clear zl z0 z1 z2 z3 hgrow4 hown3 ON I2 ZD
              unfold StopP
              go_wp2_with (first | (refine wpList_sliceOp _ rfl 23 _ _ _ _ rfl _ (HS2 _) ?_; simp only [Act.put, List.setIfInBounds_toArray, List.set_cons_zero, List.set_cons_succ]) | (at_builtin; refine StopP.go ?_))
              unfold StopP
              refine wpList_append_row _ rfl _ _ rfl rfl WD.heap.size v2 (A1.length + 1) (A1 ++ [⟨tn, td, tk, tv⟩]) rfl hown4 (.slice sb (zs.length - j) (sc - j)) A2 rfl I4 (by omega) hz4 ?_
              intro v3 w5 hown5 hgrow5
              go_wp2
              go_roundw
              case rel =>
                refine ⟨k + 1, by omega, by go_num, ?_, ?_⟩
                · rw [HIN.out, List.length_append, List.length_append]; exact owns_mono hown5 hzD
                · exact (hBD.trans (hB4.mono hzD)).grown hgrow5 (Nat.le_trans hzD hz4) (fun j hj => Nat.le_trans hzD (owns_ge hown4 j hj))
              case measure => simp [intOf]; omega
        · obtain rfl : k = ad.length := by omega
          obtain ⟨_, sa, sc, hse, hsc⟩ := IX_of_owns hown rfl
          subst hse
          clear hcb
          generalize insTo K ad ad.length = ZA at *
          obtain ⟨yl, y0, y1, y2, y3, _⟩ := (Y.below hbr).e4
          have hzw := hB.size
          have hBw : Below w.heap.size w wr := hB.trans (hbr.mono hzw)
          obtain ⟨W1, hW1⟩ : ∃ W1, W1 = wr.alloc (.cells #[.int .i64 nx2, .int .i64 sq2, .slice sa ZA.length sc] 35) := ⟨_, rfl⟩
          have hBW : Below w.heap.size w W1 := by rw [hW1]; exact hBw.alloc hBw.size _
          have hb2 : Below w2.heap.size w2 W1 := by rw [hW1]; exact hbr.alloc hzr _
          have Z1 : Box W1 wr.heap.size [.int .i64 nx2, .int .i64 sq2, .slice sa ZA.length sc] := by rw [hW1]; exact Box.new wr #[.int .i64 nx2, .int .i64 sq2, .slice sa ZA.length sc] 35
          have O1 : W1.ownsRow w2.heap.size 71 4 (.slice sa ZA.length sc) ZA.length (flat4 ZA) := by rw [hW1]; exact owns_below hown (below_alloc _ _)
          have Y1 : Box W1 (w.heap.size + 1) [.int .i64 nx2, .int .i64 sq2, .slice a2 dr.length cq, .slice a3 ad.length cb] := Y.below hb2
          have R1 : Box W1 (w.heap.size + 1 + 1) [.int .i64 0, .int .i64 0, .slice none 0 0] := R.below hb2
          have K2 := KC _ _ (IX_of_owns O1 rfl)
          have hRl := R.1
          have hgeO := owns_ge O1
          have Rr := R.below hbr
          clear KC hown hb2 R hB
          have hB := hBW
          have R := R1
          by_cases hG : G = dr.length
          rotate_left
          · have HGB : True := trivial
            have HZS : True := trivial
            have hGi : ¬ ((G : Int) = (dr.length : Int)) := by omega
            subst hW1
            obtain ⟨hr', s0, s1, s2, e0, e1, e2⟩ := Rr.c3
            obtain rfl : BB = false := by rw [HP.out.1]; simp [hG]
            obtain ⟨rfl, rfl, rfl⟩ : RX = 0 ∧ RY = 0 ∧ RA = [] := ⟨HP.out.2.1, HP.out.2.2.1, HP.out.2.2.2⟩
            have Rp := (put3_box Rr (.int .i64 0) (.int .i64 0) (.slice none 0 0)).alloc (.cells #[.int .i64 nx2, .int .i64 sq2, .slice sa ZA.length sc] 35)
            have hq := hBw.trans ((put3_chg wr (w.heap.size + 1 + 1) (.int .i64 0) (.int .i64 0) (.slice none 0 0)).below (B := w.heap.size) hBw.size (fun k hk => by omega))
            have hBE := hq.alloc hq.size (.cells #[.int .i64 nx2, .int .i64 sq2, .slice sa ZA.length sc] 35)
            obtain ⟨_, r0, r1, r2, _⟩ := Rp.c3
            unfold put3 at hBE r0 r1 r2
            clear HP hq Rp
            go_wp2
            exact bodyPost_ret (v := .tuple #[.agg #[.int .i64 0, .int .i64 0, .slice none 0 0], .bool false]) (by simp [results, Tryz.results39, go_sem, r0, r1, r2]) rfl ⟨_, rfl, World.ownsRow_nil _ _ _ _, hBE⟩
          subst hG
          go_wp2_with fail
          rw [← hW1]
          clear hW1 Rr Y hbr
          refine K2.mono ?_
          rintro e w6 ⟨rfl, hb6⟩
          clear yl y0 y1 y2 y3
          replace hB := below_then hB hb6
          replace R := R.below hb6
          replace Z1 := Z1.below hb6
          replace O1 := owns_below O1 hb6
          clear hb6 K2 hBW R1 Y1
          generalize goodV nx2 sq2 ZA = g5 at *
          cases g5
          · have HGB : True := trivial
            have HZS : True := trivial
            obtain rfl : BB = false := by rw [HP.out.1]; simp
            obtain ⟨rfl, rfl, rfl⟩ : RX = 0 ∧ RY = 0 ∧ RA = [] := ⟨HP.out.2.1, HP.out.2.2.1, HP.out.2.2.2⟩
            obtain ⟨hr, r0, r1, r2, f0, f1, f2⟩ := R.c3
            have hBE := hB.trans ((put3_chg _ (w.heap.size + 1 + 1) (.int .i64 0) (.int .i64 0) (.slice none 0 0)).below (B := w.heap.size) hB.size (fun k hk => by omega))
            clear HP HGB HZS
            go_wp2
            exact bodyPost_ret (v := .tuple #[.agg #[.int .i64 0, .int .i64 0, .slice none 0 0], .bool false]) (by simp [results, Tryz.results39, go_sem, r0, r1, r2]) rfl ⟨_, rfl, World.ownsRow_nil _ _ _ _, hBE⟩
          obtain rfl : BB = true := by rw [HP.out.1]; simp [h1, h2]
          have hRX : nx2 = RX := HP.out.2.1.symm
          have hRY : sq2 = RY := HP.out.2.2.1.symm
          have hRA : ZA = RA := HP.out.2.2.2.symm
          subst hRX hRY hRA
          clear HP
          obtain ⟨hp, p0, p1, p2, _⟩ := Z1.c3
          obtain ⟨hr, r0, r1, r2, f0, f1, f2⟩ := R.c3
          have hCE := put3_chg w6 (w.heap.size + 1 + 1) (.int .i64 nx2) (.int .i64 sq2) (.slice sa ZA.length sc)
          have OE := hCE.owns (owns_mono O1 hzw) (fun g hg hh => by have := hgeO g hg; omega)
          have hBE := hB.trans (hCE.below (B := w.heap.size) hB.size (fun k hk => by omega))
          clear hCE
          go_wp2
          exact bodyPost_ret (v := .tuple #[.agg #[.int .i64 nx2, .int .i64 sq2, .slice sa ZA.length sc], .bool true]) (by simp [results, Tryz.results39, go_sem, r0, r1, r2]) rfl ⟨_, rfl, OE, hBE⟩
end Go.Proofs.YtenbdjlhcadhaaaGreat
