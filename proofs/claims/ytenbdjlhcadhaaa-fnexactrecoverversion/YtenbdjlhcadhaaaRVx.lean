/-
  l9Apply: the specification's way to apply an edit.
  ApplyEdit: the specification's side.
  Versions recovered: plainly, and by the program.
  RecoverVersion: the program's side.
  RecoverVersion: the specification's side.
  The walk of FnExactRecoverVersion.
-/
import Derived.Test.YtenbdjlhcadhaaaAP4
import Derived.BigQuiet
import Derived.Test.YtenbdjlhcadhaaaRV0
import Derived.Test.YtenbdjlhcadhaaaRD7
import Derived.Test.YtenbdjlhcadhaaaLNew
import Derived.Test.YtenbdjlhcadhaaaW9
import Derived.Test.YtenbdjlhcadhaaaBB
namespace Go.Proofs.Ytenbdjlhcadhaaa
open Go.RowKit Go.Maps
set_option linter.unusedVariables false
set_option maxRecDepth 100000

/-- Where the walk is to stand. -/
def StopP (p : Prop) : Prop := p
theorem StopP.go {p : Prop} (h : StopP p) : p := h
theorem any_take_succI (f : Int → Bool) (l : List Int) (k : Nat) (h : k < l.length) : (l.take (k + 1)).any f = ((l.take k).any f || f l[k]) := by
  rw [List.take_succ_eq_append_getElem h, List.any_append]; simp
theorem kp_gone (l : List Mt) (dr : List Int) (k : Nat) (h : k < l.length) (hg : goneM dr l[k] = true) : kpL l dr (k + 1) = kpL l dr k ∧ gnC l dr (k + 1) = gnC l dr k + 1 := by
  refine ⟨by rw [kpL_step l dr k h, hg]; simp, ?_⟩
  simp only [gnC]
  rw [getD_at l k h, hg]; rfl
theorem kp_kept (l : List Mt) (dr : List Int) (k : Nat) (h : k < l.length) (hg : goneM dr l[k] = false) : kpL l dr (k + 1) = kpL l dr k ++ [l[k]] ∧ gnC l dr (k + 1) = gnC l dr k := by
  refine ⟨by rw [kpL_step l dr k h, hg]; simp, ?_⟩
  simp only [gnC]
  rw [getD_at l k h, hg]; simp
theorem ins_succ (K ad : List Mt) (k : Nat) (h : k < ad.length) : insTo K ad (k + 1) = insM (insTo K ad k) ad[k] := by
  simp only [insTo]
  rw [getD_at ad k h]

set_option maxHeartbeats 8000000 in
theorem l9Apply_any (nx sq nx2 sq2 : Int) (va vq vb : Value) (l : List Mt) (dr : List Int) (ad : List Mt) (w : World) (HA : IX w va l) (hvq : IL w vq dr) (hvb : IR w vb ad) (hna : l.length ≤ 1048576) (hnd : dr.length ≤ 1048576) (hnb : ad.length ≤ 1048576) (hsa : ∀ i (h : i < l.length), l[i].k.size ≤ 1048576 ∧ l[i].v.size ≤ 1048576) (hsb : ∀ i (h : i < ad.length), ad[i].k.size ≤ 1048576 ∧ ad[i].v.size ≤ 1048576) (hgv : goodV nx sq l = true) :
    Calls Try.prog 58 #[.agg #[.int .i64 nx, .int .i64 sq, va], .agg #[.int .i64 nx2, .int .i64 sq2, vq, vb]] w fun e w' => ∃ u, e = .returned (.tuple #[.agg #[.int .i64 (apX nx sq l nx2 sq2 dr ad), .int .i64 (apY nx sq l nx2 sq2 dr ad), u], .bool (apB nx sq l nx2 sq2 dr ad)]) ∧ w'.ownsRow w.heap.size 82 4 u (apA nx sq l nx2 sq2 dr ad).length (flat4 (apA nx sq l nx2 sq2 dr ad)) ∧ Below w.heap.size w w' := by
  obtain ⟨W0, hW0⟩ : ∃ W0, W0 = ((w.alloc (.cells #[.int .i64 nx, .int .i64 sq, va] 25)).alloc (.cells #[.int .i64 nx2, .int .i64 sq2, vq, vb] 30)).alloc (.cells #[.int .i64 0, .int .i64 0, .slice none 0 0] 25) := ⟨_, rfl⟩
  have hB : Below w.heap.size w W0 := by rw [hW0]; exact below3 _ _ _ _
  have X : Box W0 w.heap.size [.int .i64 nx, .int .i64 sq, va] := by rw [hW0]; exact ((Box.new w #[.int .i64 nx, .int .i64 sq, va] 25).alloc _).alloc _
  have Y : Box W0 (w.heap.size + 1) [.int .i64 nx2, .int .i64 sq2, vq, vb] := by
    rw [hW0]
    have := (Box.new (w.alloc (.cells #[.int .i64 nx, .int .i64 sq, va] 25)) #[.int .i64 nx2, .int .i64 sq2, vq, vb] 30).alloc (.cells #[.int .i64 0, .int .i64 0, .slice none 0 0] 25)
    simpa using this
  have R : Box W0 (w.heap.size + 1 + 1) [.int .i64 0, .int .i64 0, .slice none 0 0] := by
    rw [hW0]
    have := Box.new ((w.alloc (.cells #[.int .i64 nx, .int .i64 sq, va] 25)).alloc (.cells #[.int .i64 nx2, .int .i64 sq2, vq, vb] 30)) #[.int .i64 0, .int .i64 0, .slice none 0 0] 25
    simpa using this
  have KB := l9Edit_any nx2 sq2 vq vb dr ad W0 (hvq.below hB) (hvb.below hB) hnd hnb hsb
  have HZS : Hid (∀ i (h : i < (insTo (kpL l dr l.length) ad ad.length).length), (insTo (kpL l dr l.length) ad ad.length)[i].k.size ≤ 1048576 ∧ (insTo (kpL l dr l.length) ad ad.length)[i].v.size ≤ 1048576) := ap_sizes dr hsa hsb
  have hms := goodV_ms hgv
  have h30a := goodV_len hgv
  have HP : Hid (apB nx sq l nx2 sq2 dr ad = (goodE nx2 sq2 dr ad && decide (nx ≤ nx2) && decide (sq ≤ sq2) && decide (gnC l dr l.length = dr.length) && goodV nx2 sq2 (insTo (kpL l dr l.length) ad ad.length)) ∧ apX nx sq l nx2 sq2 dr ad = (if apB nx sq l nx2 sq2 dr ad then nx2 else 0) ∧ apY nx sq l nx2 sq2 dr ad = (if apB nx sq l nx2 sq2 dr ad then sq2 else 0) ∧ apA nx sq l nx2 sq2 dr ad = (if apB nx sq l nx2 sq2 dr ad then insTo (kpL l dr l.length) ad ad.length else [])) := by
    refine ⟨?_, rfl, rfl, rfl⟩
    have e : decide (gnC l dr l.length = dr.length) = thTo l dr dr.length := by rw [Bool.eq_iff_iff, decide_eq_true_eq]; exact gnC_iff (ms_apart hms) dr
    unfold apB
    rw [hgv, e, Bool.true_and]; rfl
  have HGB : Hid (goodE nx2 sq2 dr ad = true → (1 ≤ nx2 ∧ nx2 ≤ 100001) ∧ (0 ≤ sq2 ∧ sq2 ≤ 1000000000) ∧ (dr.length ≤ 30 ∧ goodDr dr = true) ∧ (ad.length ≤ 30 ∧ goodMs ad = true)) := goodE_parts
  generalize apB nx sq l nx2 sq2 dr ad = BB at *
  generalize apX nx sq l nx2 sq2 dr ad = RX at *
  generalize apY nx sq l nx2 sq2 dr ad = RY at *
  generalize apA nx sq l nx2 sq2 dr ad = RA at *
  generalize goodE nx2 sq2 dr ad = g2 at *
  have hva := HA.1
  obtain ⟨a, ca, hve, _⟩ := id hva
  obtain ⟨a2, cq, hve2, _⟩ := id hvq
  obtain ⟨a3, cb, hve3, _⟩ := id hvb
  subst hve hve2 hve3
  clear hsa hsb HA hgv hms
  obtain ⟨hp, p0, p1, p2, p3, _⟩ := Y.e4
  go_enter Try.func58, Try.ntmps58
  go_wp2_with fail
  rw [← hW0]; clear hW0
  refine KB.mono ?_
  rintro e w2 ⟨rfl, hb1⟩
  replace hB := below_then hB hb1
  replace X := X.below hb1
  replace Y := Y.below hb1
  replace R := R.below hb1
  clear hb1 KB hp p0 p1 p2 p3
  cases g2
  · obtain rfl : BB = false := by rw [HP.out.1]; simp
    obtain ⟨rfl, rfl, rfl⟩ : RX = 0 ∧ RY = 0 ∧ RA = [] := ⟨HP.out.2.1, HP.out.2.2.1, HP.out.2.2.2⟩
    obtain ⟨hr, r0, r1, r2, f0, f1, f2⟩ := R.c3
    have hBE := hB.trans ((put3_chg _ (w.heap.size + 1 + 1) (.int .i64 0) (.int .i64 0) (.slice none 0 0)).below (B := w.heap.size) hB.size (fun k hk => by omega))
    clear HP HGB HZS
    go_wp2
    exact bodyPost_ret (v := .tuple #[.agg #[.int .i64 0, .int .i64 0, .slice none 0 0], .bool false]) (by simp [results, Try.results58, go_sem, r0, r1, r2]) rfl ⟨_, rfl, World.ownsRow_nil _ _ _ _, hBE⟩
  obtain ⟨hp, p0, p1, p2, _⟩ := X.c3
  obtain ⟨hq, q0, q1, q2, q3, _⟩ := Y.e4
  by_cases h1 : nx ≤ nx2
  rotate_left
  · obtain rfl : BB = false := by rw [HP.out.1]; simp [h1]
    obtain ⟨rfl, rfl, rfl⟩ : RX = 0 ∧ RY = 0 ∧ RA = [] := ⟨HP.out.2.1, HP.out.2.2.1, HP.out.2.2.2⟩
    obtain ⟨hr, r0, r1, r2, f0, f1, f2⟩ := R.c3
    have hBE := hB.trans ((put3_chg _ (w.heap.size + 1 + 1) (.int .i64 0) (.int .i64 0) (.slice none 0 0)).below (B := w.heap.size) hB.size (fun k hk => by omega))
    clear HP HGB HZS
    go_wp2
    exact bodyPost_ret (v := .tuple #[.agg #[.int .i64 0, .int .i64 0, .slice none 0 0], .bool false]) (by simp [results, Try.results58, go_sem, r0, r1, r2]) rfl ⟨_, rfl, World.ownsRow_nil _ _ _ _, hBE⟩
  by_cases h2 : sq ≤ sq2
  rotate_left
  · obtain rfl : BB = false := by rw [HP.out.1]; simp [h2]
    obtain ⟨rfl, rfl, rfl⟩ : RX = 0 ∧ RY = 0 ∧ RA = [] := ⟨HP.out.2.1, HP.out.2.2.1, HP.out.2.2.2⟩
    obtain ⟨hr, r0, r1, r2, f0, f1, f2⟩ := R.c3
    have hBE := hB.trans ((put3_chg _ (w.heap.size + 1 + 1) (.int .i64 0) (.int .i64 0) (.slice none 0 0)).below (B := w.heap.size) hB.size (fun k hk => by omega))
    clear HP HGB HZS
    go_wp2
    exact bodyPost_ret (v := .tuple #[.agg #[.int .i64 0, .int .i64 0, .slice none 0 0], .bool false]) (by simp [results, Try.results58, go_sem, r0, r1, r2]) rfl ⟨_, rfl, World.ownsRow_nil _ _ _ _, hBE⟩
  obtain ⟨i0, hi, hz0, hzs, hzb⟩ := info_parts Try.info82
  obtain ⟨_, _, ⟨h30d, gD⟩, h30b, gB⟩ := HGB.out (by trivial)
  clear HGB gD gB
  obtain ⟨a', ca', hve, hc⟩ := hva.below hB
  simp only [Value.slice.injEq, true_and] at hve
  obtain ⟨rfl, rfl⟩ := hve
  obtain ⟨a2', cq', hve, hcq⟩ := hvq.below hB
  simp only [Value.slice.injEq, true_and] at hve
  obtain ⟨rfl, rfl⟩ := hve
  obtain ⟨a3', cb', hve, hcb⟩ := hvb.below hB
  simp only [Value.slice.injEq, true_and] at hve
  obtain ⟨rfl, rfl⟩ := hve
  clear hva hvq hvb
  go_wp2
  clear hp p0 p1 p2 hq q0 q1 q2 q3 X
  go_loopw [6, 7, 39] (fun s6 s7 i wr => ∃ (k : Nat), k ≤ l.length ∧ i = .int .i64 k ∧ s7 = .int .i64 (gnC l dr k : Nat) ∧ wr.ownsRow w2.heap.size 82 4 s6 (kpL l dr k).length (flat4 (kpL l dr k)) ∧ Below w2.heap.size w2 wr) (fun _ _ i _ => l.length - (intOf i).toNat)
  case atStart => exact ⟨0, Nat.zero_le _, rfl, rfl, World.ownsRow_nil _ _ _ _, Below.refl _ _⟩
  case round =>
    obtain ⟨k, hk, rfl, rfl, hown, hbr⟩ := hrel
    have hzr := hbr.size
    obtain ⟨yl, y0, y1, y2, y3, _⟩ := (Y.below hbr).e4
    by_cases hlt : k < l.length
    · obtain ⟨b, off, rfl, hbl, hcell⟩ := hc (by intro e; simp [e] at hlt)
      have hc0 := (hbr.cell (p := ⟨b, off + k * 4, none⟩) hbl).trans (hcell k hlt).1
      have hc1 := (hbr.cell (p := ⟨b, off + k * 4 + 1, none⟩) hbl).trans (hcell k hlt).2.1
      have hc2 := (hbr.cell (p := ⟨b, off + k * 4 + 2, none⟩) hbl).trans (hcell k hlt).2.2.1
      have hc3 := (hbr.cell (p := ⟨b, off + k * 4 + 3, none⟩) hbl).trans (hcell k hlt).2.2.2
      have hbl2 : b < wr.heap.size := by omega
      have hgc := gnC_le l dr k
      have hkl := kpL_len l dr k hk
      have HYG : Hid (goneM dr l[k] = true → kpL l dr (k + 1) = kpL l dr k ∧ gnC l dr (k + 1) = gnC l dr k + 1) := kp_gone l dr k hlt
      have HNG : Hid (goneM dr l[k] = false → kpL l dr (k + 1) = kpL l dr k ++ [l[k]] ∧ gnC l dr (k + 1) = gnC l dr k) := kp_kept l dr k hlt
      clear hcell hc HP HZS hcb
      generalize l[k] = t at *
      obtain ⟨tn, td, tk, tv⟩ := t
      dsimp only at *
      generalize kpL l dr k = zs at *
      generalize gnC l dr k = G at *
      obtain ⟨W1, hW1⟩ : ∃ W1, W1 = wr.alloc (.cells #[.int .i64 tn, .int .i64 td, .string tk, .string tv] 82) := ⟨_, rfl⟩
      have Z1 : Box W1 wr.heap.size [.int .i64 tn, .int .i64 td, .string tk, .string tv] := by rw [hW1]; exact Box.new wr #[.int .i64 tn, .int .i64 td, .string tk, .string tv] 82
      have hB1 : Below w2.heap.size w2 W1 := by rw [hW1]; exact hbr.alloc hzr _
      have O1 : W1.ownsRow w2.heap.size 82 4 u6 zs.length (flat4 zs) := by rw [hW1]; exact owns_below hown (below_alloc _ _)
      have Y1 := Y.below hB1
      go_wp2
      rw [← hW1]; clear hW1 hc0 hc1 hc2 hc3 y0 y1 y2 y3 hown hbr
      go_loopw [10, 46] (fun g i wq => ∃ j : Nat, j ≤ dr.length ∧ i = .int .i64 j ∧ g = .bool ((dr.take j).any (fun d => d == tn)) ∧ wq = W1) (fun _ i _ => dr.length - (intOf i).toNat)
      case atStart => exact ⟨0, Nat.zero_le _, rfl, rfl, rfl⟩
      case round =>
        obtain ⟨j, hj, rfl, rfl, rfl⟩ := hrel
        obtain ⟨zl, z0, z1, z2, z3, _⟩ := Z1.e4
        by_cases hjl : j < dr.length
        · obtain ⟨bq, offq, rfl, hblq, hcellq⟩ := hcq (by intro e; simp [e] at hjl)
          have hd0 := (hB1.cell (p := ⟨bq, offq + j, none⟩) hblq).trans (hcellq j hjl)
          have hzq := hB1.size
          have hblq2 : bq < wr.heap.size := by omega
          have HS : Hid ((dr.take (j + 1)).any (fun d => d == tn) = ((dr.take j).any (fun d => d == tn) || (dr[j] == tn))) := any_take_succI _ dr j hjl
          clear hcellq hcq
          generalize (dr.take j).any (fun d => d == tn) = gj at *
          generalize dr[j] = d at *
          cases gj
          · by_cases hd : d = tn
            · go_wp2
              go_roundw
              case rel => exact ⟨j + 1, by omega, by go_num, by rw [HS.out]; simp [hd], trivial⟩
              case measure => simp [intOf]; omega
            · go_wp2
              go_roundw
              case rel => exact ⟨j + 1, by omega, by go_num, by rw [HS.out]; simp, trivial⟩
              case measure => simp [intOf]; omega
          · go_wp2
            go_roundw
            case rel => exact ⟨j + 1, by omega, by go_num, by rw [HS.out]; simp, trivial⟩
            case measure => simp [intOf]; omega
        · obtain rfl : j = dr.length := by omega
          rw [List.take_length]
          have hgd : dr.any (fun d => d == tn) = goneM dr ⟨tn, td, tk, tv⟩ := rfl
          rw [hgd]
          clear hgd hcq
          generalize goneM dr ⟨tn, td, tk, tv⟩ = c at *
          cases c
          · obtain ⟨e1, e2⟩ := HNG.out (by trivial)
            have E1 : Hid (kpL l dr (k + 1) = zs ++ [⟨tn, td, tk, tv⟩] ∧ gnC l dr (k + 1) = G) := ⟨e1, e2⟩
            have HFL : Hid (flat4 (zs ++ [⟨tn, td, tk, tv⟩]) = flat4 zs ++ [.int .i64 tn, .int .i64 td, .string tk, .string tv]) := by show _ = _; rw [flat4_append]; rfl
            have ON := four_new wr tn td tk tv
            have hz1 := hB1.size
            clear e1 e2 HYG HNG
            go_wp2_with (at_builtin; refine wpList_append_own _ rfl _ _ 23 rfl w2.heap.size 82 i0 (.agg #[.int .i64 0, .int .i64 0, .string ⟨#[]⟩, .string ⟨#[]⟩]) 4 48 Try.underlying23 hi hz0 hzs hzb rfl (by decide) _ zs.length (flat4 zs) rfl (owns_below O1 (below_alloc _ _)) ⟨wr.heap.size, 0, none⟩ 1 1 [.int .i64 tn, .int .i64 td, .string tk, .string tv] rfl rfl ON (flat4_ones tn td tk tv) (by unfold maxLen; omega) (by omega) (by simp; omega) ?_; intro v' w4 hown4 hgrow4 _)
            go_roundw
            case rel =>
              refine ⟨k + 1, by omega, by go_num, by rw [E1.out.2], ?_, ?_⟩
              · rw [E1.out.1, HFL.out, List.length_append]; exact hown4
              · exact (hB1.alloc hz1 _).grown hgrow4 (by simp; omega) (owns_ge O1)
            case measure => simp [intOf]; omega
          · obtain ⟨e1, e2⟩ := HYG.out (by trivial)
            have E1 : Hid (kpL l dr (k + 1) = zs ∧ gnC l dr (k + 1) = G + 1) := ⟨e1, e2⟩
            clear e1 e2 HYG HNG
            go_wp2
            go_roundw
            case rel => exact ⟨k + 1, by omega, by go_num, by rw [E1.out.2]; go_num, by rw [E1.out.1]; exact O1, hB1⟩
            case measure => simp [intOf]; omega
    · obtain rfl : k = l.length := by omega
      have hKl := kpL_len l dr l.length (Nat.le_refl _)
      have KC := fun v W h => specGoodV_any nx2 sq2 v (insTo (kpL l dr l.length) ad ad.length) W h (by rw [insTo_len _ _ _ (Nat.le_refl _)]; omega) HZS.out
      clear HZS hc hcq
      generalize kpL l dr l.length = K at *
      generalize gnC l dr l.length = G at *
      go_wp2
      clear yl y0 y1 y2 y3
      go_loopw [6, 69] (fun s6 i wq => ∃ k : Nat, k ≤ ad.length ∧ i = .int .i64 k ∧ wq.ownsRow w2.heap.size 82 4 s6 (insTo K ad k).length (flat4 (insTo K ad k)) ∧ Below w2.heap.size w2 wq) (fun _ i _ => ad.length - (intOf i).toNat)
      case atStart => exact ⟨0, Nat.zero_le _, rfl, hown, hbr⟩
      case round =>
        clear hown hbr hzr
        obtain ⟨k, hk, rfl, hown, hbr⟩ := hrel
        have hzr := hbr.size
        have hil : (insTo K ad k).length ≤ 60 := by rw [insTo_len K ad k hk]; omega
        by_cases hlt : k < ad.length
        · obtain ⟨b, off, rfl, hbl, hcell⟩ := hcb (by intro e; simp [e] at hlt)
          have hc0 := (hbr.cell (p := ⟨b, off + k * 4, none⟩) hbl).trans (hcell k hlt).1
          have hc1 := (hbr.cell (p := ⟨b, off + k * 4 + 1, none⟩) hbl).trans (hcell k hlt).2.1
          have hc2 := (hbr.cell (p := ⟨b, off + k * 4 + 2, none⟩) hbl).trans (hcell k hlt).2.2.1
          have hc3 := (hbr.cell (p := ⟨b, off + k * 4 + 3, none⟩) hbl).trans (hcell k hlt).2.2.2
          have hbl2 : b < wr.heap.size := by omega
          have HIN : Hid (insTo K ad (k + 1) = (insTo K ad k).take (posM (insTo K ad k) ad[k]) ++ [ad[k]] ++ (insTo K ad k).drop (posM (insTo K ad k) ad[k])) := ins_succ K ad k hlt
          have HST : Hid (∀ j, j ≤ posM (insTo K ad k) ad[k] → ((j < (insTo K ad k).length ∧ ((insTo K ad k).getD j default).n < (ad[k]).n) ↔ j < posM (insTo K ad k) ad[k])) := fun j hj => posM_step _ _ j hj
          have hpl := posM_le (insTo K ad k) ad[k]
          clear hcell hcb KC HP
          generalize insTo K ad k = zs at *
          generalize posM zs ad[k] = p at *
          generalize ad[k] = t at *
          obtain ⟨tn, td, tk, tv⟩ := t
          dsimp only at *
          obtain ⟨_, sa, sc, hse, hsc⟩ := IX_of_owns hown rfl
          subst hse
          obtain ⟨W1, hW1⟩ : ∃ W1, W1 = wr.alloc (.cells #[.int .i64 tn, .int .i64 td, .string tk, .string tv] 82) := ⟨_, rfl⟩
          have Z1 : Box W1 wr.heap.size [.int .i64 tn, .int .i64 td, .string tk, .string tv] := by rw [hW1]; exact Box.new wr #[.int .i64 tn, .int .i64 td, .string tk, .string tv] 82
          have hB1 : Below w2.heap.size w2 W1 := by rw [hW1]; exact hbr.alloc hzr _
          have O1 : W1.ownsRow w2.heap.size 82 4 (.slice sa zs.length sc) zs.length (flat4 zs) := by rw [hW1]; exact owns_below hown (below_alloc _ _)
          go_wp2
          rw [← hW1]; clear hW1 hc0 hc1 hc2 hc3 hown hbr
          go_loopw [15] (fun i wq => ∃ j : Nat, j ≤ p ∧ i = .int .i64 j ∧ Below W1.heap.size W1 wq) (fun i _ => p - (intOf i).toNat)
          case atStart => exact ⟨0, Nat.zero_le _, rfl, Below.refl _ _⟩
          case round =>
            obtain ⟨j, hj, rfl, hbj⟩ := hrel
            have OJ := owns_below O1 hbj
            have hIJ := IR_of_owns OJ rfl
            obtain ⟨zl, z0, z1, z2, z3, _⟩ := (Z1.below hbj).e4
            obtain ⟨a', c', hse, hcz⟩ := id hIJ
            simp only [Value.slice.injEq, true_and] at hse
            obtain ⟨rfl, rfl⟩ := hse
            have HSj := HST.out j hj
            have hz1 := hB1.size
            have hzj := hbj.size
            have hBJ := hB1.trans (hbj.mono hz1)
            by_cases hjl : j < zs.length
            · obtain ⟨bz, offz, rfl, hbz, hcellz⟩ := hcz (by intro e; simp [e] at hjl)
              have hd0 := (hcellz j hjl).1
              rw [getD_at zs j hjl] at HSj
              by_cases hn : zs[j].n < tn
              · have hjp : j < p := HSj.1 ⟨hjl, hn⟩
                clear hcellz hcz hIJ HSj HST HIN OJ
                generalize zs[j].n = mn at *
                have hdj : decide ((j : Int) < (zs.length : Int)) = true := decide_eq_true (by omega)
                have hdj' : decide (j < zs.length) = true := decide_eq_true (by omega)
                go_wp2_with fail
                go_quiet (fail)
                go_wp2
                go_roundw
                case rel => exact ⟨j + 1, by omega, by go_num, below_drewN hbj _⟩
                case measure => simp [intOf]; omega
              · have hjp : ¬ j < p := fun h => hn (HSj.2 h).2
                clear hcellz hcz HSj HST
                generalize zs[j].n = mn at *
                have hdj : decide ((j : Int) < (zs.length : Int)) = true := decide_eq_true (by omega)
                have hdj' : decide (j < zs.length) = true := decide_eq_true (by omega)
                obtain rfl : j = p := by omega
                go_wp2_with fail
                go_quiet (fail)
                have hDw : Below wr.heap.size wr (wr.drewN nq) := below_drewN (Below.refl _ _) nq
                have OD := owns_below OJ hDw
                have ID := hIJ.below hDw
                have ZD := (Z1.below hbj).below hDw
                have hBD : Below w2.heap.size w2 (wr.drewN nq) := hBJ.trans (hDw.mono (Nat.le_trans hz1 hzj))
                clear z0 z1 z2 z3 zl hDw OJ hIJ hBJ hd0
                generalize wr.drewN nq = WD at *
                obtain ⟨zl, z0, z1, z2, z3, _⟩ := ZD.e4
                have HS1 := fun w => sl_to (some ⟨bz, offz, none⟩) zs.length sc j w (by omega)
                have I1 := IR_to ID hpl
                obtain ⟨sb, HS2, I2⟩ := sl_from WD (some ⟨bz, offz, none⟩) sc j zs ID hsc hpl
                have hA1 : (zs.take j).length ≤ 60 := by rw [List.length_take]; omega
                have hA2 : (zs.drop j).length ≤ 60 := by rw [List.length_drop]; omega
                have hzD := hBD.size
                clear ID OD
                generalize zs.take j = A1 at *
                generalize zs.drop j = A2 at *
                go_wp2_with (first | (refine wpList_sliceOp _ rfl 23 _ _ _ _ rfl _ (HS1 _) ?_; simp only [Act.put, List.setIfInBounds_toArray, List.set_cons_zero, List.set_cons_succ]) | (at_builtin; refine wpList_append_row _ rfl _ _ rfl rfl WD.heap.size _ 0 [] rfl (World.ownsRow_nil _ _ _ _) _ A1 rfl I1 (by omega) (Nat.le_refl _) ?_; intro v1 w3 hown3 hgrow3; refine StopP.go ?_))
                simp only [List.nil_append, Nat.zero_add] at hown3
                have hB3 : Below WD.heap.size WD w3 := (Below.refl _ _).grown hgrow3 (Nat.le_refl _) (fun j hj => by cases hj)
                have hz3 := hB3.size
                clear zl z0 z1 z2 z3 hgrow3 HS1 I1
                obtain ⟨zl, z0, z1, z2, z3, _⟩ := (ZD.below hB3).e4
                have ON := four_new w3 tn td tk tv
                have HFL : Hid (flat4 (A1 ++ [⟨tn, td, tk, tv⟩]) = flat4 A1 ++ [.int .i64 tn, .int .i64 td, .string tk, .string tv]) := by show _ = _; rw [flat4_append]; rfl
                unfold StopP
                go_wp2_with (at_builtin; refine wpList_append_own _ rfl _ _ 23 rfl WD.heap.size 82 i0 (.agg #[.int .i64 0, .int .i64 0, .string ⟨#[]⟩, .string ⟨#[]⟩]) 4 48 Try.underlying23 hi hz0 hzs hzb rfl (by decide) _ A1.length (flat4 A1) rfl (owns_below hown3 (below_alloc _ _)) ⟨w3.heap.size, 0, none⟩ 1 1 [.int .i64 tn, .int .i64 td, .string tk, .string tv] rfl rfl ON (flat4_ones tn td tk tv) (by unfold maxLen; omega) (by omega) (by simp; omega) ?_; intro v2 w4 hown4 hgrow4 _; refine StopP.go ?_)
                have hB4 : Below WD.heap.size WD w4 := (hB3.alloc hz3 _).grown hgrow4 (by simp; omega) (owns_ge hown3)
                rw [← HFL.out] at hown4
                have I4 := I2.below hB4
                have hz4 := hB4.size
                clear zl z0 z1 z2 z3 hgrow4 hown3 ON I2 ZD
                unfold StopP
                go_wp2_with (first | (refine wpList_sliceOp _ rfl 23 _ _ _ _ rfl _ (HS2 _) ?_; simp only [Act.put, List.setIfInBounds_toArray, List.set_cons_zero, List.set_cons_succ]) | (at_builtin; refine StopP.go ?_))
                unfold StopP
                refine wpList_append_row _ rfl _ _ rfl rfl WD.heap.size v2 (A1.length + 1) (A1 ++ [⟨tn, td, tk, tv⟩]) rfl hown4 (.slice sb (zs.length - j) (sc - j)) A2 rfl I4 (by omega) hz4 ?_
                intro v3 w5 hown5 hgrow5
                go_wp2
                go_roundw
                case rel =>
                  refine ⟨k + 1, by omega, by go_num, ?_, ?_⟩
                  · rw [HIN.out, List.length_append, List.length_append]; exact owns_mono hown5 hzD
                  · exact (hBD.trans (hB4.mono hzD)).grown hgrow5 (Nat.le_trans hzD hz4) (fun j hj => Nat.le_trans hzD (owns_ge hown4 j hj))
                case measure => simp [intOf]; omega
            · have hjp : ¬ j < p := fun h => hjl (HSj.2 h).1
              clear hcz HSj HST
              have hdj : decide ((j : Int) < (zs.length : Int)) = false := decide_eq_false (by omega)
              have hdj' : decide (j < zs.length) = false := decide_eq_false (by omega)
              obtain rfl : j = p := by omega
              go_wp2_with fail
              go_quiet (fail)
              have hDw : Below wr.heap.size wr (wr.drewN nq) := below_drewN (Below.refl _ _) nq
              have OD := owns_below OJ hDw
              have ID := hIJ.below hDw
              have ZD := (Z1.below hbj).below hDw
              have hBD : Below w2.heap.size w2 (wr.drewN nq) := hBJ.trans (hDw.mono (Nat.le_trans hz1 hzj))
              clear z0 z1 z2 z3 zl hDw OJ hIJ hBJ 
              generalize wr.drewN nq = WD at *
              obtain ⟨zl, z0, z1, z2, z3, _⟩ := ZD.e4
              have HS1 := fun w => sl_to sa zs.length sc j w (by omega)
              have I1 := IR_to ID hpl
              obtain ⟨sb, HS2, I2⟩ := sl_from WD sa sc j zs ID hsc hpl
              have hA1 : (zs.take j).length ≤ 60 := by rw [List.length_take]; omega
              have hA2 : (zs.drop j).length ≤ 60 := by rw [List.length_drop]; omega
              have hzD := hBD.size
              clear ID OD
              generalize zs.take j = A1 at *
              generalize zs.drop j = A2 at *
              go_wp2_with (first | (refine wpList_sliceOp _ rfl 23 _ _ _ _ rfl _ (HS1 _) ?_; simp only [Act.put, List.setIfInBounds_toArray, List.set_cons_zero, List.set_cons_succ]) | (at_builtin; refine wpList_append_row _ rfl _ _ rfl rfl WD.heap.size _ 0 [] rfl (World.ownsRow_nil _ _ _ _) _ A1 rfl I1 (by omega) (Nat.le_refl _) ?_; intro v1 w3 hown3 hgrow3; refine StopP.go ?_))
              simp only [List.nil_append, Nat.zero_add] at hown3
              have hB3 : Below WD.heap.size WD w3 := (Below.refl _ _).grown hgrow3 (Nat.le_refl _) (fun j hj => by cases hj)
              have hz3 := hB3.size
              clear zl z0 z1 z2 z3 hgrow3 HS1 I1
              obtain ⟨zl, z0, z1, z2, z3, _⟩ := (ZD.below hB3).e4
              have ON := four_new w3 tn td tk tv
              have HFL : Hid (flat4 (A1 ++ [⟨tn, td, tk, tv⟩]) = flat4 A1 ++ [.int .i64 tn, .int .i64 td, .string tk, .string tv]) := by show _ = _; rw [flat4_append]; rfl
              unfold StopP
              go_wp2_with (at_builtin; refine wpList_append_own _ rfl _ _ 23 rfl WD.heap.size 82 i0 (.agg #[.int .i64 0, .int .i64 0, .string ⟨#[]⟩, .string ⟨#[]⟩]) 4 48 Try.underlying23 hi hz0 hzs hzb rfl (by decide) _ A1.length (flat4 A1) rfl (owns_below hown3 (below_alloc _ _)) ⟨w3.heap.size, 0, none⟩ 1 1 [.int .i64 tn, .int .i64 td, .string tk, .string tv] rfl rfl ON (flat4_ones tn td tk tv) (by unfold maxLen; omega) (by omega) (by simp; omega) ?_; intro v2 w4 hown4 hgrow4 _; refine StopP.go ?_)
              have hB4 : Below WD.heap.size WD w4 := (hB3.alloc hz3 _).grown hgrow4 (by simp; omega) (owns_ge hown3)
              rw [← HFL.out] at hown4
              have I4 := I2.below hB4
              have hz4 := hB4.size
              clear zl z0 z1 z2 z3 hgrow4 hown3 ON I2 ZD
              unfold StopP
              go_wp2_with (first | (refine wpList_sliceOp _ rfl 23 _ _ _ _ rfl _ (HS2 _) ?_; simp only [Act.put, List.setIfInBounds_toArray, List.set_cons_zero, List.set_cons_succ]) | (at_builtin; refine StopP.go ?_))
              unfold StopP
              refine wpList_append_row _ rfl _ _ rfl rfl WD.heap.size v2 (A1.length + 1) (A1 ++ [⟨tn, td, tk, tv⟩]) rfl hown4 (.slice sb (zs.length - j) (sc - j)) A2 rfl I4 (by omega) hz4 ?_
              intro v3 w5 hown5 hgrow5
              go_wp2
              go_roundw
              case rel =>
                refine ⟨k + 1, by omega, by go_num, ?_, ?_⟩
                · rw [HIN.out, List.length_append, List.length_append]; exact owns_mono hown5 hzD
                · exact (hBD.trans (hB4.mono hzD)).grown hgrow5 (Nat.le_trans hzD hz4) (fun j hj => Nat.le_trans hzD (owns_ge hown4 j hj))
              case measure => simp [intOf]; omega
        · obtain rfl : k = ad.length := by omega
          obtain ⟨_, sa, sc, hse, hsc⟩ := IX_of_owns hown rfl
          subst hse
          clear hcb
          generalize insTo K ad ad.length = ZA at *
          obtain ⟨yl, y0, y1, y2, y3, _⟩ := (Y.below hbr).e4
          have hzw := hB.size
          have hBw : Below w.heap.size w wr := hB.trans (hbr.mono hzw)
          obtain ⟨W1, hW1⟩ : ∃ W1, W1 = wr.alloc (.cells #[.int .i64 nx2, .int .i64 sq2, .slice sa ZA.length sc] 25) := ⟨_, rfl⟩
          have hBW : Below w.heap.size w W1 := by rw [hW1]; exact hBw.alloc hBw.size _
          have hb2 : Below w2.heap.size w2 W1 := by rw [hW1]; exact hbr.alloc hzr _
          have Z1 : Box W1 wr.heap.size [.int .i64 nx2, .int .i64 sq2, .slice sa ZA.length sc] := by rw [hW1]; exact Box.new wr #[.int .i64 nx2, .int .i64 sq2, .slice sa ZA.length sc] 25
          have O1 : W1.ownsRow w2.heap.size 82 4 (.slice sa ZA.length sc) ZA.length (flat4 ZA) := by rw [hW1]; exact owns_below hown (below_alloc _ _)
          have Y1 : Box W1 (w.heap.size + 1) [.int .i64 nx2, .int .i64 sq2, .slice a2 dr.length cq, .slice a3 ad.length cb] := Y.below hb2
          have R1 : Box W1 (w.heap.size + 1 + 1) [.int .i64 0, .int .i64 0, .slice none 0 0] := R.below hb2
          have K2 := KC _ _ (IX_of_owns O1 rfl)
          have hRl := R.1
          have hgeO := owns_ge O1
          have Rr := R.below hbr
          clear KC hown hb2 R hB
          have hB := hBW
          have R := R1
          by_cases hG : G = dr.length
          rotate_left
          · have HGB : True := trivial
            have HZS : True := trivial
            have hGi : ¬ ((G : Int) = (dr.length : Int)) := by omega
            subst hW1
            obtain ⟨hr', s0, s1, s2, e0, e1, e2⟩ := Rr.c3
            obtain rfl : BB = false := by rw [HP.out.1]; simp [hG]
            obtain ⟨rfl, rfl, rfl⟩ : RX = 0 ∧ RY = 0 ∧ RA = [] := ⟨HP.out.2.1, HP.out.2.2.1, HP.out.2.2.2⟩
            have Rp := (put3_box Rr (.int .i64 0) (.int .i64 0) (.slice none 0 0)).alloc (.cells #[.int .i64 nx2, .int .i64 sq2, .slice sa ZA.length sc] 25)
            have hq := hBw.trans ((put3_chg wr (w.heap.size + 1 + 1) (.int .i64 0) (.int .i64 0) (.slice none 0 0)).below (B := w.heap.size) hBw.size (fun k hk => by omega))
            have hBE := hq.alloc hq.size (.cells #[.int .i64 nx2, .int .i64 sq2, .slice sa ZA.length sc] 25)
            obtain ⟨_, r0, r1, r2, _⟩ := Rp.c3
            unfold put3 at hBE r0 r1 r2
            clear HP hq Rp
            go_wp2
            exact bodyPost_ret (v := .tuple #[.agg #[.int .i64 0, .int .i64 0, .slice none 0 0], .bool false]) (by simp [results, Try.results58, go_sem, r0, r1, r2]) rfl ⟨_, rfl, World.ownsRow_nil _ _ _ _, hBE⟩
          subst hG
          go_wp2_with fail
          rw [← hW1]
          clear hW1 Rr Y hbr
          refine K2.mono ?_
          rintro e w6 ⟨rfl, hb6⟩
          clear yl y0 y1 y2 y3
          replace hB := below_then hB hb6
          replace R := R.below hb6
          replace Z1 := Z1.below hb6
          replace O1 := owns_below O1 hb6
          clear hb6 K2 hBW R1 Y1
          generalize goodV nx2 sq2 ZA = g5 at *
          cases g5
          · have HGB : True := trivial
            have HZS : True := trivial
            obtain rfl : BB = false := by rw [HP.out.1]; simp
            obtain ⟨rfl, rfl, rfl⟩ : RX = 0 ∧ RY = 0 ∧ RA = [] := ⟨HP.out.2.1, HP.out.2.2.1, HP.out.2.2.2⟩
            obtain ⟨hr, r0, r1, r2, f0, f1, f2⟩ := R.c3
            have hBE := hB.trans ((put3_chg _ (w.heap.size + 1 + 1) (.int .i64 0) (.int .i64 0) (.slice none 0 0)).below (B := w.heap.size) hB.size (fun k hk => by omega))
            clear HP HGB HZS
            go_wp2
            exact bodyPost_ret (v := .tuple #[.agg #[.int .i64 0, .int .i64 0, .slice none 0 0], .bool false]) (by simp [results, Try.results58, go_sem, r0, r1, r2]) rfl ⟨_, rfl, World.ownsRow_nil _ _ _ _, hBE⟩
          obtain rfl : BB = true := by rw [HP.out.1]; simp [h1, h2]
          have hRX : nx2 = RX := HP.out.2.1.symm
          have hRY : sq2 = RY := HP.out.2.2.1.symm
          have hRA : ZA = RA := HP.out.2.2.2.symm
          subst hRX hRY hRA
          clear HP
          obtain ⟨hp, p0, p1, p2, _⟩ := Z1.c3
          obtain ⟨hr, r0, r1, r2, f0, f1, f2⟩ := R.c3
          have hCE := put3_chg w6 (w.heap.size + 1 + 1) (.int .i64 nx2) (.int .i64 sq2) (.slice sa ZA.length sc)
          have OE := hCE.owns (owns_mono O1 hzw) (fun g hg hh => by have := hgeO g hg; omega)
          have hBE := hB.trans (hCE.below (B := w.heap.size) hB.size (fun k hk => by omega))
          clear hCE
          go_wp2
          exact bodyPost_ret (v := .tuple #[.agg #[.int .i64 nx2, .int .i64 sq2, .slice sa ZA.length sc], .bool true]) (by simp [results, Try.results58, go_sem, r0, r1, r2]) rfl ⟨_, rfl, OE, hBE⟩
end Go.Proofs.Ytenbdjlhcadhaaa

namespace Go.Proofs.Ytenbdjlhcadhaaa
open Go.RowKit Go.Maps
set_option linter.unusedVariables false
set_option maxRecDepth 100000

set_option maxHeartbeats 8000000 in
theorem specApply_any (nx sq nx2 sq2 : Int) (va vq vb : Value) (l : List Mt) (dr : List Int) (ad : List Mt) (w : World) (HA : IX w va l) (hvq : IL w vq dr) (hvb : IR w vb ad) (hna : l.length ≤ 1048576) (hnd : dr.length ≤ 1048576) (hnb : ad.length ≤ 1048576) (hsa : ∀ i (h : i < l.length), l[i].k.size ≤ 1048576 ∧ l[i].v.size ≤ 1048576) (hsb : ∀ i (h : i < ad.length), ad[i].k.size ≤ 1048576 ∧ ad[i].v.size ≤ 1048576) :
    Calls Try.prog 17 #[.agg #[.int .i64 nx, .int .i64 sq, va], .agg #[.int .i64 nx2, .int .i64 sq2, vq, vb]] w fun e w' => ∃ u, e = .returned (.tuple #[.agg #[.int .i64 (apX nx sq l nx2 sq2 dr ad), .int .i64 (apY nx sq l nx2 sq2 dr ad), u], .bool (apB nx sq l nx2 sq2 dr ad)]) ∧ w'.ownsRow w.heap.size 82 4 u (apA nx sq l nx2 sq2 dr ad).length (flat4 (apA nx sq l nx2 sq2 dr ad)) ∧ Below w.heap.size w w' := by
  obtain ⟨W0, hW0⟩ : ∃ W0, W0 = ((w.alloc (.cells #[.int .i64 nx, .int .i64 sq, va] 25)).alloc (.cells #[.int .i64 nx2, .int .i64 sq2, vq, vb] 30)).alloc (.cells #[.int .i64 0, .int .i64 0, .slice none 0 0] 25) := ⟨_, rfl⟩
  have hB : Below w.heap.size w W0 := by rw [hW0]; exact below3 _ _ _ _
  have X : Box W0 w.heap.size [.int .i64 nx, .int .i64 sq, va] := by rw [hW0]; exact ((Box.new w #[.int .i64 nx, .int .i64 sq, va] 25).alloc _).alloc _
  have Y : Box W0 (w.heap.size + 1) [.int .i64 nx2, .int .i64 sq2, vq, vb] := by
    rw [hW0]
    have := (Box.new (w.alloc (.cells #[.int .i64 nx, .int .i64 sq, va] 25)) #[.int .i64 nx2, .int .i64 sq2, vq, vb] 30).alloc (.cells #[.int .i64 0, .int .i64 0, .slice none 0 0] 25)
    simpa using this
  have R : Box W0 (w.heap.size + 1 + 1) [.int .i64 0, .int .i64 0, .slice none 0 0] := by
    rw [hW0]
    have := Box.new ((w.alloc (.cells #[.int .i64 nx, .int .i64 sq, va] 25)).alloc (.cells #[.int .i64 nx2, .int .i64 sq2, vq, vb] 30)) #[.int .i64 0, .int .i64 0, .slice none 0 0] 25
    simpa using this
  have KA := specGoodV_any nx sq va l _ (HA.below hB) hna hsa
  have HN : Hid (goodV nx sq l = false → apB nx sq l nx2 sq2 dr ad = false ∧ apX nx sq l nx2 sq2 dr ad = 0 ∧ apY nx sq l nx2 sq2 dr ad = 0 ∧ apA nx sq l nx2 sq2 dr ad = []) := fun h => by
    have hb : apB nx sq l nx2 sq2 dr ad = false := by unfold apB; rw [h]; simp
    exact ⟨hb, by unfold apX; rw [hb]; rfl, by unfold apY; rw [hb]; rfl, by unfold apA; rw [hb]; rfl⟩
  have KB : Hid (∀ W, Below w.heap.size w W → goodV nx sq l = true → Calls Try.prog 58 #[.agg #[.int .i64 nx, .int .i64 sq, va], .agg #[.int .i64 nx2, .int .i64 sq2, vq, vb]] W fun e w' => ∃ u, e = .returned (.tuple #[.agg #[.int .i64 (apX nx sq l nx2 sq2 dr ad), .int .i64 (apY nx sq l nx2 sq2 dr ad), u], .bool (apB nx sq l nx2 sq2 dr ad)]) ∧ w'.ownsRow W.heap.size 82 4 u (apA nx sq l nx2 sq2 dr ad).length (flat4 (apA nx sq l nx2 sq2 dr ad)) ∧ Below W.heap.size W w') := fun W hW hg => l9Apply_any nx sq nx2 sq2 va vq vb l dr ad W (HA.below hW) (hvq.below hW) (hvb.below hW) hna hnd hnb hsa hsb hg
  generalize apB nx sq l nx2 sq2 dr ad = BB at *
  generalize apX nx sq l nx2 sq2 dr ad = RX at *
  generalize apY nx sq l nx2 sq2 dr ad = RY at *
  generalize apA nx sq l nx2 sq2 dr ad = RA at *
  generalize goodV nx sq l = g1 at *
  have hva := HA.1
  obtain ⟨a, ca, hve, _⟩ := id hva
  obtain ⟨a2, cq, hve2, _⟩ := id hvq
  obtain ⟨a3, cb, hve3, _⟩ := id hvb
  subst hve hve2 hve3
  clear hsa hsb HA
  obtain ⟨hp, p0, p1, p2, _⟩ := X.c3
  go_enter Try.func17, Try.ntmps17
  go_wp2_with fail
  rw [← hW0]; clear hW0
  refine KA.mono ?_
  rintro e w1 ⟨rfl, hb1⟩
  replace hB := below_then hB hb1
  replace X := X.below hb1
  replace Y := Y.below hb1
  replace R := R.below hb1
  clear hb1 KA hp p0 p1 p2
  cases g1
  · obtain ⟨rfl, rfl, rfl, rfl⟩ := HN.out (by trivial)
    obtain ⟨hr, r0, r1, r2, f0, f1, f2⟩ := R.c3
    have hBE := hB.trans ((put3_chg _ (w.heap.size + 1 + 1) (.int .i64 0) (.int .i64 0) (.slice none 0 0)).below (B := w.heap.size) hB.size (fun k hk => by omega))
    clear HN KB
    go_wp2
    exact bodyPost_ret (v := .tuple #[.agg #[.int .i64 0, .int .i64 0, .slice none 0 0], .bool false]) (by simp [results, Try.results17, go_sem, r0, r1, r2]) rfl ⟨_, rfl, World.ownsRow_nil _ _ _ _, hBE⟩
  have K2 := KB.out _ hB (by trivial)
  obtain ⟨hp, p0, p1, p2, _⟩ := X.c3
  obtain ⟨hq, q0, q1, q2, q3, _⟩ := Y.e4
  clear KB HN
  go_wp2_with fail
  refine K2.mono ?_
  rintro e w2 ⟨u, rfl, O, hb2⟩
  have hz1 := hB.size
  have hr1 := R.1
  have hgeO := owns_ge O
  replace hB := below_then hB hb2
  replace R := R.below hb2
  clear hb2 K2 hp p0 p1 p2 hq q0 q1 q2 q3 X Y
  obtain ⟨ua, uc, rfl⟩ := owns_shape O
  obtain ⟨hr, r0, r1, r2, f0, f1, f2⟩ := R.c3
  have hCE := put3_chg w2 (w.heap.size + 1 + 1) (.int .i64 RX) (.int .i64 RY) (.slice ua RA.length uc)
  have OE := hCE.owns (owns_mono O hz1) (fun g hg hh => by have := hgeO g hg; omega)
  have hBE := hB.trans (hCE.below (B := w.heap.size) hB.size (fun k hk => by omega))
  clear hCE
  go_wp2
  exact bodyPost_ret (v := .tuple #[.agg #[.int .i64 RX, .int .i64 RY, .slice ua RA.length uc], .bool BB]) (by simp [results, Try.results17, go_sem, r0, r1, r2]) rfl ⟨_, rfl, OE, hBE⟩
end Go.Proofs.Ytenbdjlhcadhaaa

namespace Go.Proofs.Ytenbdjlhcadhaaa
open Go.RowKit
set_option linter.unusedVariables false
set_option maxRecDepth 100000

abbrev St := Int × Int × List Mt
noncomputable def stGo (v : St) (r : ByteArray) : Bool := apB v.1 v.2.1 v.2.2 (rdE (tfT r)).1 (rdE (tfT r)).2.1 (rdE (tfT r)).2.2.1 (rdE (tfT r)).2.2.2
noncomputable def stNx (v : St) (r : ByteArray) : St := (apX v.1 v.2.1 v.2.2 (rdE (tfT r)).1 (rdE (tfT r)).2.1 (rdE (tfT r)).2.2.1 (rdE (tfT r)).2.2.2, apY v.1 v.2.1 v.2.2 (rdE (tfT r)).1 (rdE (tfT r)).2.1 (rdE (tfT r)).2.2.1 (rdE (tfT r)).2.2.2, apA v.1 v.2.1 v.2.2 (rdE (tfT r)).1 (rdE (tfT r)).2.1 (rdE (tfT r)).2.2.1 (rdE (tfT r)).2.2.2)
def tfL (r : ByteArray) : ByteArray := r.extract (tfN r) r.size
noncomputable def rv : Nat → ByteArray → St → Nat → St × Nat
  | 0, _, v, k => (v, k)
  | f + 1, r, v, k => if stGo v r then rv f (tfL r) (stNx v r) (k + 1) else (v, k)
noncomputable def rvE (s : ByteArray) : St × Nat := rv 60 s (1, 0, []) 0
theorem tfL_size (r : ByteArray) : (tfL r).size ≤ r.size := by unfold tfL; rw [ByteArray.size_extract]; omega
theorem rd_zero {s : ByteArray} (h : rdB s = false) : rdE s = (0, 0, [], []) := by
  have hx : ¬ ∃ e, VE' s e := fun hx => by
    unfold rdB at h
    rw [@decide_eq_true _ (Classical.propDecidable _) hx] at h
    cases h
  unfold rdE
  rw [dif_neg hx]
theorem rd_none : rdB ⟨#[]⟩ = false := by
  refine (rd_no fun e h => ?_).1
  have h1 := h.2.2
  have h2 : (edL e.1 e.2.1 e.2.2.1 e.2.2.2).length = 0 := by rw [← h1]; rfl
  unfold edL at h2
  simp only [List.length_append] at h2
  have := varL_pos e.1.toNat
  omega
theorem go_ok {v : St} {r : ByteArray} (h : stGo v r = true) : tfOk r = true ∧ rdB (tfT r) = true := by
  have hb : rdB (tfT r) = true := by
    cases hb : rdB (tfT r) with
    | true => rfl
    | false =>
      unfold stGo at h
      rw [rd_zero hb] at h
      unfold apB at h
      have hg : goodE 0 0 [] [] = false := by decide
      simp [hg] at h
  refine ⟨?_, hb⟩
  cases ho : tfOk r with
  | true => rfl
  | false =>
    have : tfT r = ⟨#[]⟩ := by unfold tfT; rw [ho]; rfl
    rw [this, rd_none] at hb
    cases hb
theorem go_good {v : St} {r : ByteArray} (h : stGo v r = true) : goodV (stNx v r).1 (stNx v r).2.1 (stNx v r).2.2 = true := by
  have h0 := h
  unfold stGo apB at h
  simp only [Bool.and_eq_true] at h
  unfold stNx apX apY apA
  unfold stGo at h0
  dsimp only
  rw [if_pos h0, if_pos h0, if_pos h0]
  exact h.2
theorem start_good : goodV 1 0 [] = true := by decide
theorem good_sizes {nx sq : Int} {l : List Mt} (h : goodV nx sq l = true) : l.length ≤ 30 ∧ ∀ i (h : i < l.length), l[i].k.size ≤ 1048576 ∧ l[i].v.size ≤ 1048576 :=
  ⟨goodV_len h, fun i hi => by have := okMt_key (goodMs_ok (goodV_ms h) hi); omega⟩
theorem rd_sizes (s : ByteArray) : (rdE s).2.2.1.length ≤ 30 ∧ (rdE s).2.2.2.length ≤ 30 ∧ ∀ i (h : i < (rdE s).2.2.2.length), (rdE s).2.2.2[i].k.size ≤ 1048576 ∧ (rdE s).2.2.2[i].v.size ≤ 1048576 := by
  unfold rdE
  split
  · rename_i h
    obtain ⟨_, _, h3, h4⟩ := goodE_parts (Classical.choose_spec h).1
    exact ⟨h3.1, h4.1, fun i hi => by have := okMt_key (goodMs_ok h4.2 hi); omega⟩
  · exact ⟨by simp, by simp, fun i hi => by simp at hi⟩
theorem rv_go {f : Nat} {r : ByteArray} {v : St} {k : Nat} (h : stGo v r = true) : rv (f + 1) r v k = rv f (tfL r) (stNx v r) (k + 1) := by simp [rv, h]
theorem rv_no {f : Nat} {r : ByteArray} {v : St} {k : Nat} (h : stGo v r = false) : rv f r v k = (v, k) := by
  cases f with
  | zero => rfl
  | succ f => simp [rv, h]
end Go.Proofs.Ytenbdjlhcadhaaa

namespace Go.Proofs.Ytenbdjlhcadhaaa
open Go.RowKit
set_option linter.unusedVariables false
set_option maxRecDepth 100000

set_option maxHeartbeats 8000000 in
theorem implRecover_any (s : ByteArray) (w : World) (hs : s.size ≤ 1048576) :
    Calls Try.prog 44 #[.string s] w fun e w' => ∃ u, e = .returned (.tuple #[.agg #[.int .i64 (rvE s).1.1, .int .i64 (rvE s).1.2.1, u], .int .i64 ((rvE s).2 : Nat), .bool true]) ∧ w'.ownsRow w.heap.size 82 4 u (rvE s).1.2.2.length (flat4 (rvE s).1.2.2) ∧ Below w.heap.size w w' := by
  have H0 : Hid (rv (60 - 0) s (1, 0, []) 0 = rvE s) := rfl
  generalize rvE s = RR at *
  obtain ⟨⟨RX, RY, RL⟩, RK⟩ := RR
  dsimp only at *
  have hB := below_alloc w (.cells #[.int .i64 0, .int .i64 0, .slice none 0 0] 25)
  have R := Box.new w #[.int .i64 0, .int .i64 0, .slice none 0 0] 25
  go_enter Try.func44, Try.ntmps44
  go_wp2_with fail
  refine (implNew_any _).mono ?_
  rintro e w1 ⟨rfl, hb1⟩
  replace R := R.below hb1
  replace hB := below_then hB hb1
  clear hb1
  obtain ⟨W1, hW1⟩ : ∃ W1, W1 = w1.alloc (.cells #[.int .i64 1, .int .i64 0, .slice none 0 0] 25) := ⟨_, rfl⟩
  have V : Box W1 w1.heap.size [.int .i64 1, .int .i64 0, .slice none 0 0] := by rw [hW1]; exact Box.new w1 #[.int .i64 1, .int .i64 0, .slice none 0 0] 25
  have hb1 : Below w1.heap.size w1 W1 := by rw [hW1]; exact below_alloc _ _
  have hRl := R.1
  replace R := R.below hb1
  replace hB := below_then hB hb1
  clear hb1
  go_wp2_with fail
  rw [← hW1]; clear hW1
  generalize w1.heap.size = vb at *
  have hVl := V.1
  have hz1 := hB.size
  go_loopw [0, 6] (fun s0 s6 wr => ∃ (k : Nat) (r : ByteArray) (vx vy : Int) (vl : List Mt) (u : Value), k ≤ 60 ∧ s0 = .string r ∧ s6 = .int .i64 k ∧ r.size ≤ 1048576 ∧ rv (60 - k) r (vx, vy, vl) k = ((RX, RY, RL), RK) ∧ goodV vx vy vl = true ∧ Box wr vb [.int .i64 vx, .int .i64 vy, u] ∧ wr.ownsRow w.heap.size 82 4 u vl.length (flat4 vl) ∧ (∀ g, u.ownBlock = some g → W1.heap.size ≤ g) ∧ Chg (fun j => j = vb ∨ W1.heap.size ≤ j) W1 wr) (fun _ i _ => 60 - (intOf i).toNat)
  case atStart => exact ⟨0, s, 1, 0, [], _, by omega, rfl, rfl, hs, H0.out, start_good, V, World.ownsRow_nil _ _ _ _, (fun g hg => by simp [Value.ownBlock] at hg), Chg.refl _ _⟩
  case round =>
    clear V H0
    obtain ⟨k, r, vx, vy, vl, u, hk, rfl, rfl, hrs, hrv, hgv, Vr, Ow, hgu, hC⟩ := hrel
    have HRV : Hid (rv (60 - k) r (vx, vy, vl) k = ((RX, RY, RL), RK)) := hrv
    clear hrv
    obtain ⟨ua, uc, rfl⟩ := owns_shape Ow
    have Rr := hC.box R (by omega)
    have hBr := hB.trans (hC.below (B := w.heap.size) hz1 (fun j hj => by omega))
    have hzr := hC.size
    by_cases hlt : k < 60
    · obtain ⟨f, hf⟩ : ∃ f, 60 - k = f + 1 := ⟨60 - k - 1, by omega⟩
      have HNX : Hid (stGo (vx, vy, vl) r = true → rv (60 - (k + 1)) (tfL r) (stNx (vx, vy, vl) r) (k + 1) = ((RX, RY, RL), RK) ∧ goodV (stNx (vx, vy, vl) r).1 (stNx (vx, vy, vl) r).2.1 (stNx (vx, vy, vl) r).2.2 = true) := fun h => by
        have h1 := HRV.out
        rw [hf, rv_go h] at h1
        rw [show 60 - (k + 1) = f from by omega]
        exact ⟨h1, go_good h⟩
      have HNO : Hid (stGo (vx, vy, vl) r = false → ((vx, vy, vl), k) = ((RX, RY, RL), RK)) := fun h => by
        have h1 := HRV.out
        rw [rv_no h] at h1
        exact h1
      have TF := implTakeFrame_any r wr hrs
      have RE := fun W => implRead_any (tfT r) W (by have := tfT_size r; omega)
      obtain ⟨hvn, hvs⟩ := good_sizes hgv
      obtain ⟨e1, e2, e3⟩ := rd_sizes (tfT r)
      have AP : ∀ W u q u', IX W u vl → IL W q (rdE (tfT r)).2.2.1 → IR W u' (rdE (tfT r)).2.2.2 → Calls Try.prog 16 #[.agg #[.int .i64 vx, .int .i64 vy, u], .agg #[.int .i64 (rdE (tfT r)).1, .int .i64 (rdE (tfT r)).2.1, q, u']] W fun e w' => ∃ x, e = .returned (.tuple #[.agg #[.int .i64 (stNx (vx, vy, vl) r).1, .int .i64 (stNx (vx, vy, vl) r).2.1, x], .bool (stGo (vx, vy, vl) r)]) ∧ w'.ownsRow W.heap.size 82 4 x (stNx (vx, vy, vl) r).2.2.length (flat4 (stNx (vx, vy, vl) r).2.2) ∧ Below W.heap.size W w' := fun W u q u' h1 h2 h3 => implApply_any vx vy _ _ u q u' vl _ _ W h1 h2 h3 (by omega) (by omega) (by omega) hvs e3
      have SL := fun w => str_from r (tfN r) w (tfN_le r)
      have hL : r.extract (tfN r) r.size = tfL r := rfl
      have hls := tfL_size r
      rw [hL] at SL
      clear HRV hL hvs e3 hf f
      generalize stGo (vx, vy, vl) r = go at *
      generalize stNx (vx, vy, vl) r = N at *
      obtain ⟨Nx, Ny, Nl⟩ := N
      generalize rdE (tfT r) = E at *
      obtain ⟨Ex, Ey, Ed, Ea⟩ := E
      generalize rdB (tfT r) = eb at *
      generalize tfT r = fr at *
      generalize tfOk r = ok at *
      generalize tfL r = r2 at *
      generalize tfN r = n at *
      dsimp only at *
      go_wp2_with fail
      refine TF.mono ?_
      rintro e w3 ⟨rfl, hb3⟩
      replace Vr := Vr.below hb3
      replace Ow := owns_below Ow hb3
      replace Rr := Rr.below hb3
      replace hBr := below_then hBr hb3
      replace hC := hC.trans (Chg.of_below hb3)
      clear TF hb3 hzr
      go_wp2_with fail
      refine (RE _).mono ?_
      rintro e w4 ⟨eu, ev, rfl, OD, OA, hb4⟩
      replace Vr := Vr.below hb4
      replace Ow := owns_below Ow hb4
      replace Rr := Rr.below hb4
      replace hBr := below_then hBr hb4
      replace hC := hC.trans (Chg.of_below hb4)
      clear RE hb4
      obtain ⟨da, dc, rfl⟩ := owns_shape OD
      obtain ⟨aa, ac, rfl⟩ := owns_shape OA
      obtain ⟨W4, hW4⟩ : ∃ W4, W4 = w4.alloc (.cells #[.int .i64 Ex, .int .i64 Ey, .slice da Ed.length dc, .slice aa Ea.length ac] 30) := ⟨_, rfl⟩
      have EB : Box W4 w4.heap.size [.int .i64 Ex, .int .i64 Ey, .slice da Ed.length dc, .slice aa Ea.length ac] := by rw [hW4]; exact Box.new w4 #[.int .i64 Ex, .int .i64 Ey, .slice da Ed.length dc, .slice aa Ea.length ac] 30
      have hb4 : Below w4.heap.size w4 W4 := by rw [hW4]; exact below_alloc _ _
      obtain ⟨vl4, v0, v1, v2, _⟩ := Vr.c3
      replace Vr := Vr.below hb4
      replace Ow := owns_below Ow hb4
      replace Rr := Rr.below hb4
      replace OD := owns_below OD hb4
      replace OA := owns_below OA hb4
      replace hBr := below_then hBr hb4
      replace hC := hC.trans (Chg.of_below hb4)
      clear hb4
      have AP2 := AP W4 _ _ _ (IX_of_owns Ow rfl) (IL_of_owns OD rfl) (IR_of_owns OA rfl)
      clear AP
      obtain ⟨el, x0, x1, x2, x3, _⟩ := EB.e4
      subst hW4
      go_wp2_with fail
      refine AP2.mono ?_
      rintro e w5 ⟨x, rfl, OX, hb5⟩
      have hzX := hC.size
      have hgX := owns_ge OX
      replace Vr := Vr.below hb5
      replace Ow := owns_below Ow hb5
      replace Rr := Rr.below hb5
      replace hC := hC.trans (Chg.of_below hb5)
      have hzB := hBr.size
      replace hBr := below_then hBr hb5
      replace OX := owns_mono OX hzB
      clear AP2 hb5 OD OA EB el x0 x1 x2 x3 vl4 v0 v1 v2
      obtain ⟨xa, xc, rfl⟩ := owns_shape OX
      obtain ⟨W5, hW5⟩ : ∃ W5, W5 = w5.alloc (.cells #[.int .i64 Nx, .int .i64 Ny, .slice xa Nl.length xc] 25) := ⟨_, rfl⟩
      have CB : Box W5 w5.heap.size [.int .i64 Nx, .int .i64 Ny, .slice xa Nl.length xc] := by rw [hW5]; exact Box.new w5 #[.int .i64 Nx, .int .i64 Ny, .slice xa Nl.length xc] 25
      have hb5 : Below w5.heap.size w5 W5 := by rw [hW5]; exact below_alloc _ _
      have V5 := Vr
      have R5 := Rr
      have O5 := Ow
      have hB5 := hBr
      have hV5 := Vr.1
      replace Vr := Vr.below hb5
      replace Ow := owns_below Ow hb5
      replace Rr := Rr.below hb5
      replace OX := owns_below OX hb5
      replace hBr := below_then hBr hb5
      replace hC := hC.trans (Chg.of_below hb5)
      clear hb5
      cases go
      · have hE := HNO.out (by trivial)
        simp only [Prod.mk.injEq] at hE
        obtain ⟨⟨rfl, rfl, rfl⟩, rfl⟩ := hE
        obtain ⟨vl5, v0, v1, v2, _⟩ := V5.c3
        obtain ⟨hr, r0, r1, r2', f0, f1, f2⟩ := R5.c3
        have hCE := put3_chg w5 w.heap.size (.int .i64 vx) (.int .i64 vy) (.slice ua vl.length uc)
        have OE := owns_below (hCE.owns O5 (fun g hg hh => by have := hgu g hg; omega)) (below_alloc _ (.cells #[.int .i64 Nx, .int .i64 Ny, .slice xa Nl.length xc] 25))
        have hq := hB5.trans (hCE.below (B := w.heap.size) hB5.size (fun k hk => by omega))
        have hBE := hq.alloc hq.size (.cells #[.int .i64 Nx, .int .i64 Ny, .slice xa Nl.length xc] 25)
        obtain ⟨_, s0, s1, s2, _⟩ := ((put3_box R5 (.int .i64 vx) (.int .i64 vy) (.slice ua vl.length uc)).alloc (.cells #[.int .i64 Nx, .int .i64 Ny, .slice xa Nl.length xc] 25)).c3
        unfold put3 at OE hBE s0 s1 s2
        clear HNX HNO SL hCE hq hW5 CB Vr Rr Ow OX hBr hC
        go_wp2
        exact bodyPost_ret (v := .tuple #[.agg #[.int .i64 vx, .int .i64 vy, .slice ua vl.length uc], .int .i64 (k : Int), .bool true]) (by simp [results, Try.results44, go_sem, s0, s1, s2]) rfl ⟨_, rfl, OE, hBE⟩
      · obtain ⟨hrv2, hgv2⟩ := HNX.out (by trivial)
        have HR2 : Hid (rv (60 - (k + 1)) r2 (Nx, Ny, Nl) (k + 1) = ((RX, RY, RL), RK)) := hrv2
        clear HNX HNO hrv2
        go_wp2_with fail
        rw [← hW5]; clear hW5
        have hD : Below W5.heap.size W5 W5.drew := (Below.refl _ _).drew
        replace Vr := Vr.below hD
        replace CB := CB.below hD
        replace OX := owns_below OX hD
        replace hC := hC.trans (Chg.of_below hD)
        clear hD
        refine wp_region_held_drew (S := fun w' => Box w' w5.heap.size [.int .i64 Nx, .int .i64 Ny, .slice xa Nl.length xc]) (by kernel_rfl) CB (fun hHeld => ?_)
        generalize W5.drew = v0 at *
        refine wpAnyH_take (i := 0) (oi := { dst := some 36, op := Op.load 25 (Operand.tmp 12), type := 25, pos := "l9_version.go:110", after := #[], guard := none }) (v := .agg #[.int .i64 Nx, .int .i64 Ny, .slice xa Nl.length xc]) rfl (by kernel_rfl) (by kernel_rfl) (by kernel_rfl) (fun _ _ _ h => h) (Or.inl ⟨by rfl, ?_⟩) (by assumption) ?_
        · intro wx hSw
          have e0 := hSw.2.1 0 _ rfl; have e1 := hSw.2.1 1 _ rfl; have e2 := hSw.2.1 2 _ rfl; clear hHeld; go_simp
        simp only [Act.put, List.setIfInBounds_toArray, List.set_cons_zero, List.set_cons_succ]
        refine wpAnyH_take (i := 1) (oi := { dst := some 37, op := Op.move (Operand.tmp 0), type := 9, pos := "l9_version.go:110", after := #[], guard := none }) (v := .string r) rfl (by kernel_rfl) (by kernel_rfl) (by kernel_rfl) (fun _ _ _ h => h) (Or.inl ⟨by rfl, ?_⟩) (by assumption) ?_
        · intro wx hSw
          clear hSw hHeld; go_simp
        simp only [Act.put, List.setIfInBounds_toArray, List.set_cons_zero, List.set_cons_succ]
        refine wpAnyH_take (i := 2) (oi := { dst := some 38, op := Op.move (Operand.tmp 8), type := 3, pos := "l9_version.go:110", after := #[], guard := none }) (v := .int .i64 (n : Int)) rfl (by kernel_rfl) (by kernel_rfl) (by kernel_rfl) (fun _ _ _ h => h) (Or.inl ⟨by rfl, ?_⟩) (by assumption) ?_
        · intro wx hSw
          clear hSw hHeld; go_simp
        simp only [Act.put, List.setIfInBounds_toArray, List.set_cons_zero, List.set_cons_succ]
        refine wpAnyH_take (i := 3) (oi := { dst := some 39, op := Op.slice 9 (Operand.tmp 37) (some (Operand.tmp 38)) none none, type := 9, pos := "l9_version.go:110", after := #[{ on := 1, ground := Ground.data }, { on := 2, ground := Ground.data }], guard := none }) (v := .string r2) rfl (by kernel_rfl) (by kernel_rfl) (by kernel_rfl) (fun _ _ _ h => h) (Or.inl ⟨by rfl, ?_⟩) (by assumption) ?_
        · intro wx hSw
          clear hSw hHeld; have e := SL wx; go_simp
        simp only [Act.put, List.setIfInBounds_toArray, List.set_cons_zero, List.set_cons_succ]
        obtain ⟨vl5, v0', v1, v2, f0, f1, f2⟩ := Vr.c3
        refine wpAnyH_ready (rs := [4]) (by kernel_rfl) (by simp) ?_
        refine AllReadyH.cons (o := { dst := none, op := Op.store 25 (Operand.tmp 5) (Operand.tmp 36), type := 0, pos := "l9_version.go:110", after := #[{ on := 0, ground := Ground.data }, { on := 0, ground := Ground.phase }, { on := 1, ground := Ground.textOnly Departure.lateStores }, { on := 2, ground := Ground.textOnly Departure.lateStores }, { on := 3, ground := Ground.textOnly Departure.lateStoresUnsure }], guard := none }) rfl (fun K hK => ?_) AllReadyH.nil
        clear hHeld
        have hC6 := put3_chg v0 vb (.int .i64 Nx) (.int .i64 Ny) (.slice xa Nl.length xc)
        have V6 := put3_box Vr (.int .i64 Nx) (.int .i64 Ny) (.slice xa Nl.length xc)
        have CB6 := hC6.box CB (by omega)
        have OX6 := hC6.owns OX (fun g hg hh => by have := hgX g hg; omega)
        have hCn := hC.trans (hC6.mono fun j hj => .inl hj)
        clear hC6
        go_simp
        refine hK.out _ (put3 v0 vb (.int .i64 Nx) (.int .i64 Ny) (.slice xa Nl.length xc)) CB6 (fun hHeld => ?_)
        clear hK K v0' v1 v2 f0 f1 f2 vl5 Vr CB OX hC
        refine wpAnyH_take (i := 5) (oi := { dst := some 0, op := Op.assign (Operand.tmp 39), type := 9, pos := "l9_version.go:110", after := #[{ on := 3, ground := Ground.data }, { on := 4, ground := Ground.chain }, { on := 0, ground := Ground.phase }, { on := 1, ground := Ground.phase }, { on := 2, ground := Ground.phase }, { on := 3, ground := Ground.phase }, { on := 4, ground := Ground.phase }], guard := none }) (v := .string r2) rfl (by kernel_rfl) (by kernel_rfl) (by kernel_rfl) (fun _ _ _ h => h) (Or.inl ⟨by rfl, ?_⟩) (by assumption) ?_
        · intro wx hSw
          clear hSw hHeld; go_simp
        simp only [Act.put, List.setIfInBounds_toArray, List.set_cons_zero]
        clear hHeld
        refine wpAnyH_done (by kernel_rfl) ?_ _
        go_wp2
        go_roundw
        case rel => exact ⟨k + 1, r2, Nx, Ny, Nl, _, by omega, rfl, by go_num, by omega, HR2.out, hgv2, V6, OX6, fun g hg => by have := hgX g hg; omega, hCn⟩
        case measure => simp [intOf]; omega
    · obtain rfl : k = 60 := by omega
      have hE := HRV.out
      simp only [rv, Nat.sub_self, Prod.mk.injEq] at hE
      obtain ⟨⟨rfl, rfl, rfl⟩, rfl⟩ := hE
      obtain ⟨vl5, v0, v1, v2, _⟩ := Vr.c3
      obtain ⟨hr, r0, r1, r2', f0, f1, f2⟩ := Rr.c3
      clear HRV
      have hCE := put3_chg wr w.heap.size (.int .i64 vx) (.int .i64 vy) (.slice ua vl.length uc)
      have OE := hCE.owns Ow (fun g hg hh => by have := hgu g hg; omega)
      have hBE := hBr.trans (hCE.below (B := w.heap.size) hBr.size (fun k hk => by omega))
      clear hCE
      go_wp2
      exact bodyPost_ret (v := .tuple #[.agg #[.int .i64 vx, .int .i64 vy, .slice ua vl.length uc], .int .i64 60, .bool true]) (by simp [results, Try.results44, go_sem, r0, r1, r2']) rfl ⟨_, rfl, OE, hBE⟩
end Go.Proofs.Ytenbdjlhcadhaaa

namespace Go.Proofs.Ytenbdjlhcadhaaa
open Go.RowKit
set_option linter.unusedVariables false
set_option maxRecDepth 100000

/-- The frames from here on, so many at most. -/
def frs : Nat → ByteArray → List ByteArray
  | 0, _ => []
  | f + 1, r => if tfOk r then tfT r :: frs f (tfL r) else []
theorem tfL_ext (s : ByteArray) (a : Nat) (ha : a ≤ s.size) : tfL (s.extract a s.size) = s.extract (a + tfN (s.extract a s.size)) s.size := by
  apply bl_inj
  unfold tfL
  rw [bl_from, bl_from, bl_from, List.drop_drop]
theorem rf_frs (s : ByteArray) : ∀ (f a : Nat), a ≤ s.size → (rf s f a).1 = frs f (s.extract a s.size) := by
  intro f
  induction f with
  | zero => intro a _; rfl
  | succ f ih =>
    intro a ha
    simp only [rf, frs]
    by_cases h : tfOk (s.extract a s.size) = true
    · rw [if_pos h, if_pos h]
      have hn := tfN_le (s.extract a s.size)
      rw [ext_size s a ha] at hn
      rw [tfL_ext s a ha, ← ih _ (by omega)]
    · rw [if_neg h, if_neg h]
theorem frames_frs (s : ByteArray) : framesOf s = frs 60 s := by
  unfold framesOf
  rw [rf_frs s 60 0 (Nat.zero_le _)]
  congr 1
  apply bl_inj
  rw [bl_from]; rfl
theorem frs_len : ∀ (f : Nat) (r : ByteArray), (frs f r).length ≤ f := by
  intro f
  induction f with
  | zero => intro r; simp [frs]
  | succ f ih =>
    intro r
    simp only [frs]
    split
    · simp only [List.length_cons]; have := ih (tfL r); omega
    · simp
theorem frs_some {f : Nat} {r x : ByteArray} {L : List ByteArray} (h : frs f r = x :: L) : ∃ f', f = f' + 1 ∧ tfOk r = true ∧ x = tfT r ∧ L = frs f' (tfL r) := by
  cases f with
  | zero => simp [frs] at h
  | succ f =>
    simp only [frs] at h
    by_cases ho : tfOk r = true
    · rw [if_pos ho] at h
      injection h with h1 h2
      exact ⟨f, rfl, ho, h1.symm, h2.symm⟩
    · rw [if_neg ho] at h; cases h
theorem frs_none {f : Nat} {r : ByteArray} (h : frs f r = []) : f = 0 ∨ tfOk r = false := by
  cases f with
  | zero => exact .inl rfl
  | succ f =>
    right
    simp only [frs] at h
    cases ho : tfOk r with
    | false => rfl
    | true => rw [if_pos ho] at h; cases h
theorem rv_none {f : Nat} {r : ByteArray} {v : St} {k : Nat} (h : frs f r = []) : rv f r v k = (v, k) := by
  rcases frs_none h with rfl | h
  · rfl
  · refine rv_no ?_
    cases hg : stGo v r with
    | false => rfl
    | true => rw [(go_ok hg).1] at h; cases h
theorem rv_unread {f : Nat} {r : ByteArray} {v : St} {k : Nat} (h : rdB (tfT r) = false) : rv f r v k = (v, k) := by
  refine rv_no ?_
  cases hg : stGo v r with
  | false => rfl
  | true => rw [(go_ok hg).2] at h; cases h

set_option maxHeartbeats 8000000 in
theorem specRecover_any (s : ByteArray) (w : World) (hs : s.size ≤ 1048576) :
    Calls Try.prog 43 #[.string s] w fun e w' => ∃ u, e = .returned (.tuple #[.agg #[.int .i64 (rvE s).1.1, .int .i64 (rvE s).1.2.1, u], .int .i64 ((rvE s).2 : Nat), .bool true]) ∧ w'.ownsRow w.heap.size 82 4 u (rvE s).1.2.2.length (flat4 (rvE s).1.2.2) ∧ Below w.heap.size w w' := by
  have H0 : Hid (rv (60 - 0) s (1, 0, []) 0 = rvE s) := rfl
  have HF : Hid (framesOf s = frs (60 - 0) s) := frames_frs s
  have LF := fun W => l2Frames_any s W hs
  have hL60 : (framesOf s).length ≤ 60 := by rw [frames_frs]; exact frs_len 60 s
  generalize rvE s = RR at *
  obtain ⟨⟨RX, RY, RL⟩, RK⟩ := RR
  generalize framesOf s = L at *
  generalize framesEnd s = fe at *
  dsimp only at *
  have hB := below_alloc w (.cells #[.int .i64 0, .int .i64 0, .slice none 0 0] 25)
  have R := Box.new w #[.int .i64 0, .int .i64 0, .slice none 0 0] 25
  go_enter Try.func43, Try.ntmps43
  go_wp2_with fail
  refine (LF _).mono ?_
  rintro e w0 ⟨fv, rfl, OF, hb0⟩
  replace R := R.below hb0
  replace hB := below_then hB hb0
  clear LF hb0
  obtain ⟨fa, fc, rfl⟩ := owns_shape OF
  go_wp2_with fail
  refine (specNew_any _).mono ?_
  rintro e w1 ⟨rfl, hb1⟩
  replace R := R.below hb1
  replace OF := owns_below OF hb1
  replace hB := below_then hB hb1
  clear hb1
  obtain ⟨W1, hW1⟩ : ∃ W1, W1 = w1.alloc (.cells #[.int .i64 1, .int .i64 0, .slice none 0 0] 25) := ⟨_, rfl⟩
  have V : Box W1 w1.heap.size [.int .i64 1, .int .i64 0, .slice none 0 0] := by rw [hW1]; exact Box.new w1 #[.int .i64 1, .int .i64 0, .slice none 0 0] 25
  have hb1 : Below w1.heap.size w1 W1 := by rw [hW1]; exact below_alloc _ _
  have hRl := R.1
  have hlF := owns_below_lt OF
  replace R := R.below hb1
  replace OF := owns_below OF hb1
  replace hB := below_then hB hb1
  clear hb1
  go_wp2
  rw [← hW1]; clear hW1
  generalize w1.heap.size = vb at *
  have hVl := V.1
  have hz1 := hB.size
  go_loopw [22] (fun i wr => ∃ (k : Nat) (r : ByteArray) (vx vy : Int) (vl : List Mt) (u : Value), k ≤ L.length ∧ i = .int .i64 k ∧ L.drop k = frs (60 - k) r ∧ rv (60 - k) r (vx, vy, vl) k = ((RX, RY, RL), RK) ∧ goodV vx vy vl = true ∧ Box wr vb [.int .i64 vx, .int .i64 vy, u] ∧ wr.ownsRow w.heap.size 82 4 u vl.length (flat4 vl) ∧ (∀ g, u.ownBlock = some g → W1.heap.size ≤ g) ∧ Chg (fun j => j = vb ∨ W1.heap.size ≤ j) W1 wr) (fun i _ => L.length - (intOf i).toNat)
  case atStart => exact ⟨0, s, 1, 0, [], _, Nat.zero_le _, rfl, HF.out, H0.out, start_good, V, World.ownsRow_nil _ _ _ _, (fun g hg => by simp [Value.ownBlock] at hg), Chg.refl _ _⟩
  case round =>
    clear V H0 HF
    obtain ⟨k, r, vx, vy, vl, u, hk, rfl, hfr, hrv, hgv, Vr, Ow, hgu, hC⟩ := hrel
    have HFR : Hid (L.drop k = frs (60 - k) r) := hfr
    have HRV : Hid (rv (60 - k) r (vx, vy, vl) k = ((RX, RY, RL), RK)) := hrv
    clear hrv hfr
    obtain ⟨ua, uc, rfl⟩ := owns_shape Ow
    have Rr := hC.box R (by omega)
    have hBr := hB.trans (hC.below (B := w.heap.size) hz1 (fun j hj => by omega))
    have OFr := hC.owns OF (fun g hg hh => by have := hlF g hg; omega)
    have hzr := hC.size
    by_cases hlt : k < L.length
    · obtain ⟨f, hf, hok, hx, hL⟩ := frs_some (by rw [← HFR.out]; exact List.drop_eq_getElem_cons hlt)
      obtain ⟨fa', fc', hve, hcf⟩ := SL_of_owns OFr
      simp only [Value.slice.injEq, true_and] at hve
      obtain ⟨rfl, rfl⟩ := hve
      obtain ⟨fb, fo, rfl, hfl, hcell⟩ := hcf (by intro e; simp [e] at hlt)
      have hc0 := hcell k hlt
      rw [hx] at hc0
      have HNX : Hid (stGo (vx, vy, vl) r = true → L.drop (k + 1) = frs (60 - (k + 1)) (tfL r) ∧ rv (60 - (k + 1)) (tfL r) (stNx (vx, vy, vl) r) (k + 1) = ((RX, RY, RL), RK) ∧ goodV (stNx (vx, vy, vl) r).1 (stNx (vx, vy, vl) r).2.1 (stNx (vx, vy, vl) r).2.2 = true) := fun h => by
        have h1 := HRV.out
        rw [hf, rv_go h] at h1
        rw [show 60 - (k + 1) = f from by omega]
        exact ⟨hL, h1, go_good h⟩
      have HNO : Hid (stGo (vx, vy, vl) r = false → ((vx, vy, vl), k) = ((RX, RY, RL), RK)) := fun h => by
        have h1 := HRV.out
        rw [rv_no h] at h1
        exact h1
      have HNR : Hid (rdB (tfT r) = false → ((vx, vy, vl), k) = ((RX, RY, RL), RK)) := fun h => by
        have h1 := HRV.out
        rw [rv_unread h] at h1
        exact h1
      have RE := fun W => l9Read_any (tfT r) W (tfT_size r)
      obtain ⟨hvn, hvs⟩ := good_sizes hgv
      obtain ⟨e1, e2, e3⟩ := rd_sizes (tfT r)
      have AP : ∀ W u q u', IX W u vl → IL W q (rdE (tfT r)).2.2.1 → IR W u' (rdE (tfT r)).2.2.2 → Calls Try.prog 58 #[.agg #[.int .i64 vx, .int .i64 vy, u], .agg #[.int .i64 (rdE (tfT r)).1, .int .i64 (rdE (tfT r)).2.1, q, u']] W fun e w' => ∃ x, e = .returned (.tuple #[.agg #[.int .i64 (stNx (vx, vy, vl) r).1, .int .i64 (stNx (vx, vy, vl) r).2.1, x], .bool (stGo (vx, vy, vl) r)]) ∧ w'.ownsRow W.heap.size 82 4 x (stNx (vx, vy, vl) r).2.2.length (flat4 (stNx (vx, vy, vl) r).2.2) ∧ Below W.heap.size W w' := fun W u q u' h1 h2 h3 => l9Apply_any vx vy _ _ u q u' vl _ _ W h1 h2 h3 (by omega) (by omega) (by omega) hvs e3 hgv
      clear HRV HFR hvs e3 hf hL hx hcell hcf hok
      generalize stGo (vx, vy, vl) r = go at *
      generalize stNx (vx, vy, vl) r = N at *
      obtain ⟨Nx, Ny, Nl⟩ := N
      generalize rdE (tfT r) = E at *
      obtain ⟨Ex, Ey, Ed, Ea⟩ := E
      generalize rdB (tfT r) = eb at *
      generalize tfT r = fr at *
      generalize tfL r = r2 at *
      dsimp only at *
      go_wp2_with fail
      refine (RE _).mono ?_
      rintro e w4 ⟨eu, ev, rfl, OD, OA, hb4⟩
      replace Vr := Vr.below hb4
      replace Ow := owns_below Ow hb4
      replace Rr := Rr.below hb4
      replace hBr := below_then hBr hb4
      replace hC := hC.trans (Chg.of_below hb4)
      clear RE hb4 hc0 OFr
      obtain ⟨da, dc, rfl⟩ := owns_shape OD
      obtain ⟨aa, ac, rfl⟩ := owns_shape OA
      obtain ⟨W4, hW4⟩ : ∃ W4, W4 = w4.alloc (.cells #[.int .i64 Ex, .int .i64 Ey, .slice da Ed.length dc, .slice aa Ea.length ac] 30) := ⟨_, rfl⟩
      have EB : Box W4 w4.heap.size [.int .i64 Ex, .int .i64 Ey, .slice da Ed.length dc, .slice aa Ea.length ac] := by rw [hW4]; exact Box.new w4 #[.int .i64 Ex, .int .i64 Ey, .slice da Ed.length dc, .slice aa Ea.length ac] 30
      have hb4 : Below w4.heap.size w4 W4 := by rw [hW4]; exact below_alloc _ _
      obtain ⟨vl4, v0, v1, v2, _⟩ := Vr.c3
      cases eb
      · have hE := HNR.out (by trivial)
        simp only [Prod.mk.injEq] at hE
        obtain ⟨⟨rfl, rfl, rfl⟩, rfl⟩ := hE
        obtain ⟨hr, r0, r1, r2', f0, f1, f2⟩ := Rr.c3
        have hCE := put3_chg w4 w.heap.size (.int .i64 vx) (.int .i64 vy) (.slice ua vl.length uc)
        have OE := owns_below (hCE.owns Ow (fun g hg hh => by have := hgu g hg; omega)) (below_alloc _ (.cells #[.int .i64 Ex, .int .i64 Ey, .slice da Ed.length dc, .slice aa Ea.length ac] 30))
        have hq := hBr.trans (hCE.below (B := w.heap.size) hBr.size (fun k hk => by omega))
        have hBE := hq.alloc hq.size (.cells #[.int .i64 Ex, .int .i64 Ey, .slice da Ed.length dc, .slice aa Ea.length ac] 30)
        obtain ⟨_, s0, s1, s2, _⟩ := ((put3_box Rr (.int .i64 vx) (.int .i64 vy) (.slice ua vl.length uc)).alloc (.cells #[.int .i64 Ex, .int .i64 Ey, .slice da Ed.length dc, .slice aa Ea.length ac] 30)).c3
        unfold put3 at OE hBE s0 s1 s2
        clear HNX HNO HNR AP hCE hq hW4 EB hb4 OD OA Vr Rr Ow hBr hC
        go_wp2
        exact bodyPost_ret (v := .tuple #[.agg #[.int .i64 vx, .int .i64 vy, .slice ua vl.length uc], .int .i64 (k : Int), .bool true]) (by simp [results, Try.results43, go_sem, s0, s1, s2]) rfl ⟨_, rfl, OE, hBE⟩
      replace Vr := Vr.below hb4
      replace Ow := owns_below Ow hb4
      replace Rr := Rr.below hb4
      replace OD := owns_below OD hb4
      replace OA := owns_below OA hb4
      replace hBr := below_then hBr hb4
      replace hC := hC.trans (Chg.of_below hb4)
      clear hb4 HNR
      have AP2 := AP W4 _ _ _ (IX_of_owns Ow rfl) (IL_of_owns OD rfl) (IR_of_owns OA rfl)
      clear AP
      obtain ⟨el, x0, x1, x2, x3, _⟩ := EB.e4
      subst hW4
      go_wp2_with fail
      refine AP2.mono ?_
      rintro e w5 ⟨x, rfl, OX, hb5⟩
      have hzX := hC.size
      have hgX := owns_ge OX
      replace Vr := Vr.below hb5
      replace Ow := owns_below Ow hb5
      replace Rr := Rr.below hb5
      replace hC := hC.trans (Chg.of_below hb5)
      have hzB := hBr.size
      replace hBr := below_then hBr hb5
      replace OX := owns_mono OX hzB
      clear AP2 hb5 OD OA EB el x0 x1 x2 x3 vl4 v0 v1 v2
      obtain ⟨xa, xc, rfl⟩ := owns_shape OX
      obtain ⟨vl5, v0, v1, v2, g0, g1, g2⟩ := Vr.c3
      cases go
      · have hE := HNO.out (by trivial)
        simp only [Prod.mk.injEq] at hE
        obtain ⟨⟨rfl, rfl, rfl⟩, rfl⟩ := hE
        obtain ⟨hr, r0, r1, r2', f0, f1, f2⟩ := Rr.c3
        have hCE := put3_chg w5 w.heap.size (.int .i64 vx) (.int .i64 vy) (.slice ua vl.length uc)
        have OE := owns_below (hCE.owns Ow (fun g hg hh => by have := hgu g hg; omega)) (below_alloc _ (.cells #[.int .i64 Nx, .int .i64 Ny, .slice xa Nl.length xc] 25))
        have hq := hBr.trans (hCE.below (B := w.heap.size) hBr.size (fun k hk => by omega))
        have hBE := hq.alloc hq.size (.cells #[.int .i64 Nx, .int .i64 Ny, .slice xa Nl.length xc] 25)
        obtain ⟨_, s0, s1, s2, _⟩ := ((put3_box Rr (.int .i64 vx) (.int .i64 vy) (.slice ua vl.length uc)).alloc (.cells #[.int .i64 Nx, .int .i64 Ny, .slice xa Nl.length xc] 25)).c3
        unfold put3 at OE hBE s0 s1 s2
        clear HNX HNO hCE hq Vr Rr Ow OX hBr hC
        go_wp2
        exact bodyPost_ret (v := .tuple #[.agg #[.int .i64 vx, .int .i64 vy, .slice ua vl.length uc], .int .i64 (k : Int), .bool true]) (by simp [results, Try.results43, go_sem, s0, s1, s2]) rfl ⟨_, rfl, OE, hBE⟩
      · obtain ⟨hfr2, hrv2, hgv2⟩ := HNX.out (by trivial)
        have HR2 : Hid (L.drop (k + 1) = frs (60 - (k + 1)) r2 ∧ rv (60 - (k + 1)) r2 (Nx, Ny, Nl) (k + 1) = ((RX, RY, RL), RK)) := ⟨hfr2, hrv2⟩
        have hC6 := put3_chg w5 vb (.int .i64 Nx) (.int .i64 Ny) (.slice xa Nl.length xc)
        have V6 := (put3_box Vr (.int .i64 Nx) (.int .i64 Ny) (.slice xa Nl.length xc)).alloc (.cells #[.int .i64 Nx, .int .i64 Ny, .slice xa Nl.length xc] 25)
        have OX6 := owns_below (hC6.owns OX (fun g hg hh => by have := hgX g hg; omega)) (below_alloc _ (.cells #[.int .i64 Nx, .int .i64 Ny, .slice xa Nl.length xc] 25))
        have hCn := (hC.trans (hC6.mono fun j hj => .inl hj)).trans (Chg.of_below (below_alloc _ (.cells #[.int .i64 Nx, .int .i64 Ny, .slice xa Nl.length xc] 25)))
        unfold put3 at V6 OX6 hCn
        clear HNX HNO hrv2 hfr2 hC6 Vr Rr Ow OX hBr hC
        go_wp2
        go_roundw
        case rel => exact ⟨k + 1, r2, Nx, Ny, Nl, _, by omega, by go_num, HR2.out.1, HR2.out.2, hgv2, V6, OX6, fun g hg => by have := hgX g hg; omega, hCn⟩
        case measure => simp [intOf]; omega
    · obtain rfl : k = L.length := by omega
      have hE := HRV.out
      rw [rv_none (by rw [← HFR.out]; simp)] at hE
      simp only [Prod.mk.injEq] at hE
      obtain ⟨⟨rfl, rfl, rfl⟩, rfl⟩ := hE
      obtain ⟨vl5, v0, v1, v2, _⟩ := Vr.c3
      obtain ⟨hr, r0, r1, r2', f0, f1, f2⟩ := Rr.c3
      clear HRV HFR
      have hCE := put3_chg wr w.heap.size (.int .i64 vx) (.int .i64 vy) (.slice ua vl.length uc)
      have OE := hCE.owns Ow (fun g hg hh => by have := hgu g hg; omega)
      have hBE := hBr.trans (hCE.below (B := w.heap.size) hBr.size (fun k hk => by omega))
      clear hCE
      go_wp2
      exact bodyPost_ret (v := .tuple #[.agg #[.int .i64 vx, .int .i64 vy, .slice ua vl.length uc], .int .i64 (L.length : Int), .bool true]) (by simp [results, Try.results43, go_sem, r0, r1, r2']) rfl ⟨_, rfl, OE, hBE⟩
end Go.Proofs.Ytenbdjlhcadhaaa

namespace Go.Proofs.Ytenbdjlhcadhaaa
open Go.RowKit
set_option linter.unusedVariables false
set_option maxRecDepth 100000

theorem rv_good : ∀ (f : Nat) (r : ByteArray) (v : St) (k : Nat), goodV v.1 v.2.1 v.2.2 = true → goodV (rv f r v k).1.1 (rv f r v k).1.2.1 (rv f r v k).1.2.2 = true := by
  intro f
  induction f with
  | zero => intro r v k h; exact h
  | succ f ih =>
    intro r v k h
    cases hg : stGo v r with
    | true => rw [rv_go hg]; exact ih _ _ _ (go_good hg)
    | false => rw [rv_no hg]; exact h
theorem rvE_len (s : ByteArray) : (rvE s).1.2.2.length ≤ 30 := goodV_len (rv_good 60 s (1, 0, []) 0 start_good)

set_option maxHeartbeats 8000000 in
theorem lawRecoverVersion (s : ByteArray) (w : World) :
    Calls Try.prog 10 #[.string s] w fun e w' => e = .returned (.bool true) ∧ Below w.heap.size w w' := by
  by_cases hl : s.size ≤ 1048576
  rotate_left
  · have hli : (1048576 : Int) < (s.size : Int) := by omega
    go_enter Try.func10, Try.ntmps10
    go_wp2
    go_ret
    exact ⟨rfl, Below.refl _ _⟩
  have S := specRecover_any s w hl
  have I := fun W => implRecover_any s W hl
  have hgA := rvE_len s
  generalize rvE s = EE at *
  obtain ⟨⟨RX, RY, RA⟩, RK⟩ := EE
  dsimp only at *
  go_enter Try.func10, Try.ntmps10
  go_wp2_with fail
  refine S.mono ?_
  rintro e w1 ⟨pv, rfl, PA, hB⟩
  obtain ⟨pb, pd, rfl⟩ := owns_shape PA
  have hz0 := hB.size
  obtain ⟨W1, hW1⟩ : ∃ W1, W1 = w1.alloc (.cells #[.int .i64 RX, .int .i64 RY, .slice pb RA.length pd] 25) := ⟨_, rfl⟩
  have P : Box W1 w1.heap.size [.int .i64 RX, .int .i64 RY, .slice pb RA.length pd] := by rw [hW1]; exact Box.new w1 #[.int .i64 RX, .int .i64 RY, .slice pb RA.length pd] 25
  have hb1 : Below w1.heap.size w1 W1 := by rw [hW1]; exact below_alloc _ _
  replace PA := owns_below PA hb1
  replace hB := below_then hB hb1
  clear S hb1
  go_wp2_with fail
  rw [← hW1]; clear hW1
  have hlPA := owns_below_lt PA
  have hPl := P.1
  generalize w1.heap.size = bp at *
  refine (I _).mono ?_
  rintro e w2 ⟨qv, rfl, QA, hb2⟩
  have hgQA := owns_ge QA
  have hlQA := owns_below_lt QA
  have hz1 := hB.size
  have hz2 := hb2.size
  replace PA := owns_below PA hb2
  replace P := P.below hb2
  replace hB := below_then hB hb2
  clear hb2
  obtain ⟨qb, qd, rfl⟩ := owns_shape QA
  obtain ⟨W2, hW2⟩ : ∃ W2, W2 = w2.alloc (.cells #[.int .i64 RX, .int .i64 RY, .slice qb RA.length qd] 25) := ⟨_, rfl⟩
  have Q : Box W2 w2.heap.size [.int .i64 RX, .int .i64 RY, .slice qb RA.length qd] := by rw [hW2]; exact Box.new w2 #[.int .i64 RX, .int .i64 RY, .slice qb RA.length qd] 25
  have hb2 : Below w2.heap.size w2 W2 := by rw [hW2]; exact below_alloc _ _
  have hzW : w2.heap.size < W2.heap.size := Q.1
  replace PA := owns_below PA hb2
  replace QA := owns_below QA hb2
  replace P := P.below hb2
  replace hB := below_then hB hb2
  clear hb2
  have HEQ := eqVersion_same RX RY (.slice qb RA.length qd) (.slice pb RA.length pd) RA W2 (IR_of_owns QA rfl) (IR_of_owns PA rfl) (by omega)
  obtain ⟨pl, p0, p1, p2, _⟩ := P.c3
  obtain ⟨ql, q0, q1, q2, _⟩ := Q.c3
  subst hW2
  go_wp2_with fail
  refine HEQ.mono ?_
  rintro e w3 ⟨rfl, hb⟩
  replace PA := owns_below PA hb
  replace QA := owns_below QA hb
  replace P := P.below hb
  replace Q := Q.below hb
  replace hB := below_then hB hb
  have hz3 := hb.size
  clear hb HEQ pl p0 p1 p2 ql q0 q1 q2
  obtain ⟨ql, q0, q1, q2, _⟩ := Q.c3
  go_wp2_with fail
  refine (markVersion_own _ _ _ _ RA 1 _ QA (by omega) (by omega) (by omega)).mono ?_
  rintro e w4 ⟨rfl, MA, hc⟩
  clear ql q0 q1 q2
  replace hB := hB.trans (hc.below (B := w.heap.size) (by omega) (fun b h => by rcases h with h | h <;> (try (have := hgQA _ h)) <;> omega))
  replace P := hc.box P (fun h => by rcases h with h | h <;> (try (have := hgQA _ h)) <;> omega)
  replace PA := hc.owns PA (fun b hb h => by have := hlPA b hb; rcases h with h | h <;> (try (have := hgQA _ h)) <;> omega)
  replace Q := hc.box Q (fun h => by rcases h with h | h <;> (try (have := hlQA _ h)) <;> omega)
  clear hc QA
  obtain ⟨ql, q0, q1, q2, _⟩ := Q.c3
  go_wp2_with fail
  refine (heldVersion_at _ _ _ RA.length 1 _ (IR_of_owns MA (mkIts_length _ _).symm) (by omega) (by omega) (by omega)).mono ?_
  rintro e w5 ⟨rfl, hb⟩
  replace PA := owns_below PA hb
  replace MA := owns_below MA hb
  replace P := P.below hb
  replace Q := Q.below hb
  replace hB := below_then hB hb
  clear hb ql q0 q1 q2
  go_wp2_with fail
  refine (I _).mono ?_
  rintro e w6 ⟨hv, rfl, HA, hb⟩
  replace PA := owns_below PA hb
  replace MA := owns_below MA hb
  replace P := P.below hb
  replace Q := Q.below hb
  replace hB := below_then hB hb
  clear hb I
  obtain ⟨hb', hd, rfl⟩ := owns_shape HA
  obtain ⟨W3, hW3⟩ : ∃ W3, W3 = w6.alloc (.cells #[.int .i64 RX, .int .i64 RY, .slice hb' RA.length hd] 25) := ⟨_, rfl⟩
  have H : Box W3 w6.heap.size [.int .i64 RX, .int .i64 RY, .slice hb' RA.length hd] := by rw [hW3]; exact Box.new w6 #[.int .i64 RX, .int .i64 RY, .slice hb' RA.length hd] 25
  have hb3 : Below w6.heap.size w6 W3 := by rw [hW3]; exact below_alloc _ _
  replace PA := owns_below PA hb3
  replace HA := owns_below HA hb3
  replace MA := owns_below MA hb3
  replace P := P.below hb3
  replace Q := Q.below hb3
  replace hB := below_then hB hb3
  clear hb3
  have HEQ := eqVersion_same RX RY (.slice hb' RA.length hd) (.slice pb RA.length pd) RA W3 (IR_of_owns HA rfl) (IR_of_owns PA rfl) (by omega)
  obtain ⟨pl, p0, p1, p2, _⟩ := P.c3
  obtain ⟨ql, q0, q1, q2, _⟩ := H.c3
  subst hW3
  go_wp2_with fail
  refine HEQ.mono ?_
  rintro e w7 ⟨rfl, hb⟩
  replace MA := owns_below MA hb
  replace Q := Q.below hb
  replace hB := below_then hB hb
  clear hb HEQ pl p0 p1 p2 ql q0 q1 q2
  obtain ⟨ql, q0, q1, q2, _⟩ := Q.c3
  go_wp2_with fail
  refine (heldVersion_at _ _ _ RA.length 1 _ (IR_of_owns MA (mkIts_length _ _).symm) (by omega) (by omega) (by omega)).mono ?_
  rintro e w8 ⟨rfl, hb⟩
  replace hB := below_then hB hb
  go_wp2
  go_ret
  exact ⟨rfl, hB⟩
end Go.Proofs.Ytenbdjlhcadhaaa

