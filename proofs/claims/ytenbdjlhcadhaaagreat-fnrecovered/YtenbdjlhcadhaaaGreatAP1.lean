/-
  A map of metas: what is dropped, what is added.
-/
import Derived.Test.YtenbdjlhcadhaaaGreatAP0
namespace Go.Proofs.YtenbdjlhcadhaaaGreat
open Go.RowKit Go.Maps
set_option linter.unusedVariables false
set_option maxRecDepth 100000

theorem chg_turned {w w' : World} {b : Nat} (h : w.mapTurned w' b) : Chg (fun k => k = b) w w' := by
  have hg := h.grown
  exact ⟨hg.os, hg.tape, hg.output, hg.size, fun k hk hs => hg.block k hk (fun e => hs (by injection e))⟩
theorem chg_grown {w w' : World} {b : Nat} (hg : w.grownBy w' (some b)) : Chg (fun k => k = b) w w' :=
  ⟨hg.os, hg.tape, hg.output, hg.size, fun k hk hs => hg.block k hk (fun e => hs (by injection e))⟩

set_option maxHeartbeats 4000000 in
theorem drop_any (w0 : World) (b0 n0 : Nat) (D : DataW Unit) (l : List Mt) (v : Value) (dr : List Int) (w : World) (hB0 : Below w0.heap.size w0 w) (hb0 : w0.heap.size ≤ b0) (hm : w.ownsMap Tryz.prog 3 mtE b0 n0 D) (hM : Means D l) (hv : IL w0 v dr) (hn : dr.length ≤ 30) (hg : ∀ i (h : i < dr.length), 1 ≤ dr[i] ∧ dr[i] ≤ 100000) :
    Calls Tryz.prog 46 #[.map (some b0), v] w fun e w' => e = .returned (.bool (thTo l dr dr.length)) ∧ (thTo l dr dr.length = true → ∃ D', w'.ownsMap Tryz.prog 3 mtE b0 n0 D' ∧ Means D' (dropL l dr dr.length)) ∧ Chg (fun j => j = b0 ∨ w.heap.size ≤ j) w w' := by
  obtain ⟨a, cap, rfl, hc⟩ := hv
  have hz0 := hB0.size
  go_enter Tryz.func46, Tryz.ntmps46
  go_wp2
  go_loopw [11] (fun i wr => ∃ (k : Nat) (D' : DataW Unit), k ≤ dr.length ∧ i = .int .i64 k ∧ thTo l dr k = true ∧ wr.ownsMap Tryz.prog 3 mtE b0 n0 D' ∧ Means D' (dropL l dr k) ∧ Chg (fun j => j = b0 ∨ w.heap.size ≤ j) w wr) (fun i _ => dr.length - (intOf i).toNat)
  case atStart => exact ⟨0, D, Nat.zero_le _, rfl, rfl, hm, by rw [dropL_zero]; exact hM, Chg.refl _ _⟩
  case round =>
    clear hm hM
    obtain ⟨k, D', hk, rfl, ht, hm, hM, hC⟩ := hrel
    have hBr := hB0.trans (hC.below (B := w0.heap.size) hz0 (fun j hj => by omega))
    have hzr := hC.size
    by_cases hlt : k < dr.length
    · obtain ⟨b, off, rfl, hbl, hcell⟩ := hc (by intro e; simp [e] at hlt)
      have hc0 := (hBr.cell (p := ⟨b, off + k, none⟩) hbl).trans (hcell k hlt)
      have hgk := hg k hlt
      have hkey := key3 dr[k] (by omega) (by omega)
      have hbl2 : b < wr.heap.size := by omega
      have HH : Maps.has D' (keyN dr[k]) = thAt l dr k := by unfold thAt; rw [hM.2.2.1 dr[k], getI_at dr k hlt]
      have HTS : Hid (thTo l dr (k + 1) = (true && thAt l dr k)) := by show _ = _; rw [thTo_succ, ht]
      have HTF : Hid (thAt l dr k = false → thTo l dr dr.length = false) := thTo_stop l dr k hlt
      have HMD : Hid (Means (D'.del (keyN dr[k])) (dropL l dr (k + 1))) := by show Means _ _; rw [dropL_succ l dr k hlt]; exact means_del hM dr[k]
      clear hcell hc hg hM ht
      generalize thAt l dr k = th at *
      generalize dr[k] = d at *
      cases th
      · have HF : Hid (thTo l dr dr.length = false) := HTF.out (by trivial)
        clear HTS HTF HMD
        go_wp2_with (at_lookup; refine wpList_lookup_own_ok _ rfl _ _ 76 rfl 3 71 law3 Tryz.underlying76 mtE (zero82 _) (mtD Mt.zero) [] rfl b0 n0 D' rfl hm _ _ rfl hkey ?_; intro x ps hx; obtain ⟨⟨mn, md, mk, mv⟩, hxe, _⟩ := mtE_inv hx; subst hxe; rw [HH]; unfold mtV; dsimp only)
        go_ret
        exact ⟨by rw [HF.out]; rfl, fun h => (by rw [HF.out] at h; cases h), hC.trans (Chg.of_below (below_alloc _ _))⟩
      · have HT2 : Hid (thTo l dr (k + 1) = true) := HTS.out
        clear HTS HTF
        go_wp2_with (first | (at_lookup; refine wpList_lookup_own_ok _ rfl _ _ 76 rfl 3 71 law3 Tryz.underlying76 mtE (zero82 _) (mtD Mt.zero) [] rfl b0 n0 D' rfl hm _ _ rfl hkey ?_; intro x ps hx; obtain ⟨⟨mn, md, mk, mv⟩, hxe, _⟩ := mtE_inv hx; subst hxe; rw [HH]; unfold mtV; dsimp only) | (at_delete; refine wpList_delete_own _ rfl _ _ 76 3 rfl 71 law3 Tryz.underlying76 mtE b0 n0 D' rfl (hm.alloc _) _ _ rfl hkey ?_; intro w2 hm2 ht2))
        have hC2 := (hC.trans (Chg.of_below (below_alloc _ _))).trans ((chg_turned ht2).mono fun j hj => .inl hj)
        go_roundw
        case rel => exact ⟨k + 1, D'.del (keyN d), by omega, by go_num, HT2.out, hm2, HMD.out, hC2⟩
        case measure => simp [intOf]; omega
    · obtain rfl : k = dr.length := by omega
      have HT : Hid (thTo l dr dr.length = true) := ht
      have HMM : Hid (Means D' (dropL l dr dr.length)) := hM
      clear hc hg ht hM
      go_wp2
      go_ret
      exact ⟨by rw [HT.out]; rfl, fun _ => ⟨D', hm, HMM.out⟩, hC⟩

set_option maxHeartbeats 4000000 in
theorem add_any (w0 : World) (b0 n0 : Nat) (D : DataW Unit) (l : List Mt) (v : Value) (ad : List Mt) (w : World) (hB0 : Below w0.heap.size w0 w) (hb0 : w0.heap.size ≤ b0) (hm : w.ownsMap Tryz.prog 3 mtE b0 n0 D) (hM : Means D l) (hv : IR w0 v ad) (hn : ad.length ≤ 30) (hn0 : n0 ≤ 1000) (hg : ∀ i (h : i < ad.length), 1 ≤ ad[i].n ∧ ad[i].n ≤ 100000) :
    Calls Tryz.prog 47 #[.map (some b0), v] w fun e w' => e = .returned (.bool (adTo l ad ad.length)) ∧ (adTo l ad ad.length = true → ∃ D' n', n' ≤ 2000 ∧ w'.ownsMap Tryz.prog 3 mtE b0 n' D' ∧ Means D' (l ++ ad)) ∧ Chg (fun j => j = b0 ∨ w.heap.size ≤ j) w w' := by
  obtain ⟨a, cap, rfl, hc⟩ := hv
  have hz0 := hB0.size
  go_enter Tryz.func47, Tryz.ntmps47
  go_wp2
  go_loopw [11] (fun i wr => ∃ (k : Nat) (D' : DataW Unit), k ≤ ad.length ∧ i = .int .i64 k ∧ adTo l ad k = true ∧ wr.ownsMap Tryz.prog 3 mtE b0 (n0 + k) D' ∧ Means D' (l ++ ad.take k) ∧ Chg (fun j => j = b0 ∨ w.heap.size ≤ j) w wr) (fun i _ => ad.length - (intOf i).toNat)
  case atStart => exact ⟨0, D, Nat.zero_le _, rfl, rfl, hm, by simpa using hM, Chg.refl _ _⟩
  case round =>
    clear hm hM
    obtain ⟨k, D', hk, rfl, ht, hm, hM, hC⟩ := hrel
    have hBr := hB0.trans (hC.below (B := w0.heap.size) hz0 (fun j hj => by omega))
    have hzr := hC.size
    by_cases hlt : k < ad.length
    · obtain ⟨b, off, rfl, hbl, hcell⟩ := hc (by intro e; simp [e] at hlt)
      have hc0 := (hBr.cell (p := ⟨b, off + k * 4, none⟩) hbl).trans (hcell k hlt).1
      have hc1 := (hBr.cell (p := ⟨b, off + k * 4 + 1, none⟩) hbl).trans (hcell k hlt).2.1
      have hc2 := (hBr.cell (p := ⟨b, off + k * 4 + 2, none⟩) hbl).trans (hcell k hlt).2.2.1
      have hc3 := (hBr.cell (p := ⟨b, off + k * 4 + 3, none⟩) hbl).trans (hcell k hlt).2.2.2
      have hgk := hg k hlt
      have hkey := key3 ad[k].n (by omega) (by omega)
      have hbl2 : b < wr.heap.size := by omega
      have HH : Maps.has D' (keyN ad[k].n) = !(adAt l ad k) := by unfold adAt; rw [hM.2.2.1 ad[k].n, getD_at ad k hlt, Bool.not_not]
      have HTS : Hid (adTo l ad (k + 1) = (true && adAt l ad k)) := by show _ = _; rw [adTo_succ, ht]
      have HTF : Hid (adAt l ad k = false → adTo l ad ad.length = false) := adTo_stop l ad k hlt
      have HMD : Hid (adAt l ad k = true → Means (D'.put (keyN ad[k].n) (mtD ad[k])) (l ++ ad.take (k + 1))) := fun h => by
        rw [List.take_succ_eq_append_getElem hlt, ← List.append_assoc]
        exact means_put hM ad[k] ((adAt_iff l ad k hlt).1 h)
      clear hcell hc hg hM ht
      generalize adAt l ad k = th at *
      generalize ad[k] = t at *
      obtain ⟨tn, td, tk, tv⟩ := t
      dsimp only at *
      cases th
      · have HF : Hid (adTo l ad ad.length = false) := HTF.out (by trivial)
        clear HTS HTF HMD
        go_wp2_with (at_lookup; refine wpList_lookup_own_ok _ rfl _ _ 76 rfl 3 71 law3 Tryz.underlying76 mtE (zero82 _) (mtD Mt.zero) [] rfl b0 (n0 + k) D' rfl (hm.alloc _) _ _ rfl hkey ?_; intro x ps hx; obtain ⟨⟨mn, md, mk, mv⟩, hxe, _⟩ := mtE_inv hx; subst hxe; rw [HH]; unfold mtV; dsimp only)
        go_ret
        exact ⟨by rw [HF.out]; rfl, fun h => (by rw [HF.out] at h; cases h), hC.trans (Chg.of_below (below2 _ _ _))⟩
      · have HT2 : Hid (adTo l ad (k + 1) = true) := HTS.out
        have HM2 := HMD.out (by trivial)
        have HM2 : Hid (Means (D'.put (keyN tn) (mtD ⟨tn, td, tk, tv⟩)) (l ++ ad.take (k + 1))) := HM2
        clear HTS HTF HMD
        go_wp2_with (first | (at_lookup; refine wpList_lookup_own_ok _ rfl _ _ 76 rfl 3 71 law3 Tryz.underlying76 mtE (zero82 _) (mtD Mt.zero) [] rfl b0 (n0 + k) D' rfl (hm.alloc _) _ _ rfl hkey ?_; intro x ps hx; obtain ⟨⟨mn, md, mk, mv⟩, hxe, _⟩ := mtE_inv hx; subst hxe; rw [HH]; unfold mtV; dsimp only) | (at_mapUpdate; refine wpList_mapUpdate_own _ rfl _ _ _ 76 rfl 3 71 law3 Tryz.underlying76 _ b0 (n0 + k) _ rfl ((hm.alloc _).alloc _) (by unfold maxLen; omega) _ _ _ rfl rfl hkey _ [] (mtE_mk tn td tk tv) ?_; intro w2 hm2 ht2))
        have hC2 := (hC.trans (Chg.of_below (below2 _ _ _))).trans ((chg_grown ht2).mono fun j hj => .inl hj)
        go_roundw
        case rel => exact ⟨k + 1, _, by omega, by go_num, HT2.out, hm2, HM2.out, hC2⟩
        case measure => simp [intOf]; omega
    · obtain rfl : k = ad.length := by omega
      have HT : Hid (adTo l ad ad.length = true) := ht
      rw [List.take_length] at hM
      have HMM : Hid (Means D' (l ++ ad)) := hM
      clear hc hg ht hM
      go_wp2
      go_ret
      exact ⟨by rw [HT.out]; rfl, fun _ => ⟨D', _, by omega, hm, HMM.out⟩, hC⟩
end Go.Proofs.YtenbdjlhcadhaaaGreat
