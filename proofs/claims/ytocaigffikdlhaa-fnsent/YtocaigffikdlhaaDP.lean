/-
  Drawn files, an order and flips: spec.DrawPlayTaking.
-/
import Derived.Test.YtocaigffikdlhaaTG
import Derived.Test.YtocaigffikdlhaaMQToK9
namespace Go.Proofs.Ytocaigffikdlhaa
open Go.RowKit Go.Maps
set_option linter.unusedVariables false
set_option maxRecDepth 100000

theorem grown_chg {w w' : World} {o : Option Nat} (h : w.grownBy w' o) : Chg (fun k => o = some k) w w' := ⟨h.os, h.tape, h.output, h.size, fun k hk hs => h.block k hk fun e => hs e.symm⟩
theorem Try.info3f : (Try.prog.info? 3).map (fun i => (i.zero, i.size, i.bytes)) = some (some (.int .i64 0), 1, 8) := by kernel_rfl
/-- What DrawPlayTaking answers. -/
def DPPost (w : World) (e : Ending) (w' : World) : Prop := (∃ (fv ov lv : Value) (L : List ByteArray) (O F : List Int), e = .returned (.tuple #[fv, ov, lv]) ∧ (L.length ≤ 14 ∧ (∀ i (h : i < L.length), L[i].size ≤ 4001) ∧ O.length = F.length ∧ O.length ≤ 1000) ∧ w'.ownsRow w.heap.size 9 1 fv L.length (L.map Value.string) ∧ w'.ownsRow w.heap.size 3 1 ov O.length (O.map (Value.int .i64)) ∧ w'.ownsRow w.heap.size 3 1 lv F.length (F.map (Value.int .i64))) ∧ Below w.heap.size w w'
theorem DPPost.mk {w w' : World} {fv ov lv : Value} {L : List ByteArray} {O F : List Int} (h : L.length ≤ 14 ∧ (∀ i (h : i < L.length), L[i].size ≤ 4001) ∧ O.length = F.length ∧ O.length ≤ 1000) (h1 : w'.ownsRow w.heap.size 9 1 fv L.length (L.map Value.string)) (h2 : w'.ownsRow w.heap.size 3 1 ov O.length (O.map (Value.int .i64))) (h3 : w'.ownsRow w.heap.size 3 1 lv F.length (F.map (Value.int .i64))) (hb : Below w.heap.size w w') : DPPost w (.returned (.tuple #[fv, ov, lv])) w' := ⟨⟨_, _, _, _, _, _, rfl, h, h1, h2, h3⟩, hb⟩
set_option maxHeartbeats 64000000 in
theorem drawPT_any (v0 : Value) (l : List UInt8) (w : World) (hv : YL w v0 l) (hl : l.length ≤ maxLen) : Calls Try.prog 14 #[v0] w (DPPost w) := by
  unfold maxLen at hl
  obtain ⟨i0, hi, hz0, hzs, hzb⟩ := info_parts Try.info3f
  have hB := below_alloc w (.cells #[v0, .int .i64 0, .int .u64 0] 88)
  have hcu := cur_new hv
  obtain ⟨va, vc, rfl, _⟩ := hv
  go_enter Try.func14, Try.ntmps14
  go_wp2_with fail
  refine (files_any _ l 0 _ hcu (by omega) (by omega)).mono ?_
  rintro e w1 ⟨⟨fv, L, rfl, hL, hsz, oL⟩, hc1, hch⟩
  simp only [World.size_alloc] at oL
  have HSZ : Hid (∀ i (h : i < L.length), L[i].size ≤ 4001) := hsz
  replace hB := hB.trans (hch.below (B := w.heap.size) (by simp) (fun k q => by omega))
  have hw1 := hc1.lt
  clear hch hcu hsz
  obtain ⟨la, lb, rfl⟩ := owns_shape oL
  go_wp2_with fail
  refine (specChunks_any _ L w1 (SL_of_owns oL) (by omega) (fun i h => by have := HSZ.out i h; omega)).mono ?_
  rintro e w2 ⟨cv, rfl, oC, hb⟩
  have oC := owns_mono' oC (show w.heap.size + 1 ≤ w1.heap.size from by omega)
  replace oL := owns_below oL hb
  replace hB := hB.trans (hb.mono hB.size)
  have hcu := hc1.chg hb
  have hC2 : (ckR L).length ≤ 200 := ckR_200 L
  clear hb hc1
  generalize ckR L = C at *
  generalize ckB L = cbb at *
  obtain ⟨ca, cb, rfl⟩ := owns_shape oC
  have noB : ∀ {vv : Value} {e : TypeId} {s n : Nat} {xs : List Value} {W' : World}, W'.ownsRow (w.heap.size + 1) e s vv n xs → ∀ g, vv.ownBlock = some g → ¬ g = w.heap.size := fun hh g hg q => by have := owns_ge hh g hg; omega
  obtain ⟨nn, hnn⟩ : ∃ nn, nn = 3 * (C.length + 1) := ⟨_, rfl⟩
  have En : (3 : Int) * ((C.length : Int) + 1) = (nn : Int) := by omega
  have hn6 : nn ≤ 603 := by omega
  obtain ⟨n1, hn1⟩ : ∃ n1, n1 = C.length + 1 := ⟨_, rfl⟩
  have En1 : (C.length : Int) + 1 = (n1 : Int) := by omega
  have En2 : (3 : Int) * (n1 : Int) = (nn : Int) := by omega
  have hn1b : n1 ≤ 201 := by omega
  clear hnn hn1
  go_wp2_with fail
  refine (pick_any _ l _ nn _ hcu (by omega) (by omega) (by omega)).mono ?_
  rintro e w3 ⟨⟨x, rfl, hx⟩, hcu2, hch⟩
  replace oL := hch.owns oL (noB oL)
  replace oC := hch.owns oC (noB oC)
  replace hB := hB.trans (hch.below (B := w.heap.size) hB.size (fun k q => by omega))
  have hx6 : x ≤ 602 := by omega
  clear hch hcu hx
  go_wp2_with fail
  go_loopw [9, 10, 11] (fun ov fv i wr => (∃ (j : Nat) (O F : List Int), O.length + j ≤ 603 ∧ O.length = F.length ∧ i = .int .i64 j ∧ wr.ownsRow (w.heap.size + 1) 3 1 ov O.length (O.map (Value.int .i64)) ∧ wr.ownsRow (w.heap.size + 1) 3 1 fv F.length (F.map (Value.int .i64)) ∧ wr.ownsRow (w.heap.size + 1) 9 1 (.slice la L.length lb) L.length (L.map Value.string) ∧ wr.ownsRow (w.heap.size + 1) 37 4 (.slice ca C.length cb) C.length (flat4 C) ∧ (∀ g, ov.ownBlock = some g → fv.ownBlock = some g → False) ∧ Cur wr w.heap.size l (20000 + 6 * O.length) ∧ Below w.heap.size w wr)) (fun _ _ i _ => (intOf i).toNat)
  case atStart => exact ⟨x, [], [], by simp; omega, rfl, rfl, World.ownsRow_nil _ _ _ _, World.ownsRow_nil _ _ _ _, oL, oC, fun g h => by simp [Value.ownBlock] at h, hcu2.mono (by simp), hB⟩
  case round =>
    clear oL oC hB hcu2
    obtain ⟨j, O, F, hj, hOF, rfl, oO, oF, oL, oC, hne, hcu, hB⟩ := hrel
    have HOF : Hid (O.length = F.length) := hOF
    have HNE : Hid (∀ g, _ → _ → False) := hne
    have hOb : O.length ≤ 603 := by omega
    have hFb : F.length ≤ 603 := by omega
    clear hOF hne
    obtain ⟨oa, ob, rfl⟩ := owns_shape oO
    obtain ⟨fa, fb, rfl⟩ := owns_shape oF
    by_cases hj0 : 0 < j
    · have gj : (0 : Int) < (j : Int) := by omega
      go_wp2_with fail
      refine (pick_any _ l _ n1 _ hcu (by omega) (by omega) (by omega)).mono ?_
      rintro e w4 ⟨⟨p, rfl, hp⟩, hcu2, hch⟩
      replace oO := hch.owns oO (noB oO)
      replace oF := hch.owns oF (noB oF)
      replace oL := hch.owns oL (noB oL)
      replace oC := hch.owns oC (noB oC)
      replace hB := hB.trans (hch.below (B := w.heap.size) hB.size (fun k q => by omega))
      have hcu := hcu2
      clear hcu2 hch
      go_wp2_with (at_builtin; refine wpList_append_own_at _ rfl _ _ 24 rfl (w.heap.size + 1) 3 i0 (.int .i64 0) 1 8 Try.underlying24 hi hz0 hzs hzb rfl (by decide) _ O.length (O.map (Value.int .i64)) rfl (owns_below oO (below_alloc _ _)) ⟨w4.heap.size, 0, none⟩ 1 1 [.int .i64 (p : Int)] rfl rfl (by intro j u hj; match j, hj with | 0, hj => simp at hj; subst hj; simp [Addr.add]) (by intro u hu; simp at hu; subst hu; rfl) (by unfold maxLen; omega) (by omega) (by have := hB.size; simp; omega) ?_; intro v' w5 hown9 hgrow9 _ hat9; refine StopA.go ?_)
      have BA := below_alloc w4 (.cells #[.int .i64 (p : Int)] 3)
      have CG := grown_chg hgrow9
      have hge9 := owns_ge oO
      have BG := CG.below (B := w.heap.size + 1) (by have := hB.size; simp; omega) (fun k q => hge9 k q)
      have hlt9 := owns_below_lt oF
      have hltL := owns_below_lt oL
      have hltC := owns_below_lt oC
      have oF2 := CG.owns (owns_below oF BA) (fun g hg q => HNE.out g q hg)
      have oL2 := CG.owns (owns_below oL BA) (fun g hg q => owns_type_ne oL oO (by decide) g hg q)
      have oC2 := CG.owns (owns_below oC BA) (fun g hg q => owns_type_ne oC oO (by decide) g hg q)
      have hcu2 := cur_low (hcu.chg BA) (by omega) BG
      have hB2 := (hB.trans (BA.mono hB.size)).trans (BG.mono (by omega))
      have HNE2 : Hid (∀ g, v'.ownBlock = some g → (.slice fa F.length fb : Value).ownBlock = some g → False) := fun g h1 h2 => by
        rcases hat9 with q | q
        · rw [q] at h1; exact HNE.out g h1 h2
        · rw [q] at h1
          simp only [Option.some.injEq, World.size_alloc] at h1
          have := hlt9 g h2
          omega
      obtain ⟨O2, hO2⟩ : ∃ O2, O2 = O ++ [(p : Int)] := ⟨_, rfl⟩
      have HlO2 : Hid (O2.length = O.length + 1) := by show _ = _; rw [hO2]; simp
      have oO2 : w5.ownsRow (w.heap.size + 1) 3 1 v' O2.length (O2.map (Value.int .i64)) := by rw [hO2, List.length_append, List.map_append]; exact hown9
      obtain ⟨oa2, ob2, rfl⟩ := owns_shape oO2
      clear oO oF oL oC hcu hB HNE hown9 hgrow9 hat9 BA CG BG hge9 hlt9 hltL hltC hO2
      have oO := oO2
      have oF := oF2
      have oL := oL2
      have oC := oC2
      have hcu := hcu2
      have hB := hB2
      have HNE := HNE2
      clear oO2 oF2 oL2 oC2 hcu2 hB2 HNE2
      unfold StopA
      go_wp2_with fail
      refine (one_any _ l _ 4 _ hcu (by omega) (by omega) (by omega)).mono ?_
      rintro e w6 ⟨⟨y4, rfl⟩, hcu2, hch⟩
      replace oO := hch.owns oO (noB oO)
      replace oF := hch.owns oF (noB oF)
      replace oL := hch.owns oL (noB oL)
      replace oC := hch.owns oC (noB oC)
      replace hB := hB.trans (hch.below (B := w.heap.size) hB.size (fun k q => by omega))
      have hcu := hcu2
      clear hcu2 hch
      cases y4 with
      | false =>
        go_wp2_with (at_builtin; refine wpList_append_own_at _ rfl _ _ 24 rfl (w.heap.size + 1) 3 i0 (.int .i64 0) 1 8 Try.underlying24 hi hz0 hzs hzb rfl (by decide) _ F.length (F.map (Value.int .i64)) rfl (owns_below oF (below_alloc _ _)) ⟨w6.heap.size, 0, none⟩ 1 1 [.int .i64 (-1)] rfl rfl (by intro j u hj; match j, hj with | 0, hj => simp at hj; subst hj; simp [Addr.add]) (by intro u hu; simp at hu; subst hu; rfl) (by unfold maxLen; omega) (by omega) (by have := hB.size; simp; omega) ?_; intro v' w7 hown9 hgrow9 _ hat9; refine StopA.go ?_)
        have BA := below_alloc w6 (.cells #[.int .i64 (-1)] 3)
        have CG := grown_chg hgrow9
        have hge9 := owns_ge oF
        have BG := CG.below (B := w.heap.size + 1) (by have := hB.size; simp; omega) (fun k q => hge9 k q)
        have hlt9 := owns_below_lt oO
        have hltL := owns_below_lt oL
        have hltC := owns_below_lt oC
        have oO2 := CG.owns (owns_below oO BA) (fun g hg q => HNE.out g hg q)
        have oL2 := CG.owns (owns_below oL BA) (fun g hg q => owns_type_ne oL oF (by decide) g hg q)
        have oC2 := CG.owns (owns_below oC BA) (fun g hg q => owns_type_ne oC oF (by decide) g hg q)
        have hcu2 := cur_low (hcu.chg BA) (by omega) BG
        have hB2 := (hB.trans (BA.mono hB.size)).trans (BG.mono (by omega))
        have HNE2 : Hid (∀ g, (.slice oa2 O2.length ob2 : Value).ownBlock = some g → v'.ownBlock = some g → False) := fun g h2 h1 => by
          rcases hat9 with q | q
          · rw [q] at h1; exact HNE.out g h2 h1
          · rw [q] at h1
            simp only [Option.some.injEq, World.size_alloc] at h1
            have := hlt9 g h2
            omega
        obtain ⟨F2, hF2⟩ : ∃ F2, F2 = F ++ [(-1)] := ⟨_, rfl⟩
        have HlF2 : Hid (F2.length = F.length + 1) := by show _ = _; rw [hF2]; simp
        have oF2 : w7.ownsRow (w.heap.size + 1) 3 1 v' F2.length (F2.map (Value.int .i64)) := by rw [hF2, List.length_append, List.map_append]; exact hown9
        obtain ⟨fa2, fb2, rfl⟩ := owns_shape oF2
        clear oF oO oL oC hcu hB HNE hown9 hgrow9 hat9 BA CG BG hge9 hlt9 hltL hltC hF2
        have oF := oF2
        have oO := oO2
        have oL := oL2
        have oC := oC2
        have hcu := hcu2
        have hB := hB2
        have HNE := HNE2
        clear oF2 oO2 oL2 oC2 hcu2 hB2 HNE2
        unfold StopA
        go_wp2
        go_roundw
        case rel => exact ⟨j - 1, O2, F2, by have := HlO2.out; omega, by have := HOF.out; have := HlO2.out; have := HlF2.out; omega, by go_num, oO, oF, oL, oC, HNE.out, hcu.mono (by have := HlO2.out; omega), hB⟩
        case measure => simp [intOf]; omega
      | true =>
        go_wp2_with fail
        refine (pick_any _ l _ 600 _ hcu (by omega) (by omega) (by omega)).mono ?_
        rintro e w7 ⟨⟨q, rfl, hq⟩, hcu2, hch⟩
        replace oO := hch.owns oO (noB oO)
        replace oF := hch.owns oF (noB oF)
        replace oL := hch.owns oL (noB oL)
        replace oC := hch.owns oC (noB oC)
        replace hB := hB.trans (hch.below (B := w.heap.size) hB.size (fun k q => by omega))
        have hcu := hcu2
        clear hcu2 hch
        go_wp2_with (at_builtin; refine wpList_append_own_at _ rfl _ _ 24 rfl (w.heap.size + 1) 3 i0 (.int .i64 0) 1 8 Try.underlying24 hi hz0 hzs hzb rfl (by decide) _ F.length (F.map (Value.int .i64)) rfl (owns_below oF (below_alloc _ _)) ⟨w7.heap.size, 0, none⟩ 1 1 [.int .i64 (q : Int)] rfl rfl (by intro j u hj; match j, hj with | 0, hj => simp at hj; subst hj; simp [Addr.add]) (by intro u hu; simp at hu; subst hu; rfl) (by unfold maxLen; omega) (by omega) (by have := hB.size; simp; omega) ?_; intro v' w8 hown9 hgrow9 _ hat9; refine StopA.go ?_)
        have BA := below_alloc w7 (.cells #[.int .i64 (q : Int)] 3)
        have CG := grown_chg hgrow9
        have hge9 := owns_ge oF
        have BG := CG.below (B := w.heap.size + 1) (by have := hB.size; simp; omega) (fun k q => hge9 k q)
        have hlt9 := owns_below_lt oO
        have hltL := owns_below_lt oL
        have hltC := owns_below_lt oC
        have oO2 := CG.owns (owns_below oO BA) (fun g hg q => HNE.out g hg q)
        have oL2 := CG.owns (owns_below oL BA) (fun g hg q => owns_type_ne oL oF (by decide) g hg q)
        have oC2 := CG.owns (owns_below oC BA) (fun g hg q => owns_type_ne oC oF (by decide) g hg q)
        have hcu2 := cur_low (hcu.chg BA) (by omega) BG
        have hB2 := (hB.trans (BA.mono hB.size)).trans (BG.mono (by omega))
        have HNE2 : Hid (∀ g, (.slice oa2 O2.length ob2 : Value).ownBlock = some g → v'.ownBlock = some g → False) := fun g h2 h1 => by
          rcases hat9 with q | q
          · rw [q] at h1; exact HNE.out g h2 h1
          · rw [q] at h1
            simp only [Option.some.injEq, World.size_alloc] at h1
            have := hlt9 g h2
            omega
        obtain ⟨F2, hF2⟩ : ∃ F2, F2 = F ++ [(q : Int)] := ⟨_, rfl⟩
        have HlF2 : Hid (F2.length = F.length + 1) := by show _ = _; rw [hF2]; simp
        have oF2 : w8.ownsRow (w.heap.size + 1) 3 1 v' F2.length (F2.map (Value.int .i64)) := by rw [hF2, List.length_append, List.map_append]; exact hown9
        obtain ⟨fa2, fb2, rfl⟩ := owns_shape oF2
        clear oF oO oL oC hcu hB HNE hown9 hgrow9 hat9 BA CG BG hge9 hlt9 hltL hltC hF2
        have oF := oF2
        have oO := oO2
        have oL := oL2
        have oC := oC2
        have hcu := hcu2
        have hB := hB2
        have HNE := HNE2
        clear oF2 oO2 oL2 oC2 hcu2 hB2 HNE2
        unfold StopA
        go_wp2
        go_roundw
        case rel => exact ⟨j - 1, O2, F2, by have := HlO2.out; omega, by have := HOF.out; have := HlO2.out; have := HlF2.out; omega, by go_num, oO, oF, oL, oC, HNE.out, hcu.mono (by have := HlO2.out; omega), hB⟩
        case measure => simp [intOf]; omega
    · have gj : ¬ (0 : Int) < (j : Int) := by omega
      go_wp2_with fail
      refine (one_any _ l _ 3 _ hcu (by omega) (by omega) (by omega)).mono ?_
      rintro e w4 ⟨⟨y5, rfl⟩, hcu2, hch⟩
      replace oO := hch.owns oO (noB oO)
      replace oF := hch.owns oF (noB oF)
      replace oL := hch.owns oL (noB oL)
      replace oC := hch.owns oC (noB oC)
      replace hB := hB.trans (hch.below (B := w.heap.size) hB.size (fun k q => by omega))
      have hcu := hcu2
      clear hcu2 hch
      cases y5 with
      | true =>
        have H1 : Hid _ := owns_mono' oL (show w.heap.size ≤ w.heap.size + 1 from by omega)
        have H2 : Hid _ := owns_mono' oO (show w.heap.size ≤ w.heap.size + 1 from by omega)
        have H3 : Hid _ := owns_mono' oF (show w.heap.size ≤ w.heap.size + 1 from by omega)
        clear oL oO oF oC
        go_wp2
        exact bodyPost_ret (v := .tuple #[.slice la L.length lb, .slice oa O.length ob, .slice fa F.length fb]) (by simp [results, Try.results14, go_sem]) rfl <| DPPost.mk ⟨hL, HSZ.out, HOF.out, by omega⟩ H1.out H2.out H3.out hB
      | false =>
        go_wp2_with fail
        go_loopw [9, 10, 13] (fun ov fv i wr => (∃ (j : Nat) (O F : List Int), O.length + j ≤ 810 ∧ j ≤ C.length ∧ O.length = F.length ∧ i = .int .i64 ((j : Int) - 1) ∧ wr.ownsRow (w.heap.size + 1) 3 1 ov O.length (O.map (Value.int .i64)) ∧ wr.ownsRow (w.heap.size + 1) 3 1 fv F.length (F.map (Value.int .i64)) ∧ wr.ownsRow (w.heap.size + 1) 9 1 (.slice la L.length lb) L.length (L.map Value.string) ∧ wr.ownsRow (w.heap.size + 1) 37 4 (.slice ca C.length cb) C.length (flat4 C) ∧ (∀ g, ov.ownBlock = some g → fv.ownBlock = some g → False) ∧ Cur wr w.heap.size l 40000 ∧ Below w.heap.size w wr)) (fun _ _ i _ => (intOf i + 1).toNat)
        case atStart => exact ⟨C.length, O, F, by omega, Nat.le_refl _, HOF.out, by go_num, oO, oF, oL, oC, HNE.out, hcu.mono (by omega), hB⟩
        case round =>
          clear oO oF oL oC hB hcu HOF HNE
          obtain ⟨j, O, F, hj, hjC, hOF, rfl, oO, oF, oL, oC, hne, hcu, hB⟩ := hrel
          have HOF : Hid (O.length = F.length) := hOF
          have HNE : Hid (∀ g, _ → _ → False) := hne
          have hOb : O.length ≤ 810 := by omega
          have hFb : F.length ≤ 810 := by omega
          clear hOF hne
          obtain ⟨oa, ob, rfl⟩ := owns_shape oO
          obtain ⟨fa, fb, rfl⟩ := owns_shape oF
          by_cases hj0 : 0 < j
          · have gj : (0 : Int) ≤ (j : Int) - 1 := by omega
            obtain ⟨ji, Eji⟩ : ∃ ji : Int, ji = (j : Int) - 1 := ⟨_, rfl⟩
            go_wp2_with (at_builtin; refine wpList_append_own_at _ rfl _ _ 24 rfl (w.heap.size + 1) 3 i0 (.int .i64 0) 1 8 Try.underlying24 hi hz0 hzs hzb rfl (by decide) _ O.length (O.map (Value.int .i64)) rfl (owns_below oO (below_alloc _ _)) ⟨wr.heap.size, 0, none⟩ 1 1 [.int .i64 ((j : Int) - 1)] rfl rfl (by intro j u hj; match j, hj with | 0, hj => simp at hj; subst hj; simp [Addr.add]) (by intro u hu; simp at hu; subst hu; rfl) (by unfold maxLen; omega) (by omega) (by have := hB.size; simp; omega) ?_; intro v' w5 hown9 hgrow9 _ hat9; refine StopA.go ?_)
            have BA := below_alloc wr (.cells #[.int .i64 ((j : Int) - 1)] 3)
            have CG := grown_chg hgrow9
            have hge9 := owns_ge oO
            have BG := CG.below (B := w.heap.size + 1) (by have := hB.size; simp; omega) (fun k q => hge9 k q)
            have hlt9 := owns_below_lt oF
            have hltL := owns_below_lt oL
            have hltC := owns_below_lt oC
            have oF2 := CG.owns (owns_below oF BA) (fun g hg q => HNE.out g q hg)
            have oL2 := CG.owns (owns_below oL BA) (fun g hg q => owns_type_ne oL oO (by decide) g hg q)
            have oC2 := CG.owns (owns_below oC BA) (fun g hg q => owns_type_ne oC oO (by decide) g hg q)
            have hcu2 := cur_low (hcu.chg BA) (by omega) BG
            have hB2 := (hB.trans (BA.mono hB.size)).trans (BG.mono (by omega))
            have HNE2 : Hid (∀ g, v'.ownBlock = some g → (.slice fa F.length fb : Value).ownBlock = some g → False) := fun g h1 h2 => by
              rcases hat9 with q | q
              · rw [q] at h1; exact HNE.out g h1 h2
              · rw [q] at h1
                simp only [Option.some.injEq, World.size_alloc] at h1
                have := hlt9 g h2
                omega
            obtain ⟨O2, hO2⟩ : ∃ O2, O2 = O ++ [((j : Int) - 1)] := ⟨_, rfl⟩
            have HlO2 : Hid (O2.length = O.length + 1) := by show _ = _; rw [hO2]; simp
            have oO2 : w5.ownsRow (w.heap.size + 1) 3 1 v' O2.length (O2.map (Value.int .i64)) := by rw [hO2, List.length_append, List.map_append]; exact hown9
            obtain ⟨oa2, ob2, rfl⟩ := owns_shape oO2
            clear oO oF oL oC hcu hB HNE hown9 hgrow9 hat9 BA CG BG hge9 hlt9 hltL hltC hO2
            have oO := oO2
            have oF := oF2
            have oL := oL2
            have oC := oC2
            have hcu := hcu2
            have hB := hB2
            have HNE := HNE2
            clear oO2 oF2 oL2 oC2 hcu2 hB2 HNE2
            unfold StopA
            go_wp2_with (at_builtin; refine wpList_append_own_at _ rfl _ _ 24 rfl (w.heap.size + 1) 3 i0 (.int .i64 0) 1 8 Try.underlying24 hi hz0 hzs hzb rfl (by decide) _ F.length (F.map (Value.int .i64)) rfl (owns_below oF (below_alloc _ _)) ⟨w5.heap.size, 0, none⟩ 1 1 [.int .i64 (-1)] rfl rfl (by intro j u hj; match j, hj with | 0, hj => simp at hj; subst hj; simp [Addr.add]) (by intro u hu; simp at hu; subst hu; rfl) (by unfold maxLen; omega) (by omega) (by have := hB.size; simp; omega) ?_; intro v' w6 hown9 hgrow9 _ hat9; refine StopA.go ?_)
            have BA := below_alloc w5 (.cells #[.int .i64 (-1)] 3)
            have CG := grown_chg hgrow9
            have hge9 := owns_ge oF
            have BG := CG.below (B := w.heap.size + 1) (by have := hB.size; simp; omega) (fun k q => hge9 k q)
            have hlt9 := owns_below_lt oO
            have hltL := owns_below_lt oL
            have hltC := owns_below_lt oC
            have oO2 := CG.owns (owns_below oO BA) (fun g hg q => HNE.out g hg q)
            have oL2 := CG.owns (owns_below oL BA) (fun g hg q => owns_type_ne oL oF (by decide) g hg q)
            have oC2 := CG.owns (owns_below oC BA) (fun g hg q => owns_type_ne oC oF (by decide) g hg q)
            have hcu2 := cur_low (hcu.chg BA) (by omega) BG
            have hB2 := (hB.trans (BA.mono hB.size)).trans (BG.mono (by omega))
            have HNE2 : Hid (∀ g, (.slice oa2 O2.length ob2 : Value).ownBlock = some g → v'.ownBlock = some g → False) := fun g h2 h1 => by
              rcases hat9 with q | q
              · rw [q] at h1; exact HNE.out g h2 h1
              · rw [q] at h1
                simp only [Option.some.injEq, World.size_alloc] at h1
                have := hlt9 g h2
                omega
            obtain ⟨F2, hF2⟩ : ∃ F2, F2 = F ++ [(-1)] := ⟨_, rfl⟩
            have HlF2 : Hid (F2.length = F.length + 1) := by show _ = _; rw [hF2]; simp
            have oF2 : w6.ownsRow (w.heap.size + 1) 3 1 v' F2.length (F2.map (Value.int .i64)) := by rw [hF2, List.length_append, List.map_append]; exact hown9
            obtain ⟨fa2, fb2, rfl⟩ := owns_shape oF2
            clear oF oO oL oC hcu hB HNE hown9 hgrow9 hat9 BA CG BG hge9 hlt9 hltL hltC hF2
            have oF := oF2
            have oO := oO2
            have oL := oL2
            have oC := oC2
            have hcu := hcu2
            have hB := hB2
            have HNE := HNE2
            clear oF2 oO2 oL2 oC2 hcu2 hB2 HNE2
            unfold StopA
            go_wp2
            go_roundw
            case rel => exact ⟨j - 1, O2, F2, by have := HlO2.out; omega, by omega, by have := HOF.out; have := HlO2.out; have := HlF2.out; omega, by go_num, oO, oF, oL, oC, HNE.out, hcu, hB⟩
            case measure => simp [intOf]; omega
          · have gj : ¬ (0 : Int) ≤ (j : Int) - 1 := by omega
            have H1 : Hid _ := owns_mono' oL (show w.heap.size ≤ w.heap.size + 1 from by omega)
            have H2 : Hid _ := owns_mono' oO (show w.heap.size ≤ w.heap.size + 1 from by omega)
            have H3 : Hid _ := owns_mono' oF (show w.heap.size ≤ w.heap.size + 1 from by omega)
            clear oL oO oF oC
            go_wp2
            exact bodyPost_ret (v := .tuple #[.slice la L.length lb, .slice oa O.length ob, .slice fa F.length fb]) (by simp [results, Try.results14, go_sem]) rfl <| DPPost.mk ⟨hL, HSZ.out, HOF.out, by omega⟩ H1.out H2.out H3.out hB
end Go.Proofs.Ytocaigffikdlhaa
