/-
  markIntS, markTowerS, markSkip: what they write.
-/
import Derived.Test.YtcjkdkaahkphfaaDoorN1ToN2
import Derived.Test.YtcjkdkaahkphfaaDoorH1ToO1
import Derived.Test.YtcjkdkaahkphfaaDoorG4
namespace Go.Proofs.YtcjkdkaahkphfaaDoor
open Go.RowKit
set_option linter.unusedVariables false
set_option maxRecDepth 100000

theorem owns_has {w : World} {base : Nat} {e : TypeId} {size g cap n : Nat} {xs : List Value} (h : w.ownsRow base e size (.slice (some ⟨g, 0, none⟩) n cap) n xs) (i : Nat) (hi : i < n * size) : (∃ u, w.cell? ⟨g, i, none⟩ = some u) ∧ w.frozen? ⟨g, i, none⟩ = false := by
  have hl := h.1
  refine ⟨⟨xs[i]'(by omega), ?_⟩, h.frozenAt i⟩
  rw [h.cellAt i hi, List.getElem?_eq_getElem (by omega)]

set_option maxHeartbeats 2000000 in
theorem markInts_at (g cap base n : Nat) (xs : List Value) (k : Int) (w : World) (ho : w.ownsRow base 3 1 (.slice (some ⟨g, 0, none⟩) n cap) n xs) (hn : n ≤ 1048576) (hk0 : 0 ≤ k) (hk : k ≤ 10000000) :
    Calls Tryd.prog 31 #[.slice (some ⟨g, 0, none⟩) n cap, .int .i64 k] w fun e w' => e = .returned (.int .i64 (k + n)) ∧ Chg (· = g) w w' := by
  go_enter Tryd.func31, Tryd.ntmps31
  go_wp2
  go_loopw [1, 5] (fun t i wr => ∃ (j : Nat) (ys : List Value), j ≤ n ∧ i = .int .i64 j ∧ t = .int .i64 (k + j) ∧ wr.ownsRow base 3 1 (.slice (some ⟨g, 0, none⟩) n cap) n ys ∧ Chg (· = g) w wr) (fun _ i _ => n - (intOf i).toNat)
  case atStart => exact ⟨0, xs, Nat.zero_le _, rfl, by go_num, ho, Chg.refl _ _⟩
  case round =>
    clear ho
    obtain ⟨j, ys, hj, rfl, rfl, hown, hch⟩ := hrel
    by_cases hlt : j < n
    · obtain ⟨⟨u, d0⟩, f0⟩ := owns_has hown j (by omega)
      have hgl := (owns_lt hown).2
      have o1 := (hown.stored j (.int .i64 (k + j))).1
      have C1 := hch.setCell (p := ⟨g, j, none⟩) rfl (.int .i64 (k + j))
      have HO : Hid _ := o1
      have HC : Hid _ := C1
      clear hown hch o1 C1
      go_wp2
      go_roundw
      case rel => exact ⟨j + 1, _, by omega, by go_num, by go_num, HO.out, HC.out⟩
      case measure => simp [intOf]; omega
    · obtain rfl : j = n := by omega
      clear hown
      go_wp2
      go_ret
      exact ⟨rfl, hch⟩

set_option maxHeartbeats 8000000 in
theorem markTowers_at (g cap base : Nat) (ts : List Tw) (gs : List Nat) (k : Int) (w : World) (ho : w.ownsRow base 49 5 (.slice (some ⟨g, 0, none⟩) ts.length cap) ts.length (flat5 (List.zipWith rowT ts gs))) (hL : Lnk w g ts gs) (hg : gs.length = ts.length) (hn : ts.length ≤ 1048576) (hT : totT ts ≤ 1048576) (hk1 : 1 ≤ k) (hk : k ≤ 1048577) :
    Calls Tryd.prog 32 #[.slice (some ⟨g, 0, none⟩) ts.length cap, .int .i64 k] w fun e w' => (∃ m : Int, 0 ≤ m ∧ e = .returned (.int .i64 m)) ∧ Chg (fun b => b = g ∨ b ∈ gs) w w' := by
  have hlink : ∀ i (h : i < ts.length), (flat5 (List.zipWith rowT ts gs))[i * 5 + 4]? = some (.slice (some ⟨gs[i]'(by omega), 0, none⟩) ts[i].next.length ts[i].next.length) := fun i h => by
    have hz := zip_at ts gs i h (by omega)
    have hlen : i < (List.zipWith rowT ts gs).length := by simp; omega
    obtain ⟨_, _, _, _, h4⟩ := flat5_get (List.zipWith rowT ts gs) i hlen
    rw [h4, (List.getElem_eq_iff hlen).2 hz]
    rfl
  have hsum : ∀ j, totT (ts.take j) ≤ totT ts := fun j => by
    have : ∀ (l : List Tw) n, totT (l.take n) ≤ totT l := fun l => by
      induction l with
      | nil => intro n; simp [totT]
      | cons x r ih => intro n; cases n with | zero => simp [totT] | succ n => simp only [List.take_succ_cons, totT]; have := ih n; omega
    exact this ts j
  go_enter Tryd.func32, Tryd.ntmps32
  go_wp2
  go_loopw [1, 5] (fun t i wr => ∃ (j : Nat) (m : Int) (ys : List Value), j ≤ ts.length ∧ i = .int .i64 j ∧ t = .int .i64 m ∧ 1 ≤ m ∧ m ≤ 1048577 + 4 * j + totT (ts.take j) ∧ wr.ownsRow base 49 5 (.slice (some ⟨g, 0, none⟩) ts.length cap) ts.length ys ∧ (∀ i (h : i < ts.length), ys[i * 5 + 4]? = some (.slice (some ⟨gs[i]'(by omega), 0, none⟩) ts[i].next.length ts[i].next.length)) ∧ (∀ i (h : i < ts.length), j ≤ i → wr.ownsRow (gs[i]'(by omega)) 3 1 (.slice (some ⟨gs[i]'(by omega), 0, none⟩) ts[i].next.length ts[i].next.length) ts[i].next.length (ts[i].next.map (.int .i64))) ∧ Chg (fun b => b = g ∨ b ∈ gs) w wr) (fun _ i _ => ts.length - (intOf i).toNat)
  case atStart => exact ⟨0, k, _, Nat.zero_le _, rfl, rfl, hk1, by omega, ho, hlink, fun i h _ => (hL.2.2 i (by omega) h).2, Chg.refl _ _⟩
  case round =>
    clear ho hlink
    obtain ⟨j, m, ys, hj, rfl, rfl, hm1, hm2, hown, hlk, hrows, hch⟩ := hrel
    have hsj := hsum j
    by_cases hlt : j < ts.length
    · have htk := totT_take ts j hlt
      have hbig : ts[j].next.length ≤ ts[j].big := by unfold Tw.big; omega
      have hsj1 := hsum (j + 1)
      have hgj : g < gs[j]'(by omega) := (hL.2.2 j (by omega) hlt).1
      have hmem : gs[j]'(by omega) ∈ gs := List.getElem_mem _
      have hlkj := hlk j hlt
      have hrowj := hrows j hlt (Nat.le_refl _)
      have hup : ∀ i (h : i < ts.length), j + 1 ≤ i → gs[j]'(by omega) < gs[i]'(by omega) := fun i h hji => List.pairwise_iff_getElem.1 hL.2.1 j i (by omega) (by omega) (by omega)
      have hgi : ∀ i (h : i < ts.length), g < gs[i]'(by omega) := fun i h => (hL.2.2 i (by omega) h).1
      have hgl := (owns_lt hown).2
      have hyl := hown.1
      have hset : ∀ (zs : List Value) (p : Nat) (u : Value), (∀ i (h : i < ts.length), zs[i * 5 + 4]? = some (.slice (some ⟨gs[i]'(by omega), 0, none⟩) ts[i].next.length ts[i].next.length)) → p % 5 ≠ 4 → ∀ i (h : i < ts.length), (zs.set p u)[i * 5 + 4]? = some (.slice (some ⟨gs[i]'(by omega), 0, none⟩) ts[i].next.length ts[i].next.length) := fun zs p u hz hp i h => by
        rw [List.getElem?_set_ne (by omega)]; exact hz i h
      have hlk2 := hset _ (j * 5 + 3) (.string (mkT (m + 1 + 1 + 1))) (hset _ (j * 5 + 2) (.int .i64 (m + 1 + 1)) (hset _ (j * 5 + 1) (.int .i64 (m + 1)) (hset ys (j * 5) (.string (mkT m)) hlk (by omega)) (by omega)) (by omega)) (by omega)
      have hrest : ∀ w' W, (∀ i (h : i < ts.length), j ≤ i → W.ownsRow (gs[i]'(by omega)) 3 1 (.slice (some ⟨gs[i]'(by omega), 0, none⟩) ts[i].next.length ts[i].next.length) ts[i].next.length (ts[i].next.map (.int .i64))) → Chg (· = gs[j]'(by omega)) W w' → ∀ i (h : i < ts.length), j + 1 ≤ i → w'.ownsRow (gs[i]'(by omega)) 3 1 (.slice (some ⟨gs[i]'(by omega), 0, none⟩) ts[i].next.length ts[i].next.length) ts[i].next.length (ts[i].next.map (.int .i64)) := fun w' W hW hc i h hji => hc.owns (hW i h (by omega)) (fun b hb hh => by
        have e : b = gs[i]'(by omega) := by simpa [Value.ownBlock] using hb.symm
        have := hup i h hji
        omega)
      have hcg : ∀ W W', Chg (· = g) W W' → (∀ i (h : i < ts.length), j ≤ i → W.ownsRow (gs[i]'(by omega)) 3 1 (.slice (some ⟨gs[i]'(by omega), 0, none⟩) ts[i].next.length ts[i].next.length) ts[i].next.length (ts[i].next.map (.int .i64))) → ∀ i (h : i < ts.length), j ≤ i → W'.ownsRow (gs[i]'(by omega)) 3 1 (.slice (some ⟨gs[i]'(by omega), 0, none⟩) ts[i].next.length ts[i].next.length) ts[i].next.length (ts[i].next.map (.int .i64)) := fun W W' hc hW i h hji => hc.owns (hW i h hji) (fun b hb hh => by
        have e : b = gs[i]'(by omega) := by simpa [Value.ownBlock] using hb.symm
        have := hgi i h
        omega)
      have HRE : Hid _ := hrest
      have HCG : Hid _ := hcg
      have HLK : Hid _ := hlk2
      have HUP : m + 1 + 1 + 1 + 1 + ts[j].next.length ≤ 1048577 + 4 * ((j + 1 : Nat) : Int) + totT (ts.take (j + 1)) := by rw [htk]; omega
      have hnl : ts[j].next.length ≤ 1048576 := by omega
      have hm3 : m ≤ 8000000 := by omega
      have hlkj2 := hlk2 j hlt
      clear hrest hcg hlk hlk2 hset hup hgi hsum htk hbig hsj hsj1 hT hlkj hrowj hL
      go_wp2_with fail
      refine (markText_any m _ (by omega) (by omega)).mono ?_
      rintro e w1 ⟨rfl, hb1⟩
      replace hown := owns_below hown hb1
      have R1 := HCG.out wr w1 (Chg.of_below hb1) hrows
      have C1 : Chg (fun b => b = g ∨ b ∈ gs) w w1 := hch.trans (Chg.of_below hb1)
      have hgl1 := (owns_lt hown).2
      obtain ⟨⟨u0, d0⟩, f0⟩ := owns_has hown (j * 5) (by omega)
      obtain ⟨⟨u1, d1⟩, f1⟩ := owns_has hown (j * 5 + 1) (by omega)
      obtain ⟨⟨u2, d2⟩, f2⟩ := owns_has hown (j * 5 + 2) (by omega)
      have o3 := ((((hown.stored (j * 5) (.string (mkT m))).1).stored (j * 5 + 1) (.int .i64 (m + 1))).1.stored (j * 5 + 2) (.int .i64 (m + 1 + 1))).1
      have cc := (((Chg.refl (· = g) w1).setCell (p := ⟨g, j * 5, none⟩) rfl (.string (mkT m))).setCell (p := ⟨g, j * 5 + 1, none⟩) rfl (.int .i64 (m + 1))).setCell (p := ⟨g, j * 5 + 2, none⟩) rfl (.int .i64 (m + 1 + 1))
      have R2 := HCG.out _ _ cc R1
      have C2 := C1.trans (cc.mono (fun b h => .inl h))
      clear hown hrows hch C1 hb1 R1 cc hgl
      generalize mkT m = t1 at *
      go_wp2_with fail
      refine (markText_any (m + 1 + 1 + 1) _ (by omega) (by omega)).mono ?_
      rintro e w2 ⟨rfl, hb2⟩
      replace o3 := owns_below o3 hb2
      have R3 := HCG.out _ _ (Chg.of_below hb2) R2
      have C3 := C2.trans (Chg.of_below hb2)
      have hgl2 := (owns_lt o3).2
      obtain ⟨⟨u3, d3⟩, f3⟩ := owns_has o3 (j * 5 + 3) (by omega)
      have o4 := (o3.stored (j * 5 + 3) (.string (mkT (m + 1 + 1 + 1)))).1
      have cc := (Chg.refl (· = g) w2).setCell (p := ⟨g, j * 5 + 3, none⟩) rfl (.string (mkT (m + 1 + 1 + 1)))
      have R4 := HCG.out _ _ cc R3
      have C4 := C3.trans (cc.mono (fun b h => .inl h))
      have d4 := (o4.cellAt (j * 5 + 4) (by omega)).trans hlkj2
      have hgl4 := (owns_lt o4).2
      have KM := markInts_at (gs[j]'(by omega)) ts[j].next.length _ ts[j].next.length _ (m + 1 + 1 + 1 + 1) _ (R4 j hlt (Nat.le_refl _)) hnl (by omega) (by omega)
      clear d0 f0 d1 f1 d2 f2 C2 C3 o3 hb2 R2 R3 cc hlkj2 hyl
      have HR4 : Hid _ := R4
      have HO4 : Hid _ := o4
      have HC4 : Hid _ := C4
      clear R4 o4 C4
      generalize mkT (m + 1 + 1 + 1) = t2 at *
      obtain ⟨nl, hnl2⟩ : ∃ nl, ts[j].next.length = nl := ⟨_, rfl⟩
      obtain ⟨gj, hgj2⟩ : ∃ gj, gs[j]'(by omega) = gj := ⟨_, rfl⟩
      rw [hnl2, hgj2] at KM d4
      rw [hnl2] at HUP
      have HG : Hid (gs[j]'(by omega) = gj) := hgj2
      clear hnl2 hgj2 hnl
      go_wp2_with fail
      refine KM.mono ?_
      rintro e w3 ⟨rfl, hc3⟩
      have hO : w3.ownsRow base 49 5 (.slice (some ⟨g, 0, none⟩) ts.length cap) ts.length _ := hc3.owns HO4.out (fun b hb hh => by
        have e : b = g := by simpa [Value.ownBlock] using hb.symm
        have := HG.out
        omega)
      have hR := HRE.out w3 _ HR4.out (by rw [HG.out]; exact hc3)
      have hC := HC4.out.trans (hc3.mono (fun b h => .inr (by rw [h, ← HG.out]; exact hmem)))
      clear KM hc3 d4 d3 f3 HR4 HO4 HC4 HRE HCG hmem hgj
      go_wp2
      go_roundw
      case rel => exact ⟨j + 1, m + 1 + 1 + 1 + 1 + nl, _, by omega, by go_num, by go_num, by omega, HUP, hO, HLK.out, hR, hC⟩
      case measure => simp [intOf]; omega
    · clear hown hrows hlk
      go_wp2
      go_ret
      exact ⟨⟨m, by omega, rfl⟩, hch⟩

set_option maxHeartbeats 4000000 in
theorem markSkip_at (g1 g2 c1 c2 b1 b2 : Nat) (hs : List Int) (ts : List Tw) (gs : List Nat) (w : World) (h1 : w.ownsRow b1 3 1 (.slice (some ⟨g1, 0, none⟩) hs.length c1) hs.length (hs.map (.int .i64))) (ho : w.ownsRow b2 49 5 (.slice (some ⟨g2, 0, none⟩) ts.length c2) ts.length (flat5 (List.zipWith rowT ts gs))) (hL : Lnk w g2 ts gs) (hg : gs.length = ts.length) (h12 : g1 < g2) (hh : hs.length ≤ 1048576) (hn : ts.length ≤ 1048576) (hT : totT ts ≤ 1048576) :
    Calls Tryd.prog 11 #[.agg #[.slice (some ⟨g1, 0, none⟩) hs.length c1, .slice (some ⟨g2, 0, none⟩) ts.length c2], .int .i64 1] w fun e w' => (∃ m : Int, 0 ≤ m ∧ e = .returned (.int .i64 m)) ∧ Chg (fun b => b = g1 ∨ b = g2 ∨ b ∈ gs) w w' := by
  have hb0 := below_alloc w (.cells #[.slice (some ⟨g1, 0, none⟩) hs.length c1, .slice (some ⟨g2, 0, none⟩) ts.length c2] 32)
  have X0 := Box.new w #[.slice (some ⟨g1, 0, none⟩) hs.length c1, .slice (some ⟨g2, 0, none⟩) ts.length c2] 32
  have K1 := markInts_at g1 c1 b1 hs.length _ 1 _ (owns_below h1 hb0) hh (by omega) (by omega)
  have hg1 := (owns_lt h1).2
  have hg2 := (owns_lt ho).2
  have hgs : ∀ b ∈ gs, b < w.heap.size := fun b hb => hL.lt hb
  have hgg : ∀ b ∈ gs, g2 < b := fun b hb => by
    obtain ⟨i, hi, rfl⟩ := List.getElem_of_mem hb
    exact (hL.2.2 i hi (by omega)).1
  have HL0 : Hid _ := hL.below hb0
  have HO0 : Hid _ := owns_below ho hb0
  clear h1 ho hL
  go_enter Tryd.func11, Tryd.ntmps11
  go_wp2_with fail
  refine K1.mono ?_
  rintro e w1 ⟨rfl, hc1⟩
  have hO1 := hc1.owns HO0.out (fun b hb hh => by
    have e : b = g2 := by simpa [Value.ownBlock] using hb.symm
    omega)
  have hL1 : Lnk w1 g2 ts gs := ⟨HL0.out.1, HL0.out.2.1, fun i hi hi' => ⟨(HL0.out.2.2 i hi hi').1, hc1.owns (HL0.out.2.2 i hi hi').2 (fun b hb hh => by
    have e : b = gs[i] := by simpa [Value.ownBlock] using hb.symm
    have := (HL0.out.2.2 i hi hi').1
    omega)⟩⟩
  have X1 := hc1.box X0 (by omega)
  have C1 : Chg (fun b => b = g1 ∨ b = g2 ∨ b ∈ gs) w w1 := (Chg.of_below hb0).trans (hc1.mono (fun b h => .inl h))
  have K2 := markTowers_at g2 c2 b2 ts gs (1 + hs.length) w1 hO1 hL1 hg hn hT (by omega) (by omega)
  obtain ⟨x0, x1, x2⟩ := X1.c2
  clear hO1 hL1 K1 hc1 HL0 HO0 X0 hb0
  go_wp2_with fail
  refine K2.mono ?_
  rintro e w2 ⟨⟨m, hm, rfl⟩, hc2⟩
  have C2 := C1.trans (hc2.mono (fun b h => .inr h))
  clear K2 hc2 C1
  go_wp2
  go_ret
  exact ⟨⟨m, hm, rfl⟩, C2⟩
end Go.Proofs.YtcjkdkaahkphfaaDoor
