/-
  Nodes in a row, marked: markRaftNodeS.
-/
import Derived.Test.YtapfhhmimkkhnaaCIToCJ
import Derived.Deep.Cut
namespace Go.Proofs.Ytapfhhmimkkhnaa
open Go.RowKit Go.Maps
set_option linter.unusedVariables false
set_option maxRecDepth 100000

set_option maxHeartbeats 16000000 in
theorem markNodeS_own (v : Value) (b0 lo mid : Nat) (N : List Nv) (k : Int) (w : World) (ho : w.ownsRow b0 26 9 v N.length (flatN N)) (hch0 : Chain PN BN w lo mid N) (hn : N.length ≤ 1048576) (hs : ∀ i (h : i < N.length), N[i].n.log.length ≤ 1048576 ∧ N[i].n.vs.length ≤ 1048576 ∧ N[i].n.mt.length ≤ 1048576) (h1 : 1 ≤ k) (h2 : k + (sm uN N : Nat) ≤ 40000000) :
    Calls Try.prog 91 #[v, .int .i64 k] w fun e w' => e = .returned (.int .i64 (k + (sm uN N : Nat))) ∧ w'.ownsRow b0 26 9 v N.length (flatN (mkL mkNv uN k N)) ∧ Chain PN BN w' lo mid (mkL mkNv uN k N) ∧ Chg (fun b => v.ownBlock = some b ∨ ∃ i, ∃ h : i < N.length, BN N[i] b) w w' := by
  rcases ho.2 with ⟨rfl, h0⟩ | ⟨g, cap, cur, rfl, _⟩
  · obtain rfl : N = [] := List.length_eq_zero_iff.1 h0
    simp only [sm]
    go_enter Try.func91, Try.ntmps91
    go_wp2
    go_loopw [1, 5] (fun t i wr => i = .int .i64 0 ∧ t = .int .i64 k ∧ wr = w) (fun _ _ _ => 0)
    case atStart => exact ⟨rfl, rfl, rfl⟩
    case round =>
      obtain ⟨rfl, rfl, rfl⟩ := hrel
      go_wp2
      go_ret
      exact ⟨by simp, ho, hch0, Chg.refl _ _⟩
  obtain ⟨S, hS⟩ : ∃ S : Nat → Prop, S = fun b => (Value.slice (some ⟨g, 0, none⟩) N.length cap).ownBlock = some b ∨ ∃ i, ∃ h : i < N.length, BN N[i] b := ⟨_, rfl⟩
  rw [← hS]
  have Sg : S g := by rw [hS]; exact .inl rfl
  have Sin : ∀ i (h : i < N.length) b, BN N[i] b → S b := fun i h b hb => by rw [hS]; exact .inr ⟨i, h, hb⟩
  clear hS
  go_enter Try.func91, Try.ntmps91
  go_wp2
  go_loopw [1, 5] (fun t i wr => ∃ j : Nat, j ≤ N.length ∧ i = .int .i64 j ∧ t = .int .i64 (k + (sm uN (N.take j) : Nat)) ∧ wr.ownsRow b0 26 9 (.slice (some ⟨g, 0, none⟩) N.length cap) N.length (flatN (mkP mkNv uN k N j)) ∧ Chain PN BN wr lo mid (mkP mkNv uN k N j) ∧ Chg S w wr) (fun _ i _ => N.length - (intOf i).toNat)
  case atStart => exact ⟨0, Nat.zero_le _, rfl, by simp [sm], by rw [mkP_zero]; exact ho, by rw [mkP_zero]; exact hch0, Chg.refl _ _⟩
  case round =>
    clear ho hch0
    obtain ⟨j, hj, rfl, rfl, hown, hch, hC⟩ := hrel
    by_cases hlt : j < N.length
    · have hpl := mkP_length mkNv uN k N j hj
      have e0 := mkP_at mkNv uN k N j hlt
      obtain ⟨base, hb0, hP, hin⟩ := hch.at j (by omega)
      rw [e0] at hP hin
      have hss := hs j hlt
      have Sj := Sin j hlt
      have hkb := sm_take_le uN N j
      have hkc := sm_take_le uN N (j + 1)
      have HK2 : Hid (sm uN (N.take (j + 1)) = sm uN (N.take j) + uN N[j]) := sm_take uN N j hlt
      have HG : ∀ i (hi : i < (mkP mkNv uN k N j).length), ¬ BN (mkP mkNv uN k N j)[i] g := fun i hi hh => by
        obtain ⟨_, _, q, _⟩ := hch.at i hi
        exact PN.row_ne q hown (by decide) (by decide) g hh rfl
      have n0 := PN.row_ne hP hown (by decide) (by decide)
      have HX : Hid (∀ w' b', PN w' b' (mkNv (k + (sm uN (N.take j) : Nat)) N[j]) → Chg (fun b => b = g ∨ BN N[j] b) wr w' → Chain PN BN w' lo mid (mkP mkNv uN k N (j + 1))) := fun w' b' hp hc => by
        rw [← mkP_set mkNv uN k N j hlt]
        have hj2 : j < (mkP mkNv uN k N j).length := by omega
        refine Chain.setN (g := g) (base := b') hch j hj2 _ ?_ hp ?_ HG
        · rw [e0]; intro b hb; simpa [BN, mkNv, mkEs_length, mkZ_length] using hb
        · rw [e0]; exact hc
      have HF : Hid _ := flatN_setP (mkP mkNv uN k N j) j (mkNv (k + (sm uN (N.take j) : Nat)) N[j]) (by omega) (by rw [e0]; simp [mkNv, mkEs_length]) (by rw [e0]; simp [mkNv, mkZ_length]) (by rw [e0]; simp [mkNv, mkZ_length])
      rw [mkP_set mkNv uN k N j hlt] at HF
      obtain ⟨q0, q1, q2, q3, y4, q5, q6, y7, y8⟩ := flatN_get (mkP mkNv uN k N j) j (by omega)
      rw [e0] at y4 y7 y8
      clear q0 q1 q2 q3 q5 q6
      clear hpl e0 HG hch hs Sin
      obtain ⟨FL, HFL⟩ : ∃ FL, Hid (flatN (mkP mkNv uN k N (j + 1)) = FL) := ⟨flatN (mkP mkNv uN k N (j + 1)), rfl⟩
      rw [HFL.out] at HF
      generalize flatN (mkP mkNv uN k N j) = ys at *
      obtain ⟨kj, HKJ⟩ : ∃ kj : Int, Hid (k + (sm uN (N.take j) : Nat) = kj) := ⟨_, rfl⟩
      rw [HKJ.out] at HX HF ⊢
      have hk1 : 1 ≤ kj := by have := HKJ.out; omega
      have hk2 : kj ≤ 40000000 := by have := HKJ.out; omega
      have HK3 : Hid (k + (sm uN (N.take (j + 1)) : Nat) = kj + (uN N[j] : Nat)) := by have := HKJ.out; have := HK2.out; show _ = _; omega
      clear HK2 HKJ hkb hkc
      generalize N[j] = s at *
      obtain ⟨⟨id, pe, te, vo, co, ro, log, vs, mt⟩, la, lc, va, vc, ma, mc⟩ := s
      obtain ⟨z1, z2, z3⟩ := hss
      dsimp only [mkNv] at HX HF y4 y7 y8 z1 z2 z3
      dsimp only [PN, BN] at hP hin n0 HX Sj
      have HU : Hid ((uN ⟨⟨id, pe, te, vo, co, ro, log, vs, mt⟩, la, lc, va, vc, ma, mc⟩ : Int) = 6 + 2 * (log.length : Int) + (vs.length : Int) + (mt.length : Int)) := by show _ = _; simp [uN]
      have hgl := (owns_lt hown).2
      have m1 := owns_type_ne hP.l hP.v (by decide)
      have m2 := owns_type_ne hP.l hP.m (by decide)
      have m3 := hP.ne
      have i1 : ∀ b, (.slice la log.length lc : Value).ownBlock = some b → lo ≤ b ∧ b < mid ∧ ¬ b = g := fun b h => ⟨(hin b (.inl h)).1, (hin b (.inl h)).2, fun e => n0 b (.inl h) (by rw [e]; rfl)⟩
      have i2 : ∀ b, (.slice va vs.length vc : Value).ownBlock = some b → lo ≤ b ∧ b < mid ∧ ¬ b = g := fun b h => ⟨(hin b (.inr (.inl h))).1, (hin b (.inr (.inl h))).2, fun e => n0 b (.inr (.inl h)) (by rw [e]; rfl)⟩
      have i3 : ∀ b, (.slice ma mt.length mc : Value).ownBlock = some b → lo ≤ b ∧ b < mid ∧ ¬ b = g := fun b h => ⟨(hin b (.inr (.inr h))).1, (hin b (.inr (.inr h))).2, fun e => n0 b (.inr (.inr h)) (by rw [e]; rfl)⟩
      have K1 := fun W h => markEntryS_own (.slice la log.length lc) base log (kj + 1 + 1 + 1 + 1) W h z1 (by omega) (by omega)
      have K2 := fun W h => markIntS_own (.slice va vs.length vc) base vs.length (vs.map (.int .i64)) (kj + 1 + 1 + 1 + 1 + 2 * (log.length : Int) + 1 + 1) W h (by simp) z2 (by omega) (by omega)
      have K3 := fun W h => markIntS_own (.slice ma mt.length mc) base mt.length (mt.map (.int .i64)) (kj + 1 + 1 + 1 + 1 + 2 * (log.length : Int) + 1 + 1 + (vs.length : Int)) W h (by simp) z3 (by omega) (by omega)
      obtain ⟨ol, ov, om, _⟩ := hP
      have CT : Chg (fun b => b = g ∨ NB (.slice la log.length lc) (.slice va vs.length vc) (.slice ma mt.length mc) b) wr wr := Chg.refl _ _
      clear n0 hin
      obtain ⟨⟨u0, d0⟩, f0⟩ := owns9_at hown j hlt 0 (by omega)
      obtain ⟨⟨u1, d1⟩, f1⟩ := owns9_at hown j hlt 1 (by omega)
      obtain ⟨⟨u2, d2⟩, f2⟩ := owns9_at hown j hlt 2 (by omega)
      obtain ⟨⟨u3, d3⟩, f3⟩ := owns9_at hown j hlt 3 (by omega)
      rw [Nat.add_zero] at d0 f0
      have o4 := ((((hown.stored (j * 9) (.int .i64 (kj))).1.stored (j * 9 + 1) (.int .i64 (kj + 1))).1.stored (j * 9 + 2) (.int .i64 (kj + 1 + 1))).1.stored (j * 9 + 3) (.int .i64 (kj + 1 + 1 + 1))).1
      obtain ⟨W4, hW4⟩ : ∃ W, W = ((((wr).setCell ⟨g, j * 9, none⟩ (.int .i64 (kj))).setCell ⟨g, j * 9 + 1, none⟩ (.int .i64 (kj + 1))).setCell ⟨g, j * 9 + 2, none⟩ (.int .i64 (kj + 1 + 1))).setCell ⟨g, j * 9 + 3, none⟩ (.int .i64 (kj + 1 + 1 + 1)) := ⟨_, rfl⟩
      rw [← hW4] at o4
      have hc4 : Chg (fun b => b = g) wr W4 := by
        rw [hW4]
        iterate 4 (refine Chg.setCell (S := fun b => b = g) ?_ rfl _)
        exact Chg.refl _ _
      replace ol := hc4.owns ol (fun b hb e => (i1 b hb).2.2 e)
      replace ov := hc4.owns ov (fun b hb e => (i2 b hb).2.2 e)
      replace om := hc4.owns om (fun b hb e => (i3 b hb).2.2 e)
      replace hC := hC.trans (hc4.mono fun b e => by rw [e]; exact Sg)
      replace CT := CT.trans (hc4.mono fun b e => .inl e)
      have e4 : W4.cell? ⟨g, j * 9 + 4, none⟩ = some (.slice la log.length lc) := by
        rw [o4.cellAt (j * 9 + 4) (by omega)]
        rw [List.getElem?_set_ne (by omega), List.getElem?_set_ne (by omega), List.getElem?_set_ne (by omega), List.getElem?_set_ne (by omega)]
        exact y4
      clear hown hc4 y4
      go_upto_region 12 with fail
      rw [← hW4]
      clear hW4 d0 d1 d2 d3 f0 f1 f2 f3
      go_wp2_with fail
      refine (K1 _ ol).mono ?_
      rintro e w5 ⟨rfl, o1, hc⟩
      replace o4 := hc.owns o4 (fun b hb hh => (i1 b hh).2.2 (by simpa [Value.ownBlock] using hb.symm))
      replace ov := hc.owns ov (fun b hb hh => m1 b hh hb)
      replace om := hc.owns om (fun b hb hh => m2 b hh hb)
      replace hC := hC.trans (hc.mono fun b e => Sj b (.inl e))
      replace CT := CT.trans (hc.mono fun b e => .inr (.inl e))
      clear K1 hc ol e4
      obtain ⟨⟨u5, d5⟩, f5⟩ := owns9_at o4 j hlt 5 (by omega)
      obtain ⟨⟨u6, d6⟩, f6⟩ := owns9_at o4 j hlt 6 (by omega)
      have o6 := ((o4.stored (j * 9 + 5) (.int .i64 (kj + 1 + 1 + 1 + 1 + 2 * (log.length : Int)))).1.stored (j * 9 + 6) (.int .i64 (kj + 1 + 1 + 1 + 1 + 2 * (log.length : Int) + 1))).1
      obtain ⟨W6, hW6⟩ : ∃ W, W = ((w5).setCell ⟨g, j * 9 + 5, none⟩ (.int .i64 (kj + 1 + 1 + 1 + 1 + 2 * (log.length : Int)))).setCell ⟨g, j * 9 + 6, none⟩ (.int .i64 (kj + 1 + 1 + 1 + 1 + 2 * (log.length : Int) + 1)) := ⟨_, rfl⟩
      rw [← hW6] at o6
      have hc6 : Chg (fun b => b = g) w5 W6 := by
        rw [hW6]
        iterate 2 (refine Chg.setCell (S := fun b => b = g) ?_ rfl _)
        exact Chg.refl _ _
      replace o1 := hc6.owns o1 (fun b hb e => (i1 b hb).2.2 e)
      replace ov := hc6.owns ov (fun b hb e => (i2 b hb).2.2 e)
      replace om := hc6.owns om (fun b hb e => (i3 b hb).2.2 e)
      replace hC := hC.trans (hc6.mono fun b e => by rw [e]; exact Sg)
      replace CT := CT.trans (hc6.mono fun b e => .inl e)
      have e7 : W6.cell? ⟨g, j * 9 + 7, none⟩ = some (.slice va vs.length vc) := by
        rw [o6.cellAt (j * 9 + 7) (by omega)]
        rw [List.getElem?_set_ne (by omega), List.getElem?_set_ne (by omega), List.getElem?_set_ne (by omega), List.getElem?_set_ne (by omega), List.getElem?_set_ne (by omega), List.getElem?_set_ne (by omega)]
        exact y7
      clear o4 hc6
      go_upto_region 17 with fail
      rw [← hW6]
      clear hW6 d5 d6 f5 f6
      go_wp2_with fail
      refine (K2 _ ov).mono ?_
      rintro e w7 ⟨rfl, o2, hc⟩
      replace o6 := hc.owns o6 (fun b hb hh => (i2 b hh).2.2 (by simpa [Value.ownBlock] using hb.symm))
      replace o1 := hc.owns o1 (fun b hb hh => m1 b hb hh)
      replace om := hc.owns om (fun b hb hh => m3 b hh hb)
      replace hC := hC.trans (hc.mono fun b e => Sj b (.inr (.inl e)))
      replace CT := CT.trans (hc.mono fun b e => .inr (.inr (.inl e)))
      clear K2 hc ov e7 y7
      have e8 : w7.cell? ⟨g, j * 9 + 8, none⟩ = some (.slice ma mt.length mc) := by
        rw [o6.cellAt (j * 9 + 8) (by omega)]
        rw [List.getElem?_set_ne (by omega), List.getElem?_set_ne (by omega), List.getElem?_set_ne (by omega), List.getElem?_set_ne (by omega), List.getElem?_set_ne (by omega), List.getElem?_set_ne (by omega)]
        exact y8
      go_wp2_with fail
      refine (K3 _ om).mono ?_
      rintro e w8 ⟨rfl, o3, hc⟩
      replace o6 := hc.owns o6 (fun b hb hh => (i3 b hh).2.2 (by simpa [Value.ownBlock] using hb.symm))
      replace o1 := hc.owns o1 (fun b hb hh => m2 b hb hh)
      replace o2 := hc.owns o2 (fun b hb hh => m3 b hb hh)
      replace hC := hC.trans (hc.mono fun b e => Sj b (.inr (.inr e)))
      replace CT := CT.trans (hc.mono fun b e => .inr (.inr (.inr e)))
      clear K3 hc om e8 y8
      rw [mkI_mkZ] at o2 o3
      rw [HF.out] at o6
      have HO : Hid _ := o6
      have HCH := HX.out w8 base ⟨by simp only [mkEs_length]; exact o1, by simp only [mkZ_length]; exact o2, by simp only [mkZ_length]; exact o3, by simp only [mkZ_length]; exact m3⟩ CT
      have HR : Hid (kj + 1 + 1 + 1 + 1 + 2 * (log.length : Int) + 1 + 1 + (vs.length : Int) + (mt.length : Int) = k + (sm uN (N.take (j + 1)) : Nat)) := by have := HK3.out; have := HU.out; show _ = _; omega
      clear o1 o2 o3 o6 CT HX HF i1 i2 i3 m1 m2 m3 HK3 HU Sj
      rw [← HFL.out] at HO
      clear HFL
      go_wp2
      go_roundw
      case rel => exact ⟨j + 1, by omega, by go_num, by rw [← HR.out], HO.out, HCH, hC⟩
      case measure => simp [intOf]; omega
    · obtain rfl : j = N.length := by omega
      rw [mkP_all] at hown hch
      rw [List.take_length]
      clear hs
      go_wp2
      go_ret
      exact ⟨rfl, hown, hch, hC⟩
end Go.Proofs.Ytapfhhmimkkhnaa
