/-
  Messages in a row, marked: markRaftMsgS.
  A cluster marked: markLeadS, markCluster.
-/
import Derived.Test.YtapfhhmimkkhnaaCIToCJ
import Derived.Deep.Cut
import Derived.Test.YtapfhhmimkkhnaaCK
namespace Go.Proofs.Ytapfhhmimkkhnaa
open Go.RowKit Go.Maps
set_option linter.unusedVariables false
set_option maxRecDepth 100000

set_option maxHeartbeats 16000000 in
theorem markMsgsS_own (v : Value) (b0 lo mid : Nat) (M : List Mv) (k : Int) (w : World) (ho : w.ownsRow b0 38 9 v M.length (flatM M)) (hch0 : Chain PM BM w lo mid M) (hn : M.length ≤ 1048576) (hs : ∀ i (h : i < M.length), M[i].q.es.length ≤ 1048576) (h1 : 1 ≤ k) (h2 : k + (sm uM M : Nat) ≤ 40000000) :
    Calls Try.prog 30 #[v, .int .i64 k] w fun e w' => e = .returned (.int .i64 (k + (sm uM M : Nat))) ∧ w'.ownsRow b0 38 9 v M.length (flatM (mkL mkMv uM k M)) ∧ Chain PM BM w' lo mid (mkL mkMv uM k M) ∧ Chg (fun b => v.ownBlock = some b ∨ ∃ i, ∃ h : i < M.length, BM M[i] b) w w' := by
  rcases ho.2 with ⟨rfl, h0⟩ | ⟨g, cap, cur, rfl, _⟩
  · obtain rfl : M = [] := List.length_eq_zero_iff.1 h0
    simp only [sm]
    go_enter Try.func30, Try.ntmps30
    go_wp2
    go_loopw [1, 5] (fun t i wr => i = .int .i64 0 ∧ t = .int .i64 k ∧ wr = w) (fun _ _ _ => 0)
    case atStart => exact ⟨rfl, rfl, rfl⟩
    case round =>
      obtain ⟨rfl, rfl, rfl⟩ := hrel
      go_wp2
      go_ret
      exact ⟨by simp, ho, hch0, Chg.refl _ _⟩
  obtain ⟨S, hS⟩ : ∃ S : Nat → Prop, S = fun b => (Value.slice (some ⟨g, 0, none⟩) M.length cap).ownBlock = some b ∨ ∃ i, ∃ h : i < M.length, BM M[i] b := ⟨_, rfl⟩
  rw [← hS]
  have Sg : S g := by rw [hS]; exact .inl rfl
  have Sin : ∀ i (h : i < M.length) b, BM M[i] b → S b := fun i h b hb => by rw [hS]; exact .inr ⟨i, h, hb⟩
  clear hS
  go_enter Try.func30, Try.ntmps30
  go_wp2
  go_loopw [1, 5] (fun t i wr => ∃ j : Nat, j ≤ M.length ∧ i = .int .i64 j ∧ t = .int .i64 (k + (sm uM (M.take j) : Nat)) ∧ wr.ownsRow b0 38 9 (.slice (some ⟨g, 0, none⟩) M.length cap) M.length (flatM (mkP mkMv uM k M j)) ∧ Chain PM BM wr lo mid (mkP mkMv uM k M j) ∧ Chg S w wr) (fun _ i _ => M.length - (intOf i).toNat)
  case atStart => exact ⟨0, Nat.zero_le _, rfl, by simp [sm], by rw [mkP_zero]; exact ho, by rw [mkP_zero]; exact hch0, Chg.refl _ _⟩
  case round =>
    clear ho hch0
    obtain ⟨j, hj, rfl, rfl, hown, hch, hC⟩ := hrel
    by_cases hlt : j < M.length
    · have hpl := mkP_length mkMv uM k M j hj
      have e0 := mkP_at mkMv uM k M j hlt
      obtain ⟨base, hb0, hP, hin⟩ := hch.at j (by omega)
      rw [e0] at hP hin
      have hss := hs j hlt
      have Sj := Sin j hlt
      have hkb := sm_take_le uM M j
      have hkc := sm_take_le uM M (j + 1)
      have HK2 : Hid (sm uM (M.take (j + 1)) = sm uM (M.take j) + uM M[j]) := sm_take uM M j hlt
      have HG : ∀ i (hi : i < (mkP mkMv uM k M j).length), ¬ BM (mkP mkMv uM k M j)[i] g := fun i hi hh => by
        obtain ⟨_, _, q, _⟩ := hch.at i hi
        exact PM.row_ne q hown (by decide) g hh rfl
      have n0 := PM.row_ne hP hown (by decide)
      have HX : Hid (∀ w' b', PM w' b' (mkMv (k + (sm uM (M.take j) : Nat)) M[j]) → Chg (fun b => b = g ∨ BM M[j] b) wr w' → Chain PM BM w' lo mid (mkP mkMv uM k M (j + 1))) := fun w' b' hp hc => by
        rw [← mkP_set mkMv uM k M j hlt]
        have hj2 : j < (mkP mkMv uM k M j).length := by omega
        refine Chain.setM (g := g) (base := b') hch j hj2 _ ?_ hp ?_ HG
        · rw [e0]; intro b hb; simpa [BM, mkMv, mkEs_length] using hb
        · rw [e0]; exact hc
      have HF : Hid _ := flatM_setP (mkP mkMv uM k M j) j (mkMv (k + (sm uM (M.take j) : Nat)) M[j]) (by omega) (by rw [e0]; simp [mkMv, mkEs_length])
      rw [mkP_set mkMv uM k M j hlt] at HF
      obtain ⟨q0, q1, q2, q3, q4, q5, y6, q7, q8⟩ := flatM_get (mkP mkMv uM k M j) j (by omega)
      rw [e0] at y6
      clear q0 q1 q2 q3 q4 q5 q7 q8
      clear hpl e0 HG hch hs Sin
      obtain ⟨FL, HFL⟩ : ∃ FL, Hid (flatM (mkP mkMv uM k M (j + 1)) = FL) := ⟨flatM (mkP mkMv uM k M (j + 1)), rfl⟩
      rw [HFL.out] at HF
      generalize flatM (mkP mkMv uM k M j) = ys at *
      obtain ⟨kj, HKJ⟩ : ∃ kj : Int, Hid (k + (sm uM (M.take j) : Nat) = kj) := ⟨_, rfl⟩
      rw [HKJ.out] at HX HF ⊢
      have hk1 : 1 ≤ kj := by have := HKJ.out; omega
      have hk2 : kj ≤ 40000000 := by have := HKJ.out; omega
      have HK3 : Hid (k + (sm uM (M.take (j + 1)) : Nat) = kj + (uM M[j] : Nat)) := by have := HKJ.out; have := HK2.out; show _ = _; omega
      clear HK2 HKJ hkb hkc
      generalize M[j] = s at *
      obtain ⟨⟨ki, fr, dst, te, ix, be, co, ye, es⟩, ea, ec⟩ := s
      dsimp only [mkMv] at HX HF y6 hss
      dsimp only [PM, BM] at hP hin n0 HX Sj
      have HU : Hid ((uM ⟨⟨ki, fr, dst, te, ix, be, co, ye, es⟩, ea, ec⟩ : Int) = 8 + 2 * (es.length : Int)) := by show _ = _; simp [uM]
      have hgl := (owns_lt hown).2
      have i1 : ∀ b, (.slice ea es.length ec : Value).ownBlock = some b → lo ≤ b ∧ b < mid ∧ ¬ b = g := fun b h => ⟨(hin b h).1, (hin b h).2, fun e => n0 b h (by rw [e]; rfl)⟩
      have K1 := fun W h => markEntryS_own (.slice ea es.length ec) base es (kj + 1 + 1 + 1 + 1 + 1 + 1) W h hss (by omega) (by omega)
      have CT : Chg (fun b => b = g ∨ (.slice ea es.length ec : Value).ownBlock = some b) wr wr := Chg.refl _ _
      clear n0 hin
      obtain ⟨⟨u0, d0⟩, f0⟩ := owns9_at hown j hlt 0 (by omega)
      obtain ⟨⟨u1, d1⟩, f1⟩ := owns9_at hown j hlt 1 (by omega)
      obtain ⟨⟨u2, d2⟩, f2⟩ := owns9_at hown j hlt 2 (by omega)
      obtain ⟨⟨u3, d3⟩, f3⟩ := owns9_at hown j hlt 3 (by omega)
      obtain ⟨⟨u4, d4⟩, f4⟩ := owns9_at hown j hlt 4 (by omega)
      obtain ⟨⟨u5, d5⟩, f5⟩ := owns9_at hown j hlt 5 (by omega)
      rw [Nat.add_zero] at d0 f0
      have o4 := ((((((hown.stored (j * 9) (.int .i64 (kj))).1.stored (j * 9 + 1) (.int .i64 (kj + 1))).1.stored (j * 9 + 2) (.int .i64 (kj + 1 + 1))).1.stored (j * 9 + 3) (.int .i64 (kj + 1 + 1 + 1))).1.stored (j * 9 + 4) (.int .i64 (kj + 1 + 1 + 1 + 1))).1.stored (j * 9 + 5) (.int .i64 (kj + 1 + 1 + 1 + 1 + 1))).1
      obtain ⟨W4, hW4⟩ : ∃ W, W = ((((((wr).setCell ⟨g, j * 9, none⟩ (.int .i64 (kj))).setCell ⟨g, j * 9 + 1, none⟩ (.int .i64 (kj + 1))).setCell ⟨g, j * 9 + 2, none⟩ (.int .i64 (kj + 1 + 1))).setCell ⟨g, j * 9 + 3, none⟩ (.int .i64 (kj + 1 + 1 + 1))).setCell ⟨g, j * 9 + 4, none⟩ (.int .i64 (kj + 1 + 1 + 1 + 1))).setCell ⟨g, j * 9 + 5, none⟩ (.int .i64 (kj + 1 + 1 + 1 + 1 + 1)) := ⟨_, rfl⟩
      rw [← hW4] at o4
      have hc4 : Chg (fun b => b = g) wr W4 := by
        rw [hW4]
        iterate 6 (refine Chg.setCell (S := fun b => b = g) ?_ rfl _)
        exact Chg.refl _ _
      replace hP := hc4.owns hP (fun b hb e => (i1 b hb).2.2 e)
      replace hC := hC.trans (hc4.mono fun b e => by rw [e]; exact Sg)
      replace CT := CT.trans (hc4.mono fun b e => .inl e)
      have e6 : W4.cell? ⟨g, j * 9 + 6, none⟩ = some (.slice ea es.length ec) := by
        rw [o4.cellAt (j * 9 + 6) (by omega)]
        rw [List.getElem?_set_ne (by omega), List.getElem?_set_ne (by omega), List.getElem?_set_ne (by omega), List.getElem?_set_ne (by omega), List.getElem?_set_ne (by omega), List.getElem?_set_ne (by omega)]
        exact y6
      clear hown hc4 y6
      go_upto_region 16 with fail
      rw [← hW4]
      clear hW4 d0 d1 d2 d3 d4 d5 f0 f1 f2 f3 f4 f5
      go_wp2_with fail
      refine (K1 _ hP).mono ?_
      rintro e w5 ⟨rfl, o1, hc⟩
      replace o4 := hc.owns o4 (fun b hb hh => (i1 b hh).2.2 (by simpa [Value.ownBlock] using hb.symm))
      replace hC := hC.trans (hc.mono fun b e => Sj b e)
      replace CT := CT.trans (hc.mono fun b e => .inr e)
      clear K1 hc hP e6
      obtain ⟨⟨u7, d7⟩, f7⟩ := owns9_at o4 j hlt 7 (by omega)
      obtain ⟨⟨u8, d8⟩, f8⟩ := owns9_at o4 j hlt 8 (by omega)
      have hg5 := (owns_lt o4).2
      have o6 := ((o4.stored (j * 9 + 7) (.int .i64 (kj + 1 + 1 + 1 + 1 + 1 + 1 + 2 * (es.length : Int)))).1.stored (j * 9 + 8) (.bool ((kj + 1 + 1 + 1 + 1 + 1 + 1 + 2 * (es.length : Int) + 1) % 3 == 0))).1
      obtain ⟨W6, hW6⟩ : ∃ W, W = ((w5).setCell ⟨g, j * 9 + 7, none⟩ (.int .i64 (kj + 1 + 1 + 1 + 1 + 1 + 1 + 2 * (es.length : Int)))).setCell ⟨g, j * 9 + 8, none⟩ (.bool ((kj + 1 + 1 + 1 + 1 + 1 + 1 + 2 * (es.length : Int) + 1) % 3 == 0)) := ⟨_, rfl⟩
      rw [← hW6] at o6
      have hc6 : Chg (fun b => b = g) w5 W6 := by
        rw [hW6]
        iterate 2 (refine Chg.setCell (S := fun b => b = g) ?_ rfl _)
        exact Chg.refl _ _
      replace o1 := hc6.owns o1 (fun b hb e => (i1 b hb).2.2 e)
      replace hC := hC.trans (hc6.mono fun b e => by rw [e]; exact Sg)
      replace CT := CT.trans (hc6.mono fun b e => .inl e)
      rw [HF.out] at o6
      have HO : Hid _ := o6
      have HCH := HX.out W6 base (by simp only [mkEs_length]; exact o1) CT
      have HR : Hid (kj + 1 + 1 + 1 + 1 + 1 + 1 + 2 * (es.length : Int) + 1 + 1 = k + (sm uM (M.take (j + 1)) : Nat)) := by have := HK3.out; have := HU.out; show _ = _; omega
      clear o1 o4 o6 CT HX HF i1 HK3 HU hc6 Sj
      rw [← HFL.out] at HO
      clear HFL
      rw [hW6] at HO HCH hC
      clear hW6
      go_wp2
      go_roundw
      case rel => exact ⟨j + 1, by omega, by go_num, by rw [← HR.out], HO.out, HCH, hC⟩
      case measure => simp [intOf]; omega
    · obtain rfl : j = M.length := by omega
      rw [mkP_all] at hown hch
      rw [List.take_length]
      clear hs
      go_wp2
      go_ret
      exact ⟨rfl, hown, hch, hC⟩
end Go.Proofs.Ytapfhhmimkkhnaa

namespace Go.Proofs.Ytapfhhmimkkhnaa
open Go.RowKit Go.Maps
set_option linter.unusedVariables false
set_option maxRecDepth 100000

set_option maxHeartbeats 16000000 in
theorem markLeadS_own (v : Value) (b0 : Nat) (L : List Ld) (k : Int) (w : World) (ho : w.ownsRow b0 116 2 v L.length (flatL L)) (hn : L.length ≤ 1048576) (h1 : 1 ≤ k) (h2 : k + (sm uL L : Nat) ≤ 40000000) :
    Calls Try.prog 45 #[v, .int .i64 k] w fun e w' => e = .returned (.int .i64 (k + (sm uL L : Nat))) ∧ w'.ownsRow b0 116 2 v L.length (flatL (mkL mkLd uL k L)) ∧ Chg (fun b => v.ownBlock = some b) w w' := by
  rcases ho.2 with ⟨rfl, h0⟩ | ⟨g, cap, cur, rfl, _⟩
  · obtain rfl : L = [] := List.length_eq_zero_iff.1 h0
    simp only [sm]
    go_enter Try.func45, Try.ntmps45
    go_wp2
    go_loopw [1, 5] (fun t i wr => i = .int .i64 0 ∧ t = .int .i64 k ∧ wr = w) (fun _ _ _ => 0)
    case atStart => exact ⟨rfl, rfl, rfl⟩
    case round =>
      obtain ⟨rfl, rfl, rfl⟩ := hrel
      go_wp2
      go_ret
      exact ⟨by simp, ho, Chg.refl _ _⟩
  go_enter Try.func45, Try.ntmps45
  go_wp2
  go_loopw [1, 5] (fun t i wr => ∃ j : Nat, j ≤ L.length ∧ i = .int .i64 j ∧ t = .int .i64 (k + (sm uL (L.take j) : Nat)) ∧ wr.ownsRow b0 116 2 (.slice (some ⟨g, 0, none⟩) L.length cap) L.length (flatL (mkP mkLd uL k L j)) ∧ Chg (fun b => (Value.slice (some ⟨g, 0, none⟩) L.length cap).ownBlock = some b) w wr) (fun _ i _ => L.length - (intOf i).toNat)
  case atStart => exact ⟨0, Nat.zero_le _, rfl, by simp [sm], by rw [mkP_zero]; exact ho, Chg.refl _ _⟩
  case round =>
    clear ho
    obtain ⟨j, hj, rfl, rfl, hown, hC⟩ := hrel
    by_cases hlt : j < L.length
    · have hpl := mkP_length mkLd uL k L j hj
      have hkb := sm_take_le uL L j
      have hkc := sm_take_le uL L (j + 1)
      have HK2 : Hid (sm uL (L.take (j + 1)) = sm uL (L.take j) + uL L[j]) := sm_take uL L j hlt
      have HF : Hid _ := flatL_set (mkP mkLd uL k L j) j (mkLd (k + (sm uL (L.take j) : Nat)) L[j])
      rw [mkP_set mkLd uL k L j hlt] at HF
      clear hpl
      obtain ⟨FL, HFL⟩ : ∃ FL, Hid (flatL (mkP mkLd uL k L (j + 1)) = FL) := ⟨flatL (mkP mkLd uL k L (j + 1)), rfl⟩
      rw [HFL.out] at HF
      generalize flatL (mkP mkLd uL k L j) = ys at *
      obtain ⟨kj, HKJ⟩ : ∃ kj : Int, Hid (k + (sm uL (L.take j) : Nat) = kj) := ⟨_, rfl⟩
      rw [HKJ.out] at HF ⊢
      have hk1 : 1 ≤ kj := by have := HKJ.out; omega
      have hk2 : kj ≤ 40000000 := by have := HKJ.out; omega
      have HR : Hid (kj + 1 + 1 = k + (sm uL (L.take (j + 1)) : Nat)) := by have := HKJ.out; have := HK2.out; simp only [uL] at this; show _ = _; omega
      clear HK2 HKJ hkb hkc
      dsimp only [mkLd] at HF
      have hgl := (owns_lt hown).2
      obtain ⟨⟨u0, d0⟩, f0⟩ := owns2_at hown j hlt 0 (by omega)
      obtain ⟨⟨u1, d1⟩, f1⟩ := owns2_at hown j hlt 1 (by omega)
      rw [Nat.add_zero] at d0 f0
      have o4 := ((hown.stored (j * 2) (.int .i64 kj)).1.stored (j * 2 + 1) (.int .i64 (kj + 1))).1
      rw [HF.out] at o4
      have HO : Hid _ := o4
      rw [← HFL.out] at HO
      replace hC := (hC.setCell (p := ⟨g, j * 2, none⟩) rfl (.int .i64 kj)).setCell (p := ⟨g, j * 2 + 1, none⟩) rfl (.int .i64 (kj + 1))
      clear o4 HF HFL hown
      go_wp2
      go_roundw
      case rel => exact ⟨j + 1, by omega, by go_num, by rw [← HR.out], HO.out, hC⟩
      case measure => simp [intOf]; omega
    · obtain rfl : j = L.length := by omega
      rw [mkP_all] at hown
      rw [List.take_length]
      go_wp2
      go_ret
      exact ⟨rfl, hown, hC⟩

/-- What a cluster's marks count. -/
def uC (N : List Nv) (M : List Mv) (L : List Ld) : Nat := sm uN N + sm uM M + sm uL L
theorem mk_len {α : Type} (mk : Int → α → α) (u : α → Nat) (k : Int) (l : List α) : (mkL mk u k l).length = l.length := mkL_length mk u k l
set_option maxHeartbeats 16000000 in
theorem markCluster_own (vn vm vl : Value) (N : List Nv) (M : List Mv) (L : List Ld) (lo mid hi : Nat) (k : Int) (w : World) (ho : OwnC w lo mid hi vn vm vl N M L) (hs : CS N M L) (h1 : 1 ≤ k) (h2 : k + (uC N M L : Nat) ≤ 40000000) :
    Calls Try.prog 36 #[.agg #[vn, vm, vl], .int .i64 k] w fun e w' => e = .returned (.int .i64 (k + (uC N M L : Nat))) ∧ OwnC w' lo mid hi vn vm vl (mkL mkNv uN k N) (mkL mkMv uM (k + (sm uN N : Nat)) M) (mkL mkLd uL (k + (sm uN N : Nat) + (sm uM M : Nat)) L) ∧ Chg (fun b => lo ≤ b ∧ b < hi) w w' := by
  have hB := below_alloc w (.cells #[vn, vm, vl] 60)
  have X := Box.new w #[vn, vm, vl] 60
  have e1 := ho.cn.ends
  have e2 := ho.cm.ends
  have hB0 := hB.size
  unfold uC at h2
  rw [show k + (uC N M L : Nat) = k + (sm uN N : Nat) + (sm uM M : Nat) + (sm uL L : Nat) from by unfold uC; omega]
  have bnd := ho.bn
  have bmd := ho.bm
  have bld := ho.bl
  have gn := owns_ge ho.n
  have gm := owns_ge ho.m
  have gl := owns_ge ho.l
  have K1 := fun W h hc => markNodeS_own vn lo lo mid N k W h hc hs.n hs.ne h1 (by omega)
  have K2 := fun W h hc => markMsgsS_own vm lo mid hi M (k + (sm uN N : Nat)) W h hc hs.m hs.me (by omega) (by omega)
  have K3 := fun W h => markLeadS_own vl lo L (k + (sm uN N : Nat) + (sm uM M : Nat)) W h hs.l (by omega) (by omega)
  have BNi : ∀ i (h : i < N.length) b, BN N[i] b → lo ≤ b ∧ b < mid := fun i h b hb => by obtain ⟨_, _, _, q⟩ := ho.cn.at i h; exact q b hb
  have BMi : ∀ i (h : i < M.length) b, BM M[i] b → mid ≤ b ∧ b < hi := fun i h b hb => by obtain ⟨_, _, _, q⟩ := ho.cm.at i h; exact q b hb
  have hNl := hs.n
  have ho1 := ho.below hB
  obtain ⟨⟨na, nc, rfl⟩, ⟨xa, xc, rfl⟩, ya, yc, rfl⟩ := ho.shapes
  have lw : ∀ b, (lo ≤ b ∧ b < hi) ∧ (Value.slice na N.length nc).ownBlock = some b → b < w.heap.size := fun b hb => owns_below_lt ho.n b hb.2
  have XB : ∀ b, ((Value.slice na N.length nc).ownBlock = some b ∨ ∃ i, ∃ h : i < N.length, BN N[i] b) → b < w.heap.size := fun b hb => by
    rcases hb with hb | ⟨i, h, hb⟩
    · exact owns_below_lt ho.n b hb
    · obtain ⟨_, _, q, _⟩ := ho.cn.at i h; exact (PN.in q b hb).2
  have XC : ∀ b, ((Value.slice xa M.length xc).ownBlock = some b ∨ ∃ i, ∃ h : i < M.length, BM M[i] b) → b < w.heap.size := fun b hb => by
    rcases hb with hb | ⟨i, h, hb⟩
    · exact owns_below_lt ho.m b hb
    · obtain ⟨_, _, q, _⟩ := ho.cm.at i h; exact (PM.in q b hb).2
  clear ho hs lw
  have t1 : ∀ b, (Value.slice xa M.length xc).ownBlock = some b → ¬ ((Value.slice na N.length nc).ownBlock = some b ∨ ∃ i, ∃ h : i < N.length, BN N[i] b) := fun b hb hh => by
    rcases hh with hh | ⟨i, h, hh⟩
    · exact owns_type_ne ho1.n ho1.m (by decide) b hh hb
    · obtain ⟨_, _, q, _⟩ := ho1.cn.at i h; exact PN.row_ne q ho1.m (by decide) (by decide) b hh hb
  have t2 : ∀ b, (Value.slice ya L.length yc).ownBlock = some b → ¬ ((Value.slice na N.length nc).ownBlock = some b ∨ ∃ i, ∃ h : i < N.length, BN N[i] b) := fun b hb hh => by
    rcases hh with hh | ⟨i, h, hh⟩
    · exact owns_type_ne ho1.n ho1.l (by decide) b hh hb
    · obtain ⟨_, _, q, _⟩ := ho1.cn.at i h; exact PN.row_ne q ho1.l (by decide) (by decide) b hh hb
  have t3 : ∀ b, (Value.slice ya L.length yc).ownBlock = some b → ¬ ((Value.slice xa M.length xc).ownBlock = some b ∨ ∃ i, ∃ h : i < M.length, BM M[i] b) := fun b hb hh => by
    rcases hh with hh | ⟨i, h, hh⟩
    · exact owns_type_ne ho1.m ho1.l (by decide) b hh hb
    · obtain ⟨_, _, q, _⟩ := ho1.cm.at i h; exact PM.row_ne q ho1.l (by decide) b hh hb
  have t4 : ∀ b, (Value.slice na N.length nc).ownBlock = some b → ¬ ((Value.slice xa M.length xc).ownBlock = some b ∨ ∃ i, ∃ h : i < M.length, BM M[i] b) := fun b hb hh => by
    rcases hh with hh | ⟨i, h, hh⟩
    · exact owns_type_ne ho1.m ho1.n (by decide) b hh hb
    · obtain ⟨_, _, q, _⟩ := ho1.cm.at i h; exact PM.row_ne q ho1.n (by decide) b hh hb
  obtain ⟨on, om, ol, cn, cm, _, _, _⟩ := ho1
  have S1 : ∀ b, ((Value.slice na N.length nc).ownBlock = some b ∨ ∃ i, ∃ h : i < N.length, BN N[i] b) → lo ≤ b ∧ b < hi := fun b hb => by
    rcases hb with hb | ⟨i, h, hb⟩
    · exact ⟨gn b hb, bnd b hb⟩
    · have := BNi i h b hb; omega
  have S2 : ∀ b, ((Value.slice xa M.length xc).ownBlock = some b ∨ ∃ i, ∃ h : i < M.length, BM M[i] b) → lo ≤ b ∧ b < hi := fun b hb => by
    rcases hb with hb | ⟨i, h, hb⟩
    · exact ⟨gm b hb, bmd b hb⟩
    · have := BMi i h b hb; omega
  have hC : Chg (fun b => lo ≤ b ∧ b < hi) w _ := Chg.of_below hB
  clear hB
  go_enter Try.func36, Try.ntmps36
  go_wp2_with fail
  refine (K1 _ on cn).mono ?_
  rintro e w1 ⟨rfl, on1, cn1, hc⟩
  have cm1 : Chain PM BM w1 mid hi M := cm.map fun c x hp hb => hc.owns hp fun b h1 h2 => by
    rcases h2 with h2 | ⟨i, h, h2⟩
    · exact PM.row_ne hp on (by decide) b h1 h2
    · have := BNi i h b h2; have := hb b h1; omega
  replace om := hc.owns om t1
  replace ol := hc.owns ol t2
  replace X := hc.box X (fun h => by have := XB _ h; omega)
  replace hC := hC.trans (hc.mono S1)
  clear K1 hc cn on cm t1 t2 S1 XB
  obtain ⟨hxl, x0, x1, x2⟩ := X.c3
  go_wp2_with fail
  refine (K2 _ om cm1).mono ?_
  rintro e w2 ⟨rfl, om1, cm2, hc⟩
  have cn2 : Chain PN BN w2 lo mid (mkL mkNv uN k N) := cn1.map fun c x hp hb => OwnN.chg hp hc fun b h1 h2 => by
    rcases h2 with h2 | ⟨i, h, h2⟩
    · exact PN.row_ne hp om (by decide) (by decide) b h1 h2
    · have := BMi i h b h2; have := hb b h1; omega
  replace on1 := hc.owns on1 t4
  replace ol := hc.owns ol t3
  replace X := hc.box X (fun h => by have := XC _ h; omega)
  replace hC := hC.trans (hc.mono S2)
  clear K2 hc cn1 cm1 om t3 t4 S2 XC hxl x0 x1 x2
  obtain ⟨hxl, x0, x1, x2⟩ := X.c3
  go_wp2_with fail
  refine (K3 _ ol).mono ?_
  rintro e w3 ⟨rfl, ol1, hc⟩
  have cn3 : Chain PN BN w3 lo mid (mkL mkNv uN k N) := cn2.map fun c x hp hb => OwnN.chg hp hc fun b h1 h2 => PN.row_ne hp ol (by decide) (by decide) b h1 h2
  have cm3 : Chain PM BM w3 mid hi (mkL mkMv uM (k + (sm uN N : Nat)) M) := cm2.map fun c x hp hb => hc.owns hp fun b h1 h2 => PM.row_ne hp ol (by decide) b h1 h2
  have on3 := hc.owns on1 (fun b hb hh => owns_type_ne on1 ol (by decide) b hb hh)
  have om3 := hc.owns om1 (fun b hb hh => owns_type_ne om1 ol (by decide) b hb hh)
  replace hC := hC.trans (hc.mono fun b hb => ⟨gl b hb, bld b hb⟩)
  clear K3 hc cn2 cm2 on1 om1 ol hxl x0 x1 x2 X BNi BMi
  have O : OwnC w3 lo mid hi (.slice na N.length nc) (.slice xa M.length xc) (.slice ya L.length yc) (mkL mkNv uN k N) (mkL mkMv uM (k + (sm uN N : Nat)) M) (mkL mkLd uL (k + (sm uN N : Nat) + (sm uM M : Nat)) L) :=
    ⟨by rw [mkL_length]; exact on3, by rw [mkL_length]; exact om3, by rw [mkL_length]; exact ol1, cn3, cm3, bnd, bmd, bld⟩
  clear cn3 cm3 on3 om3 ol1 bnd bmd bld gn gm gl
  go_wp2
  go_ret
  exact ⟨rfl, O, hC⟩
end Go.Proofs.Ytapfhhmimkkhnaa
