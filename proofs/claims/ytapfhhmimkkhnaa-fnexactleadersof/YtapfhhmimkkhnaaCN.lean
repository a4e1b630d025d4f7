/-
  A cluster held against its marks: heldRaftNodeS, heldRaftMsgS, heldLeadS, heldCluster.
-/
import Derived.Test.YtapfhhmimkkhnaaCLToCM
namespace Go.Proofs.Ytapfhhmimkkhnaa
open Go.RowKit Go.Maps
set_option linter.unusedVariables false
set_option maxRecDepth 100000

theorem run_neq_b2 (w : World) (b : Bool) : (binOp .neq 4 (.bool b) (.bool b)).run Try.prog w = .ok (.bool false) w := by
  cases b <;> kernel_rfl
set_option maxHeartbeats 4000000 in
theorem heldIntS_il (v : Value) (n : Nat) (k : Int) (w : World) (hv : IL w v (mkZ k n)) (hn : n ≤ 1048576) (hk0 : 0 ≤ k) (hk1 : k ≤ 1073741824) :
    Calls Try.prog 86 #[v, .int .i64 k] w fun e w' => e = .returned (.int .i64 (k + n)) ∧ w' = w := by
  obtain ⟨a, cap, rfl, hc⟩ := hv
  rw [mkZ_length]
  go_enter Try.func86, Try.ntmps86
  go_wp2
  go_loopw [1, 5] (fun t i wr => ∃ j : Nat, j ≤ n ∧ i = .int .i64 j ∧ t = .int .i64 (k + j) ∧ wr = w) (fun _ i _ => n - (intOf i).toNat)
  case atStart => exact ⟨0, Nat.zero_le _, rfl, by simp, rfl⟩
  case round =>
    obtain ⟨j, hj, rfl, rfl, rfl⟩ := hrel
    by_cases hlt : j < n
    · obtain ⟨b, off, rfl, hbl, hcell⟩ := hc (by intro e; have := congrArg List.length e; rw [mkZ_length] at this; simp at this; omega)
      have d0 := hcell j (by rw [mkZ_length]; exact hlt)
      rw [show (mkZ k n)[j]'(by rw [mkZ_length]; exact hlt) = k + (j : Int) from by simp [mkZ]] at d0
      clear hcell hc
      go_wp2
      go_roundw
      case rel => exact ⟨j + 1, by omega, by go_num, by go_num, trivial⟩
      case measure => simp [intOf]; omega
    · obtain rfl : j = n := by omega
      clear hc
      go_wp2
      go_ret
      exact ⟨rfl, rfl⟩

set_option maxHeartbeats 16000000 in
theorem heldNodeS_any (v : Value) (N : List Nv) (k : Int) (w : World) (hv : NW w v (mkL mkNv uN k N)) (he : ∀ i (h : i < (mkL mkNv uN k N).length), NE w (mkL mkNv uN k N)[i]) (hn : N.length ≤ 1048576) (hs : ∀ i (h : i < N.length), N[i].n.log.length ≤ 1048576 ∧ N[i].n.vs.length ≤ 1048576 ∧ N[i].n.mt.length ≤ 1048576) (h1 : 1 ≤ k) (h2 : k + (sm uN N : Nat) ≤ 40000000) :
    Calls Try.prog 92 #[v, .int .i64 k] w fun e w' => e = .returned (.int .i64 (k + (sm uN N : Nat))) ∧ Below w.heap.size w w' := by
  have hlen := mkL_length mkNv uN k N
  obtain ⟨a, cap, rfl, hc⟩ := hv
  rw [hlen]
  go_enter Try.func92, Try.ntmps92
  go_wp2
  go_loopw [1, 5] (fun t i wr => ∃ j : Nat, j ≤ N.length ∧ i = .int .i64 j ∧ t = .int .i64 (k + (sm uN (N.take j) : Nat)) ∧ Below w.heap.size w wr) (fun _ i _ => N.length - (intOf i).toNat)
  case atStart => exact ⟨0, Nat.zero_le _, rfl, by simp [sm], Below.refl _ _⟩
  case round =>
    obtain ⟨j, hj, rfl, rfl, hb⟩ := hrel
    by_cases hlt : j < N.length
    · have hlt' : j < (mkL mkNv uN k N).length := by omega
      obtain ⟨b, off, rfl, hbl, hcell⟩ := hc (by intro e; rw [e] at hlt'; simp at hlt')
      obtain ⟨z0, z1, z2, z3, z4, z5, z6, z7, z8⟩ := hcell j hlt'
      have e0 := mkL_at mkNv uN k N j hlt
      rw [e0] at z0 z1 z2 z3 z4 z5 z6 z7 z8
      have hc0 := (hb.cell (p := ⟨b, off + j * 9, none⟩) hbl).trans z0
      have hc1 := (hb.cell (p := ⟨b, off + j * 9 + 1, none⟩) hbl).trans z1
      have hc2 := (hb.cell (p := ⟨b, off + j * 9 + 2, none⟩) hbl).trans z2
      have hc3 := (hb.cell (p := ⟨b, off + j * 9 + 3, none⟩) hbl).trans z3
      have hc4 := (hb.cell (p := ⟨b, off + j * 9 + 4, none⟩) hbl).trans z4
      have hc5 := (hb.cell (p := ⟨b, off + j * 9 + 5, none⟩) hbl).trans z5
      have hc6 := (hb.cell (p := ⟨b, off + j * 9 + 6, none⟩) hbl).trans z6
      have hc7 := (hb.cell (p := ⟨b, off + j * 9 + 7, none⟩) hbl).trans z7
      have hc8 := (hb.cell (p := ⟨b, off + j * 9 + 8, none⟩) hbl).trans z8
      have hkb := sm_take_le uN N j
      have hkc := sm_take_le uN N (j + 1)
      have HK2 : Hid (sm uN (N.take (j + 1)) = sm uN (N.take j) + uN N[j]) := sm_take uN N j hlt
      have hE := (he j hlt').below hb
      rw [e0] at hE
      have hss := hs j hlt
      clear hcell hc e0 hlen he hs z0 z1 z2 z3 z4 z5 z6 z7 z8
      clear hlt'
      obtain ⟨kj, HKJ⟩ : ∃ kj : Int, Hid (k + (sm uN (N.take j) : Nat) = kj) := ⟨_, rfl⟩
      rw [HKJ.out] at hc0 hc1 hc2 hc3 hc4 hc5 hc6 hc7 hc8 hE ⊢
      have hk1 : 1 ≤ kj := by have := HKJ.out; omega
      have hk2 : kj ≤ 40000000 := by have := HKJ.out; omega
      have HK3 : Hid (k + (sm uN (N.take (j + 1)) : Nat) = kj + (uN N[j] : Nat)) := by have := HKJ.out; have := HK2.out; show _ = _; omega
      clear HK2 HKJ hkb hkc
      generalize N[j] = s at *
      have hz := hb.size
      have hbW : b < wr.heap.size := by omega
      obtain ⟨⟨id, pe, te, vo, co, ro, log, vs, mt⟩, la, lc, va, vc, ma, mc⟩ := s
      obtain ⟨z1, z2, z3⟩ := hss
      dsimp only [mkNv] at hc0 hc1 hc2 hc3 hc4 hc5 hc6 hc7 hc8 hE z1 z2 z3
      obtain ⟨E1, E2, E3⟩ := hE
      dsimp only at E1 E2 E3
      rw [mkEs_length] at E1 hc4
      rw [mkZ_length] at E2 E3 hc7 hc8
      have HU : Hid ((uN ⟨⟨id, pe, te, vo, co, ro, log, vs, mt⟩, la, lc, va, vc, ma, mc⟩ : Int) = 6 + 2 * (log.length : Int) + (vs.length : Int) + (mt.length : Int)) := by show _ = _; simp [uN]
      have K1 := heldEntryS_at _ log.length (kj + 1 + 1 + 1 + 1) wr E1 z1 (by omega) (by omega)
      have K2 := fun W (h : Below wr.heap.size wr W) => heldIntS_il _ vs.length (kj + 1 + 1 + 1 + 1 + 2 * (log.length : Int) + 1 + 1) W (E2.below h) z2 (by omega) (by omega)
      have K3 := fun W (h : Below wr.heap.size wr W) => heldIntS_il _ mt.length (kj + 1 + 1 + 1 + 1 + 2 * (log.length : Int) + 1 + 1 + (vs.length : Int)) W (E3.below h) z3 (by omega) (by omega)
      have q1 : ¬ kj + 1 + 1 + 1 + 1 + 2 * (log.length : Int) < 0 := by omega
      have q2 : ¬ kj + 1 + 1 + 1 + 1 + 2 * (log.length : Int) + 1 + 1 + (vs.length : Int) < 0 := by omega
      have q3 : ¬ kj + 1 + 1 + 1 + 1 + 2 * (log.length : Int) + 1 + 1 + (vs.length : Int) + (mt.length : Int) < 0 := by omega
      clear E1 E2 E3
      go_wp2_with fail
      refine K1.mono ?_
      rintro e w1 ⟨rfl, hb1⟩
      replace hc5 := (hb1.cell (p := ⟨b, off + j * 9 + 5, none⟩) hbW).trans hc5
      replace hc6 := (hb1.cell (p := ⟨b, off + j * 9 + 6, none⟩) hbW).trans hc6
      replace hc7 := (hb1.cell (p := ⟨b, off + j * 9 + 7, none⟩) hbW).trans hc7
      replace hc8 := (hb1.cell (p := ⟨b, off + j * 9 + 8, none⟩) hbW).trans hc8
      have hB1 := hb.trans (hb1.mono hz)
      have hbW1 : b < w1.heap.size := by have := hb1.size; omega
      clear K1 hc0 hc1 hc2 hc3 hc4 hb
      have L2 := K2 _ hb1
      have L3 := K3 _ hb1
      clear K2 K3 hb1
      go_wp2_with fail
      refine L2.mono ?_
      rintro e w2 ⟨rfl, hw⟩
      subst hw
      clear L2
      go_wp2_with fail
      refine L3.mono ?_
      rintro e w3 ⟨rfl, hw⟩
      subst hw
      clear L3
      have HR : Hid (kj + 1 + 1 + 1 + 1 + 2 * (log.length : Int) + 1 + 1 + (vs.length : Int) + (mt.length : Int) = k + (sm uN (N.take (j + 1)) : Nat)) := by have := HK3.out; have := HU.out; show _ = _; omega
      clear HK3 HU
      go_wp2
      go_roundw
      case rel => exact ⟨j + 1, by omega, by go_num, by rw [← HR.out], hB1⟩
      case measure => simp [intOf]; omega
    · obtain rfl : j = N.length := by omega
      rw [List.take_length]
      clear hc he hs
      go_wp2
      go_ret
      exact ⟨rfl, hb⟩

set_option maxHeartbeats 16000000 in
theorem heldMsgsS_any (v : Value) (M : List Mv) (k : Int) (w : World) (hv : MW w v (mkL mkMv uM k M)) (he : ∀ i (h : i < (mkL mkMv uM k M).length), ME w (mkL mkMv uM k M)[i]) (hn : M.length ≤ 1048576) (hs : ∀ i (h : i < M.length), M[i].q.es.length ≤ 1048576) (h1 : 1 ≤ k) (h2 : k + (sm uM M : Nat) ≤ 40000000) :
    Calls Try.prog 32 #[v, .int .i64 k] w fun e w' => e = .returned (.int .i64 (k + (sm uM M : Nat))) ∧ Below w.heap.size w w' := by
  have hlen := mkL_length mkMv uM k M
  obtain ⟨a, cap, rfl, hc⟩ := hv
  rw [hlen]
  go_enter Try.func32, Try.ntmps32
  go_wp2
  go_loopw [1, 5] (fun t i wr => ∃ j : Nat, j ≤ M.length ∧ i = .int .i64 j ∧ t = .int .i64 (k + (sm uM (M.take j) : Nat)) ∧ Below w.heap.size w wr) (fun _ i _ => M.length - (intOf i).toNat)
  case atStart => exact ⟨0, Nat.zero_le _, rfl, by simp [sm], Below.refl _ _⟩
  case round =>
    obtain ⟨j, hj, rfl, rfl, hb⟩ := hrel
    by_cases hlt : j < M.length
    · have hlt' : j < (mkL mkMv uM k M).length := by omega
      obtain ⟨b, off, rfl, hbl, hcell⟩ := hc (by intro e; rw [e] at hlt'; simp at hlt')
      obtain ⟨z0, z1, z2, z3, z4, z5, z6, z7, z8⟩ := hcell j hlt'
      have e0 := mkL_at mkMv uM k M j hlt
      rw [e0] at z0 z1 z2 z3 z4 z5 z6 z7 z8
      have hc0 := (hb.cell (p := ⟨b, off + j * 9, none⟩) hbl).trans z0
      have hc1 := (hb.cell (p := ⟨b, off + j * 9 + 1, none⟩) hbl).trans z1
      have hc2 := (hb.cell (p := ⟨b, off + j * 9 + 2, none⟩) hbl).trans z2
      have hc3 := (hb.cell (p := ⟨b, off + j * 9 + 3, none⟩) hbl).trans z3
      have hc4 := (hb.cell (p := ⟨b, off + j * 9 + 4, none⟩) hbl).trans z4
      have hc5 := (hb.cell (p := ⟨b, off + j * 9 + 5, none⟩) hbl).trans z5
      have hc6 := (hb.cell (p := ⟨b, off + j * 9 + 6, none⟩) hbl).trans z6
      have hc7 := (hb.cell (p := ⟨b, off + j * 9 + 7, none⟩) hbl).trans z7
      have hc8 := (hb.cell (p := ⟨b, off + j * 9 + 8, none⟩) hbl).trans z8
      have hkb := sm_take_le uM M j
      have hkc := sm_take_le uM M (j + 1)
      have HK2 : Hid (sm uM (M.take (j + 1)) = sm uM (M.take j) + uM M[j]) := sm_take uM M j hlt
      have hE := (he j hlt').below hb
      rw [e0] at hE
      have hss := hs j hlt
      clear hcell hc e0 hlen he hs z0 z1 z2 z3 z4 z5 z6 z7 z8
      clear hlt'
      obtain ⟨kj, HKJ⟩ : ∃ kj : Int, Hid (k + (sm uM (M.take j) : Nat) = kj) := ⟨_, rfl⟩
      rw [HKJ.out] at hc0 hc1 hc2 hc3 hc4 hc5 hc6 hc7 hc8 hE ⊢
      have hk1 : 1 ≤ kj := by have := HKJ.out; omega
      have hk2 : kj ≤ 40000000 := by have := HKJ.out; omega
      have HK3 : Hid (k + (sm uM (M.take (j + 1)) : Nat) = kj + (uM M[j] : Nat)) := by have := HKJ.out; have := HK2.out; show _ = _; omega
      clear HK2 HKJ hkb hkc
      generalize M[j] = s at *
      have hz := hb.size
      have hbW : b < wr.heap.size := by omega
      obtain ⟨⟨ki, fr, dst, te, ix, be, co, ye, es⟩, ea, ec⟩ := s
      dsimp only [mkMv] at hc0 hc1 hc2 hc3 hc4 hc5 hc6 hc7 hc8 hE hss
      dsimp only [ME] at hE
      rw [mkEs_length] at hE hc6
      have HU : Hid ((uM ⟨⟨ki, fr, dst, te, ix, be, co, ye, es⟩, ea, ec⟩ : Int) = 8 + 2 * (es.length : Int)) := by show _ = _; simp [uM]
      have K1 := heldEntryS_at _ es.length (kj + 1 + 1 + 1 + 1 + 1 + 1) wr hE hss (by omega) (by omega)
      have NB := fun W => run_neq_b2 W ((kj + 1 + 1 + 1 + 1 + 1 + 1 + 2 * (es.length : Int) + 1) % 3 == 0)
      have q1 : ¬ kj + 1 + 1 + 1 + 1 + 1 + 1 + 2 * (es.length : Int) < 0 := by omega
      clear hE
      go_wp2_with fail
      refine K1.mono ?_
      rintro e w1 ⟨rfl, hb1⟩
      replace hc7 := (hb1.cell (p := ⟨b, off + j * 9 + 7, none⟩) hbW).trans hc7
      replace hc8 := (hb1.cell (p := ⟨b, off + j * 9 + 8, none⟩) hbW).trans hc8
      have hB1 := hb.trans (hb1.mono hz)
      have hbW1 : b < w1.heap.size := by have := hb1.size; omega
      clear K1 hc0 hc1 hc2 hc3 hc4 hc5 hc6 hb hb1
      have HR : Hid (kj + 1 + 1 + 1 + 1 + 1 + 1 + 2 * (es.length : Int) + 1 + 1 = k + (sm uM (M.take (j + 1)) : Nat)) := by have := HK3.out; have := HU.out; show _ = _; omega
      clear HK3 HU
      go_wp2
      go_roundw
      case rel => exact ⟨j + 1, by omega, by go_num, by rw [← HR.out], hB1⟩
      case measure => simp [intOf]; omega
    · obtain rfl : j = M.length := by omega
      rw [List.take_length]
      clear hc he hs
      go_wp2
      go_ret
      exact ⟨rfl, hb⟩

set_option maxHeartbeats 16000000 in
theorem heldLeadS_any (v : Value) (L : List Ld) (k : Int) (w : World) (hv : LW w v (mkL mkLd uL k L)) (hn : L.length ≤ 1048576) (h1 : 1 ≤ k) (h2 : k + (sm uL L : Nat) ≤ 40000000) :
    Calls Try.prog 46 #[v, .int .i64 k] w fun e w' => e = .returned (.int .i64 (k + (sm uL L : Nat))) ∧ Below w.heap.size w w' := by
  have hlen := mkL_length mkLd uL k L
  obtain ⟨a, cap, rfl, hc⟩ := hv
  rw [hlen]
  go_enter Try.func46, Try.ntmps46
  go_wp2
  go_loopw [1, 5] (fun t i wr => ∃ j : Nat, j ≤ L.length ∧ i = .int .i64 j ∧ t = .int .i64 (k + (sm uL (L.take j) : Nat)) ∧ Below w.heap.size w wr) (fun _ i _ => L.length - (intOf i).toNat)
  case atStart => exact ⟨0, Nat.zero_le _, rfl, by simp [sm], Below.refl _ _⟩
  case round =>
    obtain ⟨j, hj, rfl, rfl, hb⟩ := hrel
    by_cases hlt : j < L.length
    · have hlt' : j < (mkL mkLd uL k L).length := by omega
      obtain ⟨b, off, rfl, hbl, hcell⟩ := hc (by intro e; rw [e] at hlt'; simp at hlt')
      obtain ⟨z0, z1⟩ := hcell j hlt'
      have e0 := mkL_at mkLd uL k L j hlt
      rw [e0] at z0 z1
      have hc0 := (hb.cell (p := ⟨b, off + j * 2, none⟩) hbl).trans z0
      have hc1 := (hb.cell (p := ⟨b, off + j * 2 + 1, none⟩) hbl).trans z1
      have hkb := sm_take_le uL L j
      have hkc := sm_take_le uL L (j + 1)
      have HK2 : Hid (sm uL (L.take (j + 1)) = sm uL (L.take j) + uL L[j]) := sm_take uL L j hlt
      clear hcell hc e0 hlen z0 z1
      clear hlt'
      obtain ⟨kj, HKJ⟩ : ∃ kj : Int, Hid (k + (sm uL (L.take j) : Nat) = kj) := ⟨_, rfl⟩
      rw [HKJ.out] at hc0 hc1 ⊢
      have hk1 : 1 ≤ kj := by have := HKJ.out; omega
      have hk2 : kj ≤ 40000000 := by have := HKJ.out; omega
      have HK3 : Hid (k + (sm uL (L.take (j + 1)) : Nat) = kj + (uL L[j] : Nat)) := by have := HKJ.out; have := HK2.out; show _ = _; omega
      clear HK2 HKJ hkb hkc
      generalize L[j] = s at *
      have hz := hb.size
      have hbW : b < wr.heap.size := by omega
      dsimp only [mkLd] at hc0 hc1
      have HR : Hid (kj + 1 + 1 = k + (sm uL (L.take (j + 1)) : Nat)) := by have := HK3.out; simp only [uL] at this; show _ = _; omega
      clear HK3
      go_wp2
      go_roundw
      case rel => exact ⟨j + 1, by omega, by go_num, by rw [← HR.out], hb⟩
      case measure => simp [intOf]; omega
    · obtain rfl : j = L.length := by omega
      rw [List.take_length]
      clear hc
      go_wp2
      go_ret
      exact ⟨rfl, hb⟩

set_option maxHeartbeats 16000000 in
theorem heldCluster_any (vn vm vl : Value) (N : List Nv) (M : List Mv) (L : List Ld) (k : Int) (w : World) (h : CR w vn vm vl (mkL mkNv uN k N) (mkL mkMv uM (k + (sm uN N : Nat)) M) (mkL mkLd uL (k + (sm uN N : Nat) + (sm uM M : Nat)) L)) (hs : CS N M L) (h1 : 1 ≤ k) (h2 : k + (uC N M L : Nat) ≤ 40000000) :
    Calls Try.prog 37 #[.agg #[vn, vm, vl], .int .i64 k] w fun e w' => e = .returned (.int .i64 (k + (uC N M L : Nat))) ∧ Below w.heap.size w w' := by
  have hB := below_alloc w (.cells #[vn, vm, vl] 60)
  have X := Box.new w #[vn, vm, vl] 60
  unfold uC at h2
  rw [show k + (uC N M L : Nat) = k + (sm uN N : Nat) + (sm uM M : Nat) + (sm uL L : Nat) from by unfold uC; omega]
  have K1 := heldNodeS_any vn N k _ (h.below hB).n (h.below hB).ne hs.n hs.ne h1 (by omega)
  have K2 := fun W (hb : Below w.heap.size w W) => heldMsgsS_any vm M (k + (sm uN N : Nat)) W (h.below hb).m (h.below hb).me hs.m hs.me (by omega) (by omega)
  have K3 := fun W (hb : Below w.heap.size w W) => heldLeadS_any vl L (k + (sm uN N : Nat) + (sm uM M : Nat)) W (h.below hb).l hs.l (by omega) (by omega)
  obtain ⟨⟨na, nc, rfl⟩, ⟨xa, xc, rfl⟩, ya, yc, rfl⟩ := h.shapes
  have q1 : ¬ k + (sm uN N : Nat) < 0 := by omega
  have q2 : ¬ k + (sm uN N : Nat) + (sm uM M : Nat) < 0 := by omega
  have q3 : ¬ k + (sm uN N : Nat) + (sm uM M : Nat) + (sm uL L : Nat) < 0 := by omega
  clear h hs
  generalize (mkL mkNv uN k N).length = ln at *
  generalize (mkL mkMv uM (k + (sm uN N : Nat)) M).length = lm at *
  generalize (mkL mkLd uL (k + (sm uN N : Nat) + (sm uM M : Nat)) L).length = ll at *
  generalize sm uN N = s1 at *
  generalize sm uM M = s2 at *
  generalize sm uL L = s3 at *
  go_enter Try.func37, Try.ntmps37
  go_wp2_with fail
  refine K1.mono ?_
  rintro e w1 ⟨rfl, hb⟩
  replace hB := below_then hB hb
  replace X := X.below hb
  clear hb K1
  obtain ⟨hxl, x0, x1, x2⟩ := X.c3
  go_wp2_with fail
  refine (K2 _ hB).mono ?_
  rintro e w2 ⟨rfl, hb⟩
  replace hB := below_then hB hb
  replace X := X.below hb
  clear hb K2 hxl x0 x1 x2
  obtain ⟨hxl, x0, x1, x2⟩ := X.c3
  go_wp2_with fail
  refine (K3 _ hB).mono ?_
  rintro e w3 ⟨rfl, hb⟩
  replace hB := below_then hB hb
  clear hb K3 hxl x0 x1 x2 X
  go_wp2
  go_ret
  exact ⟨rfl, hB⟩
end Go.Proofs.Ytapfhhmimkkhnaa
