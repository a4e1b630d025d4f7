/-
  impl.BlockBytes.
  spec.l6Block, spec.BlockBytes; impl.BlockBytes of what is no run.
  BlockBytes, both.
-/
import Derived.Test.YtfdaffnkgpdhhaaGreatBx
namespace Go.Proofs.YtfdaffnkgpdhhaaGreat
open Go.RowKit
set_option linter.unusedVariables false
set_option maxRecDepth 100000

theorem its_step (l : List It) (k : Nat) (hk : k < l.length) : tx (itsL l (k + 1)) = tx (itsL l k) ++ tx (itL l[k] (cm l k)) := by
  rw [tx_cat, itsL, getD_at l k hk]
theorem pl_yes (l : List It) (k : Nat) (h : k % 4 = 0) : tx (plL l (k + 1)) = tx (plL l k) ++ tx (twoL (tx (itsL l k)).size) := by
  rw [tx_cat, plL, if_pos h, tx_size]
theorem pl_no (l : List It) (k : Nat) (h : ¬ k % 4 = 0) : tx (plL l (k + 1)) = tx (plL l k) := by
  rw [plL, if_neg h, List.append_nil]
theorem goodTo_le {l : List It} (h : goodR l = true) {k : Nat} (hk : k ≤ l.length) : goodTo l k = true := by
  unfold goodTo
  rw [List.all_eq_true]
  intro i hi
  exact goodR_at h (by have := List.mem_range.1 hi; omega)
theorem its_size {l : List It} (h : goodR l = true) {k : Nat} (hk : k ≤ l.length) (hl : l.length ≤ 40) : (tx (itsL l k)).size ≤ 2680 := by
  rw [tx_size]
  have := (itsL_len (goodTo_le h hk)).1
  omega
theorem pl_size (l : List It) {k : Nat} (hk : k ≤ l.length) (hl : l.length ≤ 40) : (tx (plL l k)).size ≤ 20 := by
  rw [tx_size, plL_len]
  omega
theorem it_size {x : It} {c : Nat} (h : okIt x = true) (hc : c ≤ x.k.size) : (tx (itL x c)).size ≤ 67 := by
  rw [tx_size]; exact (itL_len h hc).2
theorem cm_zero (l : List It) (k : Nat) (h : k % 4 = 0) : cm l k = 0 := by unfold cm; rw [if_pos h]
theorem cm_com (l : List It) (j : Nat) (h : ¬ (j + 1) % 4 = 0) (h1 : j + 1 < l.length) : cm l (j + 1) = com (bl l[j].k) (bl l[j + 1].k) := by
  unfold cm; rw [if_neg h, show j + 1 - 1 = j from by omega, getD_at l j (by omega), getD_at l (j + 1) h1]
theorem blk_tx (l : List It) : tx (blkL l) = (tx (itsL l l.length) ++ tx (plL l l.length) ++ tx (twoL ((tx (plL l l.length)).size / 2))) ++ tx (wordL (csum (bl (tx (itsL l l.length) ++ tx (plL l l.length) ++ tx (twoL ((tx (plL l l.length)).size / 2)))))) := by
  rw [tx_cat, tx_cat, tx_cat, bl_tx, tx_size]
  rfl

set_option maxHeartbeats 4000000 in
theorem implBlock_yes (v : Value) (l : List It) (w : World) (hv : IR w v l) (hn : l.length ≤ 40) (hg : goodR l = true) :
    Calls Tryz.prog 67 #[v] w fun e w' => e = .returned (.tuple #[.string (tx (blkL l)), .bool true]) ∧ Below w.heap.size w w' := by
  have hs : ∀ i (h : i < l.length), l[i].k.size ≤ 1048576 ∧ l[i].v.size ≤ 1048576 := by
    intro i hi
    have h1 := okAt_it (goodR_at hg hi)
    rw [getD_at l i hi] at h1
    have h2 := okIt_key h1
    have h3 := okIt_kind h1
    omega
  have G := fun w h => implRun_any v l w h (by omega) hs
  rw [hg] at G
  have HB : Hid _ := blk_tx l
  generalize tx (blkL l) = R at *
  go_enter Tryz.func67, Tryz.ntmps67
  obtain ⟨a, cap, rfl, hc0⟩ := hv
  have hv : IR w (.slice a l.length cap) l := ⟨a, cap, rfl, hc0⟩
  clear hs
  go_wp2_with fail
  refine (G _ hv).mono ?_
  rintro e w1 ⟨rfl, hb1⟩
  have hv1 := hv.below hb1
  clear hv G hc0
  go_wp2
  go_loopw [4, 5, 20] (fun s t i wr => ∃ k : Nat, k ≤ l.length ∧ i = .int .i64 k ∧ s = .string (tx (itsL l k)) ∧ t = .string (tx (plL l k)) ∧ Below w.heap.size w wr ∧ Below w1.heap.size w1 wr) (fun _ _ i _ => l.length - (intOf i).toNat)
  case atStart => exact ⟨0, Nat.zero_le _, rfl, rfl, rfl, hb1, Below.refl _ _⟩
  case round =>
    obtain ⟨k, hk, rfl, rfl, rfl, hb, hbb⟩ := hrel
    have hA := its_size hg hk hn
    have hP := pl_size l hk hn
    by_cases hlt : k < l.length
    · obtain ⟨a', cap', ha', hc⟩ := hv1
      simp only [Value.slice.injEq, true_and] at ha'
      obtain ⟨rfl, rfl⟩ := ha'
      obtain ⟨b, off, rfl, hbl, hcell⟩ := hc (by intro e; simp [e] at hlt)
      have hok := okAt_it (goodR_at hg hlt)
      rw [getD_at l k hlt] at hok
      have hkey := okIt_key hok
      have hcm := cm_le l k
      rw [getD_at l k hlt] at hcm
      have hI := it_size hok hcm
      have H1 : Hid (tx (itsL l (k + 1)) = tx (itsL l k) ++ tx (itL l[k] (cm l k))) := its_step l k hlt
      have hc0 := (hbb.cell (p := ⟨b, off + k * 4, none⟩) hbl).trans (hcell k hlt).1
      have hc1 := (hbb.cell (p := ⟨b, off + k * 4 + 1, none⟩) hbl).trans (hcell k hlt).2.1
      have hc2 := (hbb.cell (p := ⟨b, off + k * 4 + 2, none⟩) hbl).trans (hcell k hlt).2.2.1
      have hc3 := (hbb.cell (p := ⟨b, off + k * 4 + 3, none⟩) hbl).trans (hcell k hlt).2.2.2
      have hz := hb.size
      have hzz := hbb.size
      by_cases h4 : k % 4 = 0
      · have H2 : Hid (tx (plL l (k + 1)) = tx (plL l k) ++ tx (twoL (tx (itsL l k)).size)) := pl_yes l k h4
        rw [cm_zero l k h4] at H1 hI
        have KI := fun w => itemBytes_any l[k].k l[k].v l[k].n l[k].d 0 w hok (by omega)
        rw [show ((0 : Nat) : Int) = 0 from rfl] at KI
        have KP := fun w => placeBytes_any (tx (itsL l k)).size w (by omega)
        have h4' : ((k : Int) % 4 == 0) = true := by simp; omega
        have h4'' : (k : Int) % 4 = 0 := by omega
        have hT : (tx (twoL (tx (itsL l k)).size)).size = 2 := rfl
        obtain ⟨s, hse⟩ : ∃ s, s = l[k] := ⟨_, rfl⟩
        rw [← hse] at hc0 hc1 hc2 hc3 H1 hI KI
        clear hcell hse hc hok hcm hkey
        obtain ⟨sk, sn, sd, sv⟩ := s
        dsimp only at hc0 hc1 hc2 hc3 KI
        generalize tx (itL ⟨sk, sn, sd, sv⟩ 0) = C at *
        generalize tx (twoL (tx (itsL l k)).size) = D at *
        generalize tx (itsL l k) = A at *
        generalize tx (plL l k) = B at *
        go_wp2_with fail
        refine (KP _).mono ?_
        rintro e w2 ⟨rfl, hb2⟩
        have X2 := (Box.new wr #[.string sk, .int .i64 sn, .int .i64 sd, .string sv] 33).below hb2
        have hB2 := below_then (hb.alloc hz _) hb2
        have hBB2 := below_then (hbb.alloc hzz _) hb2
        clear hb2 KP hc0 hc1 hc2 hc3
        obtain ⟨_, x0, x1, x2, x3⟩ := X2.c4
        go_wp2_with fail
        refine (KI _).mono ?_
        rintro e w3 ⟨rfl, hb3⟩
        have hB3 := below_then hB2 hb3
        have hBB3 := below_then hBB2 hb3
        clear hb3 KI hB2 hBB2 X2 x0 x1 x2 x3
        go_wp2
        go_roundw
        case rel => exact ⟨k + 1, by omega, by go_num, by rw [H1.out], by rw [H2.out], hB3, hBB3⟩
        case measure => simp [intOf]; omega
      · have H2 : Hid (tx (plL l (k + 1)) = tx (plL l k)) := pl_no l k h4
        obtain ⟨j, rfl⟩ : ∃ j, k = j + 1 := ⟨k - 1, by omega⟩
        have hj : j < l.length := by omega
        have hokj := okAt_it (goodR_at hg hj)
        rw [getD_at l j hj] at hokj
        have hkj := okIt_key hokj
        have KC := fun w => implCommon_any l[j].k l[j + 1].k w (by omega) (by omega)
        rw [cm_com l j h4 hlt] at H1 hI hcm
        have KI := fun w => itemBytes_any l[j + 1].k l[j + 1].v l[j + 1].n l[j + 1].d (com (bl l[j].k) (bl l[j + 1].k)) w hok hcm
        have h4' : (((j : Int) + 1) % 4 == 0) = false := by simp; omega
        have h4'' : ¬ ((j : Int) + 1) % 4 = 0 := by omega
        obtain ⟨W0, hW0⟩ : ∃ W0, W0 = wr.alloc (.cells #[.string l[j + 1].k, .int .i64 l[j + 1].n, .int .i64 l[j + 1].d, .string l[j + 1].v] 33) := ⟨_, rfl⟩
        have X0 : Box W0 wr.heap.size [.string l[j + 1].k, .int .i64 l[j + 1].n, .int .i64 l[j + 1].d, .string l[j + 1].v] := by rw [hW0]; exact Box.new wr #[.string l[j + 1].k, .int .i64 l[j + 1].n, .int .i64 l[j + 1].d, .string l[j + 1].v] 33
        have hB0 : Below w.heap.size w W0 := by rw [hW0]; exact hb.alloc hz _
        have hBB0 : Below w1.heap.size w1 W0 := by rw [hW0]; exact hbb.alloc hzz _
        have hz0 := hB0.size
        have hzz0 := hBB0.size
        have hbW : b < W0.heap.size := by omega
        have p0 := fun x : WC W0.heap.size W0 => (X0.below x.ok).2.1 0 _ rfl
        have q0 := fun x : WC W0.heap.size W0 => (x.ok.cell (p := ⟨b, off + j * 4, none⟩) hbW).trans ((hBB0.cell (p := ⟨b, off + j * 4, none⟩) hbl).trans (hcell j hj).1)
        have hne : Nonempty (WC W0.heap.size W0) := ⟨⟨_, Below.refl _ _⟩⟩
        obtain ⟨s, hse⟩ : ∃ s, s = l[j + 1] := ⟨_, rfl⟩
        obtain ⟨tk, hte⟩ : ∃ t, t = l[j].k := ⟨_, rfl⟩
        rw [← hse] at hc0 hc1 hc2 hc3 H1 hI KI hW0 X0 p0 KC
        rw [← hte] at KC KI H1 hI q0
        clear hcell hse hte hc hok hcm hkey hkj hokj
        obtain ⟨sk, sn, sd, sv⟩ := s
        dsimp only at hc0 hc1 hc2 hc3 KI KC hW0 X0 p0 H1 hI
        generalize com (bl tk) (bl sk) = c at *
        generalize tx (itL ⟨sk, sn, sd, sv⟩ c) = C at *
        generalize tx (itsL l (j + 1)) = A at *
        generalize tx (plL l (j + 1)) = B at *
        go_wp2_with fail
        rw [← hW0]; clear hW0 hc0 hc1 hc2 hc3
        refine wp_region_calm (B := W0.heap.size) (W := W0) (by kernel_rfl) (by kernel_rfl) (Below.refl _ _) ?_
        repeat (go_big_quiet_step (first | (go_at_call 104; with_reducible exact calm_of_below (Nat.le_refl _) (KC _))))
        refine wpQuiet_nil ?_
        intro _ hw'
        obtain ⟨x, hx⟩ := hw'
        subst hx
        have hB1 := hB0.trans (x.ok.mono (by omega))
        have hBB1 := hBB0.trans (x.ok.mono (by omega))
        have X1 := X0.below x.ok
        clear p0 q0 hne X0 hB0 hBB0 KC
        generalize x.w = w2 at *
        clear x
        obtain ⟨_, x0, x1, x2, x3⟩ := X1.c4
        go_wp2_with fail
        refine (KI _).mono ?_
        rintro e w3 ⟨rfl, hb3⟩
        have hB3 := below_then hB1 hb3
        have hBB3 := below_then hBB1 hb3
        clear hb3 KI hB1 hBB1 X1 x0 x1 x2 x3
        go_wp2
        go_roundw
        case rel => exact ⟨j + 1 + 1, by omega, by go_num, by rw [H1.out], by rw [H2.out], hB3, hBB3⟩
        case measure => simp [intOf]; omega
    · obtain rfl : k = l.length := by omega
      clear hv1 hbb hg
      have KP := fun w => placeBytes_any ((tx (plL l l.length)).size / 2) w (by omega)
      have e2 : (((tx (plL l l.length)).size / 2 : Nat) : Int) = ((tx (plL l l.length)).size : Int) / 2 := by omega
      rw [e2] at KP
      clear e2
      have hT : (tx (twoL ((tx (plL l l.length)).size / 2))).size = 2 := rfl
      generalize tx (twoL ((tx (plL l l.length)).size / 2)) = D at *
      generalize tx (itsL l l.length) = A at *
      generalize tx (plL l l.length) = B at *
      have hsz : (A ++ B ++ D).size ≤ 2702 := by rw [ByteArray.size_append, ByteArray.size_append]; omega
      go_wp2_with fail
      refine (KP _).mono ?_
      rintro e w2 ⟨rfl, hb2⟩
      have hB2 := below_then hb hb2
      clear hb2 KP hb
      have KS := fun w => implSum_any (A ++ B ++ D) w (by omega)
      have KW := fun w => wordBytes_any (csum (bl (A ++ B ++ D))) w (csum_lt _)
      rw [show csum (A ++ B ++ D).data.toList = csum (bl (A ++ B ++ D)) from rfl] at KS
      rw [show (⟨(wordL (csum (bl (A ++ B ++ D)))).toArray⟩ : ByteArray) = tx (wordL (csum (bl (A ++ B ++ D)))) from rfl] at KW
      have hw4 : (tx (wordL (csum (bl (A ++ B ++ D))))).size = 4 := rfl
      generalize tx (wordL (csum (bl (A ++ B ++ D)))) = W at *
      generalize csum (bl (A ++ B ++ D)) = cs at *
      go_wp2_with fail
      refine (KS _).mono ?_
      rintro e w3 ⟨rfl, hb3⟩
      go_wp2_with fail
      refine (KW _).mono ?_
      rintro e w4 ⟨rfl, hb4⟩
      have hB4 := below_then (below_then hB2 hb3) hb4
      clear KS KW hb3 hb4 hB2
      go_wp2
      go_ret2
      exact ⟨by rw [HB.out]; rfl, hB4⟩
end Go.Proofs.YtfdaffnkgpdhhaaGreat

namespace Go.Proofs.YtfdaffnkgpdhhaaGreat
open Go.RowKit
set_option linter.unusedVariables false
set_option maxRecDepth 100000

theorem itL_tx2 (x : It) (c : Nat) : tx (itL x c) = tx (varL c) ++ tx (varL (x.k.size - c)) ++ tx (varL (2 * x.n + x.d).toNat) ++ tx (varL x.v.size) ++ x.k.extract c x.k.size ++ x.v := by
  apply bl_inj
  simp only [bl_cat, bl_tx, bl_from, itL, List.append_assoc]
theorem cat_assoc (a b c : ByteArray) : a ++ (b ++ c) = a ++ b ++ c := by
  apply bl_inj; simp only [bl_cat, List.append_assoc]
theorem ext_all (a : ByteArray) : a.extract 0 a.size = a := by apply bl_inj; rw [bl_from, List.drop_zero]
theorem l2Var_tx (n : Nat) (w : World) (h : n < 9223372036854775808) :
    Calls Tryz.prog 74 #[.int .i64 n] w fun e w' => e = .returned (.string (tx (varL n))) ∧ Below w.heap.size w w' := l2Var_any n w h

set_option maxHeartbeats 4000000 in
theorem l6Block_any (v : Value) (l : List It) (w : World) (hv : IR w v l) (hn : l.length ≤ 40) (hg : goodR l = true) :
    Calls Tryz.prog 73 #[v] w fun e w' => e = .returned (.string (tx (blkL l))) ∧ Below w.heap.size w w' := by
  have HB : Hid _ := blk_tx l
  generalize tx (blkL l) = R at *
  obtain ⟨a, cap, rfl, hc0⟩ := hv
  have hv1 : IR w (.slice a l.length cap) l := ⟨a, cap, rfl, hc0⟩
  clear hc0
  go_enter Tryz.func73, Tryz.ntmps73
  go_wp2
  go_loopw [3, 4, 10] (fun s t i wr => ∃ k : Nat, k ≤ l.length ∧ i = .int .i64 k ∧ s = .string (tx (itsL l k)) ∧ t = .string (tx (plL l k)) ∧ Below w.heap.size w wr) (fun _ _ i _ => l.length - (intOf i).toNat)
  case atStart => exact ⟨0, Nat.zero_le _, rfl, rfl, rfl, Below.refl _ _⟩
  case round =>
    obtain ⟨k, hk, rfl, rfl, rfl, hb⟩ := hrel
    have hA := its_size hg hk hn
    have hP := pl_size l hk hn
    by_cases hlt : k < l.length
    · obtain ⟨a', cap', ha', hc⟩ := hv1
      simp only [Value.slice.injEq, true_and] at ha'
      obtain ⟨rfl, rfl⟩ := ha'
      obtain ⟨b, off, rfl, hbl, hcell⟩ := hc (by intro e; simp [e] at hlt)
      have hok := okAt_it (goodR_at hg hlt)
      rw [getD_at l k hlt] at hok
      have hkey := okIt_key hok
      have hcm := cm_le l k
      rw [getD_at l k hlt] at hcm
      have hI := it_size hok hcm
      have H1 : Hid (tx (itsL l (k + 1)) = tx (itsL l k) ++ tx (itL l[k] (cm l k))) := its_step l k hlt
      have hc0 := (hb.cell (p := ⟨b, off + k * 4, none⟩) hbl).trans (hcell k hlt).1
      have hc1 := (hb.cell (p := ⟨b, off + k * 4 + 1, none⟩) hbl).trans (hcell k hlt).2.1
      have hc2 := (hb.cell (p := ⟨b, off + k * 4 + 2, none⟩) hbl).trans (hcell k hlt).2.2.1
      have hc3 := (hb.cell (p := ⟨b, off + k * 4 + 3, none⟩) hbl).trans (hcell k hlt).2.2.2
      have hz := hb.size
      by_cases h4 : k % 4 = 0
      · have H2 : Hid (tx (plL l (k + 1)) = tx (plL l k) ++ tx (twoL (tx (itsL l k)).size)) := pl_yes l k h4
        rw [cm_zero l k h4] at H1 hI
        have hsn := okIt_seq hok
        have hsd := okIt_kind hok
        have HI : Hid (tx (itL l[k] 0) = tx (varL 0) ++ tx (varL (l[k].k.size - 0)) ++ tx (varL (2 * l[k].n + l[k].d).toNat) ++ tx (varL l[k].v.size) ++ l[k].k.extract 0 l[k].k.size ++ l[k].v) := itL_tx2 _ _
        obtain ⟨m, hm⟩ : ∃ m : Nat, (m : Int) = 2 * l[k].n + l[k].d := ⟨(2 * l[k].n + l[k].d).toNat, by omega⟩
        have hm2 : (2 * l[k].n + l[k].d).toNat = m := by omega
        rw [hm2] at HI
        have L1 := fun w => l2Var_tx 0 w (by omega)
        have L2 := fun w => l2Var_tx (l[k].k.size - 0) w (by omega)
        have L3 := fun w => l2Var_tx m w (by omega)
        have L4 := fun w => l2Var_tx l[k].v.size w (by omega)
        have b1 : (tx (varL 0)).size ≤ 9 := by rw [tx_size]; exact varL_len 8 _ (by simp <;> omega)
        have b2 : (tx (varL (l[k].k.size - 0))).size ≤ 9 := by rw [tx_size]; exact varL_len 8 _ (by simp <;> omega)
        have b3 : (tx (varL m)).size ≤ 9 := by rw [tx_size]; exact varL_len 8 _ (by simp <;> omega)
        have b4 : (tx (varL l[k].v.size)).size ≤ 9 := by rw [tx_size]; exact varL_len 8 _ (by simp <;> omega)
        rw [hm] at L3
        rw [show ((0 : Nat) : Int) = 0 from rfl] at L1
        rw [Nat.sub_zero] at L2 b2 HI
        rw [ext_all] at HI
        clear hm hm2
        have KP := fun w => l6Two_any (tx (itsL l k)).size w (by omega)
        have h4' : ((k : Int) % 4 == 0) = true := by simp; omega
        have h4'' : (k : Int) % 4 = 0 := by omega
        have hT : (tx (twoL (tx (itsL l k)).size)).size = 2 := rfl
        obtain ⟨s, hse⟩ : ∃ s, s = l[k] := ⟨_, rfl⟩
        rw [← hse] at hc0 hc1 hc2 hc3 H1 hI HI L2 L3 L4 b2 b4 hsn hsd hkey
        clear hcell hse hc hok hcm
        obtain ⟨sk, sn, sd, sv⟩ := s
        dsimp only at hc0 hc1 hc2 hc3 HI L2 L3 L4 b2 b4 hsn hsd hkey
        generalize tx (itL ⟨sk, sn, sd, sv⟩ 0) = C at *
        generalize tx (varL 0) = V1 at *
        generalize tx (varL sk.size) = V2 at *
        generalize tx (varL m) = V3 at *
        generalize tx (varL sv.size) = V4 at *
        generalize tx (twoL (tx (itsL l k)).size) = D at *
        generalize tx (itsL l k) = A at *
        generalize tx (plL l k) = B at *
        go_wp2_with fail
        refine (KP _).mono ?_
        rintro e w2 ⟨rfl, hb2⟩
        have X2 := (Box.new wr #[.string sk, .int .i64 sn, .int .i64 sd, .string sv] 33).below hb2
        have hB2 := below_then (hb.alloc hz _) hb2
        clear hb2 KP hc0 hc1 hc2 hc3
        obtain ⟨_, x0, x1, x2, x3⟩ := X2.c4
        have r0 := fun x : WC w2.heap.size w2 => (X2.below x.ok).2.1 0 _ rfl
        have r1 := fun x : WC w2.heap.size w2 => (X2.below x.ok).2.1 1 _ rfl
        have r2 := fun x : WC w2.heap.size w2 => (X2.below x.ok).2.1 2 _ rfl
        have r3 := fun x : WC w2.heap.size w2 => (X2.below x.ok).2.1 3 _ rfl
        have hnr : Nonempty (WC w2.heap.size w2) := ⟨⟨_, Below.refl _ _⟩⟩
        clear x0 x1 x2 x3
        have hzr := hB2.size
        go_wp2_with fail
        refine wp_region_calm (B := w2.heap.size) (W := w2) (by kernel_rfl) (by kernel_rfl) (Below.refl _ _) ?_
        repeat (go_big_quiet_step (first | (go_at_call 74; first | with_reducible exact calm_of_below (Nat.le_refl _) (L1 _) | with_reducible exact calm_of_below (Nat.le_refl _) (L2 _) | with_reducible exact calm_of_below (Nat.le_refl _) (L3 _) | with_reducible exact calm_of_below (Nat.le_refl _) (L4 _))))
        refine wpQuiet_nil ?_
        intro _ hw'
        obtain ⟨x, hx⟩ := hw'
        subst hx
        have hB3 := hB2.trans (x.ok.mono hzr)
        clear r0 r1 r2 r3 hnr X2 hB2 L1 L2 L3 L4 hzr
        generalize x.w = w3 at *
        clear x
        go_wp2
        go_roundw
        case rel => exact ⟨k + 1, by omega, by go_num, by rw [H1.out, HI.out], by rw [H2.out], hB3⟩
        case measure => simp [intOf]; omega
      · have H2 : Hid (tx (plL l (k + 1)) = tx (plL l k)) := pl_no l k h4
        obtain ⟨j, rfl⟩ : ∃ j, k = j + 1 := ⟨k - 1, by omega⟩
        have hj : j < l.length := by omega
        have hokj := okAt_it (goodR_at hg hj)
        rw [getD_at l j hj] at hokj
        have hkj := okIt_key hokj
        have KC := fun w => specCommon_any l[j].k l[j + 1].k w (by omega) (by omega)
        rw [cm_com l j h4 hlt] at H1 hI hcm
        have hsn := okIt_seq hok
        have hsd := okIt_kind hok
        have HI : Hid (tx (itL l[j + 1] (com (bl l[j].k) (bl l[j + 1].k))) = tx (varL (com (bl l[j].k) (bl l[j + 1].k))) ++ tx (varL (l[j + 1].k.size - (com (bl l[j].k) (bl l[j + 1].k)))) ++ tx (varL (2 * l[j + 1].n + l[j + 1].d).toNat) ++ tx (varL l[j + 1].v.size) ++ l[j + 1].k.extract (com (bl l[j].k) (bl l[j + 1].k)) l[j + 1].k.size ++ l[j + 1].v) := itL_tx2 _ _
        obtain ⟨m, hm⟩ : ∃ m : Nat, (m : Int) = 2 * l[j + 1].n + l[j + 1].d := ⟨(2 * l[j + 1].n + l[j + 1].d).toNat, by omega⟩
        have hm2 : (2 * l[j + 1].n + l[j + 1].d).toNat = m := by omega
        rw [hm2] at HI
        have L1 := fun w => l2Var_tx (com (bl l[j].k) (bl l[j + 1].k)) w (by omega)
        have L2 := fun w => l2Var_tx (l[j + 1].k.size - (com (bl l[j].k) (bl l[j + 1].k))) w (by omega)
        have L3 := fun w => l2Var_tx m w (by omega)
        have L4 := fun w => l2Var_tx l[j + 1].v.size w (by omega)
        have b1 : (tx (varL (com (bl l[j].k) (bl l[j + 1].k)))).size ≤ 9 := by rw [tx_size]; exact varL_len 8 _ (by simp <;> omega)
        have b2 : (tx (varL (l[j + 1].k.size - (com (bl l[j].k) (bl l[j + 1].k))))).size ≤ 9 := by rw [tx_size]; exact varL_len 8 _ (by simp <;> omega)
        have b3 : (tx (varL m)).size ≤ 9 := by rw [tx_size]; exact varL_len 8 _ (by simp <;> omega)
        have b4 : (tx (varL l[j + 1].v.size)).size ≤ 9 := by rw [tx_size]; exact varL_len 8 _ (by simp <;> omega)
        rw [hm] at L3
        rw [show ((l[j + 1].k.size - com (bl l[j].k) (bl l[j + 1].k) : Nat) : Int) = (l[j + 1].k.size : Int) - ((com (bl l[j].k) (bl l[j + 1].k) : Nat) : Int) from by omega] at L2
        clear hm hm2
        have h4' : (((j : Int) + 1) % 4 == 0) = false := by simp; omega
        have h4'' : ¬ ((j : Int) + 1) % 4 = 0 := by omega
        obtain ⟨W0, hW0⟩ : ∃ W0, W0 = wr.alloc (.cells #[.string l[j + 1].k, .int .i64 l[j + 1].n, .int .i64 l[j + 1].d, .string l[j + 1].v] 33) := ⟨_, rfl⟩
        have X0 : Box W0 wr.heap.size [.string l[j + 1].k, .int .i64 l[j + 1].n, .int .i64 l[j + 1].d, .string l[j + 1].v] := by rw [hW0]; exact Box.new wr #[.string l[j + 1].k, .int .i64 l[j + 1].n, .int .i64 l[j + 1].d, .string l[j + 1].v] 33
        have hB0 : Below w.heap.size w W0 := by rw [hW0]; exact hb.alloc hz _
        have hz0 := hB0.size
        have hbW : b < W0.heap.size := by omega
        have p0 := fun x : WC W0.heap.size W0 => (X0.below x.ok).2.1 0 _ rfl
        have q0 := fun x : WC W0.heap.size W0 => (x.ok.cell (p := ⟨b, off + j * 4, none⟩) hbW).trans ((hB0.cell (p := ⟨b, off + j * 4, none⟩) hbl).trans (hcell j hj).1)
        have hne : Nonempty (WC W0.heap.size W0) := ⟨⟨_, Below.refl _ _⟩⟩
        obtain ⟨s, hse⟩ : ∃ s, s = l[j + 1] := ⟨_, rfl⟩
        obtain ⟨tk, hte⟩ : ∃ t, t = l[j].k := ⟨_, rfl⟩
        rw [← hse] at hc0 hc1 hc2 hc3 H1 hI HI L1 L2 L3 L4 b1 b2 b4 hsn hsd hkey hW0 X0 p0 KC hcm
        rw [← hte] at KC H1 hI HI L1 L2 b1 b2 q0 hcm
        clear hcell hse hte hc hok hkj hokj
        obtain ⟨sk, sn, sd, sv⟩ := s
        dsimp only at hc0 hc1 hc2 hc3 HI L1 L2 L3 L4 b1 b2 b4 hsn hsd hkey KC hW0 X0 p0 H1 hI hcm
        generalize com (bl tk) (bl sk) = c at *
        generalize tx (itL ⟨sk, sn, sd, sv⟩ c) = C at *
        generalize tx (varL c) = V1 at *
        generalize tx (varL (sk.size - c)) = V2 at *
        generalize tx (varL m) = V3 at *
        generalize tx (varL sv.size) = V4 at *
        generalize tx (itsL l (j + 1)) = A at *
        generalize tx (plL l (j + 1)) = B at *
        go_wp2_with fail
        rw [← hW0]; clear hW0 hc0 hc1 hc2 hc3
        refine wp_region_calm (B := W0.heap.size) (W := W0) (by kernel_rfl) (by kernel_rfl) (Below.refl _ _) ?_
        repeat (go_big_quiet_step (first | (go_at_call 113; with_reducible exact calm_of_below (Nat.le_refl _) (KC _))))
        refine wpQuiet_nil ?_
        intro _ hw'
        obtain ⟨x, hx⟩ := hw'
        subst hx
        have hB1 := hB0.trans (x.ok.mono (by omega))
        have X1 := X0.below x.ok
        clear p0 q0 hne X0 hB0 KC
        generalize x.w = w2 at *
        clear x
        obtain ⟨_, x0, x1, x2, x3⟩ := X1.c4
        have r0 := fun x : WC w2.heap.size w2 => (X1.below x.ok).2.1 0 _ rfl
        have r1 := fun x : WC w2.heap.size w2 => (X1.below x.ok).2.1 1 _ rfl
        have r2 := fun x : WC w2.heap.size w2 => (X1.below x.ok).2.1 2 _ rfl
        have r3 := fun x : WC w2.heap.size w2 => (X1.below x.ok).2.1 3 _ rfl
        have hnr : Nonempty (WC w2.heap.size w2) := ⟨⟨_, Below.refl _ _⟩⟩
        clear x0 x1 x2 x3
        have hzr := hB1.size
        go_wp2_with fail
        refine wp_region_calm (B := w2.heap.size) (W := w2) (by kernel_rfl) (by kernel_rfl) (Below.refl _ _) ?_
        repeat (go_big_quiet_step (first | (go_at_call 74; first | with_reducible exact calm_of_below (Nat.le_refl _) (L1 _) | with_reducible exact calm_of_below (Nat.le_refl _) (L2 _) | with_reducible exact calm_of_below (Nat.le_refl _) (L3 _) | with_reducible exact calm_of_below (Nat.le_refl _) (L4 _))))
        refine wpQuiet_nil ?_
        intro _ hw'
        obtain ⟨x, hx⟩ := hw'
        subst hx
        have hB3 := hB1.trans (x.ok.mono hzr)
        clear r0 r1 r2 r3 hnr X1 hB1 L1 L2 L3 L4 hzr
        generalize x.w = w3 at *
        clear x
        go_wp2
        go_roundw
        case rel => exact ⟨j + 1 + 1, by omega, by go_num, by rw [H1.out, HI.out], by rw [H2.out], hB3⟩
        case measure => simp [intOf]; omega
    · obtain rfl : k = l.length := by omega
      clear hv1 hg
      have KP := fun w => l6Two_any ((tx (plL l l.length)).size / 2) w (by omega)
      have e2 : (((tx (plL l l.length)).size / 2 : Nat) : Int) = ((tx (plL l l.length)).size : Int) / 2 := by omega
      rw [e2] at KP
      clear e2
      have hT : (tx (twoL ((tx (plL l l.length)).size / 2))).size = 2 := rfl
      generalize tx (twoL ((tx (plL l l.length)).size / 2)) = D at *
      generalize tx (itsL l l.length) = A at *
      generalize tx (plL l l.length) = B at *
      have hsz : (A ++ (B ++ D)).size ≤ 2702 := by rw [ByteArray.size_append, ByteArray.size_append]; omega
      rw [show A ++ B ++ D = A ++ (B ++ D) from (cat_assoc A B D).symm] at HB
      go_wp2_with fail
      refine (KP _).mono ?_
      rintro e w2 ⟨rfl, hb2⟩
      have hB2 := below_then hb hb2
      clear hb2 KP hb
      have KS := fun w => l2Sum_any (A ++ (B ++ D)) w (by omega)
      have KW := fun w => l2Word_any (csum (bl (A ++ (B ++ D)))) w (csum_lt _)
      rw [show csum (A ++ (B ++ D)).data.toList = csum (bl (A ++ (B ++ D))) from rfl] at KS
      rw [show (⟨(wordL (csum (bl (A ++ (B ++ D))))).toArray⟩ : ByteArray) = tx (wordL (csum (bl (A ++ (B ++ D))))) from rfl] at KW
      have hw4 : (tx (wordL (csum (bl (A ++ (B ++ D)))))).size = 4 := rfl
      generalize tx (wordL (csum (bl (A ++ (B ++ D))))) = W at *
      generalize csum (bl (A ++ (B ++ D))) = cs at *
      go_wp2_with fail
      refine (KS _).mono ?_
      rintro e w3 ⟨rfl, hb3⟩
      go_wp2_with fail
      refine (KW _).mono ?_
      rintro e w4 ⟨rfl, hb4⟩
      have hB4 := below_then (below_then hB2 hb3) hb4
      clear KS KW hb3 hb4 hB2
      go_wp2
      go_ret
      exact ⟨by rw [HB.out]; rfl, hB4⟩
end Go.Proofs.YtfdaffnkgpdhhaaGreat

namespace Go.Proofs.YtfdaffnkgpdhhaaGreat
open Go.RowKit
set_option linter.unusedVariables false
set_option maxRecDepth 100000

/-- What BlockBytes answers. -/
def okBlk (l : List It) : Bool := goodR l && decide (l.length ≤ 40)
def blkF (l : List It) : ByteArray := if okBlk l then tx (blkL l) else ⟨#[]⟩

set_option maxHeartbeats 1000000 in
theorem implBlk_any (v : Value) (l : List It) (w : World) (hv : IR w v l) (hn : l.length ≤ 1048576) (hs : ∀ i (h : i < l.length), l[i].k.size ≤ 1048576 ∧ l[i].v.size ≤ 1048576) :
    Calls Tryz.prog 67 #[v] w fun e w' => e = .returned (.tuple #[.string (blkF l), .bool (okBlk l)]) ∧ Below w.heap.size w w' := by
  cases hok : okBlk l with
  | true =>
    have h := hok
    unfold okBlk at h
    rw [Bool.and_eq_true, decide_eq_true_eq] at h
    unfold blkF
    rw [if_pos hok]
    exact implBlock_yes v l w hv h.2 h.1
  | false =>
    have HF : Hid (blkF l = ⟨#[]⟩) := by show _ = _; unfold blkF; rw [if_neg (by rw [hok]; simp)]
    generalize blkF l = R at *
    have G := fun w h => implRun_any v l w h hn hs
    unfold okBlk at hok
    obtain ⟨a, cap, rfl, hc0⟩ := hv
    have hv : IR w (.slice a l.length cap) l := ⟨a, cap, rfl, hc0⟩
    clear hc0 hs
    by_cases h40 : l.length ≤ 40
    · rw [decide_eq_true h40, Bool.and_true] at hok
      rw [hok] at G
      clear hok
      go_enter Tryz.func67, Tryz.ntmps67
      go_wp2_with fail
      refine (G _ hv).mono ?_
      rintro e w1 ⟨rfl, hb1⟩
      clear G hv
      go_wp2
      go_ret2
      exact ⟨by rw [HF.out]; rfl, hb1⟩
    · clear G hv hok
      go_enter Tryz.func67, Tryz.ntmps67
      go_wp2
      go_ret2
      exact ⟨by rw [HF.out]; rfl, Below.refl _ _⟩

end Go.Proofs.YtfdaffnkgpdhhaaGreat

