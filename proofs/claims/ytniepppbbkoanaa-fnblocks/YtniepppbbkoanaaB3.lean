/-
  impl.BlockBytes.
-/
import Derived.Test.YtniepppbbkoanaaB2
namespace Go.Proofs.Ytniepppbbkoanaa
open Go.RowKit
set_option linter.unusedVariables false
set_option maxRecDepth 100000

theorem its_step (l : List It) (k : Nat) (hk : k < l.length) : tx (itsL l (k + 1)) = tx (itsL l k) ++ tx (itL l[k] (cm l k)) := by
  rw [tx_cat, itsL, getD_at l k hk]
theorem pl_yes (l : List It) (k : Nat) (h : k % 4 = 0) : tx (plL l (k + 1)) = tx (plL l k) ++ tx (twoL (tx (itsL l k)).size) := by
  rw [tx_cat, plL, if_pos h, tx_size]
theorem pl_no (l : List It) (k : Nat) (h : ¬ k % 4 = 0) : tx (plL l (k + 1)) = tx (plL l k) := by
  rw [plL, if_neg h, List.append_nil]
theorem goodTo_le {l : List It} (h : goodR l = true) {k : Nat} (hk : k ≤ l.length) : goodTo l k = true := by
  unfold goodTo
  rw [List.all_eq_true]
  intro i hi
  exact goodR_at h (by have := List.mem_range.1 hi; omega)
theorem its_size {l : List It} (h : goodR l = true) {k : Nat} (hk : k ≤ l.length) (hl : l.length ≤ 40) : (tx (itsL l k)).size ≤ 2680 := by
  rw [tx_size]
  have := (itsL_len (goodTo_le h hk)).1
  omega
theorem pl_size (l : List It) {k : Nat} (hk : k ≤ l.length) (hl : l.length ≤ 40) : (tx (plL l k)).size ≤ 20 := by
  rw [tx_size, plL_len]
  omega
theorem it_size {x : It} {c : Nat} (h : okIt x = true) (hc : c ≤ x.k.size) : (tx (itL x c)).size ≤ 67 := by
  rw [tx_size]; exact (itL_len h hc).2
theorem cm_zero (l : List It) (k : Nat) (h : k % 4 = 0) : cm l k = 0 := by unfold cm; rw [if_pos h]
theorem cm_com (l : List It) (j : Nat) (h : ¬ (j + 1) % 4 = 0) (h1 : j + 1 < l.length) : cm l (j + 1) = com (bl l[j].k) (bl l[j + 1].k) := by
  unfold cm; rw [if_neg h, show j + 1 - 1 = j from by omega, getD_at l j (by omega), getD_at l (j + 1) h1]
theorem blk_tx (l : List It) : tx (blkL l) = (tx (itsL l l.length) ++ tx (plL l l.length) ++ tx (twoL ((tx (plL l l.length)).size / 2))) ++ tx (wordL (csum (bl (tx (itsL l l.length) ++ tx (plL l l.length) ++ tx (twoL ((tx (plL l l.length)).size / 2)))))) := by
  rw [tx_cat, tx_cat, tx_cat, bl_tx, tx_size]
  rfl

set_option maxHeartbeats 4000000 in
theorem implBlock_yes (v : Value) (l : List It) (w : World) (hv : IR w v l) (hn : l.length ≤ 40) (hg : goodR l = true) :
    Calls Try.prog 13 #[v] w fun e w' => e = .returned (.tuple #[.string (tx (blkL l)), .bool true]) ∧ Below w.heap.size w w' := by
  have hs : ∀ i (h : i < l.length), l[i].k.size ≤ 1048576 ∧ l[i].v.size ≤ 1048576 := by
    intro i hi
    have h1 := okAt_it (goodR_at hg hi)
    rw [getD_at l i hi] at h1
    have h2 := okIt_key h1
    have h3 := okIt_kind h1
    omega
  have G := fun w h => implRun_any v l w h (by omega) hs
  rw [hg] at G
  have HB : Hid _ := blk_tx l
  generalize tx (blkL l) = R at *
  go_enter Try.func13, Try.ntmps13
  obtain ⟨a, cap, rfl, hc0⟩ := hv
  have hv : IR w (.slice a l.length cap) l := ⟨a, cap, rfl, hc0⟩
  clear hs
  go_wp2_with fail
  refine (G _ hv).mono ?_
  rintro e w1 ⟨rfl, hb1⟩
  have hv1 := hv.below hb1
  clear hv G hc0
  go_wp2
  go_loopw [4, 5, 20] (fun s t i wr => ∃ k : Nat, k ≤ l.length ∧ i = .int .i64 k ∧ s = .string (tx (itsL l k)) ∧ t = .string (tx (plL l k)) ∧ Below w.heap.size w wr ∧ Below w1.heap.size w1 wr) (fun _ _ i _ => l.length - (intOf i).toNat)
  case atStart => exact ⟨0, Nat.zero_le _, rfl, rfl, rfl, hb1, Below.refl _ _⟩
  case round =>
    obtain ⟨k, hk, rfl, rfl, rfl, hb, hbb⟩ := hrel
    have hA := its_size hg hk hn
    have hP := pl_size l hk hn
    by_cases hlt : k < l.length
    · obtain ⟨a', cap', ha', hc⟩ := hv1
      simp only [Value.slice.injEq, true_and] at ha'
      obtain ⟨rfl, rfl⟩ := ha'
      obtain ⟨b, off, rfl, hbl, hcell⟩ := hc (by intro e; simp [e] at hlt)
      have hok := okAt_it (goodR_at hg hlt)
      rw [getD_at l k hlt] at hok
      have hkey := okIt_key hok
      have hcm := cm_le l k
      rw [getD_at l k hlt] at hcm
      have hI := it_size hok hcm
      have H1 : Hid (tx (itsL l (k + 1)) = tx (itsL l k) ++ tx (itL l[k] (cm l k))) := its_step l k hlt
      have hc0 := (hbb.cell (p := ⟨b, off + k * 4, none⟩) hbl).trans (hcell k hlt).1
      have hc1 := (hbb.cell (p := ⟨b, off + k * 4 + 1, none⟩) hbl).trans (hcell k hlt).2.1
      have hc2 := (hbb.cell (p := ⟨b, off + k * 4 + 2, none⟩) hbl).trans (hcell k hlt).2.2.1
      have hc3 := (hbb.cell (p := ⟨b, off + k * 4 + 3, none⟩) hbl).trans (hcell k hlt).2.2.2
      have hz := hb.size
      have hzz := hbb.size
      by_cases h4 : k % 4 = 0
      · have H2 : Hid (tx (plL l (k + 1)) = tx (plL l k) ++ tx (twoL (tx (itsL l k)).size)) := pl_yes l k h4
        rw [cm_zero l k h4] at H1 hI
        have KI := fun w => itemBytes_any l[k].k l[k].v l[k].n l[k].d 0 w hok (by omega)
        rw [show ((0 : Nat) : Int) = 0 from rfl] at KI
        have KP := fun w => placeBytes_any (tx (itsL l k)).size w (by omega)
        have h4' : ((k : Int) % 4 == 0) = true := by simp; omega
        have h4'' : (k : Int) % 4 = 0 := by omega
        have hT : (tx (twoL (tx (itsL l k)).size)).size = 2 := rfl
        obtain ⟨s, hse⟩ : ∃ s, s = l[k] := ⟨_, rfl⟩
        rw [← hse] at hc0 hc1 hc2 hc3 H1 hI KI
        clear hcell hse hc hok hcm hkey
        obtain ⟨sk, sn, sd, sv⟩ := s
        dsimp only at hc0 hc1 hc2 hc3 KI
        generalize tx (itL ⟨sk, sn, sd, sv⟩ 0) = C at *
        generalize tx (twoL (tx (itsL l k)).size) = D at *
        generalize tx (itsL l k) = A at *
        generalize tx (plL l k) = B at *
        go_wp2_with fail
        refine (KP _).mono ?_
        rintro e w2 ⟨rfl, hb2⟩
        have X2 := (Box.new wr #[.string sk, .int .i64 sn, .int .i64 sd, .string sv] 35).below hb2
        have hB2 := below_then (hb.alloc hz _) hb2
        have hBB2 := below_then (hbb.alloc hzz _) hb2
        clear hb2 KP hc0 hc1 hc2 hc3
        obtain ⟨_, x0, x1, x2, x3⟩ := X2.c4
        go_wp2_with fail
        refine (KI _).mono ?_
        rintro e w3 ⟨rfl, hb3⟩
        have hB3 := below_then hB2 hb3
        have hBB3 := below_then hBB2 hb3
        clear hb3 KI hB2 hBB2 X2 x0 x1 x2 x3
        go_wp2
        go_roundw
        case rel => exact ⟨k + 1, by omega, by go_num, by rw [H1.out], by rw [H2.out], hB3, hBB3⟩
        case measure => simp [intOf]; omega
      · have H2 : Hid (tx (plL l (k + 1)) = tx (plL l k)) := pl_no l k h4
        obtain ⟨j, rfl⟩ : ∃ j, k = j + 1 := ⟨k - 1, by omega⟩
        have hj : j < l.length := by omega
        have hokj := okAt_it (goodR_at hg hj)
        rw [getD_at l j hj] at hokj
        have hkj := okIt_key hokj
        have KC := fun w => implCommon_any l[j].k l[j + 1].k w (by omega) (by omega)
        rw [cm_com l j h4 hlt] at H1 hI hcm
        have KI := fun w => itemBytes_any l[j + 1].k l[j + 1].v l[j + 1].n l[j + 1].d (com (bl l[j].k) (bl l[j + 1].k)) w hok hcm
        have h4' : (((j : Int) + 1) % 4 == 0) = false := by simp; omega
        have h4'' : ¬ ((j : Int) + 1) % 4 = 0 := by omega
        obtain ⟨W0, hW0⟩ : ∃ W0, W0 = wr.alloc (.cells #[.string l[j + 1].k, .int .i64 l[j + 1].n, .int .i64 l[j + 1].d, .string l[j + 1].v] 35) := ⟨_, rfl⟩
        have X0 : Box W0 wr.heap.size [.string l[j + 1].k, .int .i64 l[j + 1].n, .int .i64 l[j + 1].d, .string l[j + 1].v] := by rw [hW0]; exact Box.new wr #[.string l[j + 1].k, .int .i64 l[j + 1].n, .int .i64 l[j + 1].d, .string l[j + 1].v] 35
        have hB0 : Below w.heap.size w W0 := by rw [hW0]; exact hb.alloc hz _
        have hBB0 : Below w1.heap.size w1 W0 := by rw [hW0]; exact hbb.alloc hzz _
        have hz0 := hB0.size
        have hzz0 := hBB0.size
        have hbW : b < W0.heap.size := by omega
        have p0 := fun x : WC W0.heap.size W0 => (X0.below x.ok).2.1 0 _ rfl
        have q0 := fun x : WC W0.heap.size W0 => (x.ok.cell (p := ⟨b, off + j * 4, none⟩) hbW).trans ((hBB0.cell (p := ⟨b, off + j * 4, none⟩) hbl).trans (hcell j hj).1)
        have hne : Nonempty (WC W0.heap.size W0) := ⟨⟨_, Below.refl _ _⟩⟩
        obtain ⟨s, hse⟩ : ∃ s, s = l[j + 1] := ⟨_, rfl⟩
        obtain ⟨tk, hte⟩ : ∃ t, t = l[j].k := ⟨_, rfl⟩
        rw [← hse] at hc0 hc1 hc2 hc3 H1 hI KI hW0 X0 p0 KC
        rw [← hte] at KC KI H1 hI q0
        clear hcell hse hte hc hok hcm hkey hkj hokj
        obtain ⟨sk, sn, sd, sv⟩ := s
        dsimp only at hc0 hc1 hc2 hc3 KI KC hW0 X0 p0 H1 hI
        generalize com (bl tk) (bl sk) = c at *
        generalize tx (itL ⟨sk, sn, sd, sv⟩ c) = C at *
        generalize tx (itsL l (j + 1)) = A at *
        generalize tx (plL l (j + 1)) = B at *
        go_wp2_with fail
        rw [← hW0]; clear hW0 hc0 hc1 hc2 hc3
        refine wp_region_calm (B := W0.heap.size) (W := W0) (by kernel_rfl) (by kernel_rfl) (Below.refl _ _) ?_
        repeat (go_big_quiet_step (first | (go_at_call 24; with_reducible exact calm_of_below (Nat.le_refl _) (KC _))))
        refine wpQuiet_nil ?_
        intro _ hw'
        obtain ⟨x, hx⟩ := hw'
        subst hx
        have hB1 := hB0.trans (x.ok.mono (by omega))
        have hBB1 := hBB0.trans (x.ok.mono (by omega))
        have X1 := X0.below x.ok
        clear p0 q0 hne X0 hB0 hBB0 KC
        generalize x.w = w2 at *
        clear x
        obtain ⟨_, x0, x1, x2, x3⟩ := X1.c4
        go_wp2_with fail
        refine (KI _).mono ?_
        rintro e w3 ⟨rfl, hb3⟩
        have hB3 := below_then hB1 hb3
        have hBB3 := below_then hBB1 hb3
        clear hb3 KI hB1 hBB1 X1 x0 x1 x2 x3
        go_wp2
        go_roundw
        case rel => exact ⟨j + 1 + 1, by omega, by go_num, by rw [H1.out], by rw [H2.out], hB3, hBB3⟩
        case measure => simp [intOf]; omega
    · obtain rfl : k = l.length := by omega
      clear hv1 hbb hg
      have KP := fun w => placeBytes_any ((tx (plL l l.length)).size / 2) w (by omega)
      have e2 : (((tx (plL l l.length)).size / 2 : Nat) : Int) = ((tx (plL l l.length)).size : Int) / 2 := by omega
      rw [e2] at KP
      clear e2
      have hT : (tx (twoL ((tx (plL l l.length)).size / 2))).size = 2 := rfl
      generalize tx (twoL ((tx (plL l l.length)).size / 2)) = D at *
      generalize tx (itsL l l.length) = A at *
      generalize tx (plL l l.length) = B at *
      have hsz : (A ++ B ++ D).size ≤ 2702 := by rw [ByteArray.size_append, ByteArray.size_append]; omega
      go_wp2_with fail
      refine (KP _).mono ?_
      rintro e w2 ⟨rfl, hb2⟩
      have hB2 := below_then hb hb2
      clear hb2 KP hb
      have KS := fun w => implSum_any (A ++ B ++ D) w (by omega)
      have KW := fun w => wordBytes_any (csum (bl (A ++ B ++ D))) w (csum_lt _)
      rw [show csum (A ++ B ++ D).data.toList = csum (bl (A ++ B ++ D)) from rfl] at KS
      rw [show (⟨(wordL (csum (bl (A ++ B ++ D)))).toArray⟩ : ByteArray) = tx (wordL (csum (bl (A ++ B ++ D)))) from rfl] at KW
      have hw4 : (tx (wordL (csum (bl (A ++ B ++ D))))).size = 4 := rfl
      generalize tx (wordL (csum (bl (A ++ B ++ D)))) = W at *
      generalize csum (bl (A ++ B ++ D)) = cs at *
      go_wp2_with fail
      refine (KS _).mono ?_
      rintro e w3 ⟨rfl, hb3⟩
      go_wp2_with fail
      refine (KW _).mono ?_
      rintro e w4 ⟨rfl, hb4⟩
      have hB4 := below_then (below_then hB2 hb3) hb4
      clear KS KW hb3 hb4 hB2
      go_wp2
      go_ret2
      exact ⟨by rw [HB.out]; rfl, hB4⟩
end Go.Proofs.Ytniepppbbkoanaa
