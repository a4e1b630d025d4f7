/-
  Items come back from their block, and its restarts are each fourth: plain facts; sameItems; the drawn block.
-/
import Derived.Test.YtniepppbbkoanaaX4
namespace Go.Proofs.Ytniepppbbkoanaa
open Go.RowKit
set_option linter.unusedVariables false
set_option maxRecDepth 100000

theorem pl_at (l : List It) : ∀ (k j : Nat) (p q : List UInt8), 4 * j < k → (itsL l (4 * j)).length < 65536 → lo2 (p ++ plL l k ++ q) (p.length + 2 * j) = (itsL l (4 * j)).length := by
  intro k
  induction k with
  | zero => intro j p q h; omega
  | succ k ih =>
    intro j p q h hs
    by_cases hjk : 4 * j < k
    · have e : p ++ plL l (k + 1) ++ q = p ++ plL l k ++ ((if k % 4 = 0 then twoL (itsL l k).length else []) ++ q) := by simp [plL]
      rw [e]; exact ih j p _ hjk hs
    · have hk : k = 4 * j := by omega
      subst hk
      have e : p ++ plL l (4 * j + 1) ++ q = (p ++ plL l (4 * j)) ++ twoL (itsL l (4 * j)).length ++ q := by
        rw [plL, if_pos (by omega)]; simp
      rw [e, show p.length + 2 * j = (p ++ plL l (4 * j)).length from by rw [List.length_append, plL_len]; omega]
      exact lo2_two _ _ _ hs
theorem its_rise (l : List It) : ∀ (d i : Nat), (itsL l i).length + d ≤ (itsL l (i + d)).length := by
  intro d
  induction d with
  | zero => intro i; simp
  | succ d ih =>
    intro i
    have h1 := ih i
    have h2 : 0 < (itL (l.getD (i + d) default) (cm l (i + d))).length := List.length_pos_iff.2 (itL_ne _ _)
    rw [show i + (d + 1) = (i + d) + 1 from by omega, itsL, List.length_append]
    omega
theorem plc_at {l : List It} (hg : goodR l = true) (hl : l.length ≤ 40) (s : ByteArray) (hs : bl s = blkL l) (j : Nat) (hj : j < (l.length + 3) / 4) : lo2 (bl s) (fromN (bl s) + 2 * j) = (itsL l (4 * j)).length := by
  have hp := blk_parts (l := l) (by omega)
  have h1 : (itsL l (4 * j)).length < 65536 := by
    have := (itsL_len (goodTo_le hg (k := 4 * j) (by omega))).1
    omega
  rw [hs, hp.2]
  have e : blkL l = itsL l l.length ++ plL l l.length ++ (twoL ((plL l l.length).length / 2) ++ wordL (csum (bodyL l))) := by
    unfold blkL bodyL; simp
  rw [e]
  exact pl_at l l.length j (itsL l l.length) _ (by omega) h1
/-- What is told of a block that was made. -/
theorem made_facts {l : List It} (h : okBlk l = true) : rbOk (blkF l) = true ∧ rbL (blkF l) = l ∧ (rsL (blkF l)).length = (l.length + 3) / 4 ∧ (∀ j (h1 : j + 1 < (rsL (blkF l)).length), (rsL (blkF l))[j] < (rsL (blkF l))[j + 1]) ∧ (∀ h0 : 0 < (rsL (blkF l)).length, (rsL (blkF l))[0] = 0) := by
  have hb := h
  unfold okBlk at hb
  rw [Bool.and_eq_true, decide_eq_true_eq] at hb
  obtain ⟨hg, hl⟩ := hb
  have hs : bl (blkF l) = blkL l := by unfold blkF; rw [if_pos h, bl_tx]
  have hres : RdRes (bl (blkF l)) l true := .inl ⟨rfl, hg, hl, hs.symm⟩
  obtain ⟨e1, e2⟩ := hres.same (rb_res (blkF l))
  have hrs : rsL (blkF l) = plcs (blkF l) (many (bl (blkF l))) := by unfold rsL; rw [if_pos e2.symm]
  have hmany : many (bl (blkF l)) = (l.length + 3) / 4 := by rw [hs, blk_many (by omega), plL_len]; omega
  have hlen : (rsL (blkF l)).length = (l.length + 3) / 4 := by rw [hrs, plcs_len, hmany]
  have hat : ∀ j (h1 : j < (rsL (blkF l)).length), (rsL (blkF l))[j] = (((itsL l (4 * j)).length : Nat) : Int) := by
    intro j h1
    have h2 : j < (l.length + 3) / 4 := by omega
    have h3 : (rsL (blkF l))[j]? = some ((lo2 (bl (blkF l)) (fromN (bl (blkF l)) + 2 * j) : Nat) : Int) := by
      rw [hrs]
      unfold plcs
      rw [List.getElem?_map, List.getElem?_range (by rw [hmany]; exact h2)]
      rfl
    rw [List.getElem?_eq_getElem h1, Option.some.injEq] at h3
    rw [h3, plc_at hg hl _ hs j h2]
  refine ⟨e2.symm, e1.symm, hlen, fun j h1 => ?_, fun h0 => ?_⟩
  · rw [hat j (by omega), hat (j + 1) h1]
    have := its_rise l 4 (4 * j)
    rw [show 4 * j + 4 = 4 * (j + 1) from by omega] at this
    omega
  · rw [hat 0 h0]; rfl
theorem made_first {l : List It} (h : okBlk l = true) : fiOk (blkF l) = decide (l.length ≠ 0) ∧ fiK (blkF l) = if l.length ≠ 0 then (l.getD 0 default).k else ⟨#[]⟩ := by
  obtain ⟨h1, h2, _⟩ := made_facts h
  unfold fiK fiOk
  rw [h1, h2, Bool.true_and]
  refine ⟨rfl, ?_⟩
  by_cases h3 : l.length ≠ 0
  · rw [if_pos h3, if_pos (by simpa using h3)]
  · rw [if_neg h3, if_neg (by simpa using h3)]
theorem made_size (l : List It) : (blkF l).size ≤ 1048576 := by
  unfold blkF
  split
  · rename_i h
    unfold okBlk at h
    rw [Bool.and_eq_true, decide_eq_true_eq] at h
    rw [tx_size, blk_len, plL_len]
    have := (itsL_len (goodTo_le h.1 (Nat.le_refl _))).1
    omega
  · exact Nat.zero_le _

set_option maxHeartbeats 2000000 in
theorem sameItems_same (u v : Value) (l : List It) (w : World) (hu : IR w u l) (hv : IR w v l) (hn : l.length ≤ 1048576) :
    Calls Try.prog 18 #[u, v] w fun e w' => e = .returned (.bool true) ∧ Below w.heap.size w w' := by
  obtain ⟨a, cap, rfl, hc⟩ := hu
  obtain ⟨a', cap', rfl, hc'⟩ := hv
  go_enter Try.func18, Try.ntmps18
  go_wp2
  go_loopw [13] (fun i wr => ∃ k : Nat, k ≤ l.length ∧ i = .int .i64 k ∧ Below w.heap.size w wr) (fun i _ => l.length - (intOf i).toNat)
  case atStart => exact ⟨0, Nat.zero_le _, rfl, Below.refl _ _⟩
  case round =>
    obtain ⟨k, hk, rfl, hb⟩ := hrel
    by_cases hlt : k < l.length
    · obtain ⟨b, off, rfl, hbl, hcell⟩ := hc (by intro e; simp [e] at hlt)
      obtain ⟨b', off', rfl, hbl', hcell'⟩ := hc' (by intro e; simp [e] at hlt)
      obtain ⟨s, hse⟩ : ∃ s, s = l[k] := ⟨_, rfl⟩
      have hc0 := (hb.cell (p := ⟨b, off + k * 4, none⟩) hbl).trans (hcell k hlt).1
      have hc1 := (hb.cell (p := ⟨b, off + k * 4 + 1, none⟩) hbl).trans (hcell k hlt).2.1
      have hc2 := (hb.cell (p := ⟨b, off + k * 4 + 2, none⟩) hbl).trans (hcell k hlt).2.2.1
      have hc3 := (hb.cell (p := ⟨b, off + k * 4 + 3, none⟩) hbl).trans (hcell k hlt).2.2.2
      have hd0 := (hb.cell (p := ⟨b', off' + k * 4, none⟩) hbl').trans (hcell' k hlt).1
      have hd1 := (hb.cell (p := ⟨b', off' + k * 4 + 1, none⟩) hbl').trans (hcell' k hlt).2.1
      have hd2 := (hb.cell (p := ⟨b', off' + k * 4 + 2, none⟩) hbl').trans (hcell' k hlt).2.2.1
      have hd3 := (hb.cell (p := ⟨b', off' + k * 4 + 3, none⟩) hbl').trans (hcell' k hlt).2.2.2
      rw [← hse] at hc0 hc1 hc2 hc3 hd0 hd1 hd2 hd3
      clear hcell hse hc hcell' hc'
      have hz := hb.size
      obtain ⟨sk, sn, sd, sv⟩ := s
      dsimp only at hc0 hc1 hc2 hc3 hd0 hd1 hd2 hd3
      go_wp2_with fail
      go_quiet (fail)
      go_wp2
      go_roundw
      case rel => exact ⟨k + 1, by omega, by go_num, below_drewN hb _⟩
      case measure => simp [intOf]; omega
    · clear hc hc'
      go_wp2
      go_ret
      exact ⟨rfl, hb⟩

set_option maxHeartbeats 1000000 in
theorem drawBlock_any (v : Value) (l : List UInt8) (w : World) (hv : YL w v l) (hl : l.length ≤ maxLen) :
    Calls Try.prog 12 #[v] w fun e w' => ∃ (u : Value) (L : List It), e = .returned u ∧ IR w' u L ∧ L.length ≤ 70 ∧ small L ∧ Below w.heap.size w w' := by
  unfold maxLen at hl
  have key : ∀ w, YL w v l → Calls Try.prog 39 #[v] w fun e w' => ∃ (u : Value) (L : List It), e = .returned u ∧ IR w' u L ∧ L.length ≤ 70 ∧ small L ∧ Below w.heap.size w w' := by
    intro w hv
    have hc0 := cur_new hv
    have hv0 := hv
    obtain ⟨av, cv, rfl, _⟩ := hv0
    have hb0 := below_alloc w (.cells #[.slice av l.length cv, .int .i64 0, .int .u64 0] 72)
    clear hv
    go_enter Try.func39, Try.ntmps39
    go_wp2_with fail
    refine (block_any w.heap.size l 0 _ hc0 (by omega) (by omega)).mono ?_
    rintro e w1 ⟨u, L, rfl, hD, hle, C1, G1⟩
    have hB1 := below_cur hb0 G1
    have hir := IR_of_owns hD.1 rfl
    have hsm := hD.2.2
    clear hc0 C1 G1 hD
    go_wp2
    go_ret
    exact ⟨u, L, rfl, hir, hle, hsm, hB1⟩
  go_enter Try.func12, Try.ntmps12
  go_wp2_with fail
  refine (key _ hv).mono ?_
  rintro e w1 ⟨u, L, rfl, hir, hle, hsm, hb1⟩
  go_wp2
  go_ret
  exact ⟨u, L, rfl, hir, hle, hsm, hb1⟩
end Go.Proofs.Ytniepppbbkoanaa
