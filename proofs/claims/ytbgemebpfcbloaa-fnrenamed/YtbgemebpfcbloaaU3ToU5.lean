/-
  toDiskStepS, eqDiskStepS, markDiskStepS.
  Playing steps, plainly: what a step makes of a disk; a good disk stays good.
  Both NewDisks; impl.PlayDisk.
-/
import Derived.Test.YtbgemebpfcbloaaU1ToU2
namespace Go.Proofs.Ytbgemebpfcbloaa
open Go.RowKit Go.Maps
set_option linter.unusedVariables false
set_option maxRecDepth 100000

set_option maxHeartbeats 2000000 in
theorem toDiskStepS_any (v : Value) (l : List St) (w : World) (hv : FL w v l) (hn : l.length ≤ 1048576) :
    Calls Try.prog 36 #[v] w fun e w' => e = .returned (.slice (some ⟨w.heap.size, 0, none⟩) l.length l.length) ∧ w'.ownsRow w.heap.size 28 5 (.slice (some ⟨w.heap.size, 0, none⟩) l.length l.length) l.length (flat5 l) ∧ Below w.heap.size w w' := by
  obtain ⟨a, cap, rfl, hc⟩ := hv
  obtain ⟨i0, hi, hz0, hz1, hz2⟩ := info_parts Try.info28
  go_enter Try.func36, Try.ntmps36
  go_wp2_with (at_make; refine wpList_make_full _ rfl _ _ 69 rfl w.heap.size 28 i0 _ 5 Try.underlying69 hi hz0 hz1 .i64 .i64 _ _ l.length rfl rfl rfl rfl (by rw [hz2]; omega) (by unfold maxLen; omega) (Nat.le_refl _) ?_; intro w0 hown0 hgr0)
  rw [flat5_zeros, ← part5_zero] at hown0
  have hb0 : Below w.heap.size w w0 := (Below.refl _ _).grown hgr0 (Nat.le_refl _) (by simp)
  have hlt0 : w.heap.size < w0.heap.size := (owns_lt hown0).2
  clear hgr0 hi hz0 hz1 hz2
  go_loopw [4] (fun i wr => ∃ k : Nat, k ≤ l.length ∧ i = .int .i64 k ∧ wr.ownsRow w.heap.size 28 5 (.slice (some ⟨w.heap.size, 0, none⟩) l.length l.length) l.length (flat5 (part5 l k)) ∧ Below w.heap.size w wr ∧ w.heap.size < wr.heap.size) (fun i _ => l.length - (intOf i).toNat)
  case atStart => exact ⟨0, Nat.zero_le _, rfl, hown0, hb0, hlt0⟩
  case round =>
    obtain ⟨k, hk, rfl, hown, hb, hlt1⟩ := hrel
    clear hown0 hb0 hlt0
    by_cases hlt : k < l.length
    · obtain ⟨b, off, rfl, hbl, hcell⟩ := hc (by intro e; simp [e] at hlt)
      obtain ⟨s, hse⟩ : ∃ s, s = l[k] := ⟨_, rfl⟩
      have hc0 := (hb.cell (p := ⟨b, off + k * 5, none⟩) hbl).trans (hcell k hlt).1
      have hc1 := (hb.cell (p := ⟨b, off + k * 5 + 1, none⟩) hbl).trans (hcell k hlt).2.1
      have hc2 := (hb.cell (p := ⟨b, off + k * 5 + 2, none⟩) hbl).trans (hcell k hlt).2.2.1
      have hc3 := (hb.cell (p := ⟨b, off + k * 5 + 3, none⟩) hbl).trans (hcell k hlt).2.2.2.1
      have hc4 := (hb.cell (p := ⟨b, off + k * 5 + 4, none⟩) hbl).trans (hcell k hlt).2.2.2.2
      have HS : Hid ((part5 l k).set k s = part5 l (k + 1)) := by rw [hse]; exact part5_set l k hlt
      rw [← hse] at hc0 hc1 hc2 hc3 hc4
      clear hcell hse hc
      have hz := hb.size
      obtain ⟨sk, sn, so, sd, sp⟩ := s
      dsimp only at hc0 hc1 hc2 hc3 hc4
      go_wp2_with fail
      refine (toDiskStep_any _ _ _ _ _ _).mono ?_
      rintro e w1 ⟨rfl, hb1⟩
      have hown1 := owns_below hown hb1
      obtain ⟨⟨u0, d0⟩, f0⟩ := owns5_at hown1 k hlt 0 (by omega)
      obtain ⟨⟨u1, d1⟩, f1⟩ := owns5_at hown1 k hlt 1 (by omega)
      obtain ⟨⟨u2, d2⟩, f2⟩ := owns5_at hown1 k hlt 2 (by omega)
      obtain ⟨⟨u3, d3⟩, f3⟩ := owns5_at hown1 k hlt 3 (by omega)
      obtain ⟨⟨u4, d4⟩, f4⟩ := owns5_at hown1 k hlt 4 (by omega)
      rw [Nat.add_zero] at d0 f0
      have hz1 := hb1.size
      have HO : Hid _ := (((((hown1.stored (k * 5) (.int .i64 sk)).1.stored (k * 5 + 1) (.string sn)).1.stored (k * 5 + 2) (.string so)).1.stored (k * 5 + 3) (.string sd)).1.stored (k * 5 + 4) (.int .i64 sp)).1
      clear hown hown1
      go_wp2
      go_roundw
      case rel =>
        refine ⟨k + 1, by omega, by go_num, ?_, ?_, ?_⟩
        · have := HO.out
          rw [flat5_set (part5 l k) k ⟨sk, sn, so, sd, sp⟩, HS.out] at this
          exact this
        · exact (((((hb.trans (hb1.mono hz)).setCell (by simp) _).setCell (by simp) _).setCell (by simp) _).setCell (by simp) _).setCell (by simp) _
        · simp; omega
      case measure => simp [intOf]; omega
    · go_wp2
      go_ret
      have : k = l.length := by omega
      subst this
      rw [part5_all] at hown
      exact ⟨rfl, hown, hb⟩

theorem eqDiskStep_same (sk sp : Int) (sn so sd : ByteArray) (w : World) :
    Calls Try.prog 85 #[.agg #[.int .i64 sk, .string sn, .string so, .string sd, .int .i64 sp], .agg #[.int .i64 sk, .string sn, .string so, .string sd, .int .i64 sp]] w fun e w' => e = .returned (.bool true) ∧ Below w.heap.size w w' := by
  go_enter Try.func85, Try.ntmps85
  go_wp2
  go_ret
  exact ⟨rfl, below2 _ _ _⟩

set_option maxHeartbeats 2000000 in
theorem eqDiskStepS_same (u v : Value) (l : List St) (w : World) (hu : FL w u l) (hv : FL w v l) (hn : l.length ≤ 1048576) :
    Calls Try.prog 39 #[u, v] w fun e w' => e = .returned (.bool true) ∧ Below w.heap.size w w' := by
  obtain ⟨a, cap, rfl, hc⟩ := hu
  obtain ⟨a', cap', rfl, hc'⟩ := hv
  go_enter Try.func39, Try.ntmps39
  go_wp2
  go_loopw [5] (fun i wr => ∃ k : Nat, k ≤ l.length ∧ i = .int .i64 k ∧ Below w.heap.size w wr) (fun i _ => l.length - (intOf i).toNat)
  case atStart => exact ⟨0, Nat.zero_le _, rfl, Below.refl _ _⟩
  case round =>
    obtain ⟨k, hk, rfl, hb⟩ := hrel
    by_cases hlt : k < l.length
    · obtain ⟨b, off, rfl, hbl, hcell⟩ := hc (by intro e; simp [e] at hlt)
      obtain ⟨b', off', rfl, hbl', hcell'⟩ := hc' (by intro e; simp [e] at hlt)
      obtain ⟨s, hse⟩ : ∃ s, s = l[k] := ⟨_, rfl⟩
      have hc0 := (hb.cell (p := ⟨b, off + k * 5, none⟩) hbl).trans (hcell k hlt).1
      have hc1 := (hb.cell (p := ⟨b, off + k * 5 + 1, none⟩) hbl).trans (hcell k hlt).2.1
      have hc2 := (hb.cell (p := ⟨b, off + k * 5 + 2, none⟩) hbl).trans (hcell k hlt).2.2.1
      have hc3 := (hb.cell (p := ⟨b, off + k * 5 + 3, none⟩) hbl).trans (hcell k hlt).2.2.2.1
      have hc4 := (hb.cell (p := ⟨b, off + k * 5 + 4, none⟩) hbl).trans (hcell k hlt).2.2.2.2
      have hd0 := (hb.cell (p := ⟨b', off' + k * 5, none⟩) hbl').trans (hcell' k hlt).1
      have hd1 := (hb.cell (p := ⟨b', off' + k * 5 + 1, none⟩) hbl').trans (hcell' k hlt).2.1
      have hd2 := (hb.cell (p := ⟨b', off' + k * 5 + 2, none⟩) hbl').trans (hcell' k hlt).2.2.1
      have hd3 := (hb.cell (p := ⟨b', off' + k * 5 + 3, none⟩) hbl').trans (hcell' k hlt).2.2.2.1
      have hd4 := (hb.cell (p := ⟨b', off' + k * 5 + 4, none⟩) hbl').trans (hcell' k hlt).2.2.2.2
      rw [← hse] at hc0 hc1 hc2 hc3 hc4 hd0 hd1 hd2 hd3 hd4
      clear hcell hse hc hcell' hc'
      have hz := hb.size
      obtain ⟨sk, sn, so, sd, sp⟩ := s
      dsimp only at hc0 hc1 hc2 hc3 hc4 hd0 hd1 hd2 hd3 hd4
      go_wp2_with fail
      go_region_held3 (fun w' => (w'.cell? ⟨b, off + k * 5, none⟩ = some (.int .i64 sk) ∧ w'.cell? ⟨b, off + k * 5 + 1, none⟩ = some (.string sn) ∧ w'.cell? ⟨b, off + k * 5 + 2, none⟩ = some (.string so) ∧ w'.cell? ⟨b, off + k * 5 + 3, none⟩ = some (.string sd) ∧ w'.cell? ⟨b, off + k * 5 + 4, none⟩ = some (.int .i64 sp)) ∧ w'.cell? ⟨b', off' + k * 5, none⟩ = some (.int .i64 sk) ∧ w'.cell? ⟨b', off' + k * 5 + 1, none⟩ = some (.string sn) ∧ w'.cell? ⟨b', off' + k * 5 + 2, none⟩ = some (.string so) ∧ w'.cell? ⟨b', off' + k * 5 + 3, none⟩ = some (.string sd) ∧ w'.cell? ⟨b', off' + k * 5 + 4, none⟩ = some (.int .i64 sp)) (go_keep)
        (first | (go_at_call 85; refine (eqDiskStep_same _ _ _ _ _ _).mono ?_; rintro e w1 ⟨rfl, hb1'⟩; have hb1 := below_undrew hb1'; have hbl2 : b < wr.heap.size := (by omega); have hbl3 : b' < wr.heap.size := (by omega); replace hc0 := (hb1.cell (p := ⟨b, off + k * 5, none⟩) hbl2).trans hc0; replace hc1 := (hb1.cell (p := ⟨b, off + k * 5 + 1, none⟩) hbl2).trans hc1; replace hc2 := (hb1.cell (p := ⟨b, off + k * 5 + 2, none⟩) hbl2).trans hc2; replace hc3 := (hb1.cell (p := ⟨b, off + k * 5 + 3, none⟩) hbl2).trans hc3; replace hc4 := (hb1.cell (p := ⟨b, off + k * 5 + 4, none⟩) hbl2).trans hc4; replace hd0 := (hb1.cell (p := ⟨b', off' + k * 5, none⟩) hbl3).trans hd0; replace hd1 := (hb1.cell (p := ⟨b', off' + k * 5 + 1, none⟩) hbl3).trans hd1; replace hd2 := (hb1.cell (p := ⟨b', off' + k * 5 + 2, none⟩) hbl3).trans hd2; replace hd3 := (hb1.cell (p := ⟨b', off' + k * 5 + 3, none⟩) hbl3).trans hd3; replace hd4 := (hb1.cell (p := ⟨b', off' + k * 5 + 4, none⟩) hbl3).trans hd4))
      go_wp2
      go_roundw
      case rel => exact ⟨k + 1, by omega, by go_num, hb.trans (hb1.mono hz)⟩
      case measure => simp [intOf]; omega
    · clear hc hc'
      go_wp2
      go_ret
      exact ⟨rfl, hb⟩

set_option maxHeartbeats 4000000 in
theorem markDiskStepS_at (g cap base n : Nat) (xs : List Value) (k : Int) (w : World) (ho : w.ownsRow base 28 5 (.slice (some ⟨g, 0, none⟩) n cap) n xs) (hn : n ≤ 1048576) (h1 : 1 ≤ k) (h2 : k ≤ 1000) :
    Calls Try.prog 40 #[.slice (some ⟨g, 0, none⟩) n cap, .int .i64 k] w fun e w' => e = .returned (.int .i64 (k + 5 * n)) ∧ Chg (· = g) w w' := by
  go_enter Try.func40, Try.ntmps40
  go_wp2
  go_loopw [1, 5] (fun t i wr => ∃ (j : Nat) (ys : List Value), j ≤ n ∧ i = .int .i64 j ∧ t = .int .i64 (k + 5 * j) ∧ wr.ownsRow base 28 5 (.slice (some ⟨g, 0, none⟩) n cap) n ys ∧ Chg (· = g) w wr) (fun _ i _ => n - (intOf i).toNat)
  case atStart => exact ⟨0, xs, Nat.zero_le _, rfl, by go_num, ho, Chg.refl _ _⟩
  case round =>
    clear ho
    obtain ⟨j, ys, hj, rfl, rfl, hown, hch⟩ := hrel
    by_cases hlt : j < n
    · obtain ⟨⟨u0, d0⟩, f0⟩ := owns5_at hown j hlt 0 (by omega)
      rw [Nat.add_zero] at d0 f0
      have hgl := (owns_lt hown).2
      have o1 := (hown.stored (j * 5) (.int .i64 (k + 5 * j))).1
      have C1 := hch.setCell (p := ⟨g, j * 5, none⟩) rfl (.int .i64 (k + 5 * j))
      clear hown hch
      go_wp2_with fail
      refine (markText_any _ _ (by omega) (by omega)).mono ?_
      rintro e w1 ⟨rfl, hb1⟩
      replace o1 := owns_below o1 hb1
      have C2 := C1.trans (Chg.of_below hb1)
      have hz1 := hb1.size
      obtain ⟨⟨u1, d1⟩, f1⟩ := owns5_at o1 j hlt 1 (by omega)
      have o2 := (o1.stored (j * 5 + 1) (.string (mkT (k + 5 * j + 1)))).1
      have C3 := C2.setCell (p := ⟨g, j * 5 + 1, none⟩) rfl (.string (mkT (k + 5 * j + 1)))
      have hgl1 := (owns_lt o1).2
      clear d0 f0 C1 C2 o1 hb1
      generalize mkT (k + 5 * j + 1) = t1 at *
      go_wp2_with fail
      refine (markText_any _ _ (by omega) (by omega)).mono ?_
      rintro e w2 ⟨rfl, hb2⟩
      replace o2 := owns_below o2 hb2
      have C4 := C3.trans (Chg.of_below hb2)
      obtain ⟨⟨u2, d2⟩, f2⟩ := owns5_at o2 j hlt 2 (by omega)
      have o3 := (o2.stored (j * 5 + 2) (.string (mkT (k + 5 * j + 1 + 1)))).1
      have C5 := C4.setCell (p := ⟨g, j * 5 + 2, none⟩) rfl (.string (mkT (k + 5 * j + 1 + 1)))
      have hgl2 := (owns_lt o2).2
      clear d1 f1 C3 C4 o2 hb2
      generalize mkT (k + 5 * j + 1 + 1) = t2 at *
      go_wp2_with fail
      refine (markText_any _ _ (by omega) (by omega)).mono ?_
      rintro e w3 ⟨rfl, hb3⟩
      replace o3 := owns_below o3 hb3
      have C6 := C5.trans (Chg.of_below hb3)
      obtain ⟨⟨u3, d3⟩, f3⟩ := owns5_at o3 j hlt 3 (by omega)
      obtain ⟨⟨u4, d4⟩, f4⟩ := owns5_at o3 j hlt 4 (by omega)
      have o5 := ((o3.stored (j * 5 + 3) (.string (mkT (k + 5 * j + 1 + 1 + 1)))).1.stored (j * 5 + 4) (.int .i64 (k + 5 * j + 1 + 1 + 1 + 1))).1
      have C7 := (C6.setCell (p := ⟨g, j * 5 + 3, none⟩) rfl (.string (mkT (k + 5 * j + 1 + 1 + 1)))).setCell (p := ⟨g, j * 5 + 4, none⟩) rfl (.int .i64 (k + 5 * j + 1 + 1 + 1 + 1))
      have hgl3 := (owns_lt o3).2
      have HO : Hid _ := o5
      clear d2 f2 C5 C6 o3 hb3 o5
      generalize mkT (k + 5 * j + 1 + 1 + 1) = t3 at *
      go_wp2
      go_roundw
      case rel => exact ⟨j + 1, _, by omega, by go_num, by go_num, HO.out, C7⟩
      case measure => simp [intOf]; omega
    · obtain rfl : j = n := by omega
      go_wp2
      go_ret
      exact ⟨rfl, hch⟩
end Go.Proofs.Ytbgemebpfcbloaa

namespace Go.Proofs.Ytbgemebpfcbloaa
open Go.RowKit Go.Maps
set_option linter.unusedVariables false
set_option maxRecDepth 100000

theorem good_next {k : Int} {nm ot da : ByteArray} {kp : Int} {bl lv sf : List (ByteArray × Int)} {r : Int} (hg : goodD bl lv sf r = true) (h0 : refuse k nm ot da kp bl lv sf r = 0) : goodD (nB k nm da kp bl lv) (nL k nm ot bl lv sf) (nS k lv sf) r = true := by
  obtain ⟨z1, z2, z3, z4⟩ := refuse_zero h0
  rcases kinds k with rfl | rfl | rfl | rfl | rfl | rfl | rfl | rfl | ⟨k1, k2, k3, k4, k5, k6, k7, k8⟩
  · have hN : okN nm = true := by simp only [goodS, kindOk, Bool.and_eq_true] at z1; have := z1.2; simpa using this
    have hv : lkp nm none lv = none := by
      cases hv : lkp nm none lv with
      | none => rfl
      | some c => rw [hv] at z3; simp [taken] at z3
    have := good_create hg hN hv
    show goodD (bl ++ [((⟨#[]⟩ : ByteArray), (0 : Int))]) (putL lv nm bl.length) sf r = true
    rw [this]
    simp [overB] at z4
    simp only [Bool.and_eq_true, decide_eq_true_eq]
    omega
  · obtain ⟨hv, hc, ha⟩ := named_blob hg rfl z2
    have := good_append hg _ hc ha da
    show goodD (bl.set (cbOf nm lv) ((bl.getD (cbOf nm lv) default).1 ++ da, (bl.getD (cbOf nm lv) default).2)) lv sf r = true
    have z5 : (decide (4000 < ((bl.getD (cbOf nm lv) default).1.size : Int) + da.size) || decide (r < (used bl lv sf : Int) + da.size)) = false := z4
    rw [getD_lt _ _ hc] at z5 ⊢
    rw [this]
    rw [Bool.or_eq_false_iff] at z5
    obtain ⟨y1, y2⟩ := z5
    have y1 := of_decide_eq_false y1
    have y2 := of_decide_eq_false y2
    simp only [Bool.and_eq_true, decide_eq_true_eq]
    omega
  · obtain ⟨hv, hc, ha⟩ := named_blob hg rfl z2
    have := good_sync hg _ hc ha
    show goodD (bl.set (cbOf nm lv) ((bl.getD (cbOf nm lv) default).1, (bl.getD (cbOf nm lv) default).1.size)) lv sf r = true
    rw [getD_lt _ _ hc]
    exact this
  · obtain ⟨hv, hc, ha⟩ := named_blob hg rfl z2
    have hO : okN ot = true := by simp only [goodS, kindOk, Bool.and_eq_true] at z1; have := z1.2; simp at this; exact this.2
    exact good_rename (ot := ot) hg hO hv
  · obtain ⟨hv, hc, ha⟩ := named_blob hg rfl z2
    have hO : okN ot = true := by simp only [goodS, kindOk, Bool.and_eq_true] at z1; have := z1.2; simp at this; exact this.2
    have hvo : lkp ot none lv = none := by
      cases hvo : lkp ot none lv with
      | none => rfl
      | some c => rw [hvo] at z3; simp [taken] at z3
    have := good_link hg hO hv hvo
    show goodD bl (putL lv ot (cbOf nm lv)) sf r = true
    rw [this]
    simp [overB] at z4
    simp; omega
  · exact good_remove hg nm
  · exact good_safe hg
  · exact good_crash hg kp.toNat
  · simp [goodS, kindOk, k1, k2, k3, k4, k5, k6, k7, k8] at z1

/-- The three lists of a disk. -/
abbrev D3 := List (ByteArray × Int) × List (ByteArray × Int) × List (ByteArray × Int)
def cdS (r : Int) (x : D3) (s : St) : Int := refuse s.k s.nm s.ot s.da s.kp x.1 x.2.1 x.2.2 r
def nxS (r : Int) (x : D3) (s : St) : D3 := if cdS r x s = 0 then (nB s.k s.nm s.da s.kp x.1 x.2.1, nL s.k s.nm s.ot x.1 x.2.1 x.2.2, nS s.k x.2.1 x.2.2) else x
def plD (r : Int) (l : List St) : D3 := l.foldl (nxS r) ([], [], [])
def plC (r : Int) : D3 → List St → List Int
  | _, [] => []
  | x, s :: l => cdS r x s :: plC r (nxS r x s) l
theorem plD_take (r : Int) (l : List St) (k : Nat) (h : k < l.length) : plD r (l.take (k + 1)) = nxS r (plD r (l.take k)) l[k] := by
  unfold plD
  rw [List.take_succ_eq_append_getElem h, List.foldl_append]; rfl
theorem plC_append (r : Int) (x : D3) (l : List St) (s : St) : plC r x (l ++ [s]) = plC r x l ++ [cdS r (l.foldl (nxS r) x) s] := by
  induction l generalizing x with
  | nil => rfl
  | cons y t ih => simp only [List.cons_append, plC, List.foldl_cons, ih]
theorem plC_take (r : Int) (l : List St) (k : Nat) (h : k < l.length) : plC r ([], [], []) (l.take (k + 1)) = plC r ([], [], []) (l.take k) ++ [cdS r (plD r (l.take k)) l[k]] := by
  rw [List.take_succ_eq_append_getElem h, plC_append]; rfl
theorem plC_length (r : Int) (x : D3) (l : List St) : (plC r x l).length = l.length := by
  induction l generalizing x with
  | nil => rfl
  | cons y t ih => simp only [plC, List.length_cons, ih]
theorem good_new {r : Int} (h0 : 0 ≤ r) (h1 : r ≤ 100000) : goodD [] [] [] r = true := by
  rw [goodD_iff]
  refine ⟨rfl, by simp, rfl, rfl, ⟨h0, h1⟩, ?_⟩
  simpa [used, usedTo] using h0
theorem plD_good {r : Int} (h0 : 0 ≤ r) (h1 : r ≤ 100000) (l : List St) : goodD (plD r l).1 (plD r l).2.1 (plD r l).2.2 r = true := by
  unfold plD
  suffices ∀ (x : D3), goodD x.1 x.2.1 x.2.2 r = true → goodD (l.foldl (nxS r) x).1 (l.foldl (nxS r) x).2.1 (l.foldl (nxS r) x).2.2 r = true from this _ (good_new h0 h1)
  induction l with
  | nil => exact fun x h => h
  | cons s t ih =>
    intro x h
    rw [List.foldl_cons]
    refine ih _ ?_
    unfold nxS
    split
    · rename_i hc; exact good_next h hc
    · exact h
end Go.Proofs.Ytbgemebpfcbloaa

namespace Go.Proofs.Ytbgemebpfcbloaa
open Go.RowKit Go.Maps
set_option linter.unusedVariables false
set_option maxRecDepth 100000

set_option maxHeartbeats 1000000 in
theorem specNew_any (r : Int) (w : World) :
    Calls Try.prog 83 #[.int .i64 r] w fun e w' => e = .returned (.tuple #[.agg #[.slice none 0 0, .slice none 0 0, .slice none 0 0, .int .i64 (if decide (0 ≤ r) && decide (r ≤ 100000) then r else 0)], .bool (decide (0 ≤ r) && decide (r ≤ 100000))]) ∧ Below w.heap.size w w' := by
  have K := fun w => l1In_any r 0 100000 w
  cases hc : (decide (0 ≤ r) && decide (r ≤ 100000)) with
  | true =>
    rw [hc] at K
    go_enter Try.func83, Try.ntmps83
    go_wp2_with fail
    refine (K _).mono ?_
    rintro e w1 ⟨rfl, hw⟩
    rw [hw]; clear hw
    go_wp2
    exact bodyPost_ret (v := .tuple #[.agg #[.slice none 0 0, .slice none 0 0, .slice none 0 0, .int .i64 r], .bool true]) (by simp [results, Try.results83, go_sem]) rfl ⟨rfl, below_alloc _ _⟩
  | false =>
    rw [hc] at K
    go_enter Try.func83, Try.ntmps83
    go_wp2_with fail
    refine (K _).mono ?_
    rintro e w1 ⟨rfl, hw⟩
    rw [hw]; clear hw
    go_wp2
    exact bodyPost_ret (v := .tuple #[.agg #[.slice none 0 0, .slice none 0 0, .slice none 0 0, .int .i64 0], .bool false]) (by simp [results, Try.results83, go_sem]) rfl ⟨rfl, below_alloc _ _⟩

set_option maxHeartbeats 1000000 in
theorem implNew_any (r : Int) (w : World) :
    Calls Try.prog 84 #[.int .i64 r] w fun e w' => e = .returned (.tuple #[.agg #[.slice none 0 0, .slice none 0 0, .slice none 0 0, .int .i64 (if decide (0 ≤ r) && decide (r ≤ 100000) then r else 0)], .bool (decide (0 ≤ r) && decide (r ≤ 100000))]) ∧ Below w.heap.size w w' := by
  by_cases h1 : 0 ≤ r
  · by_cases h2 : r ≤ 100000
    · have hc : (decide (0 ≤ r) && decide (r ≤ 100000)) = true := by simp [h1, h2]
      rw [hc]
      go_enter Try.func84, Try.ntmps84
      go_wp2
      exact bodyPost_ret (v := .tuple #[.agg #[.slice none 0 0, .slice none 0 0, .slice none 0 0, .int .i64 r], .bool true]) (by simp [results, Try.results84, go_sem]) rfl ⟨rfl, below_alloc _ _⟩
    · have hc : (decide (0 ≤ r) && decide (r ≤ 100000)) = false := by simp; omega
      rw [hc]
      go_enter Try.func84, Try.ntmps84
      go_wp2
      exact bodyPost_ret (v := .tuple #[.agg #[.slice none 0 0, .slice none 0 0, .slice none 0 0, .int .i64 0], .bool false]) (by simp [results, Try.results84, go_sem]) rfl ⟨rfl, below_alloc _ _⟩
  · have hc : (decide (0 ≤ r) && decide (r ≤ 100000)) = false := by simp; omega
    rw [hc]
    go_enter Try.func84, Try.ntmps84
    go_wp2
    exact bodyPost_ret (v := .tuple #[.agg #[.slice none 0 0, .slice none 0 0, .slice none 0 0, .int .i64 0], .bool false]) (by simp [results, Try.results84, go_sem]) rfl ⟨rfl, below_alloc _ _⟩

theorem doB_nx {r : Int} {x : D3} {s : St} (hg : goodD x.1 x.2.1 x.2.2 r = true) : doB s.k s.nm s.ot s.da s.kp x.1 x.2.1 x.2.2 r = (nxS r x s).1 ∧ doL s.k s.nm s.ot s.da s.kp x.1 x.2.1 x.2.2 r = (nxS r x s).2.1 ∧ doS s.k s.nm s.ot s.da s.kp x.1 x.2.1 x.2.2 r = (nxS r x s).2.2 ∧ doR x.1 x.2.1 x.2.2 r = r ∧ doC s.k s.nm s.ot s.da s.kp x.1 x.2.1 x.2.2 r = cdS r x s := by
  by_cases h0 : refuse s.k s.nm s.ot s.da s.kp x.1 x.2.1 x.2.2 r = 0
  · simp [doB, doL, doS, doR, doC, nxS, cdS, hg, h0]
  · simp [doB, doL, doS, doR, doC, nxS, cdS, hg, h0]

theorem Try.info3i : (Try.prog.info? 3).map (fun i => (i.zero, i.size, i.bytes)) = some (some (.int .i64 0), 1, 8) := by kernel_rfl

/-- What PlayDisk answers. -/
def pOk (r : Int) (l : List St) : Bool := decide (0 ≤ r) && decide (r ≤ 100000) && decide ((l.length : Int) ≤ 100)
def pD (r : Int) (l : List St) : D3 := if pOk r l then plD r l else ([], [], [])
def pC (r : Int) (l : List St) : List Int := if pOk r l then plC r ([], [], []) l else []
def pR (r : Int) (l : List St) : Int := if pOk r l then r else 0
end Go.Proofs.Ytbgemebpfcbloaa
