/-
  NewSkip: bits.Mul at 1 and 5, slices.Repeat at one number five times.
-/
import Derived.Test.YtcjkdkaahkphfaaI1
import Derived.Test.YtcjkdkaahkphfaaE
import Derived.Deep.QuietTactic
import Derived.BigQuiet
import Derived.OwnWalk
import Derived.Deep.DeepMust
import Derived.Laws.CopyOwn
import Derived.Deep.RegionLaw
import Derived.Deep.RegionHeld3
namespace Go.Proofs.Ytcjkdkaahkphfaa
open Go.RowKit
set_option linter.unusedVariables false
set_option maxRecDepth 100000

set_option maxHeartbeats 1000000 in
theorem mul64_one (w : World) : Calls Try.prog 79 #[.int .u64 1, .int .u64 5] w fun e w' => e = .returned (.tuple #[.int .u64 0, .int .u64 5]) ∧ w' = w := by
  have h1 : bits .and .u64 1 4294967295 = 1 := by decide
  have h5 : bits .and .u64 5 4294967295 = 5 := by decide
  have h0 : bits .and .u64 0 4294967295 = 0 := by decide
  go_enter Try.func79, Try.ntmps79
  go_wp2
  exact bodyPost_ret (v := .tuple #[.int .u64 0, .int .u64 5]) (by simp [results, Try.results79, go_sem]) rfl ⟨rfl, rfl⟩
set_option maxHeartbeats 1000000 in
theorem mul_one (w : World) : Calls Try.prog 66 #[.int .u64 1, .int .u64 5] w fun e w' => e = .returned (.tuple #[.int .u64 0, .int .u64 5]) ∧ w' = w := by
  go_enter Try.func66, Try.ntmps66
  go_wp2_with fail
  refine (mul64_one _).mono ?_
  rintro e w1 ⟨rfl, hw⟩
  rw [hw]; clear hw
  go_wp2
  exact bodyPost_ret (v := .tuple #[.int .u64 0, .int .u64 5]) (by simp [results, Try.results66, go_sem]) rfl ⟨rfl, rfl⟩

/-- Minus ones ahead, zeros behind: five in all. -/
def mz (n : Nat) : List Value := List.replicate n (.int .i64 (-1)) ++ List.replicate (5 - n) (.int .i64 0)
theorem mz_length (n : Nat) (h : n ≤ 5) : (mz n).length = 5 := by simp [mz]; omega
theorem mz_splice (n m : Nat) (h : n + m ≤ 5) : splice (mz n) n (List.replicate m (.int .i64 (-1))) = mz (n + m) := by
  unfold splice mz
  rw [List.take_append_of_le_length (by simp), List.take_of_length_le (by simp), ← List.append_assoc, List.replicate_append_replicate, List.drop_append]
  simp only [List.length_replicate, List.drop_replicate]
  rw [show n - (n + m) = 0 from by omega, show 5 - n - (n + m - n) = 5 - (n + m) from by omega]
  rfl
theorem mz_cell (n : Nat) (j : Nat) (h : j < n) (hn : n ≤ 5) : (mz n)[j]? = some (.int .i64 (-1)) := by
  unfold mz
  rw [List.getElem?_append_left (by simpa using h)]
  simp [h]
theorem add_at (g j : Nat) : (⟨g, 0, none⟩ : Addr).add j = ⟨g, j, none⟩ := by cases j <;> simp [Addr.add]
theorem mz_five : mz 5 = [.int .i64 (-1), .int .i64 (-1), .int .i64 (-1), .int .i64 (-1), .int .i64 (-1)] := rfl
theorem cell_of {w : World} {g : Nat} {l : List Value} {t : TypeId} (h : w.heap[g]? = some (.cells l.toArray t (0, 0))) (j : Nat) : w.cell? ⟨g, j, none⟩ = l[j]? := by
  simp [World.cell?, h]
theorem box_of {w : World} {g : Nat} {l : List Value} {t : TypeId} (h : w.heap[g]? = some (.cells l.toArray t (0, 0))) : Box w g l := by
  refine ⟨(Array.getElem?_eq_some_iff.1 h).1, fun j v hv => ?_, fun j => ?_⟩
  · rw [cell_of h]; exact hv
  · simp [World.frozen?, h]
theorem Try.info3 : (Try.prog.info? 3).map (fun i => (i.zero, i.size, i.bytes)) = some (some (.int .i64 0), 1, 8) := by kernel_rfl
theorem Try.size3 : (Try.prog.info? 3).map (·.size) = some 1 := by kernel_rfl
theorem info_parts {P : Program} {t : TypeId} {z : Option Value} {s b : Nat} (h : (P.info? t).map (fun i => (i.zero, i.size, i.bytes)) = some (z, s, b)) : ∃ i, P.info? t = some i ∧ i.zero = z ∧ i.size = s ∧ i.bytes = b := by
  cases hi : P.info? t with
  | none => rw [hi] at h; cases h
  | some i => rw [hi] at h; simp only [Option.map_some, Option.some.injEq, Prod.mk.injEq] at h; exact ⟨i, rfl, h.1, h.2.1, h.2.2⟩


def Stop (p : Prop) : Prop := p
theorem Stop.go {p : Prop} (h : Stop p) : p := h
theorem row_of_owns {w : World} {base g n : Nat} {e : TypeId} {xs : List Value} (h : w.ownsRow base e 1 (.slice (some ⟨g, 0, none⟩) n n) n xs) : w.heap[g]? = some (.cells xs.toArray e (0, 0)) := by
  obtain ⟨hl, h⟩ := h
  rcases h with ⟨h, _⟩ | ⟨g', cap, cur, hv, hbg, hh, hcap, hm, hsz, htk⟩
  · cases h
  · simp only [Value.slice.injEq, Option.some.injEq, Addr.mk.injEq, and_true, true_and] at hv
    obtain ⟨rfl, rfl⟩ := hv
    rw [hh]
    have e1 : cur.toList.length ≤ n * 1 := by rw [Array.length_toList]; omega
    rw [List.take_of_length_le e1] at htk
    rw [← htk]

set_option maxHeartbeats 2000000 in
theorem repeat_five (b : Nat) (w : World) (hb : b < w.heap.size) (hc : w.cell? ⟨b, 0, none⟩ = some (.int .i64 (-1))) :
    Calls Try.prog 44 #[.slice (some ⟨b, 0, none⟩) 1 1, .int .i64 5] w fun e w' => (∃ g, e = .returned (.slice (some ⟨g, 0, none⟩) 5 5) ∧ w.heap.size ≤ g ∧ Box w' g [.int .i64 (-1), .int .i64 (-1), .int .i64 (-1), .int .i64 (-1), .int .i64 (-1)]) ∧ Below w.heap.size w w' := by
  obtain ⟨i0, hi, hz0, hz1, hz2⟩ := info_parts Try.info3
  have hz : (madeCells (Value.int .i64 0).cells (5 * 1)).toList = mz 0 := by kernel_rfl
  go_enter Try.func44, Try.ntmps44
  go_wp2_with fail
  refine (mul_one _).mono ?_
  rintro e w1 ⟨rfl, hw⟩
  rw [hw]; clear hw
  go_wp2_with (at_make; refine wpList_make_full _ rfl _ _ 22 rfl w.heap.size 3 i0 _ 1 Try.underlying22 hi hz0 hz1 .i64 .i64 _ _ 5 rfl rfl rfl rfl (by rw [hz2]; omega) (by unfold maxLen; omega) (Nat.le_refl _) ?_; intro w0 hown0 hgr0; refine Stop.go ?_)
  rw [hz] at hown0
  have hg0 := row_of_owns hown0
  have hb0 : Below w.heap.size w w0 := (Below.refl _ _).grown hgr0 (Nat.le_refl _) (by simp)
  have hc0 : w0.cell? ⟨b, 0, none⟩ = some (.int .i64 (-1)) := (hb0.cell (p := ⟨b, 0, none⟩) hb).trans hc
  have hsrc : ∀ j v, [Value.int .i64 (-1)][j]? = some v → w0.cell? ((⟨b, 0, none⟩ : Addr).add j) = some v := by
    intro j v h
    cases j with
    | zero => simp at h; subst h; exact hc0
    | succ j => simp at h
  clear hown0 hgr0 hc hc0 hi hz0 hz1 hz2 hz
  unfold Stop
  go_wp2_with (refine wpList_copy_splice rfl (.tmp 31) (.tmp 32) 22 22 rfl 3 Try.underlying22 Try.size3 _ _ _ _ _ _ rfl rfl w.heap.size 0 (mz 0) 3 hg0 [.int .i64 (-1)] rfl (fun _ => ⟨rfl, _, rfl, hsrc⟩) (by decide) (by simp [Value.oneCell']) w.heap.size w hb0 (Nat.le_refl _) ?_; intro w2 hg2 hb2)
  have hG2 : w2.heap[w.heap.size]? = some (.cells (mz 1).toArray 3 (0, 0)) := by
    have := hg2.out
    rwa [show splice (mz 0) 0 [Value.int .i64 (-1)] = mz 1 from mz_splice 0 1 (by omega)] at this
  clear hg2 hg0 hb0 hsrc
  go_loopw [8] (fun i wr => ∃ n : Nat, 1 ≤ n ∧ n ≤ 5 ∧ i = .int .i64 n ∧ wr.heap[w.heap.size]? = some (.cells (mz n).toArray 3 (0, 0)) ∧ Below w.heap.size w wr) (fun i _ => 5 - (intOf i).toNat)
  case atStart => exact ⟨1, by omega, by omega, rfl, hG2, hb2⟩
  case round =>
    clear hG2 hb2
    obtain ⟨n, h1, h5, rfl, hg, hb⟩ := hrel
    by_cases hlt : n < 5
    · obtain rfl | rfl | rfl | rfl : n = 1 ∨ n = 2 ∨ n = 3 ∨ n = 4 := by omega
      · have hsrc : ∀ j v, [Value.int .i64 (-1)][j]? = some v → wr.cell? ((⟨w.heap.size, 0, none⟩ : Addr).add j) = some v := by
          intro j v h
          have hj : j < 1 := by
            have := (List.getElem?_eq_some_iff.1 h).1; simpa using this
          have : v = .int .i64 (-1) := by
            have := List.mem_of_getElem? h; simp at this; exact this
          subst this
          have e := cell_of hg j
          rw [mz_cell 1 j (by omega) (by omega)] at e
          rw [add_at]; exact e
        go_wp2_with fail
        go_region_held3 (fun _ => True) (trivial) ((refine step_copy_splice rfl (.tmp 41) (.tmp 44) 22 22 rfl 3 Try.underlying22 Try.size3 _ _ _ _ _ _ rfl rfl w.heap.size 1 (mz 1) 3 hg [Value.int .i64 (-1)] rfl (fun _ => ⟨rfl, _, rfl, hsrc⟩) (by decide) (by simp [Value.oneCell']) w.heap.size w hb.drew (Nat.le_refl _) ?_; intro w4 hg4 hb4))
        all_goals
          have hG4 : w4.heap[w.heap.size]? = some (.cells (mz 2).toArray 3 (0, 0)) := by
            have := hg4.out
            rwa [show splice (mz 1) 1 [Value.int .i64 (-1)] = mz 2 from mz_splice 1 1 (by omega)] at this
          go_wp2
          go_roundw
          case rel => exact ⟨2, by omega, by omega, rfl, hG4, hb4⟩
          case measure => simp [intOf]; decide
      · have hsrc : ∀ j v, [Value.int .i64 (-1), Value.int .i64 (-1)][j]? = some v → wr.cell? ((⟨w.heap.size, 0, none⟩ : Addr).add j) = some v := by
          intro j v h
          have hj : j < 2 := by
            have := (List.getElem?_eq_some_iff.1 h).1; simpa using this
          have : v = .int .i64 (-1) := by
            have := List.mem_of_getElem? h; simp at this; exact this
          subst this
          have e := cell_of hg j
          rw [mz_cell 2 j (by omega) (by omega)] at e
          rw [add_at]; exact e
        go_wp2_with fail
        go_region_held3 (fun _ => True) (trivial) ((refine step_copy_splice rfl (.tmp 41) (.tmp 44) 22 22 rfl 3 Try.underlying22 Try.size3 _ _ _ _ _ _ rfl rfl w.heap.size 2 (mz 2) 3 hg [Value.int .i64 (-1), Value.int .i64 (-1)] rfl (fun _ => ⟨rfl, _, rfl, hsrc⟩) (by decide) (by simp [Value.oneCell']) w.heap.size w hb.drew (Nat.le_refl _) ?_; intro w4 hg4 hb4))
        all_goals
          have hG4 : w4.heap[w.heap.size]? = some (.cells (mz 4).toArray 3 (0, 0)) := by
            have := hg4.out
            rwa [show splice (mz 2) 2 [Value.int .i64 (-1), Value.int .i64 (-1)] = mz 4 from mz_splice 2 2 (by omega)] at this
          go_wp2
          go_roundw
          case rel => exact ⟨4, by omega, by omega, rfl, hG4, hb4⟩
          case measure => simp [intOf]; decide
      · have hsrc : ∀ j v, [Value.int .i64 (-1), Value.int .i64 (-1)][j]? = some v → wr.cell? ((⟨w.heap.size, 0, none⟩ : Addr).add j) = some v := by
          intro j v h
          have hj : j < 2 := by
            have := (List.getElem?_eq_some_iff.1 h).1; simpa using this
          have : v = .int .i64 (-1) := by
            have := List.mem_of_getElem? h; simp at this; exact this
          subst this
          have e := cell_of hg j
          rw [mz_cell 3 j (by omega) (by omega)] at e
          rw [add_at]; exact e
        go_wp2_with fail
        go_region_held3 (fun _ => True) (trivial) ((refine step_copy_splice rfl (.tmp 41) (.tmp 44) 22 22 rfl 3 Try.underlying22 Try.size3 _ _ _ _ _ _ rfl rfl w.heap.size 3 (mz 3) 3 hg [Value.int .i64 (-1), Value.int .i64 (-1)] rfl (fun _ => ⟨rfl, _, rfl, hsrc⟩) (by decide) (by simp [Value.oneCell']) w.heap.size w hb.drew (Nat.le_refl _) ?_; intro w4 hg4 hb4))
        all_goals
          have hG4 : w4.heap[w.heap.size]? = some (.cells (mz 5).toArray 3 (0, 0)) := by
            have := hg4.out
            rwa [show splice (mz 3) 3 [Value.int .i64 (-1), Value.int .i64 (-1)] = mz 5 from mz_splice 3 2 (by omega)] at this
          go_wp2
          go_roundw
          case rel => exact ⟨5, by omega, by omega, rfl, hG4, hb4⟩
          case measure => simp [intOf]; decide
      · have hsrc : ∀ j v, [Value.int .i64 (-1)][j]? = some v → wr.cell? ((⟨w.heap.size, 0, none⟩ : Addr).add j) = some v := by
          intro j v h
          have hj : j < 1 := by
            have := (List.getElem?_eq_some_iff.1 h).1; simpa using this
          have : v = .int .i64 (-1) := by
            have := List.mem_of_getElem? h; simp at this; exact this
          subst this
          have e := cell_of hg j
          rw [mz_cell 4 j (by omega) (by omega)] at e
          rw [add_at]; exact e
        go_wp2_with fail
        go_region_held3 (fun _ => True) (trivial) ((refine step_copy_splice rfl (.tmp 41) (.tmp 44) 22 22 rfl 3 Try.underlying22 Try.size3 _ _ _ _ _ _ rfl rfl w.heap.size 4 (mz 4) 3 hg [Value.int .i64 (-1)] rfl (fun _ => ⟨rfl, _, rfl, hsrc⟩) (by decide) (by simp [Value.oneCell']) w.heap.size w hb.drew (Nat.le_refl _) ?_; intro w4 hg4 hb4))
        all_goals
          have hG4 : w4.heap[w.heap.size]? = some (.cells (mz 5).toArray 3 (0, 0)) := by
            have := hg4.out
            rwa [show splice (mz 4) 4 [Value.int .i64 (-1)] = mz 5 from mz_splice 4 1 (by omega)] at this
          go_wp2
          go_roundw
          case rel => exact ⟨5, by omega, by omega, rfl, hG4, hb4⟩
          case measure => simp [intOf]; decide
    · obtain rfl : n = 5 := by omega
      rw [mz_five] at hg
      go_wp2
      go_ret
      exact ⟨⟨_, rfl, Nat.le_refl _, box_of hg⟩, hb⟩
end Go.Proofs.Ytcjkdkaahkphfaa
