/-
  impl: links, compare, reaching, mayFollow.
  impl: mayFollow.
-/
import Derived.Test.YtcjkdkaahkphfaaDoorG5
namespace Go.Proofs.YtcjkdkaahkphfaaDoor
open Go.RowKit
set_option linter.unusedVariables false
set_option maxRecDepth 100000

theorem method_links (k v : ByteArray) (n d : Int) (u : Value) (w : World) : (method 132 49 (.agg #[.string k, .int .i64 n, .int .i64 d, .string v, u]) "loop.example/g00224/impl.links").run Tryd.prog w = .ok (95, .agg #[.string k, .int .i64 n, .int .i64 d, .string v, u]) w := by kernel_rfl
theorem method_compare (k v : ByteArray) (n d : Int) (u : Value) (w : World) : (method 132 49 (.agg #[.string k, .int .i64 n, .int .i64 d, .string v, u]) "loop.example/g00224/impl.compare").run Tryd.prog w = .ok (94, .agg #[.string k, .int .i64 n, .int .i64 d, .string v, u]) w := by kernel_rfl
theorem links_any (k v : ByteArray) (n d : Int) (u : Value) (w : World) :
    Calls Tryd.prog 95 #[.agg #[.string k, .int .i64 n, .int .i64 d, .string v, u]] w fun e w' => e = .returned u ∧ Below w.heap.size w w' := by
  go_enter Tryd.func95, Tryd.ntmps95
  go_wp2
  go_ret
  exact ⟨rfl, below_alloc _ _⟩
theorem compare_any (k v k' v' : ByteArray) (n d n' d' : Int) (u u' : Value) (w : World) :
    Calls Tryd.prog 94 #[.agg #[.string k, .int .i64 n, .int .i64 d, .string v, u], .agg #[.string k', .int .i64 n', .int .i64 d', .string v', u']] w fun e w' => e = .returned (.int .i64 (cIt k k' n n')) ∧ Below w.heap.size w w' := by
  go_enter Tryd.func94, Tryd.ntmps94
  go_wp2_with fail
  refine (orderOf_any k v k' v' n d n' d' _).mono ?_
  rintro e w1 ⟨rfl, hb1⟩
  have hB := below_then (below2 _ _ _) hb1
  clear hb1
  go_wp2
  go_ret
  exact ⟨rfl, hB⟩
theorem reach_take (ts : List Tw) (lv k : Nat) (h : k < ts.length) : reach (ts.take (k + 1)) lv = reach (ts.take k) lv + if lv < ts[k].next.length then 1 else 0 := by
  unfold reach
  rw [List.take_succ_eq_append_getElem h, List.filter_append, List.length_append]
  by_cases c : lv < ts[k].next.length
  · simp [c]
  · simp [c]

set_option maxHeartbeats 2000000 in
theorem reaching_any (x y : Value) (ts : List Tw) (lv : Nat) (w : World) (hy : TW w y ts) (hn : ts.length ≤ 1048576) (hl : lv ≤ 5) (hf : ∀ i (h : i < ts.length), ts[i].next.length ≤ 1048576) :
    Calls Tryd.prog 61 #[.agg #[x, y], .int .i64 lv] w fun e w' => e = .returned (.int .i64 (reach ts lv)) ∧ Below w.heap.size w w' := by
  obtain ⟨a, cap, rfl, hc⟩ := hy
  go_enter Tryd.func61, Tryd.ntmps61
  go_wp2
  go_loopw [5, 11] (fun t i wr => ∃ k : Nat, k ≤ ts.length ∧ i = .int .i64 k ∧ t = .int .i64 (reach (ts.take k) lv) ∧ Below w.heap.size w wr) (fun _ i _ => ts.length - (intOf i).toNat)
  case atStart => exact ⟨0, Nat.zero_le _, rfl, by simp [reach], below_alloc _ _⟩
  case round =>
    obtain ⟨k, hk, rfl, rfl, hb⟩ := hrel
    by_cases hlt : k < ts.length
    · obtain ⟨b, off, rfl, hbl, hcell⟩ := hc (by intro e; simp [e] at hlt)
      obtain ⟨u, ⟨z0, z1, z2, z3, z4⟩, hu⟩ := hcell k hlt
      have hc0 := (hb.cell (p := ⟨b, off + k * 5, none⟩) hbl).trans z0
      have hc1 := (hb.cell (p := ⟨b, off + k * 5 + 1, none⟩) hbl).trans z1
      have hc2 := (hb.cell (p := ⟨b, off + k * 5 + 2, none⟩) hbl).trans z2
      have hc3 := (hb.cell (p := ⟨b, off + k * 5 + 3, none⟩) hbl).trans z3
      have hc4 := (hb.cell (p := ⟨b, off + k * 5 + 4, none⟩) hbl).trans z4
      have hfk := hf k hlt
      have hr1 : reach (ts.take k) lv ≤ (ts.take k).length := reach_le _ _
      rw [List.length_take] at hr1
      have HR : Hid (reach (ts.take (k + 1)) lv = reach (ts.take k) lv + if lv < ts[k].next.length then 1 else 0) := reach_take ts lv k hlt
      have hz := hb.size
      clear hcell hc z0 z1 z2 z3 z4 hf
      generalize ts[k] = s at *
      obtain ⟨sk, sn, sd, sv, sx⟩ := s
      dsimp only at hc0 hc1 hc2 hc3 hfk hu HR
      obtain ⟨a', cap', hue, _⟩ := hu
      subst hue
      generalize reach (ts.take k) lv = R at *
      have hmt := method_links sk sv sn sd (.slice a' sx.length cap')
      by_cases hle : lv < sx.length
      · rw [if_pos hle] at HR
        have hle' : (lv : Int) < sx.length := by omega
        go_wp2_with fail
        refine (links_any sk sv sn sd (.slice a' sx.length cap') _).mono ?_
        rintro e w1 ⟨rfl, hb1⟩
        have hB1 : Below w.heap.size w w1 := by
          refine below_then ?_ hb1
          exact hb.alloc hz _
        clear hb1 hmt hc0 hc1 hc2 hc3 hc4
        go_wp2
        go_roundw
        case rel => exact ⟨k + 1, by omega, by go_num, by rw [HR.out]; go_num, hB1⟩
        case measure => simp [intOf]; omega
      · rw [if_neg hle] at HR
        have hle' : ¬ (lv : Int) < sx.length := by omega
        go_wp2_with fail
        refine (links_any sk sv sn sd (.slice a' sx.length cap') _).mono ?_
        rintro e w1 ⟨rfl, hb1⟩
        have hB1 : Below w.heap.size w w1 := by
          refine below_then ?_ hb1
          exact hb.alloc hz _
        clear hb1 hmt hc0 hc1 hc2 hc3 hc4
        go_wp2
        go_roundw
        case rel => exact ⟨k + 1, by omega, by go_num, by rw [HR.out]; go_num, hB1⟩
        case measure => simp [intOf]; omega
    · go_wp2
      go_ret
      have : k = ts.length := by omega
      subst this
      rw [List.take_length]
      exact ⟨rfl, hb⟩
end Go.Proofs.YtcjkdkaahkphfaaDoor

namespace Go.Proofs.YtcjkdkaahkphfaaDoor
open Go.RowKit
set_option linter.unusedVariables false
set_option maxRecDepth 100000

theorem TW.cells {w : World} {y : Value} {ts : List Tw} (h : TW w y ts) (i : Nat) (hi : i < ts.length) : ∃ b off cap u, y = .slice (some ⟨b, off, none⟩) ts.length cap ∧ b < w.heap.size ∧ (w.cell? ⟨b, off + i * 5, none⟩ = some (.string (tw ts i).key) ∧ w.cell? ⟨b, off + i * 5 + 1, none⟩ = some (.int .i64 (tw ts i).seq) ∧ w.cell? ⟨b, off + i * 5 + 2, none⟩ = some (.int .i64 (tw ts i).kind) ∧ w.cell? ⟨b, off + i * 5 + 3, none⟩ = some (.string (tw ts i).val) ∧ w.cell? ⟨b, off + i * 5 + 4, none⟩ = some u) ∧ IL w u (tw ts i).next := by
  obtain ⟨a, cap, rfl, hc⟩ := h
  obtain ⟨b, off, rfl, hbl, hcell⟩ := hc (by intro e; simp [e] at hi)
  obtain ⟨u, hz, hu⟩ := hcell i hi
  rw [show ts[i] = tw ts i from by simp [tw, List.getD, hi]] at hz hu
  exact ⟨b, off, cap, u, rfl, hbl, hz, hu⟩

set_option maxHeartbeats 4000000 in
theorem mayFollow_first (x y : Value) (ts : List Tw) (lv : Nat) (at_ : Int) (w : World) (hy : TW w y ts) (hn : ts.length ≤ 1048576) (hl : lv ≤ 5) (hf : ∀ i : Nat, i < ts.length → (tw ts i).next.length ≤ 1048576) :
    Calls Tryd.prog 65 #[.agg #[x, y], .int .i64 (-1), .int .i64 at_, .int .i64 lv] w fun e w' => e = .returned (.bool (mayB ts lv (-1) at_)) ∧ Below w.heap.size w w' := by
  have HM : Hid (mayB ts lv (-1) at_ = (decide (0 ≤ at_) && decide (at_ < ts.length) && decide (lv < (tw ts at_).next.length) && true)) := rfl
  generalize mayB ts lv (-1) at_ = M at *
  by_cases h0 : at_ < 0
  · obtain rfl : M = false := by rw [HM.out]; simp; omega
    obtain ⟨a, cap, rfl, hc⟩ := hy
    clear HM hc
    go_enter Tryd.func65, Tryd.ntmps65
    go_wp2
    go_ret
    exact ⟨rfl, below_alloc _ _⟩
  · obtain ⟨i, rfl⟩ := Int.eq_ofNat_of_zero_le (show 0 ≤ at_ by omega)
    by_cases h1 : i < ts.length
    · obtain ⟨b, off, cap, u, rfl, hbl, ⟨z0, z1, z2, z3, z4⟩, hu⟩ := hy.cells i h1
      have hfi := hf i h1
      have h1' : ¬ (ts.length : Int) ≤ i := by omega
      have hm : M = decide (lv < (tw ts i).next.length) := by rw [HM.out]; simp; omega
      clear HM hy hf
      generalize tw ts i = s at *
      obtain ⟨sk, sn, sd, sv, sx⟩ := s
      dsimp only at z0 z1 z2 z3 hfi hu hm
      obtain ⟨a', cap', hue, _⟩ := hu
      subst hue
      have hmt := method_links sk sv sn sd (.slice a' sx.length cap')
      by_cases hle : lv < sx.length
      · obtain rfl : M = true := by rw [hm]; simp [hle]
        have hle' : ¬ (sx.length : Int) ≤ lv := by omega
        clear hm
        go_enter Tryd.func65, Tryd.ntmps65
        go_wp2_with fail
        refine (links_any sk sv sn sd (.slice a' sx.length cap') _).mono ?_
        rintro e w1 ⟨rfl, hb1⟩
        have hB1 := below_then (below_alloc _ _) hb1
        clear hb1 hmt
        go_wp2_with fail
        go_quiet (fail)
        go_wp2
        go_ret
        exact ⟨rfl, below_drewN hB1 _⟩
      · obtain rfl : M = false := by rw [hm]; simp [hle]
        have hle' : (sx.length : Int) ≤ lv := by omega
        clear hm
        go_enter Tryd.func65, Tryd.ntmps65
        go_wp2_with fail
        refine (links_any sk sv sn sd (.slice a' sx.length cap') _).mono ?_
        rintro e w1 ⟨rfl, hb1⟩
        have hB1 := below_then (below_alloc _ _) hb1
        clear hb1 hmt
        go_wp2
        go_ret
        exact ⟨rfl, hB1⟩
    · obtain rfl : M = false := by rw [HM.out]; simp; omega
      obtain ⟨a, cap, rfl, hc⟩ := hy
      have h1' : (ts.length : Int) ≤ i := by omega
      clear HM hc
      go_enter Tryd.func65, Tryd.ntmps65
      go_wp2
      go_ret
      exact ⟨rfl, below_alloc _ _⟩
end Go.Proofs.YtcjkdkaahkphfaaDoor
