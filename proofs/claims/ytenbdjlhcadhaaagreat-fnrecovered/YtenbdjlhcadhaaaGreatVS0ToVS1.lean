/-
  The edit between two versions makes one of the other, plainly; and the law's own comparisons.
  sameInts, sameVersions: of the same they tell so.
-/
import Derived.Test.YtenbdjlhcadhaaaGreatAP2
import Derived.Test.YtenbdjlhcadhaaaGreatE9ToBB
import Derived.Deep.QuietTactic
import Derived.BigQuiet
namespace Go.Proofs.YtenbdjlhcadhaaaGreat
open Go.RowKit
set_option linter.unusedVariables false
set_option maxRecDepth 100000

theorem mem_lkL {la l : List Mt} {x : Mt} : x ∈ lkL la l l.length ↔ x ∈ l ∧ ¬ x ∈ la := by
  unfold lkL
  rw [List.take_length, List.mem_filter, Bool.not_eq_true', ← Bool.not_eq_true, hasM_iff]
theorem mem_drop {la lb : List Mt} (ga : la.Pairwise fun a b => a.n ≠ b.n) {x : Mt} : x ∈ dropL la ((lkL lb la la.length).map (·.n)) ((lkL lb la la.length).map (·.n)).length ↔ x ∈ la ∧ x ∈ lb := by
  unfold dropL
  rw [List.take_length, List.mem_filter, Bool.not_eq_true', List.any_eq_false]
  constructor
  · rintro ⟨h1, h2⟩
    refine ⟨h1, Classical.byContradiction fun h3 => ?_⟩
    have := h2 x.n (List.mem_map.2 ⟨x, mem_lkL.2 ⟨h1, h3⟩, rfl⟩)
    simp at this
  · rintro ⟨h1, h2⟩
    refine ⟨h1, fun d hd he => ?_⟩
    rw [beq_iff_eq] at he
    obtain ⟨y, hy, rfl⟩ := List.mem_map.1 hd
    obtain ⟨h3, h4⟩ := mem_lkL.1 hy
    have := apart_eq ga h3 h1 he
    subst this
    exact h4 h2
theorem between_apart {la lb : List Mt} (ga : la.Pairwise fun a b => a.n ≠ b.n) (gb : lb.Pairwise fun a b => a.n ≠ b.n) :
    (dropL la ((lkL lb la la.length).map (·.n)) ((lkL lb la la.length).map (·.n)).length ++ lkL la lb lb.length).Pairwise fun a b => a.n ≠ b.n := by
  rw [List.pairwise_append]
  refine ⟨dropL_apart ga _ _, ?_, fun x hx y hy he => ?_⟩
  · unfold lkL; rw [List.take_length]; exact gb.filter _
  · have h1 := (mem_drop ga).1 hx
    have h2 := mem_lkL.1 hy
    have := apart_eq gb h1.2 h2.1 he
    subst this
    exact h2.2 h1.1
/-- The edit between two versions makes one of the other. -/
theorem between_apply {la lb : List Mt} (ga : goodMs la = true) (gb : goodMs lb = true) : apL la ((lkL lb la la.length).map (·.n)) (lkL la lb lb.length) = lb := by
  refine rise_ext (apL_rise (ms_rise ga) (between_apart (ms_apart ga) (ms_apart gb))) (ms_rise gb) fun x => ?_
  rw [apL_mem, List.mem_append, mem_drop (ms_apart ga), mem_lkL]
  constructor
  · rintro (h | h)
    · exact h.2
    · exact h.1
  · intro h
    by_cases hx : x ∈ la
    · exact .inl ⟨hx, h⟩
    · exact .inr ⟨h, hx⟩
end Go.Proofs.YtenbdjlhcadhaaaGreat

namespace Go.Proofs.YtenbdjlhcadhaaaGreat
open Go.RowKit Go.Deep
set_option linter.unusedVariables false
set_option maxRecDepth 100000

set_option maxHeartbeats 1000000 in
theorem sameInts_same (u v : Value) (zs : List Int) (w : World) (hu : IL w u zs) (hv : IL w v zs) (hn : zs.length ≤ 1048576) :
    Calls Tryz.prog 8 #[u, v] w fun e w' => e = .returned (.bool true) ∧ Below w.heap.size w w' := by
  obtain ⟨a, cap, rfl, hc⟩ := hu
  obtain ⟨a', cap', rfl, hc'⟩ := hv
  go_enter Tryz.func8, Tryz.ntmps8
  go_wp2
  go_loopw [13] (fun i wr => ∃ k : Nat, k ≤ zs.length ∧ i = .int .i64 k ∧ Below w.heap.size w wr) (fun i _ => zs.length - (intOf i).toNat)
  case atStart => exact ⟨0, Nat.zero_le _, rfl, Below.refl _ _⟩
  case round =>
    obtain ⟨k, hk, rfl, hb⟩ := hrel
    by_cases hlt : k < zs.length
    · obtain ⟨b, off, rfl, hbl, hcell⟩ := hc (by intro e; simp [e] at hlt)
      obtain ⟨b', off', rfl, hbl', hcell'⟩ := hc' (by intro e; simp [e] at hlt)
      have hc0 : wr.cell? ⟨b, off + k, none⟩ = some (.int .i64 zs[k]) := (hb.cell (p := ⟨b, off + k, none⟩) hbl).trans (hcell k hlt)
      have hd0 : wr.cell? ⟨b', off' + k, none⟩ = some (.int .i64 zs[k]) := (hb.cell (p := ⟨b', off' + k, none⟩) hbl').trans (hcell' k hlt)
      clear hcell hcell' hc hc'
      generalize zs[k] = c at *
      go_wp2_with fail
      go_quiet (fail)
      go_wp2
      go_roundw
      case rel => exact ⟨k + 1, by omega, by go_num, below_drewN hb _⟩
      case measure => simp [intOf]; omega
    · clear hc hc'
      go_wp2
      go_ret
      exact ⟨rfl, hb⟩

set_option maxHeartbeats 2000000 in
theorem sameVersions_same (x y : Int) (u v : Value) (l : List Mt) (w : World) (hu : IR w u l) (hv : IR w v l) (hn : l.length ≤ 1048576) :
    Calls Tryz.prog 12 #[.agg #[.int .i64 x, .int .i64 y, u], .agg #[.int .i64 x, .int .i64 y, v]] w fun e w' => e = .returned (.bool true) ∧ Below w.heap.size w w' := by
  have hB := below2 w (.cells #[.int .i64 x, .int .i64 y, u] 35) (.cells #[.int .i64 x, .int .i64 y, v] 35)
  obtain ⟨W0, hW0⟩ : ∃ W0, W0 = (w.alloc (.cells #[.int .i64 x, .int .i64 y, u] 35)).alloc (.cells #[.int .i64 x, .int .i64 y, v] 35) := ⟨_, rfl⟩
  have X : Box W0 w.heap.size [.int .i64 x, .int .i64 y, u] := by rw [hW0]; exact (Box.new w #[.int .i64 x, .int .i64 y, u] 35).alloc _
  have Y : Box W0 (w.heap.size + 1) [.int .i64 x, .int .i64 y, v] := by
    rw [hW0]
    have := Box.new (w.alloc (.cells #[.int .i64 x, .int .i64 y, u] 35)) #[.int .i64 x, .int .i64 y, v] 35
    simpa using this
  rw [← hW0] at hB
  obtain ⟨a, cap, rfl, hc⟩ := hu.below hB
  obtain ⟨a', cap', rfl, hc'⟩ := hv.below hB
  have eg := eqG82
  obtain ⟨xl, x0, x1, x2, _⟩ := X.c3
  obtain ⟨yl, y0, y1, y2, _⟩ := Y.c3
  go_enter Tryz.func12, Tryz.ntmps12
  go_wp2_with fail
  rw [← hW0]; clear hW0
  clear xl x0 x1 x2 yl y0 y1 y2
  go_loopw [30] (fun i wr => ∃ k : Nat, k ≤ l.length ∧ i = .int .i64 k ∧ Below W0.heap.size W0 wr) (fun i _ => l.length - (intOf i).toNat)
  case atStart => exact ⟨0, Nat.zero_le _, rfl, Below.refl _ _⟩
  case round =>
    obtain ⟨k, hk, rfl, hb⟩ := hrel
    by_cases hlt : k < l.length
    · obtain ⟨b, off, rfl, hbl, hcell⟩ := hc (by intro e; simp [e] at hlt)
      obtain ⟨b', off', rfl, hbl', hcell'⟩ := hc' (by intro e; simp [e] at hlt)
      have hc0 := (hb.cell (p := ⟨b, off + k * 4, none⟩) hbl).trans (hcell k hlt).1
      have hc1 := (hb.cell (p := ⟨b, off + k * 4 + 1, none⟩) hbl).trans (hcell k hlt).2.1
      have hc2 := (hb.cell (p := ⟨b, off + k * 4 + 2, none⟩) hbl).trans (hcell k hlt).2.2.1
      have hc3 := (hb.cell (p := ⟨b, off + k * 4 + 3, none⟩) hbl).trans (hcell k hlt).2.2.2
      have hd0 := (hb.cell (p := ⟨b', off' + k * 4, none⟩) hbl').trans (hcell' k hlt).1
      have hd1 := (hb.cell (p := ⟨b', off' + k * 4 + 1, none⟩) hbl').trans (hcell' k hlt).2.1
      have hd2 := (hb.cell (p := ⟨b', off' + k * 4 + 2, none⟩) hbl').trans (hcell' k hlt).2.2.1
      have hd3 := (hb.cell (p := ⟨b', off' + k * 4 + 3, none⟩) hbl').trans (hcell' k hlt).2.2.2
      obtain ⟨xl, x0, x1, x2, _⟩ := (X.below hb).c3
      obtain ⟨yl, y0, y1, y2, _⟩ := (Y.below hb).c3
      have hz := hb.size
      have hbl2 : b < wr.heap.size := by omega
      have hbl3 : b' < wr.heap.size := by omega
      clear hcell hcell' hc hc'
      generalize l[k] = t at *
      obtain ⟨tn, td, tk, tv⟩ := t
      have NE := fun w => neMetaV tk tv tk tv tn td tn td w
      rw [(eqM_iff _ _).2 rfl] at NE
      dsimp only at *
      go_wp2_with fail
      go_quiet (fail)
      go_wp2
      go_roundw
      case rel => exact ⟨k + 1, by omega, by go_num, below_drewN hb _⟩
      case measure => simp [intOf]; omega
    · clear hc hc'
      go_wp2
      go_ret
      exact ⟨rfl, hB.trans (hb.mono hB.size)⟩
end Go.Proofs.YtenbdjlhcadhaaaGreat
