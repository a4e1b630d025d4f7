/-
  The walk of FnExactPickLevel.
-/
import Derived.Test.YtenbdjlhcadhaaaH9
import Derived.Test.YtenbdjlhcadhaaaA9
namespace Go.Proofs.Ytenbdjlhcadhaaa
open Go.RowKit
set_option linter.unusedVariables false
set_option maxRecDepth 100000

set_option maxHeartbeats 2000000 in
theorem lawPickLevel (nx sq : Int) (v : Value) (l : List Mt) (w : World) (hv : IR w v l) (hn : l.length ≤ maxLen) (hs : ∀ i (h : i < l.length), l[i].k.size ≤ maxLen ∧ l[i].v.size ≤ maxLen) :
    Calls Try.prog 12 #[.agg #[.int .i64 nx, .int .i64 sq, v]] w fun e w' => e = .returned (.bool true) ∧ Below w.heap.size w w' := by
  have hv' := hv
  obtain ⟨a, cap, rfl, _⟩ := hv
  have hB0 := below_alloc w (.cells #[.int .i64 nx, .int .i64 sq, .slice a l.length cap] 49)
  have hvA := hv'.below hB0
  have SZ := szVersion_any nx sq _ l 1048576 _ hvA (by omega) (by omega) hn hs
  have X0 := Box.new w #[.int .i64 nx, .int .i64 sq, .slice a l.length cap] 49
  clear hv' hs hn
  go_enter Try.func12, Try.ntmps12
  go_wp2_with fail
  refine SZ.mono ?_
  rintro e w1 ⟨⟨r, rfl, hr⟩, hb1⟩
  clear SZ
  have hv1 := hvA.below hb1
  have X1 := X0.below hb1
  have hB1 := below_then hB0 hb1
  clear X0 hvA hB0 hb1
  rcases hr with rfl | ⟨hr0, hr1⟩
  · clear X1 hv1
    go_wp2
    go_ret
    exact ⟨rfl, hB1⟩
  · have hn : l.length ≤ 1048576 := by omega
    have hs : ∀ i (h : i < l.length), l[i].k.size ≤ 1048576 ∧ l[i].v.size ≤ 1048576 := fun i h => by have := tot4_mem l i h; omega
    clear hr1
    have T := fun w h => toVersion_any nx sq (.slice a l.length cap) l w h hn
    have S := fun u w h => specPick_any nx sq u l w h hn hs
    have I := fun u w h => implPick_any nx sq u l w h hn hs
    generalize pickV nx sq l = m at *
    generalize pickB nx sq l = g at *
    clear hs
    obtain ⟨hx1, c10, c11, c12, _⟩ := X1.c3
    go_wp2_with fail
    refine (T _ hv1).mono ?_
    rintro e w2 ⟨g2, rfl, o2, hb2⟩
    have hB2 := below_then hB1 hb2
    have hv2 := hv1.below hb2
    have X2 := X1.below hb2
    have i2 := IX_of_owns o2 rfl
    clear hB1 hb2 hv1 o2 X1 hx1 c10 c11 c12
    go_wp2_with fail
    refine (S _ _ i2).mono ?_
    rintro e w3 ⟨rfl, hb3⟩
    have hB3 := below_then hB2 hb3
    have hv3 := hv2.below hb3
    have X3 := X2.below hb3
    obtain ⟨hx3, c30, c31, c32, _⟩ := X3.c3
    clear hB2 hb3 hv2 i2 S X2
    go_wp2_with fail
    refine (T _ hv3).mono ?_
    rintro e w4 ⟨g4, rfl, o4, hb4⟩
    have hB4 := below_then hB3 hb4
    have hv4 := hv3.below hb4
    have X4 := X3.below hb4
    have BX := below_alloc w4 (.cells #[.int .i64 nx, .int .i64 sq, .slice (some ⟨g4, 0, none⟩) l.length l.length] 25)
    have i4 := (IX_of_owns o4 rfl).below BX
    have Y4 := Box.new w4 #[.int .i64 nx, .int .i64 sq, .slice (some ⟨g4, 0, none⟩) l.length l.length] 25
    clear hB3 hb4 hv3 o4 X3 hx3 c30 c31 c32
    go_wp2_with fail
    refine (I _ _ i4).mono ?_
    rintro e w5 ⟨rfl, hb5⟩
    have hB5' := below_then BX hb5
    have hB5 := below_then hB4 hB5'
    have hv5 := hv4.below hB5'
    have i5 := i4.below hb5
    have X5 := X4.below hB5'
    have Y5 := Y4.below hb5
    clear hB4 hb5 hv4 i4 I X4 Y4 hB5' BX
    obtain ⟨hz1, p0, p1, p2, _⟩ := X5.c3
    obtain ⟨hz2, q0, q1, q2, _⟩ := Y5.c3
    cases g
    all_goals
      go_wp2_with fail
      go_region_held3 (fun w' => (w'.cell? ⟨w.heap.size, 0, none⟩ = some (.int .i64 nx) ∧ w'.cell? ⟨w.heap.size, 1, none⟩ = some (.int .i64 sq) ∧ w'.cell? ⟨w.heap.size, 2, none⟩ = some (.slice a l.length cap)) ∧ w'.cell? ⟨w4.heap.size, 0, none⟩ = some (.int .i64 nx) ∧ w'.cell? ⟨w4.heap.size, 1, none⟩ = some (.int .i64 sq) ∧ w'.cell? ⟨w4.heap.size, 2, none⟩ = some (.slice (some ⟨g4, 0, none⟩) l.length l.length)) (go_keep) (first | (go_at_call 32; refine (T _ (hv5.below (Below.refl _ _).drew)).mono ?_; rintro e w6 ⟨g6, rfl, o6, hb6'⟩; have hb6 := below_undrew hb6'; have p0 := (X5.below hb6).2.1 0 _ rfl; have p1 := (X5.below hb6).2.1 1 _ rfl; have p2 := (X5.below hb6).2.1 2 _ rfl; have q0 := (Y5.below hb6).2.1 0 _ rfl; have q1 := (Y5.below hb6).2.1 1 _ rfl; have q2 := (Y5.below hb6).2.1 2 _ rfl) | (go_at_call 27; refine (eqVersion_same _ _ _ _ l _ (i5.1.below hb6) (IR_of_owns o6 rfl) hn).mono ?_; rintro e w7 ⟨rfl, hb7⟩; have p0 := ((X5.below hb6).below hb7).2.1 0 _ rfl; have p1 := ((X5.below hb6).below hb7).2.1 1 _ rfl; have p2 := ((X5.below hb6).below hb7).2.1 2 _ rfl; have q0 := ((Y5.below hb6).below hb7).2.1 0 _ rfl; have q1 := ((Y5.below hb6).below hb7).2.1 1 _ rfl; have q2 := ((Y5.below hb6).below hb7).2.1 2 _ rfl))
      all_goals
        go_wp2
        go_ret
        exact ⟨rfl, below_then (below_then hB5 hb6) hb7⟩
end Go.Proofs.Ytenbdjlhcadhaaa
