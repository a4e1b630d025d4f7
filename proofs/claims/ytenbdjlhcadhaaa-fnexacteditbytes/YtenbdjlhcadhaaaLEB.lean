/-
  The walk of FnExactEditBytes.
-/
import Derived.Test.YtenbdjlhcadhaaaX9
import Derived.Test.YtenbdjlhcadhaaaW9
namespace Go.Proofs.Ytenbdjlhcadhaaa
open Go.RowKit
set_option linter.unusedVariables false
set_option maxRecDepth 100000

set_option maxHeartbeats 4000000 in
theorem lawEditBytes (nx sq : Int) (q : Value) (dr : List Int) (v : Value) (l : List Mt) (w : World) (hq : IL w q dr) (hd : dr.length ≤ maxLen) (hv : IR w v l) (hn : l.length ≤ maxLen) (hs : ∀ i (h : i < l.length), l[i].k.size ≤ maxLen ∧ l[i].v.size ≤ maxLen) :
    Calls Try.prog 8 #[.agg #[.int .i64 nx, .int .i64 sq, q, v]] w fun e w' => e = .returned (.bool true) ∧ Below w.heap.size w w' := by
  have hB := below_alloc w (.cells #[.int .i64 nx, .int .i64 sq, q, v] 55)
  have SZ := szEdit_any nx sq q v dr l 1048576 _ (hq.below hB) (hv.below hB) (by omega) (by omega) hd hn hs
  have X := Box.new w #[.int .i64 nx, .int .i64 sq, q, v] 55
  obtain ⟨qa, qc, hqe, _⟩ := id hq
  obtain ⟨a, cap, hve, _⟩ := id hv
  subst hqe hve
  clear hs hn hd
  go_enter Try.func8, Try.ntmps8
  go_wp2_with fail
  refine SZ.mono ?_
  rintro e w1 ⟨⟨r, rfl, hr⟩, hb1⟩
  clear SZ
  replace X := X.below hb1
  replace hB := below_then hB hb1
  clear hb1
  rcases hr with rfl | ⟨hr0, hr1⟩
  · clear X hq hv
    go_wp2
    go_ret
    exact ⟨rfl, hB⟩
  have hn : l.length ≤ 1048576 := by omega
  have hd : dr.length ≤ 1048576 := by omega
  have hs : ∀ i (h : i < l.length), l[i].k.size ≤ 1048576 ∧ l[i].v.size ≤ 1048576 := fun i h => by have := tot4_mem l i h; omega
  clear hr1
  have T := fun w h1 h2 => toEdit_any nx sq (.slice qa dr.length qc) (.slice a l.length cap) dr l w h1 h2 hd hn
  have S := fun u u' w h1 h2 => specEditBytes_any nx sq u u' dr l w h1 h2 hd hn hs
  have I := fun u u' w h1 h2 => implEditBytes_any nx sq u u' dr l w h1 h2 hd hn hs
  generalize edT nx sq dr l = TT at *
  generalize edB nx sq dr l = g at *
  clear hs
  obtain ⟨hp, p0, p1, p2, p3, _⟩ := X.e4
  go_wp2_with fail
  refine (T _ (hq.below hB) (hv.below hB)).mono ?_
  rintro e w2 ⟨g1, g2, rfl, o1, o2, hb2⟩
  replace X := X.below hb2
  replace hB := below_then hB hb2
  clear hb2 hp p0 p1 p2 p3
  go_wp2_with fail
  refine (S _ _ _ (IL_of_owns o1 (by simp)) (IR_of_owns o2 rfl)).mono ?_
  rintro e w3 ⟨rfl, hb3⟩
  replace X := X.below hb3
  replace hB := below_then hB hb3
  clear hb3 o1 o2 S
  obtain ⟨hp, p0, p1, p2, p3, _⟩ := X.e4
  go_wp2_with fail
  refine (T _ (hq.below hB) (hv.below hB)).mono ?_
  rintro e w4 ⟨g3, g4, rfl, o1, o2, hb4⟩
  replace X := X.below hb4
  replace hB := below_then hB hb4
  clear hb4 hp p0 p1 p2 p3
  have BX := below_alloc w4 (.cells #[.int .i64 nx, .int .i64 sq, .slice (some ⟨g3, 0, none⟩) dr.length dr.length, .slice (some ⟨g4, 0, none⟩) l.length l.length] 30)
  have Y := Box.new w4 #[.int .i64 nx, .int .i64 sq, .slice (some ⟨g3, 0, none⟩) dr.length dr.length, .slice (some ⟨g4, 0, none⟩) l.length l.length] 30
  have i1 := (IL_of_owns o1 (by simp)).below BX
  have i2 := (IR_of_owns o2 rfl).below BX
  replace X := X.below BX
  replace hB := below_then hB BX
  clear BX o1 o2
  go_wp2_with fail
  refine (I _ _ _ i1 i2).mono ?_
  rintro e w5 ⟨rfl, hb5⟩
  replace X := X.below hb5
  replace Y := Y.below hb5
  replace i1 := i1.below hb5
  replace i2 := i2.below hb5
  replace hB := below_then hB hb5
  clear hb5 I
  obtain ⟨hp, p0, p1, p2, p3, _⟩ := X.e4
  obtain ⟨hy, q0, q1, q2, q3, _⟩ := Y.e4
  have hq5 := hq.below hB
  have hv5 := hv.below hB
  have htt : (TT.toList == TT.toList) = true := beq_self_eq_true _
  cases g
  all_goals
    go_wp2_with fail
    go_region_held3 (fun w' => (w'.cell? ⟨w.heap.size, 0, none⟩ = some (.int .i64 nx) ∧ w'.cell? ⟨w.heap.size, 1, none⟩ = some (.int .i64 sq) ∧ w'.cell? ⟨w.heap.size, 2, none⟩ = some (.slice qa dr.length qc) ∧ w'.cell? ⟨w.heap.size, 3, none⟩ = some (.slice a l.length cap)) ∧ w'.cell? ⟨w4.heap.size, 0, none⟩ = some (.int .i64 nx) ∧ w'.cell? ⟨w4.heap.size, 1, none⟩ = some (.int .i64 sq) ∧ w'.cell? ⟨w4.heap.size, 2, none⟩ = some (.slice (some ⟨g3, 0, none⟩) dr.length dr.length) ∧ w'.cell? ⟨w4.heap.size, 3, none⟩ = some (.slice (some ⟨g4, 0, none⟩) l.length l.length)) (go_keep) (first | (go_at_call 35; refine (T _ (hq5.below (Below.refl _ _).drew) (hv5.below (Below.refl _ _).drew)).mono ?_; rintro e w6 ⟨g5, g6, rfl, o5, o6, hb6'⟩; have hb6 := below_undrew hb6'; have p0 := (X.below hb6).2.1 0 _ rfl; have p1 := (X.below hb6).2.1 1 _ rfl; have p2 := (X.below hb6).2.1 2 _ rfl; have p3 := (X.below hb6).2.1 3 _ rfl; have q0 := (Y.below hb6).2.1 0 _ rfl; have q1 := (Y.below hb6).2.1 1 _ rfl; have q2 := (Y.below hb6).2.1 2 _ rfl; have q3 := (Y.below hb6).2.1 3 _ rfl) | (go_at_call 36; refine (eqEdit_same _ _ _ _ _ _ dr l _ (i1.below hb6) (IL_of_owns o5 (by simp)) (i2.below hb6) (IR_of_owns o6 rfl) hd hn).mono ?_; rintro e w7 ⟨rfl, hb7⟩; have p0 := ((X.below hb6).below hb7).2.1 0 _ rfl; have p1 := ((X.below hb6).below hb7).2.1 1 _ rfl; have p2 := ((X.below hb6).below hb7).2.1 2 _ rfl; have p3 := ((X.below hb6).below hb7).2.1 3 _ rfl; have q0 := ((Y.below hb6).below hb7).2.1 0 _ rfl; have q1 := ((Y.below hb6).below hb7).2.1 1 _ rfl; have q2 := ((Y.below hb6).below hb7).2.1 2 _ rfl; have q3 := ((Y.below hb6).below hb7).2.1 3 _ rfl))
    all_goals
      go_wp2
      go_ret
      exact ⟨rfl, below_then (below_then hB hb6) hb7⟩
end Go.Proofs.Ytenbdjlhcadhaaa
