/-
  The walk of FnExactGoodRaftMsg.
-/
import Derived.Test.YtoaponagdfgfeaaM3b
namespace Go.Proofs.Ytoaponagdfgfeaa
open Go.RowKit
set_option linter.unusedVariables false
set_option maxRecDepth 100000

set_option maxHeartbeats 4000000 in
theorem lawGoodRaftMsg (ki fr dst te ix be co : Int) (ye : Bool) (ve : Value) (es : List En) (pe : Int) (w : World) (he : ER w ve es) (ne : es.length ≤ maxLen) (ns : ∀ i (h : i < es.length), es[i].d.size ≤ maxLen) :
    Calls Try.prog 7 #[.agg #[.int .i64 ki, .int .i64 fr, .int .i64 dst, .int .i64 te, .int .i64 ix, .int .i64 be, ve, .int .i64 co, .bool ye], .int .i64 pe] w fun e w' => e = .returned (.bool true) ∧ Below w.heap.size w w' := by
  have hB := below_alloc w (.cells #[.int .i64 ki, .int .i64 fr, .int .i64 dst, .int .i64 te, .int .i64 ix, .int .i64 be, ve, .int .i64 co, .bool ye] 68)
  have X := Box.new w #[.int .i64 ki, .int .i64 fr, .int .i64 dst, .int .i64 te, .int .i64 ix, .int .i64 be, ve, .int .i64 co, .bool ye] 68
  have SZ := szMsg_any ki fr dst te ix be co ye ve es 1048576 _ (he.below hB) (by omega) (by omega) ne ns
  have E1 := fun W (h : Below w.heap.size w W) => he.below h
  obtain ⟨ea, ec, rfl, hec⟩ := he
  clear hec ns
  go_enter Try.func7, Try.ntmps7
  go_wp2_with fail
  refine SZ.mono ?_
  rintro e w1 ⟨⟨r, rfl, hr⟩, hb⟩
  replace hB := below_then hB hb
  replace X := X.below hb
  clear SZ hb
  rcases hr with rfl | ⟨hr0, hr1⟩
  · clear X E1
    go_wp2
    go_ret
    exact ⟨rfl, hB⟩
  have ml : es.length ≤ 1048576 := by omega
  have ms : ∀ i (h : i < es.length), es[i].d.size ≤ 1048576 := fun i h => by have := tot2_mem es i h; omega
  clear hr1 ne
  have T := fun W (h : Below w.heap.size w W) => toMsg_any ki fr dst te ix be co ye _ es W (E1 W h) ml
  have S := fun (ul : Value) W h1 => specGoodM_any pe ki fr dst te ix be co ye ul es W h1 ml ms
  have I := fun (ul : Value) W h1 => implGoodM_any pe ki fr dst te ix be co ye ul es W h1 ml ms
  generalize goodM pe ki fr dst te ix be co ye es = g at *
  clear ms E1
  obtain ⟨hxl, x0, x1, x2, x3, x4, x5, x6, x7, x8⟩ := X.e9
  go_wp2_with fail
  refine (T _ hB).mono ?_
  rintro e w2 ⟨g1, rfl, O2, hb⟩
  replace hB := below_then hB hb
  replace X := X.below hb
  clear hb hxl x0 x1 x2 x3 x4 x5 x6 x7 x8
  go_wp2_with fail
  refine (S _ _ (ER_of_owns O2 rfl)).mono ?_
  rintro e w3 ⟨rfl, hb⟩
  replace hB := below_then hB hb
  replace X := X.below hb
  clear hb S O2
  obtain ⟨hxl, x0, x1, x2, x3, x4, x5, x6, x7, x8⟩ := X.e9
  go_wp2_with fail
  refine (T _ hB).mono ?_
  rintro e w4 ⟨g4, rfl, O4, hb⟩
  replace hB := below_then hB hb
  replace X := X.below hb
  clear hb hxl x0 x1 x2 x3 x4 x5 x6 x7 x8
  have BX := below_alloc w4 (.cells #[.int .i64 ki, .int .i64 fr, .int .i64 dst, .int .i64 te, .int .i64 ix, .int .i64 be, .slice (some ⟨g4, 0, none⟩) es.length es.length, .int .i64 co, .bool ye] 28)
  have Y := Box.new w4 #[.int .i64 ki, .int .i64 fr, .int .i64 dst, .int .i64 te, .int .i64 ix, .int .i64 be, .slice (some ⟨g4, 0, none⟩) es.length es.length, .int .i64 co, .bool ye] 28
  replace hB := below_then hB BX
  replace X := X.below BX
  replace O4 := owns_below O4 BX
  go_wp2_with fail
  refine (I _ _ (ER_of_owns O4 rfl)).mono ?_
  rintro e w5 ⟨rfl, hb⟩
  replace hB := below_then hB hb
  replace X := X.below hb
  replace Y := Y.below hb
  replace O4 := owns_below O4 hb
  clear hb I BX
  obtain ⟨hxl, p0, p1, p2, p3, p4, p5, p6, p7, p8⟩ := X.e9
  obtain ⟨hyl, q0, q1, q2, q3, q4, q5, q6, q7, q8⟩ := Y.e9
  have NB := fun W => run_neq_b W g
  go_wp2_with fail
  go_region_held3 (fun w' => (w'.cell? ⟨w.heap.size, 0, none⟩ = some (.int .i64 ki) ∧ w'.cell? ⟨w.heap.size, 1, none⟩ = some (.int .i64 fr) ∧ w'.cell? ⟨w.heap.size, 2, none⟩ = some (.int .i64 dst) ∧ w'.cell? ⟨w.heap.size, 3, none⟩ = some (.int .i64 te) ∧ w'.cell? ⟨w.heap.size, 4, none⟩ = some (.int .i64 ix) ∧ w'.cell? ⟨w.heap.size, 5, none⟩ = some (.int .i64 be) ∧ w'.cell? ⟨w.heap.size, 6, none⟩ = some (.slice ea es.length ec) ∧ w'.cell? ⟨w.heap.size, 7, none⟩ = some (.int .i64 co) ∧ w'.cell? ⟨w.heap.size, 8, none⟩ = some (.bool ye)) ∧ w'.cell? ⟨w4.heap.size, 0, none⟩ = some (.int .i64 ki) ∧ w'.cell? ⟨w4.heap.size, 1, none⟩ = some (.int .i64 fr) ∧ w'.cell? ⟨w4.heap.size, 2, none⟩ = some (.int .i64 dst) ∧ w'.cell? ⟨w4.heap.size, 3, none⟩ = some (.int .i64 te) ∧ w'.cell? ⟨w4.heap.size, 4, none⟩ = some (.int .i64 ix) ∧ w'.cell? ⟨w4.heap.size, 5, none⟩ = some (.int .i64 be) ∧ w'.cell? ⟨w4.heap.size, 6, none⟩ = some (.slice (some ⟨g4, 0, none⟩) es.length es.length) ∧ w'.cell? ⟨w4.heap.size, 7, none⟩ = some (.int .i64 co) ∧ w'.cell? ⟨w4.heap.size, 8, none⟩ = some (.bool ye)) (go_keep) (first | (go_at_call 47; refine (T _ hB.drew).mono ?_; rintro e w6 ⟨g7, rfl, O6, hb6'⟩; have hb6 := below_undrew hb6'; have p0 := (X.below hb6).2.1 0 _ rfl; have p1 := (X.below hb6).2.1 1 _ rfl; have p2 := (X.below hb6).2.1 2 _ rfl; have p3 := (X.below hb6).2.1 3 _ rfl; have p4 := (X.below hb6).2.1 4 _ rfl; have p5 := (X.below hb6).2.1 5 _ rfl; have p6 := (X.below hb6).2.1 6 _ rfl; have p7 := (X.below hb6).2.1 7 _ rfl; have p8 := (X.below hb6).2.1 8 _ rfl; have q0 := (Y.below hb6).2.1 0 _ rfl; have q1 := (Y.below hb6).2.1 1 _ rfl; have q2 := (Y.below hb6).2.1 2 _ rfl; have q3 := (Y.below hb6).2.1 3 _ rfl; have q4 := (Y.below hb6).2.1 4 _ rfl; have q5 := (Y.below hb6).2.1 5 _ rfl; have q6 := (Y.below hb6).2.1 6 _ rfl; have q7 := (Y.below hb6).2.1 7 _ rfl; have q8 := (Y.below hb6).2.1 8 _ rfl) | (go_at_call 48; refine (eqMsg_same _ _ _ _ _ _ _ _ _ _ es _ ((ER_of_owns O4 rfl).below hb6) (ER_of_owns O6 rfl) ml).mono ?_; rintro e w7 ⟨rfl, hb7⟩; have p0 := (X.below (below_then hb6 hb7)).2.1 0 _ rfl; have p1 := (X.below (below_then hb6 hb7)).2.1 1 _ rfl; have p2 := (X.below (below_then hb6 hb7)).2.1 2 _ rfl; have p3 := (X.below (below_then hb6 hb7)).2.1 3 _ rfl; have p4 := (X.below (below_then hb6 hb7)).2.1 4 _ rfl; have p5 := (X.below (below_then hb6 hb7)).2.1 5 _ rfl; have p6 := (X.below (below_then hb6 hb7)).2.1 6 _ rfl; have p7 := (X.below (below_then hb6 hb7)).2.1 7 _ rfl; have p8 := (X.below (below_then hb6 hb7)).2.1 8 _ rfl; have q0 := (Y.below (below_then hb6 hb7)).2.1 0 _ rfl; have q1 := (Y.below (below_then hb6 hb7)).2.1 1 _ rfl; have q2 := (Y.below (below_then hb6 hb7)).2.1 2 _ rfl; have q3 := (Y.below (below_then hb6 hb7)).2.1 3 _ rfl; have q4 := (Y.below (below_then hb6 hb7)).2.1 4 _ rfl; have q5 := (Y.below (below_then hb6 hb7)).2.1 5 _ rfl; have q6 := (Y.below (below_then hb6 hb7)).2.1 6 _ rfl; have q7 := (Y.below (below_then hb6 hb7)).2.1 7 _ rfl; have q8 := (Y.below (below_then hb6 hb7)).2.1 8 _ rfl))
  all_goals
    go_wp2
    go_ret
    exact ⟨rfl, below_then (below_then hB hb6) hb7⟩
end Go.Proofs.Ytoaponagdfgfeaa
