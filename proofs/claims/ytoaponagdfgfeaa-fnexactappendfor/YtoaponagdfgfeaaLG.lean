/-
  The walk of FnExactGoodNode.
-/
import Derived.Test.YtoaponagdfgfeaaN2
namespace Go.Proofs.Ytoaponagdfgfeaa
open Go.RowKit
set_option linter.unusedVariables false
set_option maxRecDepth 100000

theorem run_neq_bool_same (w : World) (b : Bool) : (binOp .neq 4 (.bool b) (.bool b)).run Try.prog w = .ok (.bool false) w := by
  cases b <;> kernel_rfl
set_option maxHeartbeats 4000000 in
theorem lawGoodNode (id pe te vo co ro : Int) (vl vv vm : Value) (log : List En) (vs mt : List Int) (w : World) (hl : ER w vl log) (hv : IL w vv vs) (hm : IL w vm mt) (nl : log.length ≤ maxLen) (nv : vs.length ≤ maxLen) (nm : mt.length ≤ maxLen) (ns : ∀ i (h : i < log.length), log[i].d.size ≤ maxLen) :
    Calls Try.prog 6 #[.agg #[.int .i64 id, .int .i64 pe, .int .i64 te, .int .i64 vo, vl, .int .i64 co, .int .i64 ro, vv, vm]] w fun e w' => e = .returned (.bool true) ∧ Below w.heap.size w w' := by
  have hB := below_alloc w (.cells #[.int .i64 id, .int .i64 pe, .int .i64 te, .int .i64 vo, vl, .int .i64 co, .int .i64 ro, vv, vm] 63)
  have X := Box.new w #[.int .i64 id, .int .i64 pe, .int .i64 te, .int .i64 vo, vl, .int .i64 co, .int .i64 ro, vv, vm] 63
  have SZ := szNode_any id pe te vo co ro vl vv vm log vs mt _ (hl.below hB) (hv.below hB) (hm.below hB) nl nv nm ns
  have E1 := fun W (h : Below w.heap.size w W) => hl.below h
  have E2 := fun W (h : Below w.heap.size w W) => hv.below h
  have E3 := fun W (h : Below w.heap.size w W) => hm.below h
  obtain ⟨la, lc, rfl, hlc⟩ := hl
  obtain ⟨va, vc, rfl, hvc⟩ := hv
  obtain ⟨ma, mc, rfl, hmc⟩ := hm
  clear hlc hvc hmc ns
  go_enter Try.func6, Try.ntmps6
  go_wp2_with fail
  refine SZ.mono ?_
  rintro e w1 ⟨⟨r, rfl, hr⟩, hb⟩
  replace hB := below_then hB hb
  replace X := X.below hb
  clear SZ hb
  rcases hr with rfl | ⟨hr0, hr1⟩
  · clear X E1 E2 E3
    go_wp2
    go_ret
    exact ⟨rfl, hB⟩
  have ml : log.length ≤ 1048576 := by omega
  have mv : vs.length ≤ 1048576 := by omega
  have mm : mt.length ≤ 1048576 := by omega
  have ms : ∀ i (h : i < log.length), log[i].d.size ≤ 1048576 := fun i h => by have := tot2_mem log i h; omega
  clear hr1 nl nv nm
  have T := fun W (h : Below w.heap.size w W) => toNode_any id pe te vo co ro _ _ _ log vs mt W (E1 W h) (E2 W h) (E3 W h) ml mv mm
  have S := fun (ul uv um : Value) W h1 h2 h3 => specGoodN_any id pe te vo co ro ul uv um log vs mt W h1 h2 h3 ml mv mm ms
  have I := fun (ul uv um : Value) W h1 h2 h3 => implGoodN_any id pe te vo co ro ul uv um log vs mt W h1 h2 h3 ml mv mm ms
  generalize goodN id pe te vo co ro log vs mt = g at *
  clear ms E1 E2 E3
  obtain ⟨hxl, x0, x1, x2, x3, x4, x5, x6, x7, x8⟩ := X.e9
  go_wp2_with fail
  refine (T _ hB).mono ?_
  rintro e w2 ⟨g1, g2, g3, rfl, O2, hb⟩
  replace hB := below_then hB hb
  replace X := X.below hb
  clear hb hxl x0 x1 x2 x3 x4 x5 x6 x7 x8
  go_wp2_with fail
  refine (S _ _ _ _ O2.er O2.iv O2.im).mono ?_
  rintro e w3 ⟨rfl, hb⟩
  replace hB := below_then hB hb
  replace X := X.below hb
  clear hb S O2
  obtain ⟨hxl, x0, x1, x2, x3, x4, x5, x6, x7, x8⟩ := X.e9
  go_wp2_with fail
  refine (T _ hB).mono ?_
  rintro e w4 ⟨g4, g5, g6, rfl, O4, hb⟩
  replace hB := below_then hB hb
  replace X := X.below hb
  clear hb hxl x0 x1 x2 x3 x4 x5 x6 x7 x8
  have BX := below_alloc w4 (.cells #[.int .i64 id, .int .i64 pe, .int .i64 te, .int .i64 vo, .slice (some ⟨g4, 0, none⟩) log.length log.length, .int .i64 co, .int .i64 ro, .slice (some ⟨g5, 0, none⟩) vs.length vs.length, .slice (some ⟨g6, 0, none⟩) mt.length mt.length] 26)
  have Y := Box.new w4 #[.int .i64 id, .int .i64 pe, .int .i64 te, .int .i64 vo, .slice (some ⟨g4, 0, none⟩) log.length log.length, .int .i64 co, .int .i64 ro, .slice (some ⟨g5, 0, none⟩) vs.length vs.length, .slice (some ⟨g6, 0, none⟩) mt.length mt.length] 26
  replace hB := below_then hB BX
  replace X := X.below BX
  replace O4 := O4.below BX
  go_wp2_with fail
  refine (I _ _ _ _ O4.er O4.iv O4.im).mono ?_
  rintro e w5 ⟨rfl, hb⟩
  replace hB := below_then hB hb
  replace X := X.below hb
  replace Y := Y.below hb
  replace O4 := O4.below hb
  clear hb I BX
  obtain ⟨hxl, p0, p1, p2, p3, p4, p5, p6, p7, p8⟩ := X.e9
  obtain ⟨hyl, q0, q1, q2, q3, q4, q5, q6, q7, q8⟩ := Y.e9
  have NB := fun W => run_neq_bool_same W g
  go_wp2_with fail
  go_region_held3 (fun w' => (w'.cell? ⟨w.heap.size, 0, none⟩ = some (.int .i64 id) ∧ w'.cell? ⟨w.heap.size, 1, none⟩ = some (.int .i64 pe) ∧ w'.cell? ⟨w.heap.size, 2, none⟩ = some (.int .i64 te) ∧ w'.cell? ⟨w.heap.size, 3, none⟩ = some (.int .i64 vo) ∧ w'.cell? ⟨w.heap.size, 4, none⟩ = some (.slice la log.length lc) ∧ w'.cell? ⟨w.heap.size, 5, none⟩ = some (.int .i64 co) ∧ w'.cell? ⟨w.heap.size, 6, none⟩ = some (.int .i64 ro) ∧ w'.cell? ⟨w.heap.size, 7, none⟩ = some (.slice va vs.length vc) ∧ w'.cell? ⟨w.heap.size, 8, none⟩ = some (.slice ma mt.length mc)) ∧ w'.cell? ⟨w4.heap.size, 0, none⟩ = some (.int .i64 id) ∧ w'.cell? ⟨w4.heap.size, 1, none⟩ = some (.int .i64 pe) ∧ w'.cell? ⟨w4.heap.size, 2, none⟩ = some (.int .i64 te) ∧ w'.cell? ⟨w4.heap.size, 3, none⟩ = some (.int .i64 vo) ∧ w'.cell? ⟨w4.heap.size, 4, none⟩ = some (.slice (some ⟨g4, 0, none⟩) log.length log.length) ∧ w'.cell? ⟨w4.heap.size, 5, none⟩ = some (.int .i64 co) ∧ w'.cell? ⟨w4.heap.size, 6, none⟩ = some (.int .i64 ro) ∧ w'.cell? ⟨w4.heap.size, 7, none⟩ = some (.slice (some ⟨g5, 0, none⟩) vs.length vs.length) ∧ w'.cell? ⟨w4.heap.size, 8, none⟩ = some (.slice (some ⟨g6, 0, none⟩) mt.length mt.length)) (go_keep) (first | (go_at_call 44; refine (T _ hB.drew).mono ?_; rintro e w6 ⟨g7, g8, g9, rfl, O6, hb6'⟩; have hb6 := below_undrew hb6'; have p0 := (X.below hb6).2.1 0 _ rfl; have p1 := (X.below hb6).2.1 1 _ rfl; have p2 := (X.below hb6).2.1 2 _ rfl; have p3 := (X.below hb6).2.1 3 _ rfl; have p4 := (X.below hb6).2.1 4 _ rfl; have p5 := (X.below hb6).2.1 5 _ rfl; have p6 := (X.below hb6).2.1 6 _ rfl; have p7 := (X.below hb6).2.1 7 _ rfl; have p8 := (X.below hb6).2.1 8 _ rfl; have q0 := (Y.below hb6).2.1 0 _ rfl; have q1 := (Y.below hb6).2.1 1 _ rfl; have q2 := (Y.below hb6).2.1 2 _ rfl; have q3 := (Y.below hb6).2.1 3 _ rfl; have q4 := (Y.below hb6).2.1 4 _ rfl; have q5 := (Y.below hb6).2.1 5 _ rfl; have q6 := (Y.below hb6).2.1 6 _ rfl; have q7 := (Y.below hb6).2.1 7 _ rfl; have q8 := (Y.below hb6).2.1 8 _ rfl) | (go_at_call 39; refine (eqNode_same _ _ _ _ _ _ _ _ _ _ _ _ log vs mt _ (O4.er.below hb6) (O4.iv.below hb6) (O4.im.below hb6) O6.er O6.iv O6.im ml mv mm).mono ?_; rintro e w7 ⟨rfl, hb7⟩; have p0 := (X.below (below_then hb6 hb7)).2.1 0 _ rfl; have p1 := (X.below (below_then hb6 hb7)).2.1 1 _ rfl; have p2 := (X.below (below_then hb6 hb7)).2.1 2 _ rfl; have p3 := (X.below (below_then hb6 hb7)).2.1 3 _ rfl; have p4 := (X.below (below_then hb6 hb7)).2.1 4 _ rfl; have p5 := (X.below (below_then hb6 hb7)).2.1 5 _ rfl; have p6 := (X.below (below_then hb6 hb7)).2.1 6 _ rfl; have p7 := (X.below (below_then hb6 hb7)).2.1 7 _ rfl; have p8 := (X.below (below_then hb6 hb7)).2.1 8 _ rfl; have q0 := (Y.below (below_then hb6 hb7)).2.1 0 _ rfl; have q1 := (Y.below (below_then hb6 hb7)).2.1 1 _ rfl; have q2 := (Y.below (below_then hb6 hb7)).2.1 2 _ rfl; have q3 := (Y.below (below_then hb6 hb7)).2.1 3 _ rfl; have q4 := (Y.below (below_then hb6 hb7)).2.1 4 _ rfl; have q5 := (Y.below (below_then hb6 hb7)).2.1 5 _ rfl; have q6 := (Y.below (below_then hb6 hb7)).2.1 6 _ rfl; have q7 := (Y.below (below_then hb6 hb7)).2.1 7 _ rfl; have q8 := (Y.below (below_then hb6 hb7)).2.1 8 _ rfl))
  all_goals
    go_wp2
    go_ret
    exact ⟨rfl, below_then (below_then hB hb6) hb7⟩
end Go.Proofs.Ytoaponagdfgfeaa
