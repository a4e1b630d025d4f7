/-
  The walk of FnExactAppendFor.
-/
import Derived.Test.YtoaponagdfgfeaaF7
import Derived.Test.YtoaponagdfgfeaaLG
namespace Go.Proofs.Ytoaponagdfgfeaa
open Go.RowKit
set_option linter.unusedVariables false
set_option maxRecDepth 100000

theorem afM_es (ok : Bool) (id te co peer many : Int) (log : List En) (mt : List Int) : (afM ok id te co peer many log mt).es.length ≤ log.length := by
  unfold afM
  cases ok
  · simp [Ms.zero]
  · simp [afE]; omega
set_option maxHeartbeats 16000000 in
theorem lawAppendFor (id pe te vo co ro : Int) (vl vv vm : Value) (log : List En) (vs mt : List Int) (peer many : Int) (w : World) (hl : ER w vl log) (hv : IL w vv vs) (hm : IL w vm mt) (nl : log.length ≤ maxLen) (nv : vs.length ≤ maxLen) (nm : mt.length ≤ maxLen) (ns : ∀ i (h : i < log.length), log[i].d.size ≤ maxLen) :
    Calls Try.prog 9 #[.agg #[.int .i64 id, .int .i64 pe, .int .i64 te, .int .i64 vo, vl, .int .i64 co, .int .i64 ro, vv, vm], .int .i64 peer, .int .i64 many] w fun e w' => e = .returned (.bool true) ∧ Below w.heap.size w w' := by
  have hB := below_alloc w (.cells #[.int .i64 id, .int .i64 pe, .int .i64 te, .int .i64 vo, vl, .int .i64 co, .int .i64 ro, vv, vm] 63)
  have X := Box.new w #[.int .i64 id, .int .i64 pe, .int .i64 te, .int .i64 vo, vl, .int .i64 co, .int .i64 ro, vv, vm] 63
  have SZ := szNode_any id pe te vo co ro vl vv vm log vs mt _ (hl.below hB) (hv.below hB) (hm.below hB) nl nv nm ns
  have E1 := fun W (h : Below w.heap.size w W) => hl.below h
  have E2 := fun W (h : Below w.heap.size w W) => hv.below h
  have E3 := fun W (h : Below w.heap.size w W) => hm.below h
  obtain ⟨la, lc, rfl, hlc⟩ := hl
  obtain ⟨va, vc, rfl, hvc⟩ := hv
  obtain ⟨ma, mc, rfl, hmc⟩ := hm
  clear hlc hvc hmc ns
  go_enter Try.func9, Try.ntmps9
  go_wp2_with fail
  refine SZ.mono ?_
  rintro e w1 ⟨⟨r, rfl, hr⟩, hb⟩
  replace hB := below_then hB hb
  replace X := X.below hb
  have hz1 := X.1
  clear SZ hb
  rcases hr with rfl | ⟨hr0, hr1⟩
  · clear X E1 E2 E3
    go_wp2
    go_ret
    exact ⟨rfl, hB⟩
  have ml : log.length ≤ 1048576 := by omega
  have mv : vs.length ≤ 1048576 := by omega
  have mm : mt.length ≤ 1048576 := by omega
  have ms : ∀ i (h : i < log.length), log[i].d.size ≤ 1048576 := fun i h => by have := tot2_mem log i h; omega
  clear hr1 nl nv nm
  have T := fun W (h : Below w.heap.size w W) => toNode_any id pe te vo co ro _ _ _ log vs mt W (E1 W h) (E2 W h) (E3 W h) ml mv mm
  have S := fun (ul uv um : Value) (bs : Nat) W (h : OwnN W bs ul uv um log vs mt) => specAF_any id pe te vo co ro ul uv um log vs mt peer many bs W h ml mv mm ms
  have I := fun (ul uv um : Value) (bs : Nat) W (h : OwnN W bs ul uv um log vs mt) => implAF_any id pe te vo co ro ul uv um log vs mt peer many bs W h ml mv mm ms
  have RL : (afM (afOk (goodN id pe te vo co ro log vs mt) id pe ro peer many) id te co peer many log mt).es.length ≤ 1048576 := Nat.le_trans (afM_es _ _ _ _ _ _ _ _) ml
  generalize afM (afOk (goodN id pe te vo co ro log vs mt) id pe ro peer many) id te co peer many log mt = Z at *
  generalize afOk (goodN id pe te vo co ro log vs mt) id pe ro peer many = ok at *
  have NBo := fun W => run_neq_bool_same W ok
  clear ms E1 E2 E3
  obtain ⟨xl, x0, x1, x2, x3, x4, x5, x6, x7, x8⟩ := X.e9
  go_wp2_with fail
  refine (T _ hB).mono ?_
  rintro e w2 ⟨g1, g2, g3, rfl, O2, hb⟩
  replace hB := below_then hB hb
  replace X := X.below hb
  clear xl x0 x1 x2 x3 x4 x5 x6 x7 x8
  have hz2 := hb.size
  clear hb
  go_wp2_with fail
  refine (S _ _ _ _ _ O2).mono ?_
  rintro e w3 ⟨P1, rfl, PO, hb⟩
  replace hB := below_then hB hb
  replace X := X.below hb
  have hz3 := hb.size
  clear hb S O2
  have gP := owns_ge PO
  have lP := owns_below_lt PO
  obtain ⟨Pea, Pec, h1⟩ := owns_shape PO
  subst h1
  have BX := below_alloc w3 (.cells #[.int .i64 Z.ki, .int .i64 Z.fr, .int .i64 Z.dst, .int .i64 Z.te, .int .i64 Z.ix, .int .i64 Z.be, .slice Pea Z.es.length Pec, .int .i64 Z.co, .bool Z.ye] 28)
  have P := Box.new w3 #[.int .i64 Z.ki, .int .i64 Z.fr, .int .i64 Z.dst, .int .i64 Z.te, .int .i64 Z.ix, .int .i64 Z.be, .slice Pea Z.es.length Pec, .int .i64 Z.co, .bool Z.ye] 28
  replace hB := below_then hB BX
  replace X := X.below BX
  replace PO := owns_below PO BX
  clear BX
  have hpl := P.1
  obtain ⟨xl, x0, x1, x2, x3, x4, x5, x6, x7, x8⟩ := X.e9
  go_wp2_with fail
  refine (T _ hB).mono ?_
  rintro e w4 ⟨g4, g5, g6, rfl, AO, hb⟩
  replace hB := below_then hB hb
  replace X := X.below hb
  replace PO := owns_below PO hb
  replace P := P.below hb
  clear xl x0 x1 x2 x3 x4 x5 x6 x7 x8
  have hz4 := hb.size
  simp only [World.size_alloc] at hz4 hpl
  clear hb
  have gA := fun b hb => (AO.lt b hb).1
  have lA := fun b hb => (AO.lt b hb).2
  simp only [World.size_alloc] at gA
  have BX := below_alloc w4 (.cells #[.int .i64 id, .int .i64 pe, .int .i64 te, .int .i64 vo, .slice (some ⟨g4, 0, none⟩) log.length log.length, .int .i64 co, .int .i64 ro, .slice (some ⟨g5, 0, none⟩) vs.length vs.length, .slice (some ⟨g6, 0, none⟩) mt.length mt.length] 26)
  have A := Box.new w4 #[.int .i64 id, .int .i64 pe, .int .i64 te, .int .i64 vo, .slice (some ⟨g4, 0, none⟩) log.length log.length, .int .i64 co, .int .i64 ro, .slice (some ⟨g5, 0, none⟩) vs.length vs.length, .slice (some ⟨g6, 0, none⟩) mt.length mt.length] 26
  replace hB := below_then hB BX
  replace X := X.below BX
  replace PO := owns_below PO BX
  replace P := P.below BX
  replace AO := AO.below BX
  clear BX
  go_wp2_with fail
  refine (I _ _ _ _ _ AO).mono ?_
  rintro e w5 ⟨Q1, rfl, QO, hb⟩
  replace hB := below_then hB hb
  replace X := X.below hb
  replace PO := owns_below PO hb
  replace P := P.below hb
  replace AO := AO.below hb
  replace A := A.below hb
  have hz5 := hb.size
  simp only [World.size_alloc] at hz5
  clear hb
  have gQ := owns_ge QO
  have lQ := owns_below_lt QO
  simp only [World.size_alloc] at gQ
  obtain ⟨Qea, Qec, h1⟩ := owns_shape QO
  subst h1
  have BX := below_alloc w5 (.cells #[.int .i64 Z.ki, .int .i64 Z.fr, .int .i64 Z.dst, .int .i64 Z.te, .int .i64 Z.ix, .int .i64 Z.be, .slice Qea Z.es.length Qec, .int .i64 Z.co, .bool Z.ye] 28)
  have Q := Box.new w5 #[.int .i64 Z.ki, .int .i64 Z.fr, .int .i64 Z.dst, .int .i64 Z.te, .int .i64 Z.ix, .int .i64 Z.be, .slice Qea Z.es.length Qec, .int .i64 Z.co, .bool Z.ye] 28
  replace hB := below_then hB BX
  replace X := X.below BX
  replace PO := owns_below PO BX
  replace P := P.below BX
  replace AO := AO.below BX
  replace A := A.below BX
  replace QO := owns_below QO BX
  clear BX
  have hql := Q.1
  simp only [World.size_alloc] at hql
  obtain ⟨pl, p0, p1, p2, p3, p4, p5, p6, p7, p8⟩ := P.e9
  obtain ⟨ql, q0, q1, q2, q3, q4, q5, q6, q7, q8⟩ := Q.e9
  go_wp2_with fail
  refine (eqMsg_same _ _ _ _ _ _ _ _ _ _ Z.es _ (ER_of_owns QO rfl) (ER_of_owns PO rfl) RL).mono ?_
  rintro e w6 ⟨rfl, hb⟩
  replace hB := below_then hB hb
  replace X := X.below hb
  replace PO := owns_below PO hb
  replace P := P.below hb
  replace AO := AO.below hb
  replace A := A.below hb
  replace QO := owns_below QO hb
  replace Q := Q.below hb
  clear pl p0 p1 p2 p3 p4 p5 p6 p7 p8 ql q0 q1 q2 q3 q4 q5 q6 q7 q8
  have hzw6 := hb.size
  simp only [World.size_alloc] at hzw6
  clear hb
  obtain ⟨pl, p0, p1, p2, p3, p4, p5, p6, p7, p8⟩ := X.e9
  obtain ⟨ql, q0, q1, q2, q3, q4, q5, q6, q7, q8⟩ := A.e9
  go_wp2_with fail
  go_region_held3 (fun w' => (w'.cell? ⟨w.heap.size, 0, none⟩ = some (.int .i64 id) ∧ w'.cell? ⟨w.heap.size, 1, none⟩ = some (.int .i64 pe) ∧ w'.cell? ⟨w.heap.size, 2, none⟩ = some (.int .i64 te) ∧ w'.cell? ⟨w.heap.size, 3, none⟩ = some (.int .i64 vo) ∧ w'.cell? ⟨w.heap.size, 4, none⟩ = some (.slice la log.length lc) ∧ w'.cell? ⟨w.heap.size, 5, none⟩ = some (.int .i64 co) ∧ w'.cell? ⟨w.heap.size, 6, none⟩ = some (.int .i64 ro) ∧ w'.cell? ⟨w.heap.size, 7, none⟩ = some (.slice va vs.length vc) ∧ w'.cell? ⟨w.heap.size, 8, none⟩ = some (.slice ma mt.length mc)) ∧ w'.cell? ⟨w4.heap.size, 0, none⟩ = some (.int .i64 id) ∧ w'.cell? ⟨w4.heap.size, 1, none⟩ = some (.int .i64 pe) ∧ w'.cell? ⟨w4.heap.size, 2, none⟩ = some (.int .i64 te) ∧ w'.cell? ⟨w4.heap.size, 3, none⟩ = some (.int .i64 vo) ∧ w'.cell? ⟨w4.heap.size, 4, none⟩ = some (.slice (some ⟨g4, 0, none⟩) log.length log.length) ∧ w'.cell? ⟨w4.heap.size, 5, none⟩ = some (.int .i64 co) ∧ w'.cell? ⟨w4.heap.size, 6, none⟩ = some (.int .i64 ro) ∧ w'.cell? ⟨w4.heap.size, 7, none⟩ = some (.slice (some ⟨g5, 0, none⟩) vs.length vs.length) ∧ w'.cell? ⟨w4.heap.size, 8, none⟩ = some (.slice (some ⟨g6, 0, none⟩) mt.length mt.length)) (go_keep) (first | (go_at_call 44; refine (T _ hB.drew).mono ?_; rintro e w7 ⟨g7, g8, g9, rfl, O7, hb7'⟩; have hb7 := below_undrew hb7'; have p0 := (X.below hb7).2.1 0 _ rfl; have p1 := (X.below hb7).2.1 1 _ rfl; have p2 := (X.below hb7).2.1 2 _ rfl; have p3 := (X.below hb7).2.1 3 _ rfl; have p4 := (X.below hb7).2.1 4 _ rfl; have p5 := (X.below hb7).2.1 5 _ rfl; have p6 := (X.below hb7).2.1 6 _ rfl; have p7 := (X.below hb7).2.1 7 _ rfl; have p8 := (X.below hb7).2.1 8 _ rfl; have q0 := (A.below hb7).2.1 0 _ rfl; have q1 := (A.below hb7).2.1 1 _ rfl; have q2 := (A.below hb7).2.1 2 _ rfl; have q3 := (A.below hb7).2.1 3 _ rfl; have q4 := (A.below hb7).2.1 4 _ rfl; have q5 := (A.below hb7).2.1 5 _ rfl; have q6 := (A.below hb7).2.1 6 _ rfl; have q7 := (A.below hb7).2.1 7 _ rfl; have q8 := (A.below hb7).2.1 8 _ rfl) | (go_at_call 39; refine (eqNode_same _ _ _ _ _ _ _ _ _ _ _ _ log vs mt _ (AO.er.below hb7) (AO.iv.below hb7) (AO.im.below hb7) O7.er O7.iv O7.im ml mv mm).mono ?_; rintro e w8 ⟨rfl, hb8⟩; have p0 := (X.below (below_then hb7 hb8)).2.1 0 _ rfl; have p1 := (X.below (below_then hb7 hb8)).2.1 1 _ rfl; have p2 := (X.below (below_then hb7 hb8)).2.1 2 _ rfl; have p3 := (X.below (below_then hb7 hb8)).2.1 3 _ rfl; have p4 := (X.below (below_then hb7 hb8)).2.1 4 _ rfl; have p5 := (X.below (below_then hb7 hb8)).2.1 5 _ rfl; have p6 := (X.below (below_then hb7 hb8)).2.1 6 _ rfl; have p7 := (X.below (below_then hb7 hb8)).2.1 7 _ rfl; have p8 := (X.below (below_then hb7 hb8)).2.1 8 _ rfl; have q0 := (A.below (below_then hb7 hb8)).2.1 0 _ rfl; have q1 := (A.below (below_then hb7 hb8)).2.1 1 _ rfl; have q2 := (A.below (below_then hb7 hb8)).2.1 2 _ rfl; have q3 := (A.below (below_then hb7 hb8)).2.1 3 _ rfl; have q4 := (A.below (below_then hb7 hb8)).2.1 4 _ rfl; have q5 := (A.below (below_then hb7 hb8)).2.1 5 _ rfl; have q6 := (A.below (below_then hb7 hb8)).2.1 6 _ rfl; have q7 := (A.below (below_then hb7 hb8)).2.1 7 _ rfl; have q8 := (A.below (below_then hb7 hb8)).2.1 8 _ rfl))
  all_goals
    have hb78 := below_then hb7 hb8
    replace hB := below_then hB hb78
    replace X := X.below hb78
    replace PO := owns_below PO hb78
    replace P := P.below hb78
    replace AO := AO.below hb78
    replace A := A.below hb78
    replace QO := owns_below QO hb78
    replace Q := Q.below hb78
    have hzw8 := hb78.size
    clear hb7' hb7 hb8 hb78 O7
    clear pl p0 p1 p2 p3 p4 p5 p6 p7 p8 ql q0 q1 q2 q3 q4 q5 q6 q7 q8
    obtain ⟨ql, q0, q1, q2, q3, q4, q5, q6, q7, q8⟩ := A.e9
    go_wp2_with fail
    refine (markNode_own _ _ _ _ _ _ _ _ _ log vs mt _ 1 _ AO ml mv mm (by omega) (by omega)).mono ?_
    rintro e w9 ⟨rfl, _, hc⟩
    clear ql q0 q1 q2 q3 q4 q5 q6 q7 q8
    replace hB := hB.trans (hc.below (B := w.heap.size) (by omega) (fun b h => by rcases h with h | h <;> (try (have := gA _ h; have := lA _ h)) <;> omega))
    replace X := hc.box X (fun h => by rcases h with h | h <;> (try (have := gA _ h; have := lA _ h)) <;> omega)
    replace PO := hc.owns PO (fun b hb h => by have := gP b hb; have := lP b hb; rcases h with h | h <;> (try (have := gA _ h; have := lA _ h)) <;> omega)
    replace P := hc.box P (fun h => by rcases h with h | h <;> (try (have := gA _ h; have := lA _ h)) <;> omega)
    replace QO := hc.owns QO (fun b hb h => by have := gQ b hb; have := lQ b hb; rcases h with h | h <;> (try (have := gA _ h; have := lA _ h)) <;> omega)
    replace Q := hc.box Q (fun h => by rcases h with h | h <;> (try (have := gA _ h; have := lA _ h)) <;> omega)
    have hzw9 := hc.size
    clear hc AO A gA lA
    have hk1 : ¬ (1 : Int) + 2 * (log.length : Int) + vs.length + mt.length < 0 := by omega
    obtain ⟨pl, p0, p1, p2, p3, p4, p5, p6, p7, p8⟩ := P.e9
    obtain ⟨ql, q0, q1, q2, q3, q4, q5, q6, q7, q8⟩ := Q.e9
    go_wp2_with fail
    refine (eqMsg_same _ _ _ _ _ _ _ _ _ _ Z.es _ (ER_of_owns QO rfl) (ER_of_owns PO rfl) RL).mono ?_
    rintro e w10 ⟨rfl, hb⟩
    replace hB := below_then hB hb
    replace X := X.below hb
    replace PO := owns_below PO hb
    replace P := P.below hb
    replace QO := owns_below QO hb
    replace Q := Q.below hb
    clear pl p0 p1 p2 p3 p4 p5 p6 p7 p8 ql q0 q1 q2 q3 q4 q5 q6 q7 q8
    have hzw10 := hb.size
    skip
    clear hb
    obtain ⟨ql, q0, q1, q2, q3, q4, q5, q6, q7, q8⟩ := Q.e9
    go_wp2_with fail
    refine (markMsg_own _ _ _ _ _ _ _ _ _ _ Z.es 1 _ QO RL (by omega) (by omega)).mono ?_
    rintro e w11 ⟨rfl, QM, hc⟩
    clear ql q0 q1 q2 q3 q4 q5 q6 q7 q8
    replace hB := hB.trans (hc.below (B := w.heap.size) (by omega) (fun b h => by rcases h with h | h <;> (try (have := gQ _ h; have := lQ _ h)) <;> omega))
    replace X := hc.box X (fun h => by rcases h with h | h <;> (try (have := gQ _ h; have := lQ _ h)) <;> omega)
    replace PO := hc.owns PO (fun b hb h => by have := gP b hb; have := lP b hb; rcases h with h | h <;> (try (have := gQ _ h; have := lQ _ h)) <;> omega)
    replace P := hc.box P (fun h => by rcases h with h | h <;> (try (have := gQ _ h; have := lQ _ h)) <;> omega)
    replace Q := hc.box Q (fun h => by rcases h with h | h <;> (try (have := gQ _ h; have := lQ _ h)) <;> omega)
    have hzw11 := hc.size
    clear hc QO
    have hk0 : ¬ (1 : Int) + 2 * (Z.es.length : Int) < 0 := by omega
    obtain ⟨ql, q0, q1, q2, q3, q4, q5, q6, q7, q8⟩ := Q.e9
    go_wp2_with fail
    refine (heldMsg_own _ _ _ _ _ _ _ _ _ _ _ 1 _ QM RL (by omega) (by omega)).mono ?_
    rintro e w12 ⟨rfl, hb⟩
    replace hB := below_then hB hb
    replace X := X.below hb
    replace PO := owns_below PO hb
    replace P := P.below hb
    replace Q := Q.below hb
    replace QM := owns_below QM hb
    clear ql q0 q1 q2 q3 q4 q5 q6 q7 q8
    have hzw12 := hb.size
    clear hb
    obtain ⟨xl, x0, x1, x2, x3, x4, x5, x6, x7, x8⟩ := X.e9
    go_wp2_with fail
    refine (T _ hB).mono ?_
    rintro e w13 ⟨h1, h2, h3, rfl, O3, hb⟩
    replace hB := below_then hB hb
    replace X := X.below hb
    replace PO := owns_below PO hb
    replace P := P.below hb
    replace Q := Q.below hb
    replace QM := owns_below QM hb
    clear xl x0 x1 x2 x3 x4 x5 x6 x7 x8
    have hzw13 := hb.size
    clear hb T
    go_wp2_with fail
    refine (I _ _ _ _ _ O3).mono ?_
    rintro e w14 ⟨R1, rfl, RO, hb⟩
    replace hB := below_then hB hb
    replace X := X.below hb
    replace PO := owns_below PO hb
    replace P := P.below hb
    replace Q := Q.below hb
    replace QM := owns_below QM hb
    clear hb I O3
    obtain ⟨Rea, Rec, h1⟩ := owns_shape RO
    subst h1
    have BX := below_alloc w14 (.cells #[.int .i64 Z.ki, .int .i64 Z.fr, .int .i64 Z.dst, .int .i64 Z.te, .int .i64 Z.ix, .int .i64 Z.be, .slice Rea Z.es.length Rec, .int .i64 Z.co, .bool Z.ye] 28)
    have R := Box.new w14 #[.int .i64 Z.ki, .int .i64 Z.fr, .int .i64 Z.dst, .int .i64 Z.te, .int .i64 Z.ix, .int .i64 Z.be, .slice Rea Z.es.length Rec, .int .i64 Z.co, .bool Z.ye] 28
    replace hB := below_then hB BX
    replace X := X.below BX
    replace PO := owns_below PO BX
    replace P := P.below BX
    replace Q := Q.below BX
    replace QM := owns_below QM BX
    replace RO := owns_below RO BX
    clear BX
    obtain ⟨pl, p0, p1, p2, p3, p4, p5, p6, p7, p8⟩ := P.e9
    obtain ⟨ql, q0, q1, q2, q3, q4, q5, q6, q7, q8⟩ := R.e9
    go_wp2_with fail
    refine (eqMsg_same _ _ _ _ _ _ _ _ _ _ Z.es _ (ER_of_owns RO rfl) (ER_of_owns PO rfl) RL).mono ?_
    rintro e w15 ⟨rfl, hb⟩
    replace hB := below_then hB hb
    replace Q := Q.below hb
    replace QM := owns_below QM hb
    clear pl p0 p1 p2 p3 p4 p5 p6 p7 p8 ql q0 q1 q2 q3 q4 q5 q6 q7 q8
    clear hb
    obtain ⟨ql, q0, q1, q2, q3, q4, q5, q6, q7, q8⟩ := Q.e9
    go_wp2_with fail
    refine (heldMsg_own _ _ _ _ _ _ _ _ _ _ _ 1 _ QM RL (by omega) (by omega)).mono ?_
    rintro e w16 ⟨rfl, hb⟩
    replace hB := below_then hB hb
    clear ql q0 q1 q2 q3 q4 q5 q6 q7 q8
    clear hb
    go_wp2
    go_ret
    exact ⟨rfl, hB⟩
end Go.Proofs.Ytoaponagdfgfeaa
