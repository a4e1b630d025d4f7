/-
  TimeoutNode: both sides in one, and the walk of the law.
-/
import Derived.Test.YtapfhhmimkkhnaaQF
namespace Go.Proofs.Ytapfhhmimkkhnaa
open Go.RowKit
set_option linter.unusedVariables false
set_option maxRecDepth 100000

theorem run_neq_bool_same (w : World) (b : Bool) : (binOp .neq 4 (.bool b) (.bool b)).run Try.prog w = .ok (.bool false) w := by
  cases b <;> kernel_rfl
theorem OwnN.row_ne {w : World} {base b2 e2 s2 n2 : Nat} {vl vv vm v2 : Value} {log : List En} {vs mt : List Int} {ys : List Value} (h : OwnN w base vl vv vm log vs mt) (h2 : w.ownsRow b2 e2 s2 v2 n2 ys) (q1 : 34 ≠ e2) (q2 : 3 ≠ e2) : ∀ b, NB vl vv vm b → ¬ v2.ownBlock = some b := by
  rintro b (hb | hb | hb)
  · exact owns_type_ne h.l h2 q1 b hb
  · exact owns_type_ne h.v h2 q2 b hb
  · exact owns_type_ne h.m h2 q2 b hb
def tmR (ok : Bool) (id pe te co : Int) (log : List En) : Nd := if ok then tmN id pe te co log else Nd.zero
def tmQ (ok : Bool) (id pe te : Int) (log : List En) : List Mq := if ok then asksTo id (te + 1) log.length (tmAt log log.length) pe.toNat else []
theorem tmR_log (ok : Bool) (id pe te co : Int) (log : List En) : (tmR ok id pe te co log).log.length ≤ log.length := by
  unfold tmR tmN; cases ok <;> simp [Nd.zero]; split <;> simp
theorem tmR_vs (ok : Bool) (id pe te co : Int) (log : List En) : (tmR ok id pe te co log).vs.length ≤ 1 := by
  unfold tmR tmN; cases ok <;> simp [Nd.zero]; split <;> simp
theorem tmR_mt (ok : Bool) (id pe te co : Int) (log : List En) : (tmR ok id pe te co log).mt.length ≤ 1 := by
  unfold tmR tmN; cases ok <;> simp [Nd.zero]; split <;> simp
theorem tmQ_len (g : Bool) (ro id pe te : Int) (log : List En) (h : g = true → pe ≤ 7) : (tmQ (tmOk g ro te) id pe te log).length ≤ 7 := by
  unfold tmQ
  split
  · rename_i ho
    have : g = true := by simp [tmOk] at ho; exact ho.1
    have := h this
    have := asksTo_le id (te + 1) log.length (tmAt log log.length) pe.toNat
    omega
  · simp
theorem implTime_any (id pe te vo co ro : Int) (vl vv vm : Value) (log : List En) (vs mt : List Int) (base : Nat) (w : World) (ho : OwnN w base vl vv vm log vs mt) (nl : log.length ≤ 1048576) (nv : vs.length ≤ 1048576) (nm : mt.length ≤ 1048576) (ns : ∀ i (h : i < log.length), log[i].d.size ≤ 1048576) :
    Calls Try.prog 26 #[.agg #[.int .i64 id, .int .i64 pe, .int .i64 te, .int .i64 vo, vl, .int .i64 co, .int .i64 ro, vv, vm]] w fun e w' => ∃ ul uv um uq, e = .returned (.tuple #[.agg #[.int .i64 (tmR (tmOk (goodN id pe te vo co ro log vs mt) ro te) id pe te co log).id, .int .i64 (tmR (tmOk (goodN id pe te vo co ro log vs mt) ro te) id pe te co log).pe, .int .i64 (tmR (tmOk (goodN id pe te vo co ro log vs mt) ro te) id pe te co log).te, .int .i64 (tmR (tmOk (goodN id pe te vo co ro log vs mt) ro te) id pe te co log).vo, ul, .int .i64 (tmR (tmOk (goodN id pe te vo co ro log vs mt) ro te) id pe te co log).co, .int .i64 (tmR (tmOk (goodN id pe te vo co ro log vs mt) ro te) id pe te co log).ro, uv, um], uq, .bool (tmOk (goodN id pe te vo co ro log vs mt) ro te)]) ∧ OwnN w' w.heap.size ul uv um (tmR (tmOk (goodN id pe te vo co ro log vs mt) ro te) id pe te co log).log (tmR (tmOk (goodN id pe te vo co ro log vs mt) ro te) id pe te co log).vs (tmR (tmOk (goodN id pe te vo co ro log vs mt) ro te) id pe te co log).mt ∧ w'.ownsRow w.heap.size 38 9 uq (tmQ (tmOk (goodN id pe te vo co ro log vs mt) ro te) id pe te log).length (flat9 (tmQ (tmOk (goodN id pe te vo co ro log vs mt) ro te) id pe te log)) ∧ Below w.heap.size w w' := by
  by_cases h : tmOk (goodN id pe te vo co ro log vs mt) ro te = true
  · refine (implTime_yes id pe te vo co ro vl vv vm log vs mt base w ho nl nv nm ns h).mono ?_
    rintro e w' ⟨ul, uv, um, uq, rfl, O, Q, hb⟩
    refine ⟨ul, uv, um, uq, ?_, ?_, ?_, hb⟩
    · rw [h]; simp only [tmR, if_true]; unfold tmN; split <;> rfl
    · rw [h]; simp only [tmR, if_true]; rw [show (tmN id pe te co log).log = log from by unfold tmN; split <;> rfl]; exact O
    · rw [h]; simp only [tmQ, if_true]; exact Q
  · have h : tmOk (goodN id pe te vo co ro log vs mt) ro te = false := by simpa using h
    refine (implTime_no id pe te vo co ro vl vv vm log vs mt base w ho nl nv nm ns h).mono ?_
    rintro e w' ⟨ul, uv, um, rfl, O, hb⟩
    refine ⟨ul, uv, um, .slice none 0 0, ?_, ?_, ?_, hb⟩
    rotate_left
    · rw [h]; simp only [tmR, Bool.false_eq_true, if_false]; exact O
    · rw [h]; simp only [tmQ, Bool.false_eq_true, if_false]; exact World.ownsRow_nil _ _ _ _
    · rw [h]; simp only [tmR, Bool.false_eq_true, if_false]; rfl
theorem specTime_any (id pe te vo co ro : Int) (vl vv vm : Value) (log : List En) (vs mt : List Int) (base : Nat) (w : World) (ho : OwnN w base vl vv vm log vs mt) (nl : log.length ≤ 1048576) (nv : vs.length ≤ 1048576) (nm : mt.length ≤ 1048576) (ns : ∀ i (h : i < log.length), log[i].d.size ≤ 1048576) :
    Calls Try.prog 24 #[.agg #[.int .i64 id, .int .i64 pe, .int .i64 te, .int .i64 vo, vl, .int .i64 co, .int .i64 ro, vv, vm]] w fun e w' => ∃ ul uv um uq, e = .returned (.tuple #[.agg #[.int .i64 (tmR (tmOk (goodN id pe te vo co ro log vs mt) ro te) id pe te co log).id, .int .i64 (tmR (tmOk (goodN id pe te vo co ro log vs mt) ro te) id pe te co log).pe, .int .i64 (tmR (tmOk (goodN id pe te vo co ro log vs mt) ro te) id pe te co log).te, .int .i64 (tmR (tmOk (goodN id pe te vo co ro log vs mt) ro te) id pe te co log).vo, ul, .int .i64 (tmR (tmOk (goodN id pe te vo co ro log vs mt) ro te) id pe te co log).co, .int .i64 (tmR (tmOk (goodN id pe te vo co ro log vs mt) ro te) id pe te co log).ro, uv, um], uq, .bool (tmOk (goodN id pe te vo co ro log vs mt) ro te)]) ∧ OwnN w' w.heap.size ul uv um (tmR (tmOk (goodN id pe te vo co ro log vs mt) ro te) id pe te co log).log (tmR (tmOk (goodN id pe te vo co ro log vs mt) ro te) id pe te co log).vs (tmR (tmOk (goodN id pe te vo co ro log vs mt) ro te) id pe te co log).mt ∧ w'.ownsRow w.heap.size 38 9 uq (tmQ (tmOk (goodN id pe te vo co ro log vs mt) ro te) id pe te log).length (flat9 (tmQ (tmOk (goodN id pe te vo co ro log vs mt) ro te) id pe te log)) ∧ Below w.heap.size w w' := by
  by_cases h : tmOk (goodN id pe te vo co ro log vs mt) ro te = true
  · have hg : goodN id pe te vo co ro log vs mt = true := by simp [tmOk] at h; exact h.1
    obtain ⟨b0, b1, b2, b3, b4⟩ := goodN_bounds hg
    by_cases hp : 2 ≤ pe
    · refine (specTime_more id pe te vo co ro vl vv vm log vs mt base w ho nl nv nm ns h hp).mono ?_
      rintro e w' ⟨ul, uv, um, uq, rfl, O, Q, hb⟩
      have hp2 : ¬ pe < 2 := by omega
      refine ⟨ul, uv, um, uq, ?_, ?_, ?_, hb⟩
      · rw [h]; simp only [tmR, if_true, tmN, hp2, if_false]
      · rw [h]; simp only [tmR, if_true, tmN, hp2, if_false]; exact O
      · rw [h]; simp only [tmQ, if_true]; exact Q
    · obtain rfl : id = 0 := by omega
      obtain rfl : pe = 1 := by omega
      refine (specTime_one te vo co ro vl vv vm log vs mt base w ho nl nv nm ns h).mono ?_
      rintro e w' ⟨ul, um, rfl, O, hb⟩
      have hp2 : (1 : Int) < 2 := by omega
      refine ⟨ul, .slice none 0 0, um, .slice none 0 0, ?_, ?_, ?_, hb⟩
      rotate_left
      · rw [h]; simp only [tmR, if_true, tmN, hp2]; exact O
      · rw [h]; simp only [tmQ, if_true]; exact World.ownsRow_nil _ _ _ _
      · rw [h]; simp only [tmR, if_true, tmN, hp2]
  · have h : tmOk (goodN id pe te vo co ro log vs mt) ro te = false := by simpa using h
    refine (specTime_no id pe te vo co ro vl vv vm log vs mt base w ho nl nv nm ns h).mono ?_
    rintro e w' ⟨ul, uv, um, rfl, O, hb⟩
    refine ⟨ul, uv, um, .slice none 0 0, ?_, ?_, ?_, hb⟩
    rotate_left
    · rw [h]; simp only [tmR, Bool.false_eq_true, if_false]; exact O
    · rw [h]; simp only [tmQ, Bool.false_eq_true, if_false]; exact World.ownsRow_nil _ _ _ _
    · rw [h]; simp only [tmR, Bool.false_eq_true, if_false]; rfl

set_option maxHeartbeats 16000000 in
theorem lawTimeoutNode (id pe te vo co ro : Int) (vl vv vm : Value) (log : List En) (vs mt : List Int) (w : World) (hl : ER w vl log) (hv : IL w vv vs) (hm : IL w vm mt) (nl : log.length ≤ maxLen) (nv : vs.length ≤ maxLen) (nm : mt.length ≤ maxLen) (ns : ∀ i (h : i < log.length), log[i].d.size ≤ maxLen) :
    Calls Try.prog 4 #[.agg #[.int .i64 id, .int .i64 pe, .int .i64 te, .int .i64 vo, vl, .int .i64 co, .int .i64 ro, vv, vm]] w fun e w' => e = .returned (.bool true) ∧ Below w.heap.size w w' := by
  have hB := below_alloc w (.cells #[.int .i64 id, .int .i64 pe, .int .i64 te, .int .i64 vo, vl, .int .i64 co, .int .i64 ro, vv, vm] 49)
  have X := Box.new w #[.int .i64 id, .int .i64 pe, .int .i64 te, .int .i64 vo, vl, .int .i64 co, .int .i64 ro, vv, vm] 49
  have SZ := szNode_any id pe te vo co ro vl vv vm log vs mt _ (hl.below hB) (hv.below hB) (hm.below hB) nl nv nm ns
  have E1 := fun W (h : Below w.heap.size w W) => hl.below h
  have E2 := fun W (h : Below w.heap.size w W) => hv.below h
  have E3 := fun W (h : Below w.heap.size w W) => hm.below h
  obtain ⟨la, lc, rfl, hlc⟩ := hl
  obtain ⟨va, vc, rfl, hvc⟩ := hv
  obtain ⟨ma, mc, rfl, hmc⟩ := hm
  clear hlc hvc hmc ns
  go_enter Try.func4, Try.ntmps4
  go_wp2_with fail
  refine SZ.mono ?_
  rintro e w1 ⟨⟨r, rfl, hr⟩, hb⟩
  replace hB := below_then hB hb
  replace X := X.below hb
  have hz1 := X.1
  clear SZ hb
  rcases hr with rfl | ⟨hr0, hr1⟩
  · clear X E1 E2 E3
    go_wp2
    go_ret
    exact ⟨rfl, hB⟩
  have ml : log.length ≤ 1048576 := by omega
  have mv : vs.length ≤ 1048576 := by omega
  have mm : mt.length ≤ 1048576 := by omega
  have ms : ∀ i (h : i < log.length), log[i].d.size ≤ 1048576 := fun i h => by have := tot2_mem log i h; omega
  clear hr1 nl nv nm
  have T := fun W (h : Below w.heap.size w W) => toNode_any id pe te vo co ro _ _ _ log vs mt W (E1 W h) (E2 W h) (E3 W h) ml mv mm
  have S := fun (ul uv um : Value) (bs : Nat) W (h : OwnN W bs ul uv um log vs mt) => specTime_any id pe te vo co ro ul uv um log vs mt bs W h ml mv mm ms
  have I := fun (ul uv um : Value) (bs : Nat) W (h : OwnN W bs ul uv um log vs mt) => implTime_any id pe te vo co ro ul uv um log vs mt bs W h ml mv mm ms
  have RL : (tmR (tmOk (goodN id pe te vo co ro log vs mt) ro te) id pe te co log).log.length ≤ 1048576 := Nat.le_trans (tmR_log _ _ _ _ _ _) ml
  have RV : (tmR (tmOk (goodN id pe te vo co ro log vs mt) ro te) id pe te co log).vs.length ≤ 1048576 := Nat.le_trans (tmR_vs _ _ _ _ _ _) (by omega)
  have RM : (tmR (tmOk (goodN id pe te vo co ro log vs mt) ro te) id pe te co log).mt.length ≤ 1048576 := Nat.le_trans (tmR_mt _ _ _ _ _ _) (by omega)
  have RQ : (tmQ (tmOk (goodN id pe te vo co ro log vs mt) ro te) id pe te log).length ≤ 1048576 := Nat.le_trans (tmQ_len _ _ _ _ _ _ (fun h => (goodN_bounds h).2.2.1)) (by omega)
  generalize tmR (tmOk (goodN id pe te vo co ro log vs mt) ro te) id pe te co log = Z at *
  generalize tmQ (tmOk (goodN id pe te vo co ro log vs mt) ro te) id pe te log = Q9 at *
  generalize tmOk (goodN id pe te vo co ro log vs mt) ro te = ok at *
  have NBo := fun W => run_neq_bool_same W ok
  clear ms E1 E2 E3
  obtain ⟨xl, x0, x1, x2, x3, x4, x5, x6, x7, x8⟩ := X.e9
  go_wp2_with fail
  refine (T _ hB).mono ?_
  rintro e w2 ⟨g1, g2, g3, rfl, O2, hb⟩
  replace hB := below_then hB hb
  replace X := X.below hb
  clear xl x0 x1 x2 x3 x4 x5 x6 x7 x8
  have hz2 := hb.size
  clear hb
  go_wp2_with fail
  refine (S _ _ _ _ _ O2).mono ?_
  rintro e w3 ⟨P1, P2, P3, U1, rfl, PO, UW, hb⟩
  replace hB := below_then hB hb
  replace X := X.below hb
  have hz3 := hb.size
  clear hb S O2
  have gP := fun b hb => (PO.lt b hb).1
  have lP := fun b hb => (PO.lt b hb).2
  have gU := owns_ge UW
  have lU := owns_below_lt UW
  obtain ⟨⟨Pla, Plc, h1⟩, ⟨Pva, Pvc, h2⟩, Pma, Pmc, h3⟩ := PO.shapes
  subst h1
  subst h2
  subst h3
  obtain ⟨Ua, Uc, h1⟩ := owns_shape UW
  subst h1
  have BX := below_alloc w3 (.cells #[.int .i64 Z.id, .int .i64 Z.pe, .int .i64 Z.te, .int .i64 Z.vo, .slice Pla Z.log.length Plc, .int .i64 Z.co, .int .i64 Z.ro, .slice Pva Z.vs.length Pvc, .slice Pma Z.mt.length Pmc] 26)
  have P := Box.new w3 #[.int .i64 Z.id, .int .i64 Z.pe, .int .i64 Z.te, .int .i64 Z.vo, .slice Pla Z.log.length Plc, .int .i64 Z.co, .int .i64 Z.ro, .slice Pva Z.vs.length Pvc, .slice Pma Z.mt.length Pmc] 26
  replace hB := below_then hB BX
  replace X := X.below BX
  replace PO := PO.below BX
  replace UW := owns_below UW BX
  clear BX
  have hpl := P.1
  obtain ⟨xl, x0, x1, x2, x3, x4, x5, x6, x7, x8⟩ := X.e9
  go_wp2_with fail
  refine (T _ hB).mono ?_
  rintro e w4 ⟨g4, g5, g6, rfl, AO, hb⟩
  replace hB := below_then hB hb
  replace X := X.below hb
  replace PO := PO.below hb
  replace UW := owns_below UW hb
  replace P := P.below hb
  clear xl x0 x1 x2 x3 x4 x5 x6 x7 x8
  have hz4 := hb.size
  simp only [World.size_alloc] at hz4 hpl
  clear hb
  have gA := fun b hb => (AO.lt b hb).1
  have lA := fun b hb => (AO.lt b hb).2
  simp only [World.size_alloc] at gA
  have BX := below_alloc w4 (.cells #[.int .i64 id, .int .i64 pe, .int .i64 te, .int .i64 vo, .slice (some ⟨g4, 0, none⟩) log.length log.length, .int .i64 co, .int .i64 ro, .slice (some ⟨g5, 0, none⟩) vs.length vs.length, .slice (some ⟨g6, 0, none⟩) mt.length mt.length] 26)
  have A := Box.new w4 #[.int .i64 id, .int .i64 pe, .int .i64 te, .int .i64 vo, .slice (some ⟨g4, 0, none⟩) log.length log.length, .int .i64 co, .int .i64 ro, .slice (some ⟨g5, 0, none⟩) vs.length vs.length, .slice (some ⟨g6, 0, none⟩) mt.length mt.length] 26
  replace hB := below_then hB BX
  replace X := X.below BX
  replace PO := PO.below BX
  replace UW := owns_below UW BX
  replace P := P.below BX
  replace AO := AO.below BX
  clear BX
  go_wp2_with fail
  refine (I _ _ _ _ _ AO).mono ?_
  rintro e w5 ⟨Q1, Q2, Q3, V1, rfl, QO, VW, hb⟩
  replace hB := below_then hB hb
  replace X := X.below hb
  replace PO := PO.below hb
  replace UW := owns_below UW hb
  replace P := P.below hb
  replace AO := AO.below hb
  replace A := A.below hb
  have hz5 := hb.size
  simp only [World.size_alloc] at hz5
  clear hb
  have gQ := fun b hb => (QO.lt b hb).1
  have lQ := fun b hb => (QO.lt b hb).2
  have gV := owns_ge VW
  have lV := owns_below_lt VW
  have QN := QO.row_ne VW (by decide) (by decide)
  simp only [World.size_alloc] at gQ gV
  obtain ⟨⟨Qla, Qlc, h1⟩, ⟨Qva, Qvc, h2⟩, Qma, Qmc, h3⟩ := QO.shapes
  subst h1
  subst h2
  subst h3
  obtain ⟨Va, Vc, h1⟩ := owns_shape VW
  subst h1
  have BX := below_alloc w5 (.cells #[.int .i64 Z.id, .int .i64 Z.pe, .int .i64 Z.te, .int .i64 Z.vo, .slice Qla Z.log.length Qlc, .int .i64 Z.co, .int .i64 Z.ro, .slice Qva Z.vs.length Qvc, .slice Qma Z.mt.length Qmc] 26)
  have Q := Box.new w5 #[.int .i64 Z.id, .int .i64 Z.pe, .int .i64 Z.te, .int .i64 Z.vo, .slice Qla Z.log.length Qlc, .int .i64 Z.co, .int .i64 Z.ro, .slice Qva Z.vs.length Qvc, .slice Qma Z.mt.length Qmc] 26
  replace hB := below_then hB BX
  replace X := X.below BX
  replace PO := PO.below BX
  replace UW := owns_below UW BX
  replace P := P.below BX
  replace AO := AO.below BX
  replace A := A.below BX
  replace QO := QO.below BX
  replace VW := owns_below VW BX
  clear BX
  have hql := Q.1
  simp only [World.size_alloc] at hql
  obtain ⟨pl, p0, p1, p2, p3, p4, p5, p6, p7, p8⟩ := P.e9
  obtain ⟨ql, q0, q1, q2, q3, q4, q5, q6, q7, q8⟩ := Q.e9
  go_wp2_with fail
  refine (eqNode_same _ _ _ _ _ _ _ _ _ _ _ _ Z.log Z.vs Z.mt _ QO.er QO.iv QO.im PO.er PO.iv PO.im RL RV RM).mono ?_
  rintro e w6 ⟨rfl, hb⟩
  replace hB := below_then hB hb
  replace X := X.below hb
  replace PO := PO.below hb
  replace UW := owns_below UW hb
  replace P := P.below hb
  replace AO := AO.below hb
  replace A := A.below hb
  replace QO := QO.below hb
  replace VW := owns_below VW hb
  replace Q := Q.below hb
  clear pl p0 p1 p2 p3 p4 p5 p6 p7 p8 ql q0 q1 q2 q3 q4 q5 q6 q7 q8
  have hzw6 := hb.size
  simp only [World.size_alloc] at hzw6
  clear hb
  go_wp2_with fail
  refine (eqMsgS_same _ _ Q9 _ (MR_of_owns VW rfl) (MR_of_owns UW rfl) RQ).mono ?_
  rintro e w6q ⟨rfl, hb⟩
  replace hB := below_then hB hb
  replace X := X.below hb
  replace PO := PO.below hb
  replace UW := owns_below UW hb
  replace P := P.below hb
  replace AO := AO.below hb
  replace A := A.below hb
  replace QO := QO.below hb
  replace VW := owns_below VW hb
  replace Q := Q.below hb
  have hzw6q := hb.size
  clear hb
  obtain ⟨pl, p0, p1, p2, p3, p4, p5, p6, p7, p8⟩ := X.e9
  obtain ⟨ql, q0, q1, q2, q3, q4, q5, q6, q7, q8⟩ := A.e9
  go_wp2_with fail
  go_region_held3 (fun w' => (w'.cell? ⟨w.heap.size, 0, none⟩ = some (.int .i64 id) ∧ w'.cell? ⟨w.heap.size, 1, none⟩ = some (.int .i64 pe) ∧ w'.cell? ⟨w.heap.size, 2, none⟩ = some (.int .i64 te) ∧ w'.cell? ⟨w.heap.size, 3, none⟩ = some (.int .i64 vo) ∧ w'.cell? ⟨w.heap.size, 4, none⟩ = some (.slice la log.length lc) ∧ w'.cell? ⟨w.heap.size, 5, none⟩ = some (.int .i64 co) ∧ w'.cell? ⟨w.heap.size, 6, none⟩ = some (.int .i64 ro) ∧ w'.cell? ⟨w.heap.size, 7, none⟩ = some (.slice va vs.length vc) ∧ w'.cell? ⟨w.heap.size, 8, none⟩ = some (.slice ma mt.length mc)) ∧ w'.cell? ⟨w4.heap.size, 0, none⟩ = some (.int .i64 id) ∧ w'.cell? ⟨w4.heap.size, 1, none⟩ = some (.int .i64 pe) ∧ w'.cell? ⟨w4.heap.size, 2, none⟩ = some (.int .i64 te) ∧ w'.cell? ⟨w4.heap.size, 3, none⟩ = some (.int .i64 vo) ∧ w'.cell? ⟨w4.heap.size, 4, none⟩ = some (.slice (some ⟨g4, 0, none⟩) log.length log.length) ∧ w'.cell? ⟨w4.heap.size, 5, none⟩ = some (.int .i64 co) ∧ w'.cell? ⟨w4.heap.size, 6, none⟩ = some (.int .i64 ro) ∧ w'.cell? ⟨w4.heap.size, 7, none⟩ = some (.slice (some ⟨g5, 0, none⟩) vs.length vs.length) ∧ w'.cell? ⟨w4.heap.size, 8, none⟩ = some (.slice (some ⟨g6, 0, none⟩) mt.length mt.length)) (go_keep) (first | (go_at_call 25; refine (T _ hB.drew).mono ?_; rintro e w7 ⟨g7, g8, g9, rfl, O7, hb7'⟩; have hb7 := below_undrew hb7'; have p0 := (X.below hb7).2.1 0 _ rfl; have p1 := (X.below hb7).2.1 1 _ rfl; have p2 := (X.below hb7).2.1 2 _ rfl; have p3 := (X.below hb7).2.1 3 _ rfl; have p4 := (X.below hb7).2.1 4 _ rfl; have p5 := (X.below hb7).2.1 5 _ rfl; have p6 := (X.below hb7).2.1 6 _ rfl; have p7 := (X.below hb7).2.1 7 _ rfl; have p8 := (X.below hb7).2.1 8 _ rfl; have q0 := (A.below hb7).2.1 0 _ rfl; have q1 := (A.below hb7).2.1 1 _ rfl; have q2 := (A.below hb7).2.1 2 _ rfl; have q3 := (A.below hb7).2.1 3 _ rfl; have q4 := (A.below hb7).2.1 4 _ rfl; have q5 := (A.below hb7).2.1 5 _ rfl; have q6 := (A.below hb7).2.1 6 _ rfl; have q7 := (A.below hb7).2.1 7 _ rfl; have q8 := (A.below hb7).2.1 8 _ rfl) | (go_at_call 27; refine (eqNode_same _ _ _ _ _ _ _ _ _ _ _ _ log vs mt _ (AO.er.below hb7) (AO.iv.below hb7) (AO.im.below hb7) O7.er O7.iv O7.im ml mv mm).mono ?_; rintro e w8 ⟨rfl, hb8⟩; have p0 := (X.below (below_then hb7 hb8)).2.1 0 _ rfl; have p1 := (X.below (below_then hb7 hb8)).2.1 1 _ rfl; have p2 := (X.below (below_then hb7 hb8)).2.1 2 _ rfl; have p3 := (X.below (below_then hb7 hb8)).2.1 3 _ rfl; have p4 := (X.below (below_then hb7 hb8)).2.1 4 _ rfl; have p5 := (X.below (below_then hb7 hb8)).2.1 5 _ rfl; have p6 := (X.below (below_then hb7 hb8)).2.1 6 _ rfl; have p7 := (X.below (below_then hb7 hb8)).2.1 7 _ rfl; have p8 := (X.below (below_then hb7 hb8)).2.1 8 _ rfl; have q0 := (A.below (below_then hb7 hb8)).2.1 0 _ rfl; have q1 := (A.below (below_then hb7 hb8)).2.1 1 _ rfl; have q2 := (A.below (below_then hb7 hb8)).2.1 2 _ rfl; have q3 := (A.below (below_then hb7 hb8)).2.1 3 _ rfl; have q4 := (A.below (below_then hb7 hb8)).2.1 4 _ rfl; have q5 := (A.below (below_then hb7 hb8)).2.1 5 _ rfl; have q6 := (A.below (below_then hb7 hb8)).2.1 6 _ rfl; have q7 := (A.below (below_then hb7 hb8)).2.1 7 _ rfl; have q8 := (A.below (below_then hb7 hb8)).2.1 8 _ rfl))
  all_goals
    have hb78 := below_then hb7 hb8
    replace hB := below_then hB hb78
    replace X := X.below hb78
    replace PO := PO.below hb78
    replace UW := owns_below UW hb78
    replace P := P.below hb78
    replace AO := AO.below hb78
    replace A := A.below hb78
    replace QO := QO.below hb78
    replace VW := owns_below VW hb78
    replace Q := Q.below hb78
    have hzw8 := hb78.size
    clear hb7' hb7 hb8 hb78 O7
    clear pl p0 p1 p2 p3 p4 p5 p6 p7 p8 ql q0 q1 q2 q3 q4 q5 q6 q7 q8
    obtain ⟨ql, q0, q1, q2, q3, q4, q5, q6, q7, q8⟩ := A.e9
    go_wp2_with fail
    refine (markNode_own _ _ _ _ _ _ _ _ _ log vs mt _ 1 _ AO ml mv mm (by omega) (by omega)).mono ?_
    rintro e w9 ⟨rfl, _, hc⟩
    clear ql q0 q1 q2 q3 q4 q5 q6 q7 q8
    replace hB := hB.trans (hc.below (B := w.heap.size) (by omega) (fun b h => by rcases h with h | h <;> (try (have := gA _ h; have := lA _ h)) <;> omega))
    replace X := hc.box X (fun h => by rcases h with h | h <;> (try (have := gA _ h; have := lA _ h)) <;> omega)
    replace PO := PO.chg hc (fun b hb h => by have := gP b hb; have := lP b hb; rcases h with h | h <;> (try (have := gA _ h; have := lA _ h)) <;> omega)
    replace UW := hc.owns UW (fun b hb h => by have := gU b hb; have := lU b hb; rcases h with h | h <;> (try (have := gA _ h; have := lA _ h)) <;> omega)
    replace P := hc.box P (fun h => by rcases h with h | h <;> (try (have := gA _ h; have := lA _ h)) <;> omega)
    replace QO := QO.chg hc (fun b hb h => by have := gQ b hb; have := lQ b hb; rcases h with h | h <;> (try (have := gA _ h; have := lA _ h)) <;> omega)
    replace VW := hc.owns VW (fun b hb h => by have := gV b hb; have := lV b hb; rcases h with h | h <;> (try (have := gA _ h; have := lA _ h)) <;> omega)
    replace Q := hc.box Q (fun h => by rcases h with h | h <;> (try (have := gA _ h; have := lA _ h)) <;> omega)
    have hzw9 := hc.size
    clear hc AO A gA lA
    have hk1 : ¬ (1 : Int) + 2 * (log.length : Int) + vs.length + mt.length < 0 := by omega
    obtain ⟨pl, p0, p1, p2, p3, p4, p5, p6, p7, p8⟩ := P.e9
    obtain ⟨ql, q0, q1, q2, q3, q4, q5, q6, q7, q8⟩ := Q.e9
    go_wp2_with fail
    refine (eqNode_same _ _ _ _ _ _ _ _ _ _ _ _ Z.log Z.vs Z.mt _ QO.er QO.iv QO.im PO.er PO.iv PO.im RL RV RM).mono ?_
    rintro e w10 ⟨rfl, hb⟩
    replace hB := below_then hB hb
    replace X := X.below hb
    replace PO := PO.below hb
    replace UW := owns_below UW hb
    replace P := P.below hb
    replace QO := QO.below hb
    replace VW := owns_below VW hb
    replace Q := Q.below hb
    clear pl p0 p1 p2 p3 p4 p5 p6 p7 p8 ql q0 q1 q2 q3 q4 q5 q6 q7 q8
    have hzw10 := hb.size
    skip
    clear hb
    go_wp2_with fail
    refine (eqMsgS_same _ _ Q9 _ (MR_of_owns VW rfl) (MR_of_owns UW rfl) RQ).mono ?_
    rintro e w10q ⟨rfl, hb⟩
    replace hB := below_then hB hb
    replace X := X.below hb
    replace PO := PO.below hb
    replace UW := owns_below UW hb
    replace P := P.below hb
    replace QO := QO.below hb
    replace VW := owns_below VW hb
    replace Q := Q.below hb
    have hzw10q := hb.size
    clear hb
    obtain ⟨ql, q0, q1, q2, q3, q4, q5, q6, q7, q8⟩ := Q.e9
    go_wp2_with fail
    refine (markNode_own _ _ _ _ _ _ _ _ _ Z.log Z.vs Z.mt _ 1 _ QO RL RV RM (by omega) (by omega)).mono ?_
    rintro e w11 ⟨rfl, QM, hc⟩
    clear ql q0 q1 q2 q3 q4 q5 q6 q7 q8
    replace VW := hc.owns VW (fun b hb h => by rcases h with h | h; exact QN _ h hb; have := lV b hb; omega)
    replace hB := hB.trans (hc.below (B := w.heap.size) (by omega) (fun b h => by rcases h with h | h <;> (try (have := gQ _ h; have := lQ _ h)) <;> omega))
    replace X := hc.box X (fun h => by rcases h with h | h <;> (try (have := gQ _ h; have := lQ _ h)) <;> omega)
    replace PO := PO.chg hc (fun b hb h => by have := gP b hb; have := lP b hb; rcases h with h | h <;> (try (have := gQ _ h; have := lQ _ h)) <;> omega)
    replace UW := hc.owns UW (fun b hb h => by have := gU b hb; have := lU b hb; rcases h with h | h <;> (try (have := gQ _ h; have := lQ _ h)) <;> omega)
    replace P := hc.box P (fun h => by rcases h with h | h <;> (try (have := gQ _ h; have := lQ _ h)) <;> omega)
    replace Q := hc.box Q (fun h => by rcases h with h | h <;> (try (have := gQ _ h; have := lQ _ h)) <;> omega)
    have hzw11 := hc.size
    clear hc QO
    obtain ⟨m1, hm1⟩ : ∃ m1 : Int, m1 = (1 : Int) + 2 * (Z.log.length : Int) + Z.vs.length + Z.mt.length := ⟨_, rfl⟩
    rw [← hm1]
    have hm2 : 1 ≤ m1 := by omega
    have hm3 : m1 ≤ 40000000 := by omega
    have HM1 : Hid (m1 = (1 : Int) + 2 * (Z.log.length : Int) + Z.vs.length + Z.mt.length) := hm1
    clear hm1
    go_wp2_with fail
    refine (markMsgS_own _ _ Q9 m1 _ VW RQ hm2 hm3).mono ?_
    rintro e w11q ⟨rfl, VM, hc⟩
    replace QM := QM.chg hc (fun b hb h => QN b hb h)
    replace hB := hB.trans (hc.below (B := w.heap.size) (by omega) (fun b h => by have := gV _ h; have := lV _ h; omega))
    replace X := hc.box X (fun h => by have := gV _ h; have := lV _ h; omega)
    replace PO := PO.chg hc (fun b hb h => by have := gP b hb; have := lP b hb; have := gV _ h; have := lV _ h; omega)
    replace UW := hc.owns UW (fun b hb h => by have := gU b hb; have := lU b hb; have := gV _ h; have := lV _ h; omega)
    replace P := hc.box P (fun h => by have := gV _ h; have := lV _ h; omega)
    replace Q := hc.box Q (fun h => by have := gV _ h; have := lV _ h; omega)
    have hzw11q := hc.size
    clear hc VW
    have hk0 : ¬ m1 < 0 := by omega
    have hk2 : ¬ m1 + 8 * (Q9.length : Int) < 0 := by omega
    obtain ⟨ql, q0, q1, q2, q3, q4, q5, q6, q7, q8⟩ := Q.e9
    go_wp2_with fail
    refine (heldNode_own _ _ _ _ _ _ _ _ _ _ _ _ _ 1 _ QM RL RV RM (by omega) (by omega)).mono ?_
    rintro e w12 ⟨rfl, hb⟩
    replace hB := below_then hB hb
    replace X := X.below hb
    replace PO := PO.below hb
    replace UW := owns_below UW hb
    replace P := P.below hb
    replace Q := Q.below hb
    replace QM := QM.below hb
    replace VM := owns_below VM hb
    clear ql q0 q1 q2 q3 q4 q5 q6 q7 q8
    have hzw12 := hb.size
    clear hb
    rw [← HM1.out]
    go_wp2_with fail
    refine (heldMsgS_at _ Q9.length m1 _ (MR_of_owns VM (mkQs_length _ _).symm) RQ hm2 hm3).mono ?_
    rintro e w12q ⟨rfl, hb⟩
    replace hB := below_then hB hb
    replace X := X.below hb
    replace PO := PO.below hb
    replace UW := owns_below UW hb
    replace P := P.below hb
    replace Q := Q.below hb
    replace QM := QM.below hb
    replace VM := owns_below VM hb
    have hzw12q := hb.size
    clear hb
    obtain ⟨xl, x0, x1, x2, x3, x4, x5, x6, x7, x8⟩ := X.e9
    go_wp2_with fail
    refine (T _ hB).mono ?_
    rintro e w13 ⟨h1, h2, h3, rfl, O3, hb⟩
    replace hB := below_then hB hb
    replace X := X.below hb
    replace PO := PO.below hb
    replace UW := owns_below UW hb
    replace P := P.below hb
    replace Q := Q.below hb
    replace QM := QM.below hb
    replace VM := owns_below VM hb
    clear xl x0 x1 x2 x3 x4 x5 x6 x7 x8
    have hzw13 := hb.size
    clear hb T
    go_wp2_with fail
    refine (I _ _ _ _ _ O3).mono ?_
    rintro e w14 ⟨R1, R2, R3, Y1, rfl, RO, YW, hb⟩
    replace hB := below_then hB hb
    replace X := X.below hb
    replace PO := PO.below hb
    replace UW := owns_below UW hb
    replace P := P.below hb
    replace Q := Q.below hb
    replace QM := QM.below hb
    replace VM := owns_below VM hb
    clear hb I O3
    obtain ⟨⟨Rla, Rlc, h1⟩, ⟨Rva, Rvc, h2⟩, Rma, Rmc, h3⟩ := RO.shapes
    subst h1
    subst h2
    subst h3
    obtain ⟨Ya, Yc, h1⟩ := owns_shape YW
    subst h1
    have BX := below_alloc w14 (.cells #[.int .i64 Z.id, .int .i64 Z.pe, .int .i64 Z.te, .int .i64 Z.vo, .slice Rla Z.log.length Rlc, .int .i64 Z.co, .int .i64 Z.ro, .slice Rva Z.vs.length Rvc, .slice Rma Z.mt.length Rmc] 26)
    have R := Box.new w14 #[.int .i64 Z.id, .int .i64 Z.pe, .int .i64 Z.te, .int .i64 Z.vo, .slice Rla Z.log.length Rlc, .int .i64 Z.co, .int .i64 Z.ro, .slice Rva Z.vs.length Rvc, .slice Rma Z.mt.length Rmc] 26
    replace hB := below_then hB BX
    replace X := X.below BX
    replace PO := PO.below BX
    replace UW := owns_below UW BX
    replace P := P.below BX
    replace Q := Q.below BX
    replace QM := QM.below BX
    replace VM := owns_below VM BX
    replace RO := RO.below BX
    replace YW := owns_below YW BX
    clear BX
    obtain ⟨pl, p0, p1, p2, p3, p4, p5, p6, p7, p8⟩ := P.e9
    obtain ⟨ql, q0, q1, q2, q3, q4, q5, q6, q7, q8⟩ := R.e9
    go_wp2_with fail
    refine (eqNode_same _ _ _ _ _ _ _ _ _ _ _ _ Z.log Z.vs Z.mt _ RO.er RO.iv RO.im PO.er PO.iv PO.im RL RV RM).mono ?_
    rintro e w15 ⟨rfl, hb⟩
    replace hB := below_then hB hb
    replace UW := owns_below UW hb
    replace Q := Q.below hb
    replace QM := QM.below hb
    replace VM := owns_below VM hb
    replace YW := owns_below YW hb
    clear pl p0 p1 p2 p3 p4 p5 p6 p7 p8 ql q0 q1 q2 q3 q4 q5 q6 q7 q8
    clear hb
    go_wp2_with fail
    refine (eqMsgS_same _ _ Q9 _ (MR_of_owns YW rfl) (MR_of_owns UW rfl) RQ).mono ?_
    rintro e w15q ⟨rfl, hb⟩
    replace hB := below_then hB hb
    replace UW := owns_below UW hb
    replace Q := Q.below hb
    replace QM := QM.below hb
    replace VM := owns_below VM hb
    replace YW := owns_below YW hb
    clear hb
    clear YW UW
    obtain ⟨ql, q0, q1, q2, q3, q4, q5, q6, q7, q8⟩ := Q.e9
    go_wp2_with fail
    refine (heldNode_own _ _ _ _ _ _ _ _ _ _ _ _ _ 1 _ QM RL RV RM (by omega) (by omega)).mono ?_
    rintro e w16 ⟨rfl, hb⟩
    replace hB := below_then hB hb
    replace Q := Q.below hb
    replace QM := QM.below hb
    replace VM := owns_below VM hb
    clear ql q0 q1 q2 q3 q4 q5 q6 q7 q8
    clear hb
    rw [← HM1.out]
    go_wp2_with fail
    refine (heldMsgS_at _ Q9.length m1 _ (MR_of_owns VM (mkQs_length _ _).symm) RQ hm2 hm3).mono ?_
    rintro e w16q ⟨rfl, hb⟩
    replace hB := below_then hB hb
    replace Q := Q.below hb
    replace QM := QM.below hb
    replace VM := owns_below VM hb
    clear hb
    go_wp2
    go_ret
    exact ⟨rfl, hB⟩
end Go.Proofs.Ytapfhhmimkkhnaa
