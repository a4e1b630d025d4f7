/-
  A node is good: the program's hasGoodRole and GoodNode.
  A node is good: the program's GoodNode.
-/
import Derived.Test.YtapfhhmimkkhnaaP3
namespace Go.Proofs.Ytapfhhmimkkhnaa
open Go.RowKit
set_option linter.unusedVariables false
set_option maxRecDepth 100000

theorem goodRo_0 (id pe te vo n : Int) (vs mt : List Int) : goodRo id pe te vo 0 n vs mt = (decide ((vs.length : Int) = 0) && decide ((mt.length : Int) = 0)) := by simp [goodRo]
theorem goodRo_1 (id pe te vo n : Int) (vs mt : List Int) : goodRo id pe te vo 1 n vs mt = (ownT id te vo && goodVs pe id vs && decide ((mt.length : Int) = 0)) := by simp [goodRo]
theorem goodRo_2 (id pe te vo n : Int) (vs mt : List Int) : goodRo id pe te vo 2 n vs mt = (ownT id te vo && decide ((vs.length : Int) = 0) && goodMt pe id n mt) := by simp [goodRo]
theorem goodRo_x (id pe te vo ro n : Int) (vs mt : List Int) (h0 : ¬ ro = 0) (h1 : ¬ ro = 1) (h2 : ¬ ro = 2) : goodRo id pe te vo ro n vs mt = false := by simp [goodRo, h0, h1, h2]

set_option maxHeartbeats 4000000 in
theorem hasGoodRole_any (id pe te vo co ro : Int) (vl vv vm : Value) (log : List En) (vs mt : List Int) (w : World) (hl : ER w vl log) (hv : IL w vv vs) (hm : IL w vm mt) (nl : log.length ≤ 1048576) (nv : vs.length ≤ 1048576) (nm : mt.length ≤ 1048576) (ns : ∀ i (h : i < log.length), log[i].d.size ≤ 1048576) (hi0 : 0 ≤ id) (hi1 : id < pe) :
    Calls Try.prog 111 #[.agg #[.int .i64 id, .int .i64 pe, .int .i64 te, .int .i64 vo, vl, .int .i64 co, .int .i64 ro, vv, vm]] w fun e w' => e = .returned (.bool (goodRo id pe te vo ro log.length vs mt)) ∧ Below w.heap.size w w' := by
  have hB := below_alloc w (.cells #[.int .i64 id, .int .i64 pe, .int .i64 te, .int .i64 vo, vl, .int .i64 co, .int .i64 ro, vv, vm] 26)
  have X := Box.new w #[.int .i64 id, .int .i64 pe, .int .i64 te, .int .i64 vo, vl, .int .i64 co, .int .i64 ro, vv, vm] 26
  by_cases r0 : ro = 0
  · subst r0
    have HR : Hid (goodRo id pe te vo 0 log.length vs mt = (decide ((vs.length : Int) = 0) && decide ((mt.length : Int) = 0))) := goodRo_0 _ _ _ _ _ _ _
    generalize goodRo id pe te vo 0 log.length vs mt = R at *
    obtain ⟨la, lc, rfl, hlc⟩ := hl
    obtain ⟨va, vc, rfl, hvc⟩ := hv
    obtain ⟨ma, mc, rfl, hmc⟩ := hm
    clear hlc hvc hmc ns X nv nm
    generalize vs.length = a1 at *
    generalize mt.length = a2 at *
    rcases Nat.eq_zero_or_pos a1 with rfl | z1
    · rcases Nat.eq_zero_or_pos a2 with rfl | z2
      · go_enter Try.func111, Try.ntmps111
        go_wp2
        go_ret
        exact ⟨by rw [HR.out]; rfl, hB⟩
      · have z3 : ((a2 : Int) == 0) = false := by simp; omega
        have z4 : ¬ (a2 : Int) = 0 := by omega
        go_enter Try.func111, Try.ntmps111
        go_wp2
        go_ret
        exact ⟨by rw [HR.out, decide_eq_false z4]; rfl, hB⟩
    · have z3 : ((a1 : Int) == 0) = false := by simp; omega
      have z4 : ¬ (a1 : Int) = 0 := by omega
      go_enter Try.func111, Try.ntmps111
      go_wp2
      go_ret
      exact ⟨by rw [HR.out, decide_eq_false z4]; rfl, hB⟩
  by_cases r1 : ro = 1
  · subst r1
    have HR : Hid (goodRo id pe te vo 1 log.length vs mt = (ownT id te vo && goodVs pe id vs && decide ((mt.length : Int) = 0))) := goodRo_1 _ _ _ _ _ _ _
    have KV := fun W (h : Below w.heap.size w W) => hasGoodVotes_any id pe te vo co 1 vl vv vm log vs mt W (hl.below h) (hv.below h) (hm.below h) nl nv nm ns
    have KO := fun W => isOwnTerm_any id pe te vo co 1 vl vv vm W
    generalize goodRo id pe te vo 1 log.length vs mt = R at *
    obtain ⟨la, lc, rfl, hlc⟩ := hl
    obtain ⟨va, vc, rfl, hvc⟩ := hv
    obtain ⟨ma, mc, rfl, hmc⟩ := hm
    clear hlc hvc hmc ns r0
    generalize ownT id te vo = bo at *
    generalize goodVs pe id vs = bv at *
    clear nv nm
    generalize vs.length = a1 at *
    generalize mt.length = a2 at *
    go_enter Try.func111, Try.ntmps111
    go_wp2_with fail
    refine (KO _).mono ?_
    rintro e w1 ⟨rfl, hb1⟩
    replace hB := below_then hB hb1
    replace X := X.below hb1
    obtain ⟨hxl, x0, x1, x2, x3, x4, x5, x6, x7, x8⟩ := X.e9
    clear hb1 KO
    cases bo with
    | false =>
      go_wp2
      go_ret
      exact ⟨by rw [HR.out]; rfl, hB⟩
    | true =>
      go_wp2_with fail
      refine (KV _ hB).mono ?_
      rintro e w2 ⟨rfl, hb2⟩
      replace hB := below_then hB hb2
      replace X := X.below hb2
      clear hb2 KV x0 x1 x2 x3 x4 x5 x6 x7 x8 hxl
      obtain ⟨hxl, x0, x1, x2, x3, x4, x5, x6, x7, x8⟩ := X.e9
      cases bv with
      | false =>
        go_wp2
        go_ret
        exact ⟨by rw [HR.out]; rfl, hB⟩
      | true =>
        rcases Nat.eq_zero_or_pos a2 with rfl | z2
        · go_wp2
          go_ret
          exact ⟨by rw [HR.out]; rfl, hB⟩
        · have z3 : ((a2 : Int) == 0) = false := by simp; omega
          have z4 : ¬ (a2 : Int) = 0 := by omega
          go_wp2
          go_ret
          exact ⟨by rw [HR.out, decide_eq_false z4]; rfl, hB⟩
  by_cases r2 : ro = 2
  · subst r2
    have HR : Hid (goodRo id pe te vo 2 log.length vs mt = (ownT id te vo && decide ((vs.length : Int) = 0) && goodMt pe id log.length mt)) := goodRo_2 _ _ _ _ _ _ _
    have KM := fun W (h : Below w.heap.size w W) => hasGoodMatch_any id pe te vo co 2 vl vv vm log vs mt W (hl.below h) (hv.below h) (hm.below h) nl nv nm ns hi0 hi1
    have KO := fun W => isOwnTerm_any id pe te vo co 2 vl vv vm W
    generalize goodRo id pe te vo 2 log.length vs mt = R at *
    obtain ⟨la, lc, rfl, hlc⟩ := hl
    obtain ⟨va, vc, rfl, hvc⟩ := hv
    obtain ⟨ma, mc, rfl, hmc⟩ := hm
    clear hlc hvc hmc ns r0 r1
    generalize ownT id te vo = bo at *
    generalize goodMt pe id log.length mt = bm at *
    clear nv nm
    generalize vs.length = a1 at *
    generalize mt.length = a2 at *
    go_enter Try.func111, Try.ntmps111
    go_wp2_with fail
    refine (KO _).mono ?_
    rintro e w1 ⟨rfl, hb1⟩
    replace hB := below_then hB hb1
    replace X := X.below hb1
    obtain ⟨hxl, x0, x1, x2, x3, x4, x5, x6, x7, x8⟩ := X.e9
    clear hb1 KO
    cases bo with
    | false =>
      go_wp2
      go_ret
      exact ⟨by rw [HR.out]; rfl, hB⟩
    | true =>
      rcases Nat.eq_zero_or_pos a1 with rfl | z1
      · go_wp2_with fail
        refine (KM _ hB).mono ?_
        rintro e w2 ⟨rfl, hb2⟩
        replace hB := below_then hB hb2
        clear hb2 KM
        go_wp2
        go_ret
        exact ⟨by rw [HR.out]; rfl, hB⟩
      · have z3 : ((a1 : Int) == 0) = false := by simp; omega
        have z4 : ¬ (a1 : Int) = 0 := by omega
        go_wp2
        go_ret
        exact ⟨by rw [HR.out, decide_eq_false z4]; rfl, hB⟩
  · have HR : Hid (goodRo id pe te vo ro log.length vs mt = false) := goodRo_x _ _ _ _ _ _ _ _ r0 r1 r2
    generalize goodRo id pe te vo ro log.length vs mt = R at *
    obtain ⟨la, lc, rfl, hlc⟩ := hl
    obtain ⟨va, vc, rfl, hvc⟩ := hv
    obtain ⟨ma, mc, rfl, hmc⟩ := hm
    clear hlc hvc hmc ns X
    go_enter Try.func111, Try.ntmps111
    go_wp2
    go_ret
    exact ⟨by rw [HR.out]; try rfl, hB⟩

end Go.Proofs.Ytapfhhmimkkhnaa

namespace Go.Proofs.Ytapfhhmimkkhnaa
open Go.RowKit
set_option linter.unusedVariables false
set_option maxRecDepth 100000

set_option maxHeartbeats 8000000 in
theorem implGoodN_any (id pe te vo co ro : Int) (vl vv vm : Value) (log : List En) (vs mt : List Int) (w : World) (hl : ER w vl log) (hv : IL w vv vs) (hm : IL w vm mt) (nl : log.length ≤ 1048576) (nv : vs.length ≤ 1048576) (nm : mt.length ≤ 1048576) (ns : ∀ i (h : i < log.length), log[i].d.size ≤ 1048576) :
    Calls Try.prog 56 #[.agg #[.int .i64 id, .int .i64 pe, .int .i64 te, .int .i64 vo, vl, .int .i64 co, .int .i64 ro, vv, vm]] w fun e w' => e = .returned (.bool (goodN id pe te vo co ro log vs mt)) ∧ Below w.heap.size w w' := by
  have hB := below_alloc w (.cells #[.int .i64 id, .int .i64 pe, .int .i64 te, .int .i64 vo, vl, .int .i64 co, .int .i64 ro, vv, vm] 26)
  have X := Box.new w #[.int .i64 id, .int .i64 pe, .int .i64 te, .int .i64 vo, vl, .int .i64 co, .int .i64 ro, vv, vm] 26
  have HO : Hid (goodN id pe te vo co ro log vs mt = (decide (1 ≤ pe) && decide (pe ≤ 7) && isP id pe && decide (0 ≤ te) && decide (te ≤ 1000) && (decide (vo = -1) || isP vo pe) && decide ((log.length : Int) ≤ 60) && gE te 0 log && decide (0 ≤ co) && decide (co ≤ (log.length : Int)) && goodRo id pe te vo ro log.length vs mt)) := rfl
  have KR := fun (hi : isP id pe = true) W (h : Below w.heap.size w W) => hasGoodRole_any id pe te vo co ro vl vv vm log vs mt W (hl.below h) (hv.below h) (hm.below h) nl nv nm ns (by simp [isP] at hi; omega) (by simp [isP] at hi; omega)
  have KE := goodEntries_any vl log te _ (hl.below hB) nl ns
  have KI := fun W => isPeer_any id pe W
  have KJ := fun W => isPeer_any vo pe W
  generalize goodN id pe te vo co ro log vs mt = R at *
  generalize goodRo id pe te vo ro log.length vs mt = br at *
  generalize gE te 0 log = be at *
  generalize isP id pe = bi at *
  generalize isP vo pe = bj at *
  obtain ⟨la, lc, rfl, hlc⟩ := hl
  obtain ⟨va, vc, rfl, hvc⟩ := hv
  obtain ⟨ma, mc, rfl, hmc⟩ := hm
  clear hlc hvc hmc ns
  obtain ⟨W0, hW0⟩ : ∃ W0, W0 = w.alloc (.cells #[.int .i64 id, .int .i64 pe, .int .i64 te, .int .i64 vo, .slice la log.length lc, .int .i64 co, .int .i64 ro, .slice va vs.length vc, .slice ma mt.length mc] 26) := ⟨_, rfl⟩
  rw [← hW0] at hB X KE
  obtain ⟨hxl, x0, x1, x2, x3, x4, x5, x6, x7, x8⟩ := X.e9
  by_cases c1 : 1 ≤ pe
  rotate_left
  · go_enter Try.func56, Try.ntmps56
    simp only [List.append_eq, List.cons_append, List.nil_append]
    go_wp2
    rw [← hW0]
    go_ret
    exact ⟨by rw [HO.out]; simp <;> omega, hB⟩
  by_cases c2 : pe ≤ 7
  rotate_left
  · go_enter Try.func56, Try.ntmps56
    simp only [List.append_eq, List.cons_append, List.nil_append]
    go_wp2
    rw [← hW0]
    go_ret
    exact ⟨by rw [HO.out]; simp <;> omega, hB⟩
  go_enter Try.func56, Try.ntmps56
  simp only [List.append_eq, List.cons_append, List.nil_append]
  go_wp2_with fail
  rw [← hW0]; clear hW0
  refine (KI _).mono ?_
  rintro e w1 ⟨rfl, rfl⟩
  clear KI
  cases bi
  · go_wp2
    go_ret
    exact ⟨by rw [HO.out]; simp <;> omega, hB⟩
  replace KR := KR rfl
  by_cases c3 : 0 ≤ te
  rotate_left
  · go_wp2
    go_ret
    exact ⟨by rw [HO.out]; simp <;> omega, hB⟩
  by_cases c4 : te ≤ 1000
  rotate_left
  · go_wp2
    go_ret
    exact ⟨by rw [HO.out]; simp <;> omega, hB⟩
  have HV : Hid (R = ((decide (vo = -1) || bj) && decide ((log.length : Int) ≤ 60) && be && decide (0 ≤ co) && decide (co ≤ (log.length : Int)) && br)) := by
    show _ = _
    rw [HO.out, decide_eq_true c1, decide_eq_true c2, decide_eq_true c3, decide_eq_true c4]; simp
  clear HO
  by_cases c5 : vo = -1
  · subst c5
    have HO : Hid (R = (decide ((log.length : Int) ≤ 60) && be && decide (0 ≤ co) && decide (co ≤ (log.length : Int)) && br)) := by
      show _ = _
      rw [HV.out]; simp
    clear HV KJ
    by_cases c6 : (log.length : Int) ≤ 60
    rotate_left
    · go_wp2
      go_ret
      exact ⟨by rw [HO.out]; simp <;> omega, hB⟩
    go_wp2_with fail
    refine KE.mono ?_
    rintro e w2 ⟨rfl, hb2⟩
    replace hB := below_then hB hb2
    replace X := X.below hb2
    clear x0 x1 x2 x3 x4 x5 x6 x7 x8 hxl
    obtain ⟨hxl, x0, x1, x2, x3, x4, x5, x6, x7, x8⟩ := X.e9
    clear KE hb2
    cases be
    · go_wp2
      go_ret
      exact ⟨by rw [HO.out]; simp <;> omega, hB⟩
    by_cases c7 : 0 ≤ co
    rotate_left
    · go_wp2
      go_ret
      exact ⟨by rw [HO.out]; simp <;> omega, hB⟩
    by_cases c8 : co ≤ (log.length : Int)
    rotate_left
    · go_wp2
      go_ret
      exact ⟨by rw [HO.out]; simp <;> omega, hB⟩
    go_wp2_with fail
    refine (KR _ hB).mono ?_
    rintro e w3 ⟨rfl, hb3⟩
    replace hB := below_then hB hb3
    clear KR hb3
    go_wp2
    go_ret
    exact ⟨by rw [HO.out]; simp <;> omega, hB⟩
  · go_wp2_with fail
    refine (KJ _).mono ?_
    rintro e w1 ⟨rfl, rfl⟩
    clear KJ
    have HO : Hid (R = (bj && (decide ((log.length : Int) ≤ 60) && be && decide (0 ≤ co) && decide (co ≤ (log.length : Int)) && br))) := by
      show _ = _
      rw [HV.out, decide_eq_false c5]; simp [Bool.and_assoc]
    clear HV
    cases bj
    · go_wp2
      go_ret
      exact ⟨by rw [HO.out]; simp <;> omega, hB⟩
    by_cases c6 : (log.length : Int) ≤ 60
    rotate_left
    · go_wp2
      go_ret
      exact ⟨by rw [HO.out]; simp <;> omega, hB⟩
    go_wp2_with fail
    refine KE.mono ?_
    rintro e w2 ⟨rfl, hb2⟩
    replace hB := below_then hB hb2
    replace X := X.below hb2
    clear x0 x1 x2 x3 x4 x5 x6 x7 x8 hxl
    obtain ⟨hxl, x0, x1, x2, x3, x4, x5, x6, x7, x8⟩ := X.e9
    clear KE hb2
    cases be
    · go_wp2
      go_ret
      exact ⟨by rw [HO.out]; simp <;> omega, hB⟩
    by_cases c7 : 0 ≤ co
    rotate_left
    · go_wp2
      go_ret
      exact ⟨by rw [HO.out]; simp <;> omega, hB⟩
    by_cases c8 : co ≤ (log.length : Int)
    rotate_left
    · go_wp2
      go_ret
      exact ⟨by rw [HO.out]; simp <;> omega, hB⟩
    go_wp2_with fail
    refine (KR _ hB).mono ?_
    rintro e w3 ⟨rfl, hb3⟩
    replace hB := below_then hB hb3
    clear KR hb3
    go_wp2
    go_ret
    exact ⟨by rw [HO.out]; simp <;> omega, hB⟩
end Go.Proofs.Ytapfhhmimkkhnaa
