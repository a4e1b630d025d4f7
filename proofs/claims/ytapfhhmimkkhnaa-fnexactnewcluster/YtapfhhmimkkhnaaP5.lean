/-
  A node is good: the program's GoodNode.
-/
import Derived.Test.YtapfhhmimkkhnaaP4
namespace Go.Proofs.Ytapfhhmimkkhnaa
open Go.RowKit
set_option linter.unusedVariables false
set_option maxRecDepth 100000

set_option maxHeartbeats 8000000 in
theorem implGoodN_any (id pe te vo co ro : Int) (vl vv vm : Value) (log : List En) (vs mt : List Int) (w : World) (hl : ER w vl log) (hv : IL w vv vs) (hm : IL w vm mt) (nl : log.length ≤ 1048576) (nv : vs.length ≤ 1048576) (nm : mt.length ≤ 1048576) (ns : ∀ i (h : i < log.length), log[i].d.size ≤ 1048576) :
    Calls Try.prog 56 #[.agg #[.int .i64 id, .int .i64 pe, .int .i64 te, .int .i64 vo, vl, .int .i64 co, .int .i64 ro, vv, vm]] w fun e w' => e = .returned (.bool (goodN id pe te vo co ro log vs mt)) ∧ Below w.heap.size w w' := by
  have hB := below_alloc w (.cells #[.int .i64 id, .int .i64 pe, .int .i64 te, .int .i64 vo, vl, .int .i64 co, .int .i64 ro, vv, vm] 26)
  have X := Box.new w #[.int .i64 id, .int .i64 pe, .int .i64 te, .int .i64 vo, vl, .int .i64 co, .int .i64 ro, vv, vm] 26
  have HO : Hid (goodN id pe te vo co ro log vs mt = (decide (1 ≤ pe) && decide (pe ≤ 7) && isP id pe && decide (0 ≤ te) && decide (te ≤ 1000) && (decide (vo = -1) || isP vo pe) && decide ((log.length : Int) ≤ 60) && gE te 0 log && decide (0 ≤ co) && decide (co ≤ (log.length : Int)) && goodRo id pe te vo ro log.length vs mt)) := rfl
  have KR := fun (hi : isP id pe = true) W (h : Below w.heap.size w W) => hasGoodRole_any id pe te vo co ro vl vv vm log vs mt W (hl.below h) (hv.below h) (hm.below h) nl nv nm ns (by simp [isP] at hi; omega) (by simp [isP] at hi; omega)
  have KE := goodEntries_any vl log te _ (hl.below hB) nl ns
  have KI := fun W => isPeer_any id pe W
  have KJ := fun W => isPeer_any vo pe W
  generalize goodN id pe te vo co ro log vs mt = R at *
  generalize goodRo id pe te vo ro log.length vs mt = br at *
  generalize gE te 0 log = be at *
  generalize isP id pe = bi at *
  generalize isP vo pe = bj at *
  obtain ⟨la, lc, rfl, hlc⟩ := hl
  obtain ⟨va, vc, rfl, hvc⟩ := hv
  obtain ⟨ma, mc, rfl, hmc⟩ := hm
  clear hlc hvc hmc ns
  obtain ⟨W0, hW0⟩ : ∃ W0, W0 = w.alloc (.cells #[.int .i64 id, .int .i64 pe, .int .i64 te, .int .i64 vo, .slice la log.length lc, .int .i64 co, .int .i64 ro, .slice va vs.length vc, .slice ma mt.length mc] 26) := ⟨_, rfl⟩
  rw [← hW0] at hB X KE
  obtain ⟨hxl, x0, x1, x2, x3, x4, x5, x6, x7, x8⟩ := X.e9
  by_cases c1 : 1 ≤ pe
  rotate_left
  · go_enter Try.func56, Try.ntmps56
    simp only [List.append_eq, List.cons_append, List.nil_append]
    go_wp2
    rw [← hW0]
    go_ret
    exact ⟨by rw [HO.out]; simp <;> omega, hB⟩
  by_cases c2 : pe ≤ 7
  rotate_left
  · go_enter Try.func56, Try.ntmps56
    simp only [List.append_eq, List.cons_append, List.nil_append]
    go_wp2
    rw [← hW0]
    go_ret
    exact ⟨by rw [HO.out]; simp <;> omega, hB⟩
  go_enter Try.func56, Try.ntmps56
  simp only [List.append_eq, List.cons_append, List.nil_append]
  go_wp2_with fail
  rw [← hW0]; clear hW0
  refine (KI _).mono ?_
  rintro e w1 ⟨rfl, rfl⟩
  clear KI
  cases bi
  · go_wp2
    go_ret
    exact ⟨by rw [HO.out]; simp <;> omega, hB⟩
  replace KR := KR rfl
  by_cases c3 : 0 ≤ te
  rotate_left
  · go_wp2
    go_ret
    exact ⟨by rw [HO.out]; simp <;> omega, hB⟩
  by_cases c4 : te ≤ 1000
  rotate_left
  · go_wp2
    go_ret
    exact ⟨by rw [HO.out]; simp <;> omega, hB⟩
  have HV : Hid (R = ((decide (vo = -1) || bj) && decide ((log.length : Int) ≤ 60) && be && decide (0 ≤ co) && decide (co ≤ (log.length : Int)) && br)) := by
    show _ = _
    rw [HO.out, decide_eq_true c1, decide_eq_true c2, decide_eq_true c3, decide_eq_true c4]; simp
  clear HO
  by_cases c5 : vo = -1
  · subst c5
    have HO : Hid (R = (decide ((log.length : Int) ≤ 60) && be && decide (0 ≤ co) && decide (co ≤ (log.length : Int)) && br)) := by
      show _ = _
      rw [HV.out]; simp
    clear HV KJ
    by_cases c6 : (log.length : Int) ≤ 60
    rotate_left
    · go_wp2
      go_ret
      exact ⟨by rw [HO.out]; simp <;> omega, hB⟩
    go_wp2_with fail
    refine KE.mono ?_
    rintro e w2 ⟨rfl, hb2⟩
    replace hB := below_then hB hb2
    replace X := X.below hb2
    clear x0 x1 x2 x3 x4 x5 x6 x7 x8 hxl
    obtain ⟨hxl, x0, x1, x2, x3, x4, x5, x6, x7, x8⟩ := X.e9
    clear KE hb2
    cases be
    · go_wp2
      go_ret
      exact ⟨by rw [HO.out]; simp <;> omega, hB⟩
    by_cases c7 : 0 ≤ co
    rotate_left
    · go_wp2
      go_ret
      exact ⟨by rw [HO.out]; simp <;> omega, hB⟩
    by_cases c8 : co ≤ (log.length : Int)
    rotate_left
    · go_wp2
      go_ret
      exact ⟨by rw [HO.out]; simp <;> omega, hB⟩
    go_wp2_with fail
    refine (KR _ hB).mono ?_
    rintro e w3 ⟨rfl, hb3⟩
    replace hB := below_then hB hb3
    clear KR hb3
    go_wp2
    go_ret
    exact ⟨by rw [HO.out]; simp <;> omega, hB⟩
  · go_wp2_with fail
    refine (KJ _).mono ?_
    rintro e w1 ⟨rfl, rfl⟩
    clear KJ
    have HO : Hid (R = (bj && (decide ((log.length : Int) ≤ 60) && be && decide (0 ≤ co) && decide (co ≤ (log.length : Int)) && br))) := by
      show _ = _
      rw [HV.out, decide_eq_false c5]; simp [Bool.and_assoc]
    clear HV
    cases bj
    · go_wp2
      go_ret
      exact ⟨by rw [HO.out]; simp <;> omega, hB⟩
    by_cases c6 : (log.length : Int) ≤ 60
    rotate_left
    · go_wp2
      go_ret
      exact ⟨by rw [HO.out]; simp <;> omega, hB⟩
    go_wp2_with fail
    refine KE.mono ?_
    rintro e w2 ⟨rfl, hb2⟩
    replace hB := below_then hB hb2
    replace X := X.below hb2
    clear x0 x1 x2 x3 x4 x5 x6 x7 x8 hxl
    obtain ⟨hxl, x0, x1, x2, x3, x4, x5, x6, x7, x8⟩ := X.e9
    clear KE hb2
    cases be
    · go_wp2
      go_ret
      exact ⟨by rw [HO.out]; simp <;> omega, hB⟩
    by_cases c7 : 0 ≤ co
    rotate_left
    · go_wp2
      go_ret
      exact ⟨by rw [HO.out]; simp <;> omega, hB⟩
    by_cases c8 : co ≤ (log.length : Int)
    rotate_left
    · go_wp2
      go_ret
      exact ⟨by rw [HO.out]; simp <;> omega, hB⟩
    go_wp2_with fail
    refine (KR _ hB).mono ?_
    rintro e w3 ⟨rfl, hb3⟩
    replace hB := below_then hB hb3
    clear KR hb3
    go_wp2
    go_ret
    exact ⟨by rw [HO.out]; simp <;> omega, hB⟩
end Go.Proofs.Ytapfhhmimkkhnaa
