/-
  UpToDate: both sides; the term at an index.
-/
import Derived.Test.YtapfhhmimkkhnaaN2ToA1
namespace Go.Proofs.Ytapfhhmimkkhnaa
open Go.RowKit
set_option linter.unusedVariables false
set_option maxRecDepth 100000

/-- The term at an index, 0 at 0. -/
def tmAt (log : List En) (i : Nat) : Int := if i = 0 then 0 else (log.getD (i - 1) En.zero).t
theorem tmAt_zero (log : List En) : tmAt log 0 = 0 := rfl
theorem tmAt_succ (log : List En) (i : Nat) (h : i < log.length) : tmAt log (i + 1) = log[i].t := by simp [tmAt, h]
def notAhead (log : List En) (ix tm : Int) : Bool := decide (tmAt log log.length < tm) || (decide (tm = tmAt log log.length) && decide ((log.length : Int) ≤ ix))

set_option maxHeartbeats 2000000 in
theorem termAt_any (id pe te vo co ro : Int) (vl vv vm : Value) (log : List En) (vs mt : List Int) (i : Nat) (w : World) (hl : ER w vl log) (hv : IL w vv vs) (hm : IL w vm mt) (hi : i ≤ log.length) (nl : log.length ≤ 1048576) :
    Calls Try.prog 66 #[.agg #[.int .i64 id, .int .i64 pe, .int .i64 te, .int .i64 vo, vl, .int .i64 co, .int .i64 ro, vv, vm], .int .i64 i] w fun e w' => e = .returned (.int .i64 (tmAt log i)) ∧ Below w.heap.size w w' := by
  have hB := below_alloc w (.cells #[.int .i64 id, .int .i64 pe, .int .i64 te, .int .i64 vo, vl, .int .i64 co, .int .i64 ro, vv, vm] 26)
  obtain ⟨la, lc, rfl, hlc⟩ := hl
  obtain ⟨va, vc, rfl, hvc⟩ := hv
  obtain ⟨ma, mc, rfl, hmc⟩ := hm
  clear hvc hmc
  cases i with
  | zero =>
    clear hlc
    rw [tmAt_zero]
    go_enter Try.func66, Try.ntmps66
    go_wp2
    go_ret
    exact ⟨rfl, hB⟩
  | succ j =>
    rw [tmAt_succ log j (by omega)]
    obtain ⟨b, off, rfl, hbl, hcell⟩ := hlc (by intro e; rw [e] at hi; simp at hi)
    have c0 := (hcell j (by omega)).1
    have hj0 : (((j + 1 : Nat) : Int) == 0) = false := by simp; omega
    have hj1 : (((j + 1 : Nat) : Int) - 1) = (j : Int) := by omega
    have hj2 : j < log.length := by omega
    clear hcell
    generalize log[j].t = s at *
    go_enter Try.func66, Try.ntmps66
    go_wp2
    go_ret
    exact ⟨rfl, hB⟩
set_option maxHeartbeats 2000000 in
theorem l11Term_any (id pe te vo co ro : Int) (vl vv vm : Value) (log : List En) (vs mt : List Int) (i : Nat) (w : World) (hl : ER w vl log) (hv : IL w vv vs) (hm : IL w vm mt) (hi : i ≤ log.length) (nl : log.length ≤ 1048576) :
    Calls Try.prog 69 #[.agg #[.int .i64 id, .int .i64 pe, .int .i64 te, .int .i64 vo, vl, .int .i64 co, .int .i64 ro, vv, vm], .int .i64 i] w fun e w' => e = .returned (.int .i64 (tmAt log i)) ∧ Below w.heap.size w w' := by
  have hB := below_alloc w (.cells #[.int .i64 id, .int .i64 pe, .int .i64 te, .int .i64 vo, vl, .int .i64 co, .int .i64 ro, vv, vm] 26)
  obtain ⟨la, lc, rfl, hlc⟩ := hl
  obtain ⟨va, vc, rfl, hvc⟩ := hv
  obtain ⟨ma, mc, rfl, hmc⟩ := hm
  clear hvc hmc
  cases i with
  | zero =>
    clear hlc
    rw [tmAt_zero]
    go_enter Try.func69, Try.ntmps69
    go_wp2
    go_ret
    exact ⟨rfl, hB⟩
  | succ j =>
    rw [tmAt_succ log j (by omega)]
    obtain ⟨b, off, rfl, hbl, hcell⟩ := hlc (by intro e; rw [e] at hi; simp at hi)
    have c0 := (hcell j (by omega)).1
    have hj0 : (((j + 1 : Nat) : Int) == 0) = false := by simp; omega
    have hj1 : (((j + 1 : Nat) : Int) - 1) = (j : Int) := by omega
    have hj2 : j < log.length := by omega
    clear hcell
    generalize log[j].t = s at *
    go_enter Try.func69, Try.ntmps69
    go_wp2
    go_ret
    exact ⟨rfl, hB⟩
set_option maxHeartbeats 2000000 in
theorem notAhead_any (id pe te vo co ro : Int) (vl vv vm : Value) (log : List En) (vs mt : List Int) (ix tm : Int) (w : World) (hl : ER w vl log) (hv : IL w vv vs) (hm : IL w vm mt) (nl : log.length ≤ 1048576) :
    Calls Try.prog 73 #[.agg #[.int .i64 id, .int .i64 pe, .int .i64 te, .int .i64 vo, vl, .int .i64 co, .int .i64 ro, vv, vm], .int .i64 ix, .int .i64 tm] w fun e w' => e = .returned (.bool (notAhead log ix tm)) ∧ Below w.heap.size w w' := by
  have hB := below_alloc w (.cells #[.int .i64 id, .int .i64 pe, .int .i64 te, .int .i64 vo, vl, .int .i64 co, .int .i64 ro, vv, vm] 26)
  have X := Box.new w #[.int .i64 id, .int .i64 pe, .int .i64 te, .int .i64 vo, vl, .int .i64 co, .int .i64 ro, vv, vm] 26
  have K := termAt_any id pe te vo co ro vl vv vm log vs mt log.length _ (hl.below hB) (hv.below hB) (hm.below hB) (Nat.le_refl _) nl
  have HO : Hid (notAhead log ix tm = (decide (tmAt log log.length < tm) || (decide (tm = tmAt log log.length) && decide ((log.length : Int) ≤ ix)))) := rfl
  generalize notAhead log ix tm = R at *
  generalize tmAt log log.length = z at *
  obtain ⟨la, lc, rfl, hlc⟩ := hl
  obtain ⟨va, vc, rfl, hvc⟩ := hv
  obtain ⟨ma, mc, rfl, hmc⟩ := hm
  clear hlc hvc hmc
  go_enter Try.func73, Try.ntmps73
  go_wp2_with fail
  refine K.mono ?_
  rintro e w1 ⟨rfl, hb⟩
  replace hB := below_then hB hb
  replace X := X.below hb
  clear K hb
  obtain ⟨hxl, x0, x1, x2, x3, x4, x5, x6, x7, x8⟩ := X.e9
  by_cases c1 : z < tm
  · go_wp2
    go_ret
    exact ⟨by rw [HO.out, decide_eq_true c1]; rfl, hB⟩
  · by_cases c2 : tm = z
    · subst c2
      by_cases c3 : (log.length : Int) ≤ ix
      · go_wp2
        go_ret
        exact ⟨by rw [HO.out, decide_eq_false (show ¬ tm < tm from by omega), decide_eq_true c3]; simp, hB⟩
      · go_wp2
        go_ret
        exact ⟨by rw [HO.out, decide_eq_false (show ¬ tm < tm from by omega), decide_eq_false (show ¬ (log.length : Int) ≤ ix from by omega)]; simp, hB⟩
    · have c4 : (tm == z) = false := by simp [c2]
      go_wp2
      go_ret
      exact ⟨by rw [HO.out, decide_eq_false (show ¬ z < tm from by omega), decide_eq_false c2]; rfl, hB⟩
set_option maxHeartbeats 2000000 in
theorem l11UpTo_any (id pe te vo co ro : Int) (vl vv vm : Value) (log : List En) (vs mt : List Int) (ix tm : Int) (w : World) (hl : ER w vl log) (hv : IL w vv vs) (hm : IL w vm mt) (nl : log.length ≤ 1048576) :
    Calls Try.prog 74 #[.agg #[.int .i64 id, .int .i64 pe, .int .i64 te, .int .i64 vo, vl, .int .i64 co, .int .i64 ro, vv, vm], .int .i64 ix, .int .i64 tm] w fun e w' => e = .returned (.bool (notAhead log ix tm)) ∧ Below w.heap.size w w' := by
  have hB := below_alloc w (.cells #[.int .i64 id, .int .i64 pe, .int .i64 te, .int .i64 vo, vl, .int .i64 co, .int .i64 ro, vv, vm] 26)
  have X := Box.new w #[.int .i64 id, .int .i64 pe, .int .i64 te, .int .i64 vo, vl, .int .i64 co, .int .i64 ro, vv, vm] 26
  have K := l11Term_any id pe te vo co ro vl vv vm log vs mt log.length _ (hl.below hB) (hv.below hB) (hm.below hB) (Nat.le_refl _) nl
  have HO : Hid (notAhead log ix tm = (decide (tmAt log log.length < tm) || (decide (tm = tmAt log log.length) && decide ((log.length : Int) ≤ ix)))) := rfl
  generalize notAhead log ix tm = R at *
  generalize tmAt log log.length = z at *
  obtain ⟨la, lc, rfl, hlc⟩ := hl
  obtain ⟨va, vc, rfl, hvc⟩ := hv
  obtain ⟨ma, mc, rfl, hmc⟩ := hm
  clear hlc hvc hmc
  go_enter Try.func74, Try.ntmps74
  go_wp2_with fail
  refine K.mono ?_
  rintro e w1 ⟨rfl, hb⟩
  replace hB := below_then hB hb
  replace X := X.below hb
  clear K hb
  obtain ⟨hxl, x0, x1, x2, x3, x4, x5, x6, x7, x8⟩ := X.e9
  by_cases c1 : z < tm
  · go_wp2
    go_ret
    exact ⟨by rw [HO.out, decide_eq_true c1]; rfl, hB⟩
  · by_cases c2 : tm = z
    · subst c2
      by_cases c3 : (log.length : Int) ≤ ix
      · go_wp2
        go_ret
        exact ⟨by rw [HO.out, decide_eq_false (show ¬ tm < tm from by omega), decide_eq_true c3]; simp, hB⟩
      · go_wp2
        go_ret
        exact ⟨by rw [HO.out, decide_eq_false (show ¬ tm < tm from by omega), decide_eq_false (show ¬ (log.length : Int) ≤ ix from by omega)]; simp, hB⟩
    · have c4 : (tm == z) = false := by simp [c2]
      go_wp2
      go_ret
      exact ⟨by rw [HO.out, decide_eq_false (show ¬ z < tm from by omega), decide_eq_false c2]; rfl, hB⟩

def upOk (g : Bool) (ix tm : Int) : Bool := g && (decide (0 ≤ ix) && decide (0 ≤ tm))
def upB (g : Bool) (log : List En) (ix tm : Int) : Bool := upOk g ix tm && notAhead log ix tm
set_option maxHeartbeats 4000000 in
theorem implUpTo_any (id pe te vo co ro : Int) (vl vv vm : Value) (log : List En) (vs mt : List Int) (ix tm : Int) (w : World) (hl : ER w vl log) (hv : IL w vv vs) (hm : IL w vm mt) (nl : log.length ≤ 1048576) (nv : vs.length ≤ 1048576) (nm : mt.length ≤ 1048576) (ns : ∀ i (h : i < log.length), log[i].d.size ≤ 1048576) :
    Calls Try.prog 21 #[.agg #[.int .i64 id, .int .i64 pe, .int .i64 te, .int .i64 vo, vl, .int .i64 co, .int .i64 ro, vv, vm], .int .i64 ix, .int .i64 tm] w fun e w' => e = .returned (.tuple #[.bool (upB (goodN id pe te vo co ro log vs mt) log ix tm), .bool (upOk (goodN id pe te vo co ro log vs mt) ix tm)]) ∧ Below w.heap.size w w' := by
  have hB := below_alloc w (.cells #[.int .i64 id, .int .i64 pe, .int .i64 te, .int .i64 vo, vl, .int .i64 co, .int .i64 ro, vv, vm] 26)
  have X := Box.new w #[.int .i64 id, .int .i64 pe, .int .i64 te, .int .i64 vo, vl, .int .i64 co, .int .i64 ro, vv, vm] 26
  have K := implGoodN_any id pe te vo co ro vl vv vm log vs mt _ (hl.below hB) (hv.below hB) (hm.below hB) nl nv nm ns
  have K2 := fun W (h : Below w.heap.size w W) => notAhead_any id pe te vo co ro vl vv vm log vs mt ix tm W (hl.below h) (hv.below h) (hm.below h) nl
  generalize goodN id pe te vo co ro log vs mt = g at *
  have HO : Hid (upOk g ix tm = (g && (decide (0 ≤ ix) && decide (0 ≤ tm)))) := rfl
  have HB : Hid (upB g log ix tm = (upOk g ix tm && notAhead log ix tm)) := rfl
  generalize upB g log ix tm = R at *
  generalize upOk g ix tm = ok at *
  generalize notAhead log ix tm = z at *
  obtain ⟨la, lc, rfl, hlc⟩ := hl
  obtain ⟨va, vc, rfl, hvc⟩ := hv
  obtain ⟨ma, mc, rfl, hmc⟩ := hm
  clear hlc hvc hmc ns
  go_enter Try.func21, Try.ntmps21
  go_wp2_with fail
  refine K.mono ?_
  rintro e w1 ⟨rfl, hb⟩
  replace hB := below_then hB hb
  replace X := X.below hb
  clear K hb
  obtain ⟨hxl, x0, x1, x2, x3, x4, x5, x6, x7, x8⟩ := X.e9
  cases g
  · go_wp2
    go_ret2
    exact ⟨by rw [HB.out, HO.out]; rfl, hB⟩
  by_cases c1 : 0 ≤ ix
  rotate_left
  · go_wp2
    go_ret2
    exact ⟨by rw [HB.out, HO.out, decide_eq_false (show ¬ 0 ≤ ix from by omega)]; rfl, hB⟩
  by_cases c2 : 0 ≤ tm
  rotate_left
  · go_wp2
    go_ret2
    exact ⟨by rw [HB.out, HO.out, decide_eq_false (show ¬ 0 ≤ tm from by omega), Bool.and_false]; rfl, hB⟩
  go_wp2_with fail
  refine (K2 _ hB).mono ?_
  rintro e w2 ⟨rfl, hb⟩
  replace hB := below_then hB hb
  clear K2 hb
  go_wp2
  go_ret2
  exact ⟨by rw [HB.out, HO.out, decide_eq_true (show 0 ≤ ix from by omega), decide_eq_true (show 0 ≤ tm from by omega)]; rfl, hB⟩
set_option maxHeartbeats 4000000 in
theorem specUpTo_any (id pe te vo co ro : Int) (vl vv vm : Value) (log : List En) (vs mt : List Int) (ix tm : Int) (w : World) (hl : ER w vl log) (hv : IL w vv vs) (hm : IL w vm mt) (nl : log.length ≤ 1048576) (nv : vs.length ≤ 1048576) (nm : mt.length ≤ 1048576) (ns : ∀ i (h : i < log.length), log[i].d.size ≤ 1048576) :
    Calls Try.prog 22 #[.agg #[.int .i64 id, .int .i64 pe, .int .i64 te, .int .i64 vo, vl, .int .i64 co, .int .i64 ro, vv, vm], .int .i64 ix, .int .i64 tm] w fun e w' => e = .returned (.tuple #[.bool (upB (goodN id pe te vo co ro log vs mt) log ix tm), .bool (upOk (goodN id pe te vo co ro log vs mt) ix tm)]) ∧ Below w.heap.size w w' := by
  have hB := below_alloc w (.cells #[.int .i64 id, .int .i64 pe, .int .i64 te, .int .i64 vo, vl, .int .i64 co, .int .i64 ro, vv, vm] 26)
  have X := Box.new w #[.int .i64 id, .int .i64 pe, .int .i64 te, .int .i64 vo, vl, .int .i64 co, .int .i64 ro, vv, vm] 26
  have K := specGoodN_any id pe te vo co ro vl vv vm log vs mt _ (hl.below hB) (hv.below hB) (hm.below hB) nl nv nm ns
  have K2 := fun W (h : Below w.heap.size w W) => l11UpTo_any id pe te vo co ro vl vv vm log vs mt ix tm W (hl.below h) (hv.below h) (hm.below h) nl
  generalize goodN id pe te vo co ro log vs mt = g at *
  have HO : Hid (upOk g ix tm = (g && (decide (0 ≤ ix) && decide (0 ≤ tm)))) := rfl
  have HB : Hid (upB g log ix tm = (upOk g ix tm && notAhead log ix tm)) := rfl
  generalize upB g log ix tm = R at *
  generalize upOk g ix tm = ok at *
  generalize notAhead log ix tm = z at *
  obtain ⟨la, lc, rfl, hlc⟩ := hl
  obtain ⟨va, vc, rfl, hvc⟩ := hv
  obtain ⟨ma, mc, rfl, hmc⟩ := hm
  clear hlc hvc hmc ns
  go_enter Try.func22, Try.ntmps22
  go_wp2_with fail
  refine K.mono ?_
  rintro e w1 ⟨rfl, hb⟩
  replace hB := below_then hB hb
  replace X := X.below hb
  clear K hb
  obtain ⟨hxl, x0, x1, x2, x3, x4, x5, x6, x7, x8⟩ := X.e9
  cases g
  · go_wp2
    go_ret2
    exact ⟨by rw [HB.out, HO.out]; rfl, hB⟩
  by_cases c1 : 0 ≤ ix
  rotate_left
  · go_wp2
    go_ret2
    exact ⟨by rw [HB.out, HO.out, decide_eq_false (show ¬ 0 ≤ ix from by omega)]; rfl, hB⟩
  by_cases c2 : 0 ≤ tm
  rotate_left
  · go_wp2
    go_ret2
    exact ⟨by rw [HB.out, HO.out, decide_eq_false (show ¬ 0 ≤ tm from by omega), Bool.and_false]; rfl, hB⟩
  go_wp2_with fail
  refine (K2 _ hB).mono ?_
  rintro e w2 ⟨rfl, hb⟩
  replace hB := below_then hB hb
  clear K2 hb
  go_wp2
  go_ret2
  exact ⟨by rw [HB.out, HO.out, decide_eq_true (show 0 ≤ ix from by omega), decide_eq_true (show 0 ≤ tm from by omega)]; rfl, hB⟩
end Go.Proofs.Ytapfhhmimkkhnaa
