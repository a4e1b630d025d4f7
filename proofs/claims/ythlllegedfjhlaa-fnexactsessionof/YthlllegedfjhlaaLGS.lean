/-
  The walk of FnExactGoodState.
-/
import Derived.Test.YthlllegedfjhlaaGI
import Derived.Test.YthlllegedfjhlaaGS
import Derived.Deep.RegionHeld3
namespace Go.Proofs.Ythlllegedfjhlaa
open Go.RowKit
set_option linter.unusedVariables false
set_option maxRecDepth 100000


theorem run_neq_bool_same5 (w : World) (b : Bool) : (binOp .neq 4 (.bool b) (.bool b)).run Try.prog w = .ok (.bool false) w := by
  cases b <;> kernel_rfl

set_option maxHeartbeats 16000000 in
theorem law3 (a c : Value) (W : List Pr) (G : List Ss) (w : World) (hw : PR w a W) (hc : SR w c G) (hn0 : W.length ≤ maxLen) (hm0 : G.length ≤ maxLen) (hp0 : ∀ i (h : i < W.length), W[i].k.size ≤ maxLen ∧ W[i].v.size ≤ maxLen) (hs0 : ∀ i (h : i < G.length), G[i].v.size ≤ maxLen) :
    Calls Try.prog 3 #[.agg #[a, c]] w fun e w' => e = .returned (.bool true) ∧ Below w.heap.size w w' := by
  have HT : KR w a c W G := ⟨hw, hc⟩
  have HV := fun W' (hb : Below w.heap.size w W') => HT.below hb
  have SZ := fun W' (hb : Below w.heap.size w W') => szKvState_any a c W G 1048576 W' (HV W' hb) (by omega) (by omega) hn0 hm0 hp0 hs0
  obtain ⟨wa, wb, rfl, _⟩ := hw
  obtain ⟨ca, cb, rfl, _⟩ := hc
  clear hn0 hm0 hp0 hs0 HT
  have R1 := fun w b => run_neq_bool_same5 w b
  have hB := below_alloc w (.cells #[.slice wa W.length wb, .slice ca G.length cb] 25)
  have PB := Box.new w #[.slice wa W.length wb, .slice ca G.length cb] 25
  go_enter Try.func3, Try.ntmps3
  go_wp2_with fail
  refine (SZ _ hB).mono ?_
  rintro e w0 ⟨⟨r, rfl, hr⟩, hb0⟩
  replace hB := below_then hB hb0
  replace PB := PB.below hb0
  have hz0 := hB.size
  clear SZ hb0
  rcases hr with rfl | ⟨hr0, hr1⟩
  · clear PB
    go_wp2
    go_ret
    exact ⟨rfl, hB⟩
  · have hn : W.length ≤ 1048576 := by omega
    have hm : G.length ≤ 1048576 := by omega
    have hp : ∀ i (h : i < W.length), W[i].k.size ≤ 1048576 ∧ W[i].v.size ≤ 1048576 := fun i h => by have := totP_mem W i h; omega
    have hs : ∀ i (h : i < G.length), G[i].v.size ≤ 1048576 := fun i h => by have := totS_mem G i h; omega
    clear hr1
    have T := fun W' hb => toKvState_any _ _ W G W' (HV W' hb) hn hm
    have TT := fun W' h => toKvState_any (.slice wa W.length wb) (.slice ca G.length cb) W G W' h hn hm
    have S := fun x y W' h => specGood_any x y W G W' h hn hm hp hs
    have I := fun x y W' h => implGood_any x y W G W' h hn hm hp hs
    generalize gB W G = ok at *
    obtain ⟨_, p0, p1⟩ := PB.c2
    go_wp2_with fail
    refine (T _ hB).mono ?_
    rintro e w1 ⟨a1, c1, rfl, O1, hb1⟩
    replace hB := below_then hB hb1
    replace PB := PB.below hb1
    have hz1 := hb1.size
    clear hb1
    clear p0 p1
    go_wp2_with fail
    refine (S _ _ _ O1.kr).mono ?_
    rintro e w2 ⟨rfl, hb2⟩
    replace hB := below_then hB hb2
    replace PB := PB.below hb2
    replace O1 := O1.below hb2
    have hz2 := hb2.size
    clear hb2
    clear O1
    obtain ⟨_, p0, p1⟩ := PB.c2
    go_wp2_with fail
    refine (T _ hB).mono ?_
    rintro e w3 ⟨a2, c2, rfl, XO, hb3⟩
    replace hB := below_then hB hb3
    replace PB := PB.below hb3
    have hz3 := hb3.size
    clear hb3
    obtain ⟨⟨xa, xb, rfl⟩, xc, xd, rfl⟩ := XO.shapes
    clear p0 p1
    have bx3 := below_alloc w3 (.cells #[.slice xa W.length xb, .slice xc G.length xd] 31)
    replace hB := below_then hB bx3
    replace PB := PB.below bx3
    replace XO := XO.below bx3
    have XB := Box.new w3 #[.slice xa W.length xb, .slice xc G.length xd] 31
    clear bx3
    obtain ⟨_, q0, q1⟩ := XB.c2
    go_wp2_with fail
    refine (I _ _ _ XO.kr).mono ?_
    rintro e w4 ⟨rfl, hb4⟩
    replace hB := below_then hB hb4
    replace PB := PB.below hb4
    replace XO := XO.below hb4
    replace XB := XB.below hb4
    have hz4 := hb4.size
    clear hb4
    clear q0 q1
    obtain ⟨hpl, p0, p1⟩ := PB.c2
    obtain ⟨hql, q0, q1⟩ := XB.c2
    have hvT := HV _ hB
    go_wp2_with fail
    go_region_held3 (fun w' => (w'.cell? ⟨w.heap.size, 0, none⟩ = some (.slice wa W.length wb) ∧ w'.cell? ⟨w.heap.size, 1, none⟩ = some (.slice ca G.length cb)) ∧ w'.cell? ⟨w3.heap.size, 0, none⟩ = some (.slice xa W.length xb) ∧ w'.cell? ⟨w3.heap.size, 1, none⟩ = some (.slice xc G.length xd)) (go_keep) (first | (go_at_call 8; refine (TT _ (hvT.below (Below.refl _ _).drew)).mono ?_; rintro e wt ⟨a7, c7, rfl, o7, hb7'⟩; have hb7 := below_undrew hb7'; obtain ⟨⟨ya, yb, rfl⟩, yc, yd, rfl⟩ := o7.shapes; obtain ⟨_, p0, p1⟩ := (PB.below hb7).c2; obtain ⟨_, q0, q1⟩ := (XB.below hb7).c2) | (go_at_call 10; refine (eqKvState_same _ _ _ _ W G _ (XO.below hb7).kr o7.kr hn hm).mono ?_; rintro e wu ⟨rfl, hb8⟩; obtain ⟨_, p0, p1⟩ := ((PB.below hb7).below hb8).c2; obtain ⟨_, q0, q1⟩ := ((XB.below hb7).below hb8).c2))
    have hb5 := below_then hb7 hb8
    clear hb7 hb8 o7 hvT p0 p1 q0 q1 hpl hql
    generalize wu = w5 at *
    replace hB := below_then hB hb5
    replace PB := PB.below hb5
    replace XO := XO.below hb5
    replace XB := XB.below hb5
    have hz5 := hb5.size
    clear hb5
    go_wp2
    go_ret
    exact ⟨rfl, hB⟩
end Go.Proofs.Ythlllegedfjhlaa
