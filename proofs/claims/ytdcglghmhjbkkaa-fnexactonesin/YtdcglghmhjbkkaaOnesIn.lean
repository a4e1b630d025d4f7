/-
  At every filter whatever, impl.OnesIn answers as its specification: the law laws.FnExactOnesIn returns true. No condition.
-/
import Derived.Test.YtdcglghmhjbkkaaRows
import Derived.Test.YtdcglghmhjbkkaaChecked
import Derived.Test.YtdcglghmhjbkkaaO1
import Derived.OpenShut
import Derived.ChangeOld
import Derived.ShutString
import Derived.JoinedOf
import Derived.JoinedAt
import Derived.RowKit3
import Derived.Lib.SmallJoins
namespace Go.Proofs.Ytdcglghmhjbkkaa
namespace fnExactOnesIn
open Go.ChangeShapes Go.WideShapes Go.ChangeAt Go.RowKit Go.Joins
open Go.ChangeMaps (open_string shut_string)
set_option linter.unusedVariables false

set_option maxRecDepth 100000 in
set_option maxHeartbeats 2000000 in
theorem law (n : Int) (s : ByteArray) (m : Int) (w : World) (hs : s.size ≤ maxLen) :
    Calls Try.prog 12 #[.agg #[.int .i64 n, .string s, .int .i64 m]] w fun e w' => e = .returned (.bool true) ∧ Below w.heap.size w w' := by
  have SZ := fun w => szFilter_any n s m 1048576 (by unfold maxLen at hs; omega) (by omega) w
  have HZ : szL s 1048576 = -1 ∨ (0 ≤ szL s 1048576 ∧ s.size ≤ 1048576) := by unfold szL; split <;> omega
  have S := fun w => specOnes n s m w
  have I := fun w => implOnes n s m w
  generalize onesF n s m = R at *
  obtain ⟨ra, rb⟩ := R
  generalize szL s 1048576 = left at *
  rcases HZ with rfl | ⟨hl, hz⟩
  · go_enter Try.func12, Try.ntmps12
    go_wp2_with fail
    refine (SZ _).mono ?_
    rintro e w1 ⟨rfl, hb1⟩
    have hB1 := below_then (below_alloc _ _) hb1
    clear SZ S I
    go_wp2
    go_ret
    exact ⟨rfl, hB1⟩
  · go_enter Try.func12, Try.ntmps12
    go_wp2_with fail
    refine (SZ _).mono ?_
    rintro e w1 ⟨rfl, hb1⟩
    have hB1 := below_then (below_alloc _ _) hb1
    have X1 := (Box.new w #[.int .i64 n, .string s, .int .i64 m] 47).below hb1
    clear SZ hb1
    obtain ⟨_, x0, x1, x2⟩ := X1.c3
    go_wp2_with fail
    refine (toFilter_any n s m _).mono ?_
    rintro e w2 ⟨rfl, hb2⟩
    have hB2 := below_then hB1 hb2
    have X2 := X1.below hb2
    clear x0 x1 x2 X1 hb2 hB1
    obtain ⟨_, x0, x1, x2⟩ := X2.c3
    go_wp2_with fail
    refine (S _).mono ?_
    rintro e w3 ⟨rfl, hb3⟩
    have hB3 := below_then hB2 hb3
    have X3 := X2.below hb3
    clear x0 x1 x2 X2 hb3 hB2 S
    obtain ⟨_, x0, x1, x2⟩ := X3.c3
    go_wp2_with fail
    refine (toFilter_any n s m _).mono ?_
    rintro e w5 ⟨rfl, hb5⟩
    have hB5 := below_then hB3 hb5
    clear x0 x1 x2 X3 hb5 hB3
    go_wp2_with fail
    refine (I _).mono ?_
    rintro e w6 ⟨rfl, hb6⟩
    have hB6 := below_then hB5 hb6
    clear hb6 hB5 I
    cases rb
    all_goals
      go_wp2
      go_ret
      exact ⟨rfl, hB6⟩

theorem own : ownKnob Try.prog.godebug = none := by kernel_rfl
theorem laidOut : laidOutB Try.prog = true := by kernel_rfl
theorem cells47 : Try.prog.cellsOf 47 = 3 := by kernel_rfl
theorem cells9 : Try.prog.cellsOf 9 = 1 := by kernel_rfl

set_option maxRecDepth 100000 in
theorem lifted (os : Os) (started : os.Started) (H : Type) (enc : TypeId × Value → H) :
    ReturnsInHanded {} Try.checked os 12 .any (Rows.fnExactOnesInSpec.pre6 enc Try.prog Try.f12 Rows.fnExactOnesInRow.domain false) (Rows.fnExactOnesInSpec.post enc Try.prog Try.f12 false true false false) := by
  refine returnsInHanded_of_change (C := Try.checked) own started (by kernel_rfl) Try.func12
    (ChangeSpec.witness6 (enc := enc) (C := Try.checked) false ⟨#[], #[.agg #[.int .i64 0, .string ⟨#[]⟩, .int .i64 0]], []⟩ 8 (by kernel_rfl) (by kernel_rfl) (by kernel_rfl) (by kernel_rfl)) ?_
  intro W base args ds gs before hval0 hW hcnd _
  have hval : ∀ (j : Nat) t v, Try.f12.params[j]? = some t → args[j]? = some v → Value.okWide Try.prog W .any base t v := hval0
  have hW' := hW
  obtain ⟨p, q, hA0, hV, rfl, hfz, hnd⟩ := hW
  have hA : DataW.TrodAll enc Try.prog W 0 (fun _ => true) true Try.f12.params.toList args.toList ds p := hA0
  rw [Try.params12] at hA hval
  obtain ⟨rfl, rfl⟩ := trodVars_none hV
  obtain ⟨v0, vs0, d0, ds0, p0, q0, hargs0, hds0, hp0, h0, r0⟩ := trodAll_cons hA
  obtain ⟨e1, e2, e3⟩ := trodAll_nil r0
  subst e2 e3
  subst e1
  subst hds0 hp0
  obtain rfl : args = #[v0] := by cases args; simp_all
  have k0 := h0
  have lt0 : ∀ x ∈ p0, x.block < W.heap.size := by obtain ⟨m, hm⟩ := k0; exact DataW.trod_lt m _ _ _ hm
  obtain ⟨fa0, fb0, fc0, ya0, yb0, yc0, nn0, rfl, hd0, hpp0, ta0, tb0, tc0⟩ := open_agg3 Try.underlying47 (by kernel_rfl) cells47 (hval 0 47 v0 rfl rfl) h0
  obtain ⟨xh0, za0, _, _⟩ := DataW.trod_int Try.underlying3 ta0
  obtain ⟨xs0, zb0, _, ss0⟩ := DataW.trod_string Try.underlying9 tb0
  obtain ⟨xm0, zc0, _, wm0⟩ := DataW.trod_int Try.underlying3 tc0
  simp only [List.cons.injEq, and_true] at za0 zb0 zc0
  subst za0 zb0 zc0
  clear hA0 hval0
  refine (law xh0 xs0 xm0 W ss0).mono fun e W' ⟨he, bel⟩ => ?_
  subst he
  exact ⟨_, rfl, _, _, _, [], _, [], hW', trodAll_mk1 (shut_bool Try.underlying4 _), (trodAll_cons_mk (Below.trod laidOut (by kernel_rfl) (of_decide_eq_true (by kernel_rfl)) k0 bel lt0) trodAll_mk0), rfl, bel.frame _, fun h => by cases h⟩

theorem over : Rows.fnExactOnesInRow.holds Try.pinned (OpenSpec.ofChange Rows.fnExactOnesInSpec) :=
  OpenClaim.holds_of_wide 12 Try.f12 rfl rfl rfl rfl rfl rfl rfl ⟨rfl, rfl, rfl, rfl, rfl⟩ rfl rfl rfl rfl rfl (by kernel_rfl) Try.func12 (by kernel_rfl)
    (of_decide_eq_true (by kernel_rfl)) (by unfold Func.isWrapper; first | (rw [if_pos (by decide +kernel)]; kernel_rfl) | (rw [if_neg (by decide +kernel)]; exact ⟨rfl, rfl⟩))
    (fun os started H enc _ => lifted os started H enc)
end fnExactOnesIn
theorem fnExactOnesIn_holds : Rows.FnExactOnesInSaid := fnExactOnesIn.over
#print axioms fnExactOnesIn_holds
end Go.Proofs.Ytdcglghmhjbkkaa
