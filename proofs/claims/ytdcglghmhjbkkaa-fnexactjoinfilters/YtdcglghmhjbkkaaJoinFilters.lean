/-
  At any two filters whatever, impl.JoinFilters answers as its specification: the law laws.FnExactJoinFilters returns true. No condition.
-/
import Derived.Test.YtdcglghmhjbkkaaRows
import Derived.Test.YtdcglghmhjbkkaaChecked
import Derived.Test.YtdcglghmhjbkkaaJ3
import Derived.OpenShut
import Derived.ChangeOld
import Derived.ShutString
import Derived.JoinedOf
import Derived.JoinedAt
import Derived.RowKit3
import Derived.Lib.SmallJoins
namespace Go.Proofs.Ytdcglghmhjbkkaa
namespace fnExactJoinFilters
open Go.ChangeShapes Go.WideShapes Go.ChangeAt Go.RowKit Go.Joins
open Go.ChangeMaps (open_string shut_string)
set_option linter.unusedVariables false

theorem law (n : Int) (s : ByteArray) (m : Int) (n2 : Int) (s2 : ByteArray) (m2 : Int) (w : World) (hs : s.size ≤ maxLen) (hs2 : s2.size ≤ maxLen) :
    Calls Try.prog 10 #[.agg #[.int .i64 n, .string s, .int .i64 m], .agg #[.int .i64 n2, .string s2, .int .i64 m2]] w fun e w' => e = .returned (.bool true) ∧ Below w.heap.size w w' := lawJoin n s m n2 s2 m2 w hs hs2

theorem own : ownKnob Try.prog.godebug = none := by kernel_rfl
theorem laidOut : laidOutB Try.prog = true := by kernel_rfl
theorem cells47 : Try.prog.cellsOf 47 = 3 := by kernel_rfl
theorem cells9 : Try.prog.cellsOf 9 = 1 := by kernel_rfl

set_option maxRecDepth 100000 in
theorem lifted (os : Os) (started : os.Started) (H : Type) (enc : TypeId × Value → H) :
    ReturnsInHanded {} Try.checked os 10 .any (Rows.fnExactJoinFiltersSpec.pre6 enc Try.prog Try.f10 Rows.fnExactJoinFiltersRow.domain false) (Rows.fnExactJoinFiltersSpec.post enc Try.prog Try.f10 false true false false) := by
  refine returnsInHanded_of_change (C := Try.checked) own started (by kernel_rfl) Try.func10
    (ChangeSpec.witness6 (enc := enc) (C := Try.checked) false ⟨#[], #[.agg #[.int .i64 0, .string ⟨#[]⟩, .int .i64 0], .agg #[.int .i64 0, .string ⟨#[]⟩, .int .i64 0]], []⟩ 8 (by kernel_rfl) (by kernel_rfl) (by kernel_rfl) (by kernel_rfl)) ?_
  intro W base args ds gs before hval0 hW hcnd _
  have hval : ∀ (j : Nat) t v, Try.f10.params[j]? = some t → args[j]? = some v → Value.okWide Try.prog W .any base t v := hval0
  have hW' := hW
  obtain ⟨p, q, hA0, hV, rfl, hfz, hnd⟩ := hW
  have hA : DataW.TrodAll enc Try.prog W 0 (fun _ => true) true Try.f10.params.toList args.toList ds p := hA0
  rw [Try.params10] at hA hval
  obtain ⟨rfl, rfl⟩ := trodVars_none hV
  obtain ⟨v0, vs0, d0, ds0, p0, q0, hargs0, hds0, hp0, h0, r0⟩ := trodAll_cons hA
  obtain ⟨v1, vs1, d1, ds1, p1, q1, hargs1, hds1, hp1, h1, r1⟩ := trodAll_cons r0
  obtain ⟨e1, e2, e3⟩ := trodAll_nil r1
  subst e2 e3
  subst e1
  subst hargs1 hds1 hp1
  subst hds0 hp0
  obtain rfl : args = #[v0, v1] := by cases args; simp_all
  have k0 := h0
  have lt0 : ∀ x ∈ p0, x.block < W.heap.size := by obtain ⟨m, hm⟩ := k0; exact DataW.trod_lt m _ _ _ hm
  obtain ⟨fa0, fb0, fc0, ya0, yb0, yc0, nn0, rfl, hd0, hpp0, ta0, tb0, tc0⟩ := open_agg3 Try.underlying47 (by kernel_rfl) cells47 (hval 0 47 v0 rfl rfl) h0
  obtain ⟨xh0, za0, _, _⟩ := DataW.trod_int Try.underlying3 ta0
  obtain ⟨xs0, zb0, _, ss0⟩ := DataW.trod_string Try.underlying9 tb0
  obtain ⟨xm0, zc0, _, wm0⟩ := DataW.trod_int Try.underlying3 tc0
  simp only [List.cons.injEq, and_true] at za0 zb0 zc0
  subst za0 zb0 zc0
  have k1 := h1
  have lt1 : ∀ x ∈ p1, x.block < W.heap.size := by obtain ⟨m, hm⟩ := k1; exact DataW.trod_lt m _ _ _ hm
  obtain ⟨fa1, fb1, fc1, ya1, yb1, yc1, nn1, rfl, hd1, hpp1, ta1, tb1, tc1⟩ := open_agg3 Try.underlying47 (by kernel_rfl) cells47 (hval 1 47 v1 rfl rfl) h1
  obtain ⟨xh1, za1, _, _⟩ := DataW.trod_int Try.underlying3 ta1
  obtain ⟨xs1, zb1, _, ss1⟩ := DataW.trod_string Try.underlying9 tb1
  obtain ⟨xm1, zc1, _, wm1⟩ := DataW.trod_int Try.underlying3 tc1
  simp only [List.cons.injEq, and_true] at za1 zb1 zc1
  subst za1 zb1 zc1
  clear hA0 hval0
  refine (law xh0 xs0 xm0 xh1 xs1 xm1 W ss0 ss1).mono fun e W' ⟨he, bel⟩ => ?_
  subst he
  exact ⟨_, rfl, _, _, _, [], _, [], hW', trodAll_mk1 (shut_bool Try.underlying4 _), (trodAll_cons_mk (Below.trod laidOut (by kernel_rfl) (of_decide_eq_true (by kernel_rfl)) k0 bel lt0) (trodAll_cons_mk (Below.trod laidOut (by kernel_rfl) (of_decide_eq_true (by kernel_rfl)) k1 bel lt1) trodAll_mk0)), rfl, bel.frame _, fun h => by cases h⟩

theorem over : Rows.fnExactJoinFiltersRow.holds Try.pinned (OpenSpec.ofChange Rows.fnExactJoinFiltersSpec) :=
  OpenClaim.holds_of_wide 10 Try.f10 rfl rfl rfl rfl rfl rfl rfl ⟨rfl, rfl, rfl, rfl, rfl⟩ rfl rfl rfl rfl rfl (by kernel_rfl) Try.func10 (by kernel_rfl)
    (of_decide_eq_true (by kernel_rfl)) (by unfold Func.isWrapper; first | (rw [if_pos (by decide +kernel)]; kernel_rfl) | (rw [if_neg (by decide +kernel)]; exact ⟨rfl, rfl⟩))
    (fun os started H enc _ => lifted os started H enc)
end fnExactJoinFilters
theorem fnExactJoinFilters_holds : Rows.FnExactJoinFiltersSaid := fnExactJoinFilters.over
#print axioms fnExactJoinFilters_holds
end Go.Proofs.Ytdcglghmhjbkkaa
