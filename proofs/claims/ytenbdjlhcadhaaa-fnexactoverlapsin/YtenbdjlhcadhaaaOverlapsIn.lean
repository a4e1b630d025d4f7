/-
  At every version, level and two texts, impl.OverlapsIn answers as its specification, and writes into no argument: the law laws.FnExactOverlapsIn returns true. No condition.
-/
import Derived.Test.YtenbdjlhcadhaaaRows
import Derived.Test.YtenbdjlhcadhaaaChecked
import Derived.Test.YtenbdjlhcadhaaaLOv
import Derived.Test.YtenbdjlhcadhaaaM2
import Derived.OpenShut
import Derived.ChangeOld
import Derived.ShutString
import Derived.JoinedOf
import Derived.JoinedAt
import Derived.RowKit3
import Derived.Lib.SmallJoins
namespace Go.Proofs.Ytenbdjlhcadhaaa
namespace fnExactOverlapsIn
open Go.ChangeShapes Go.WideShapes Go.ChangeAt Go.RowKit Go.Joins
open Go.ChangeMaps (open_string shut_string)
set_option linter.unusedVariables false

theorem law (nx sq : Int) (v : Value) (l : List Mt) (lev : Int) (ka kb : ByteArray) (w : World) (HV : IR w v l) (hn : l.length ≤ maxLen) (hs : ∀ i (h : i < l.length), l[i].k.size ≤ maxLen ∧ l[i].v.size ≤ maxLen) (h1 : -9223372036854775808 ≤ lev) (h2 : lev ≤ 9223372036854775807) (ha : ka.size ≤ maxLen) (hb : kb.size ≤ maxLen) :
    Calls Try.prog 11 #[.agg #[.int .i64 nx, .int .i64 sq, v], .int .i64 lev, .string ka, .string kb] w fun e w' => e = .returned (.bool true) ∧ Below w.heap.size w w' := lawOverlapsIn nx sq v l lev ka kb w HV hn hs ha hb

theorem own : ownKnob Try.prog.godebug = none := by kernel_rfl
theorem laidOut : laidOutB Try.prog = true := by kernel_rfl
theorem cells122 : Try.prog.cellsOf 122 = 4 := by kernel_rfl
theorem cells3 : Try.prog.cellsOf 3 = 1 := by kernel_rfl
theorem cells49 : Try.prog.cellsOf 49 = 3 := by kernel_rfl
theorem cells55 : Try.prog.cellsOf 55 = 4 := by kernel_rfl
theorem cells5 : Try.prog.cellsOf 5 = 1 := by kernel_rfl
theorem cells9 : Try.prog.cellsOf 9 = 1 := by kernel_rfl

set_option maxRecDepth 100000 in
theorem lifted (os : Os) (started : os.Started) (H : Type) (enc : TypeId × Value → H) :
    ReturnsInHanded {} Try.checked os 11 .any (Rows.fnExactOverlapsInSpec.pre6 enc Try.prog Try.f11 Rows.fnExactOverlapsInRow.domain false) (Rows.fnExactOverlapsInSpec.post enc Try.prog Try.f11 false true false false) := by
  refine returnsInHanded_of_change (C := Try.checked) own started (by kernel_rfl) Try.func11
    (ChangeSpec.witness6 (enc := enc) (C := Try.checked) false ⟨#[], #[.agg #[.int .i64 0, .int .i64 0, .slice none 0 0], .int .i64 0, .string ⟨#[]⟩, .string ⟨#[]⟩], []⟩ 8 (by kernel_rfl) (by kernel_rfl) (by kernel_rfl) (by kernel_rfl)) ?_
  intro W base args ds gs before hval0 hW hcnd _
  have hval : ∀ (j : Nat) t v, Try.f11.params[j]? = some t → args[j]? = some v → Value.okWide Try.prog W .any base t v := hval0
  have hW' := hW
  obtain ⟨p, q, hA0, hV, rfl, hfz, hnd⟩ := hW
  have hA : DataW.TrodAll enc Try.prog W 0 (fun _ => true) true Try.f11.params.toList args.toList ds p := hA0
  rw [Try.params11] at hA hval
  obtain ⟨rfl, rfl⟩ := trodVars_none hV
  obtain ⟨v0, vs0, d0, ds0, p0, q0, hargs0, hds0, hp0, h0, r0⟩ := trodAll_cons hA
  obtain ⟨v1, vs1, d1, ds1, p1, q1, hargs1, hds1, hp1, h1, r1⟩ := trodAll_cons r0
  obtain ⟨v2, vs2, d2, ds2, p2, q2, hargs2, hds2, hp2, h2, r2⟩ := trodAll_cons r1
  obtain ⟨v3, vs3, d3, ds3, p3, q3, hargs3, hds3, hp3, h3, r3⟩ := trodAll_cons r2
  obtain ⟨e1, e2, e3⟩ := trodAll_nil r3
  subst e2 e3
  subst e1
  subst hargs3 hds3 hp3
  subst hargs2 hds2 hp2
  subst hargs1 hds1 hp1
  subst hds0 hp0
  obtain rfl : args = #[v0, v1, v2, v3] := by cases args; simp_all
  have k0 := h0
  have lt0 : ∀ x ∈ p0, x.block < W.heap.size := by obtain ⟨m, hm⟩ := k0; exact DataW.trod_lt m _ _ _ hm
  obtain ⟨a0, b0, u0, _, _, _, m0, rfl, _, _, ta0, tb0, t0⟩ := open_agg3 Try.underlying49 (by kernel_rfl) cells49 (hval 0 49 v0 rfl rfl) h0
  obtain ⟨x0, ea0, _, _⟩ := DataW.trod_int Try.underlying3 ta0
  obtain ⟨z0, eb0, _, _⟩ := DataW.trod_int Try.underlying3 tb0
  simp only [List.cons.injEq, and_true] at ea0 eb0
  subst ea0 eb0
  obtain ⟨l0, P0, n0, s0⟩ := IR_of_trod Try.underlying47 Try.underlying122 cells122 (by kernel_rfl) Try.underlying3 Try.underlying3 Try.underlying9 Try.underlying9 t0
  obtain ⟨x1, rfl, rfl, rfl, w_1⟩ := open_int Try.underlying3 (hval 1 3 v1 rfl rfl) h1
  have b1 : -9223372036854775808 ≤ x1 ∧ x1 ≤ 9223372036854775807 := by
    have h := w_1
    simp only [Lit.wf, Bool.and_eq_true, decide_eq_true_eq] at h
    exact ⟨h.1, h.2⟩
  obtain ⟨x2, rfl, rfl, rfl, w_2⟩ := open_string Try.underlying9 (hval 2 9 v2 rfl rfl) h2
  obtain ⟨x3, rfl, rfl, rfl, w_3⟩ := open_string Try.underlying9 (hval 3 9 v3 rfl rfl) h3
  clear hA0 hval0
  refine (law x0 z0 u0 l0 x1 x2 x3 W P0 n0 s0 b1.1 b1.2 w_2 w_3).mono fun e W' ⟨he, bel⟩ => ?_
  subst he
  exact ⟨_, rfl, _, _, _, [], _, [], hW', trodAll_mk1 (shut_bool Try.underlying4 _), (trodAll_cons_mk (Below.trod laidOut (by kernel_rfl) (of_decide_eq_true (by kernel_rfl)) k0 bel lt0) (trodAll_cons_mk (shut_int Try.underlying3 w_1) (trodAll_cons_mk (shut_string Try.underlying9 w_2) (trodAll_cons_mk (shut_string Try.underlying9 w_3) trodAll_mk0)))), rfl, bel.frame _, fun h => by cases h⟩

theorem over : Rows.fnExactOverlapsInRow.holds Try.pinned (OpenSpec.ofChange Rows.fnExactOverlapsInSpec) :=
  OpenClaim.holds_of_wide 11 Try.f11 rfl rfl rfl rfl rfl rfl rfl ⟨rfl, rfl, rfl, rfl, rfl⟩ rfl rfl rfl rfl rfl (by kernel_rfl) Try.func11 (by kernel_rfl)
    (of_decide_eq_true (by kernel_rfl)) (by unfold Func.isWrapper; first | (rw [if_pos (by decide +kernel)]; kernel_rfl) | (rw [if_neg (by decide +kernel)]; exact ⟨rfl, rfl⟩))
    (fun os started H enc _ => lifted os started H enc)
end fnExactOverlapsIn
theorem fnExactOverlapsIn_holds : Rows.FnExactOverlapsInSaid := fnExactOverlapsIn.over
#print axioms fnExactOverlapsIn_holds
end Go.Proofs.Ytenbdjlhcadhaaa
