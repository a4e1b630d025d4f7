/-
  At every edit, impl.EditBytes answers as its specification, and writes into no argument: the law laws.FnExactEditBytes returns true. No condition.
-/
import Derived.Test.YtenbdjlhcadhaaaRows
import Derived.Test.YtenbdjlhcadhaaaChecked
import Derived.Test.YtenbdjlhcadhaaaLEB
import Derived.Test.YtenbdjlhcadhaaaM2
import Derived.OpenShut
import Derived.ChangeOld
import Derived.ShutString
import Derived.JoinedOf
import Derived.JoinedAt
import Derived.RowKit3
import Derived.Lib.SmallJoins
namespace Go.Proofs.Ytenbdjlhcadhaaa
namespace fnExactEditBytes
open Go.ChangeShapes Go.WideShapes Go.ChangeAt Go.RowKit Go.Joins
open Go.ChangeMaps (open_string shut_string)
set_option linter.unusedVariables false

theorem law (nx sq : Int) (q : Value) (dr : List Int) (v : Value) (l : List Mt) (w : World) (hq : IL w q dr) (hd : dr.length ≤ maxLen) (hv : IR w v l) (hn : l.length ≤ maxLen) (hs : ∀ i (h : i < l.length), l[i].k.size ≤ maxLen ∧ l[i].v.size ≤ maxLen) :
    Calls Try.prog 8 #[.agg #[.int .i64 nx, .int .i64 sq, q, v]] w fun e w' => e = .returned (.bool true) ∧ Below w.heap.size w w' := lawEditBytes nx sq q dr v l w hq hd hv hn hs

theorem own : ownKnob Try.prog.godebug = none := by kernel_rfl
theorem laidOut : laidOutB Try.prog = true := by kernel_rfl
theorem cells122 : Try.prog.cellsOf 122 = 4 := by kernel_rfl
theorem cells3 : Try.prog.cellsOf 3 = 1 := by kernel_rfl
theorem cells49 : Try.prog.cellsOf 49 = 3 := by kernel_rfl
theorem cells55 : Try.prog.cellsOf 55 = 4 := by kernel_rfl
theorem cells5 : Try.prog.cellsOf 5 = 1 := by kernel_rfl
theorem cells9 : Try.prog.cellsOf 9 = 1 := by kernel_rfl

set_option maxRecDepth 100000 in
theorem lifted (os : Os) (started : os.Started) (H : Type) (enc : TypeId × Value → H) :
    ReturnsInHanded {} Try.checked os 8 .any (Rows.fnExactEditBytesSpec.pre6 enc Try.prog Try.f8 Rows.fnExactEditBytesRow.domain false) (Rows.fnExactEditBytesSpec.post enc Try.prog Try.f8 false true false false) := by
  refine returnsInHanded_of_change (C := Try.checked) own started (by kernel_rfl) Try.func8
    (ChangeSpec.witness6 (enc := enc) (C := Try.checked) false ⟨#[], #[.agg #[.int .i64 0, .int .i64 0, .slice none 0 0, .slice none 0 0]], []⟩ 8 (by kernel_rfl) (by kernel_rfl) (by kernel_rfl) (by kernel_rfl)) ?_
  intro W base args ds gs before hval0 hW hcnd _
  have hval : ∀ (j : Nat) t v, Try.f8.params[j]? = some t → args[j]? = some v → Value.okWide Try.prog W .any base t v := hval0
  have hW' := hW
  obtain ⟨p, q, hA0, hV, rfl, hfz, hnd⟩ := hW
  have hA : DataW.TrodAll enc Try.prog W 0 (fun _ => true) true Try.f8.params.toList args.toList ds p := hA0
  rw [Try.params8] at hA hval
  obtain ⟨rfl, rfl⟩ := trodVars_none hV
  obtain ⟨v0, vs0, d0, ds0, p0, q0, hargs0, hds0, hp0, h0, r0⟩ := trodAll_cons hA
  obtain ⟨e1, e2, e3⟩ := trodAll_nil r0
  subst e2 e3
  subst e1
  subst hds0 hp0
  obtain rfl : args = #[v0] := by cases args; simp_all
  have k0 := h0
  have lt0 : ∀ x ∈ p0, x.block < W.heap.size := by obtain ⟨m, hm⟩ := k0; exact DataW.trod_lt m _ _ _ hm
  obtain ⟨a0, b0, q_0, u0, _, _, _, _, m0, rfl, _, _, ta0, tb0, tq0, t0⟩ := open_agg4 Try.underlying55 (by kernel_rfl) cells55 (hval 0 55 v0 rfl rfl) h0
  obtain ⟨x0, ea0, _, _⟩ := DataW.trod_int Try.underlying3 ta0
  obtain ⟨z0, eb0, _, _⟩ := DataW.trod_int Try.underlying3 tb0
  simp only [List.cons.injEq, and_true] at ea0 eb0
  subst ea0 eb0
  obtain ⟨j0, Q0, nq0⟩ := IL_of_trod tq0
  obtain ⟨l0, P0, n0, s0⟩ := IR_of_trod Try.underlying47 Try.underlying122 cells122 (by kernel_rfl) Try.underlying3 Try.underlying3 Try.underlying9 Try.underlying9 t0
  clear hA0 hval0
  refine (law x0 z0 q_0 j0 u0 l0 W Q0 nq0 P0 n0 s0).mono fun e W' ⟨he, bel⟩ => ?_
  subst he
  exact ⟨_, rfl, _, _, _, [], _, [], hW', trodAll_mk1 (shut_bool Try.underlying4 _), (trodAll_cons_mk (Below.trod laidOut (by kernel_rfl) (of_decide_eq_true (by kernel_rfl)) k0 bel lt0) trodAll_mk0), rfl, bel.frame _, fun h => by cases h⟩

theorem over : Rows.fnExactEditBytesRow.holds Try.pinned (OpenSpec.ofChange Rows.fnExactEditBytesSpec) :=
  OpenClaim.holds_of_wide 8 Try.f8 rfl rfl rfl rfl rfl rfl rfl ⟨rfl, rfl, rfl, rfl, rfl⟩ rfl rfl rfl rfl rfl (by kernel_rfl) Try.func8 (by kernel_rfl)
    (of_decide_eq_true (by kernel_rfl)) (by unfold Func.isWrapper; first | (rw [if_pos (by decide +kernel)]; kernel_rfl) | (rw [if_neg (by decide +kernel)]; exact ⟨rfl, rfl⟩))
    (fun os started H enc _ => lifted os started H enc)
end fnExactEditBytes
theorem fnExactEditBytes_holds : Rows.FnExactEditBytesSaid := fnExactEditBytes.over
#print axioms fnExactEditBytes_holds
end Go.Proofs.Ytenbdjlhcadhaaa
