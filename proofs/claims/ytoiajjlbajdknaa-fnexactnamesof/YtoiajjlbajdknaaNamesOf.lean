/-
  At every disk whatever (any lists, any room, any memory), impl.NamesOf answers as its specification (each name and the bool), leaves its argument as it was, and its answer owns its memory: the law laws.FnExactNamesOf returns true. No condition.
-/
import Derived.Test.YtoiajjlbajdknaaRows
import Derived.Test.YtoiajjlbajdknaaN2
import Derived.Test.YtoiajjlbajdknaaT
import Derived.OpenShut
import Derived.ChangeOld
namespace Go.Proofs.Ytoiajjlbajdknaa
namespace fnExactNamesOf
open Go.ChangeShapes Go.WideShapes Go.ChangeAt Go.RowKit Go.Joins
set_option linter.unusedVariables false

theorem own : ownKnob Try.prog.godebug = none := by kernel_rfl
theorem laidOut : laidOutB Try.prog = true := by kernel_rfl
theorem cells34 : Try.prog.cellsOf 34 = 4 := by kernel_rfl
theorem cells101 : Try.prog.cellsOf 101 = 2 := by kernel_rfl
theorem cells103 : Try.prog.cellsOf 103 = 2 := by kernel_rfl
theorem cells9 : Try.prog.cellsOf 9 = 1 := by kernel_rfl
theorem cells3 : Try.prog.cellsOf 3 = 1 := by kernel_rfl

set_option maxRecDepth 100000 in
theorem lifted (os : Os) (started : os.Started) (H : Type) (enc : TypeId × Value → H) :
    ReturnsInHanded {} Try.checked os 9 .any (Rows.fnExactNamesOfSpec.pre6 enc Try.prog Try.f9 Rows.fnExactNamesOfRow.domain false) (Rows.fnExactNamesOfSpec.post enc Try.prog Try.f9 false true false false) := by
  refine returnsInHanded_of_change (C := Try.checked) own started (by kernel_rfl) Try.func9
    (ChangeSpec.witness6 (enc := enc) (C := Try.checked) false ⟨#[], #[.agg #[.slice none 0 0, .slice none 0 0, .slice none 0 0, .int .i64 0]], []⟩ 8 (by kernel_rfl) (by kernel_rfl) (by kernel_rfl) (by kernel_rfl)) ?_
  intro W base args ds gs before hval0 hW hcnd _
  have hval : ∀ (j : Nat) t v, Try.f9.params[j]? = some t → args[j]? = some v → Value.okWide Try.prog W .any base t v := hval0
  have hW' := hW
  obtain ⟨p, q, hA0, hV, rfl, hfz, hnd⟩ := hW
  have hA : DataW.TrodAll enc Try.prog W 0 (fun _ => true) true Try.f9.params.toList args.toList ds p := hA0
  rw [Try.params9] at hA hval
  obtain ⟨v0, vs0, d0, ds0, p0, q0, hargs, rfl, rfl, h0, r0⟩ := trodAll_cons hA
  obtain ⟨rfl, rfl, rfl⟩ := trodAll_nil r0
  obtain rfl : args = #[v0] := by cases args; simp_all
  obtain ⟨rfl, rfl⟩ := trodVars_none hV
  have k0 := h0
  have lt0 : ∀ x ∈ p0, x.block < W.heap.size := by obtain ⟨m, hm⟩ := k0; exact DataW.trod_lt m _ _ _ hm
  obtain ⟨u1, u2, u3, u4, y1, y2, y3, y4, n, rfl, hd, hp, t1, t2, t3, t4⟩ := open_agg4 Try.underlying34 (by kernel_rfl) cells34 (hval 0 34 v0 rfl rfl) h0
  obtain ⟨bl, P1, n1, s1⟩ := PL_of_trod Try.underlying31 Try.underlying101 cells101 rfl rfl cells9 cells3 Try.underlying9 Try.underlying3 t1
  obtain ⟨lv, P2, n2, s2⟩ := PL_of_trod Try.underlying32 Try.underlying103 cells103 rfl rfl cells9 cells3 Try.underlying9 Try.underlying3 t2
  obtain ⟨sf, P3, n3, s3⟩ := PL_of_trod Try.underlying32 Try.underlying103 cells103 rfl rfl cells9 cells3 Try.underlying9 Try.underlying3 t3
  obtain ⟨r, e4, _, _⟩ := DataW.trod_int Try.underlying3 t4
  simp only [List.cons.injEq, and_true] at e4
  subst e4
  clear hA0 hval0
  refine (lawNamesOf_any u1 u2 u3 bl lv sf r W P1 P2 P3 n1 n2 n3 s1 s2 s3).mono fun e W' ⟨he, bel⟩ => ?_
  subst he
  exact ⟨_, rfl, _, _, _, [], _, [], hW', trodAll_mk1 (shut_bool Try.underlying4 _), (trodAll_cons_mk (Below.trod laidOut (by kernel_rfl) (of_decide_eq_true (by kernel_rfl)) k0 bel lt0) trodAll_mk0), rfl, bel.frame _, fun h => by cases h⟩

theorem over : Rows.fnExactNamesOfRow.holds Try.pinned (OpenSpec.ofChange Rows.fnExactNamesOfSpec) :=
  OpenClaim.holds_of_wide 9 Try.f9 rfl rfl rfl rfl rfl rfl rfl ⟨rfl, rfl, rfl, rfl, rfl⟩ rfl rfl rfl rfl rfl (by kernel_rfl) Try.func9 (by kernel_rfl)
    (of_decide_eq_true (by kernel_rfl)) (by unfold Func.isWrapper; first | (rw [if_pos (by decide +kernel)]; kernel_rfl) | (rw [if_neg (by decide +kernel)]; exact ⟨rfl, rfl⟩))
    (fun os started H enc _ => lifted os started H enc)
end fnExactNamesOf
theorem fnExactNamesOf_holds : Rows.FnExactNamesOfSaid := fnExactNamesOf.over
#print axioms fnExactNamesOf_holds
end Go.Proofs.Ytoiajjlbajdknaa
