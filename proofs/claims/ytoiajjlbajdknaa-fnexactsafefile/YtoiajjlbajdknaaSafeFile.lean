/-
  At every disk and every name whatever (any lists, any room, any memory), impl.SafeFile answers as its specification (the text and the bool) and leaves its argument as it was: the law laws.FnExactSafeFile returns true. No condition.
-/
import Derived.Test.YtoiajjlbajdknaaRows
import Derived.Test.YtoiajjlbajdknaaR7
import Derived.Test.YtoiajjlbajdknaaT
import Derived.OpenShut
import Derived.ChangeOld
import Derived.ShutString
namespace Go.Proofs.Ytoiajjlbajdknaa
namespace fnExactSafeFile
open Go.ChangeShapes Go.WideShapes Go.ChangeAt Go.RowKit Go.Joins
open Go.ChangeMaps (open_string shut_string)
set_option linter.unusedVariables false

theorem own : ownKnob Try.prog.godebug = none := by kernel_rfl
theorem laidOut : laidOutB Try.prog = true := by kernel_rfl
theorem cells34 : Try.prog.cellsOf 34 = 4 := by kernel_rfl
theorem cells101 : Try.prog.cellsOf 101 = 2 := by kernel_rfl
theorem cells103 : Try.prog.cellsOf 103 = 2 := by kernel_rfl
theorem cells9 : Try.prog.cellsOf 9 = 1 := by kernel_rfl
theorem cells3 : Try.prog.cellsOf 3 = 1 := by kernel_rfl

set_option maxRecDepth 100000 in
theorem lifted (os : Os) (started : os.Started) (H : Type) (enc : TypeId × Value → H) :
    ReturnsInHanded {} Try.checked os 8 .any (Rows.fnExactSafeFileSpec.pre6 enc Try.prog Try.f8 Rows.fnExactSafeFileRow.domain false) (Rows.fnExactSafeFileSpec.post enc Try.prog Try.f8 false true false false) := by
  refine returnsInHanded_of_change (C := Try.checked) own started (by kernel_rfl) Try.func8
    (ChangeSpec.witness6 (enc := enc) (C := Try.checked) false ⟨#[], #[.agg #[.slice none 0 0, .slice none 0 0, .slice none 0 0, .int .i64 0], .string ⟨#[]⟩], []⟩ 8 (by kernel_rfl) (by kernel_rfl) (by kernel_rfl) (by kernel_rfl)) ?_
  intro W base args ds gs before hval0 hW hcnd _
  have hval : ∀ (j : Nat) t v, Try.f8.params[j]? = some t → args[j]? = some v → Value.okWide Try.prog W .any base t v := hval0
  have hW' := hW
  obtain ⟨p, q, hA0, hV, rfl, hfz, hnd⟩ := hW
  have hA : DataW.TrodAll enc Try.prog W 0 (fun _ => true) true Try.f8.params.toList args.toList ds p := hA0
  rw [Try.params8] at hA hval
  obtain ⟨v0, vs0, d0, ds0, p0, q0, hargs, rfl, rfl, h0, r0⟩ := trodAll_cons hA
  obtain ⟨v9, vs9, d9, ds9, p9, q9, rfl, rfl, rfl, h9, r9⟩ := trodAll_cons r0
  obtain ⟨rfl, rfl, rfl⟩ := trodAll_nil r9
  obtain rfl : args = #[v0, v9] := by cases args; simp_all
  obtain ⟨rfl, rfl⟩ := trodVars_none hV
  have k0 := h0
  have lt0 : ∀ x ∈ p0, x.block < W.heap.size := by obtain ⟨m, hm⟩ := k0; exact DataW.trod_lt m _ _ _ hm
  obtain ⟨u1, u2, u3, u4, y1, y2, y3, y4, n, rfl, hd, hp, t1, t2, t3, t4⟩ := open_agg4 Try.underlying34 (by kernel_rfl) cells34 (hval 0 34 v0 rfl rfl) h0
  obtain ⟨bl, P1, n1, s1⟩ := PL_of_trod Try.underlying31 Try.underlying101 cells101 rfl rfl cells9 cells3 Try.underlying9 Try.underlying3 t1
  obtain ⟨lv, P2, n2, s2⟩ := PL_of_trod Try.underlying32 Try.underlying103 cells103 rfl rfl cells9 cells3 Try.underlying9 Try.underlying3 t2
  obtain ⟨sf, P3, n3, s3⟩ := PL_of_trod Try.underlying32 Try.underlying103 cells103 rfl rfl cells9 cells3 Try.underlying9 Try.underlying3 t3
  obtain ⟨r, e4, _, _⟩ := DataW.trod_int Try.underlying3 t4
  simp only [List.cons.injEq, and_true] at e4
  subst e4
  obtain ⟨nm, rfl, rfl, rfl, hnm⟩ := open_string Try.underlying9 (hval 1 9 v9 rfl rfl) h9
  clear hA0 hval0
  have walk : Calls Try.prog 8 #[.agg #[u1, u2, u3, .int .i64 r], .string nm] W fun e w' => e = .returned (.bool true) ∧ Below W.heap.size W w' := by
    by_cases hl : nm.size ≤ 1048576
    · exact lawSafe_any u1 u2 u3 bl lv sf r nm W P1 P2 P3 n1 n2 n3 s1 s2 s3 hl
    · exact lawSafe_long (.bool true) u1 u2 u3 r nm W hnm (by omega)
  refine walk.mono fun e W' ⟨he, bel⟩ => ?_
  subst he
  exact ⟨_, rfl, _, _, _, [], _, [], hW', trodAll_mk1 (shut_bool Try.underlying4 _), (trodAll_cons_mk (Below.trod laidOut (by kernel_rfl) (of_decide_eq_true (by kernel_rfl)) k0 bel lt0) (trodAll_cons_mk (shut_string Try.underlying9 hnm) trodAll_mk0)), rfl, bel.frame _, fun h => by cases h⟩

theorem over : Rows.fnExactSafeFileRow.holds Try.pinned (OpenSpec.ofChange Rows.fnExactSafeFileSpec) :=
  OpenClaim.holds_of_wide 8 Try.f8 rfl rfl rfl rfl rfl rfl rfl ⟨rfl, rfl, rfl, rfl, rfl⟩ rfl rfl rfl rfl rfl (by kernel_rfl) Try.func8 (by kernel_rfl)
    (of_decide_eq_true (by kernel_rfl)) (by unfold Func.isWrapper; first | (rw [if_pos (by decide +kernel)]; kernel_rfl) | (rw [if_neg (by decide +kernel)]; exact ⟨rfl, rfl⟩))
    (fun os started H enc _ => lifted os started H enc)
end fnExactSafeFile
theorem fnExactSafeFile_holds : Rows.FnExactSafeFileSaid := fnExactSafeFile.over
#print axioms fnExactSafeFile_holds
end Go.Proofs.Ytoiajjlbajdknaa
