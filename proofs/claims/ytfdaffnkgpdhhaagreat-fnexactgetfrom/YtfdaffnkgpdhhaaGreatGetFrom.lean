/-
  At every text, key and number, impl.GetFrom answers as its specification: the law laws.FnExactGetFrom returns true. No condition.
-/
import Derived.Test.YtfdaffnkgpdhhaaGreatRows
import Derived.Test.YtfdaffnkgpdhhaaGreatChecked
import Derived.Test.YtfdaffnkgpdhhaaGreatGz
import Derived.OpenShut
import Derived.ChangeOld
import Derived.ShutString
import Derived.JoinedOf
import Derived.JoinedAt
import Derived.RowKit3
namespace Go.Proofs.YtfdaffnkgpdhhaaGreat
namespace fnExactGetFrom
open Go.ChangeShapes Go.WideShapes Go.ChangeAt Go.RowKit
open Go.ChangeMaps (open_string shut_string)
set_option linter.unusedVariables false

set_option maxRecDepth 100000 in
set_option maxHeartbeats 1000000 in
theorem law (s key : ByteArray) (seq : Int) (w : World) (hs : s.size ≤ maxLen) (hk : key.size ≤ maxLen) (hq1 : -9223372036854775808 ≤ seq) (hq2 : seq ≤ 9223372036854775807) :
    Calls Tryz.prog 7 #[.string s, .string key, .int .i64 seq] w fun e w' => e = .returned (.bool true) ∧ Below w.heap.size w w' := by
  unfold maxLen at hs hk
  by_cases h1 : (s.size : Int) ≤ 1048576
  · by_cases h2 : (key.size : Int) ≤ 1048576
    · have S := fun w => specGet_any s key seq w (by omega) (by omega)
      go_enter Tryz.func7, Tryz.ntmps7
      go_wp2_with fail
      refine (S _).mono ?_
      rintro e w1 ⟨l, ok, hres, hb1, rfl⟩
      clear S
      have I : ∀ w, Calls Tryz.prog 14 #[.string s, .string key, .int .i64 seq] w fun e w' => e = .returned (.tuple #[.agg #[.string (gF l ok key seq).1.k, .int .i64 (gF l ok key seq).1.n, .int .i64 (gF l ok key seq).1.d, .string (gF l ok key seq).1.v], .int .i64 (gF l ok key seq).2.1, .bool (gF l ok key seq).2.2]) ∧ Below w.heap.size w w' := fun w => (implGet_any s key seq w (by omega) (by omega)).mono fun e w' ⟨l', ok', hr', hb, he⟩ => by
        obtain ⟨rfl, rfl⟩ := hr'.same hres
        exact ⟨he, hb⟩
      clear hres
      generalize gF l ok key seq = G at *
      obtain ⟨⟨gk, gn, gd, gv⟩, gc, gb⟩ := G
      dsimp only at I ⊢
      have hB1 := hb1.alloc hb1.size (.cells #[.string gk, .int .i64 gn, .int .i64 gd, .string gv] 33)
      have X1 := Box.new w1 #[.string gk, .int .i64 gn, .int .i64 gd, .string gv] 33
      clear hb1
      go_wp2_with fail
      refine (I _).mono ?_
      rintro e w2 ⟨rfl, hb2⟩
      have hB2 := below_then hB1 hb2
      have X2 := X1.below hb2
      have X3 := X2.alloc (.cells #[.string gk, .int .i64 gn, .int .i64 gd, .string gv] 33)
      have hB3 := hB2.alloc hB2.size (.cells #[.string gk, .int .i64 gn, .int .i64 gd, .string gv] 33)
      clear I hB1 X1 hb2 hB2 X2
      obtain ⟨_, x0, x1, x2, x3⟩ := X3.c4
      cases gb
      all_goals
        go_wp2_with fail
        refine (eqItem_same _ _ _ _ _).mono ?_
        rintro e w4 ⟨rfl, hb4⟩
        have hB4 := below_then hB3 hb4
        go_wp2
        go_ret
        exact ⟨rfl, hB4⟩
    · go_enter Tryz.func7, Tryz.ntmps7
      go_wp2
      go_ret
      exact ⟨rfl, Below.refl _ _⟩
  · go_enter Tryz.func7, Tryz.ntmps7
    go_wp2
    go_ret
    exact ⟨rfl, Below.refl _ _⟩


theorem own : ownKnob Tryz.prog.godebug = none := by kernel_rfl

set_option maxRecDepth 100000 in
theorem lifted (os : Os) (started : os.Started) (H : Type) (enc : TypeId × Value → H) :
    ReturnsInHanded {} Tryz.checked os 7 .any (Rows.fnExactGetFromSpec.pre6 enc Tryz.prog Tryz.f7 Rows.fnExactGetFromRow.domain false) (Rows.fnExactGetFromSpec.post enc Tryz.prog Tryz.f7 false true false false) := by
  refine returnsInHanded_of_change (C := Tryz.checked) own started (by kernel_rfl) Tryz.func7
    (ChangeSpec.witness6 (enc := enc) (C := Tryz.checked) false ⟨#[], #[.string ⟨#[]⟩, .string ⟨#[]⟩, .int .i64 0], []⟩ 8 (by kernel_rfl) (by kernel_rfl) (by kernel_rfl) (by kernel_rfl)) ?_
  intro W base args ds gs before hval0 hW hcnd _
  have hval : ∀ (j : Nat) t v, Tryz.f7.params[j]? = some t → args[j]? = some v → Value.okWide Tryz.prog W .any base t v := hval0
  have hW' := hW
  obtain ⟨p, q, hA0, hV, rfl, hfz, hnd⟩ := hW
  have hA : DataW.TrodAll enc Tryz.prog W 0 (fun _ => true) true Tryz.f7.params.toList args.toList ds p := hA0
  rw [Tryz.params7] at hA hval
  obtain ⟨rfl, rfl⟩ := trodVars_none hV
  obtain ⟨v0, vs0, d0, ds0, p0, q0, hargs0, hds0, hp0, h0, r0⟩ := trodAll_cons hA
  obtain ⟨v1, vs1, d1, ds1, p1, q1, hargs1, hds1, hp1, h1, r1⟩ := trodAll_cons r0
  obtain ⟨v2, vs2, d2, ds2, p2, q2, hargs2, hds2, hp2, h2, r2⟩ := trodAll_cons r1
  obtain ⟨e1, e2, e3⟩ := trodAll_nil r2
  subst e2 e3
  subst e1
  subst hargs2 hds2 hp2
  subst hargs1 hds1 hp1
  subst hds0 hp0
  obtain rfl : args = #[v0, v1, v2] := by cases args; simp_all
  obtain ⟨x0, rfl, rfl, rfl, w_0⟩ := open_string Tryz.underlying9 (hval 0 9 v0 rfl rfl) h0
  obtain ⟨x1, rfl, rfl, rfl, w_1⟩ := open_string Tryz.underlying9 (hval 1 9 v1 rfl rfl) h1
  obtain ⟨x2, rfl, rfl, rfl, w_2⟩ := open_int Tryz.underlying3 (hval 2 3 v2 rfl rfl) h2
  have b2 : -9223372036854775808 ≤ x2 ∧ x2 ≤ 9223372036854775807 := by
    have h := w_2
    simp only [Lit.wf, Bool.and_eq_true, decide_eq_true_eq] at h
    exact ⟨h.1, h.2⟩
  clear hA0 hval0
  refine (law x0 x1 x2 W w_0 w_1 b2.1 b2.2).mono fun e W' ⟨he, bel⟩ => ?_
  subst he
  exact ⟨_, rfl, _, _, _, [], _, [], hW', trodAll_mk1 (shut_bool Tryz.underlying4 _), (trodAll_cons_mk (shut_string Tryz.underlying9 w_0) (trodAll_cons_mk (shut_string Tryz.underlying9 w_1) (trodAll_cons_mk (shut_int Tryz.underlying3 w_2) trodAll_mk0))), rfl, bel.frame _, fun h => by cases h⟩

theorem over : Rows.fnExactGetFromRow.holds Tryz.pinned (OpenSpec.ofChange Rows.fnExactGetFromSpec) :=
  OpenClaim.holds_of_wide 7 Tryz.f7 rfl rfl rfl rfl rfl rfl rfl ⟨rfl, rfl, rfl, rfl, rfl⟩ rfl rfl rfl rfl rfl (by kernel_rfl) Tryz.func7 (by kernel_rfl)
    (of_decide_eq_true (by kernel_rfl)) (by unfold Func.isWrapper; first | (rw [if_pos (by decide +kernel)]; kernel_rfl) | (rw [if_neg (by decide +kernel)]; exact ⟨rfl, rfl⟩))
    (fun os started H enc _ => lifted os started H enc)
end fnExactGetFrom
theorem fnExactGetFrom_holds : Rows.FnExactGetFromSaid := fnExactGetFrom.over
#print axioms fnExactGetFrom_holds
end Go.Proofs.YtfdaffnkgpdhhaaGreat
