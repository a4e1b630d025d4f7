/-
  At every list of items, impl.TableBytes answers as its specification, and writes into no argument: the law laws.FnExactTableBytes returns true. No condition.
-/
import Derived.Test.YtfdaffnkgpdhhaaRows
import Derived.Test.YtfdaffnkgpdhhaaChecked
import Derived.Test.YtfdaffnkgpdhhaaNz
import Derived.Test.YtfdaffnkgpdhhaaM2
import Derived.OpenShut
import Derived.ChangeOld
import Derived.ShutString
import Derived.JoinedOf
import Derived.JoinedAt
import Derived.RowKit3
namespace Go.Proofs.Ytfdaffnkgpdhhaa
namespace fnExactTableBytes
open Go.ChangeShapes Go.WideShapes Go.ChangeAt Go.RowKit
open Go.ChangeMaps (open_string shut_string)
set_option linter.unusedVariables false

set_option maxRecDepth 100000 in
set_option maxHeartbeats 2000000 in
theorem law (v : Value) (l : List It) (w : World) (hv : IR w v l) (hn : l.length ≤ maxLen) (hs : ∀ i (h : i < l.length), l[i].k.size ≤ maxLen ∧ l[i].v.size ≤ maxLen) :
    Calls Try.prog 3 #[v] w fun e w' => e = .returned (.bool true) ∧ Below w.heap.size w w' := by
  have SZ := szItemS_any v l 1048576 w hv (by omega) (by omega) hn hs
  clear hs hn
  go_enter Try.func3, Try.ntmps3
  go_wp2_with fail
  refine SZ.mono ?_
  rintro e w1 ⟨⟨r, rfl, hr⟩, hb1⟩
  clear SZ
  have hv1 := hv.below hb1
  clear hv
  rcases hr with rfl | ⟨hr0, hr1⟩
  · go_wp2
    go_ret
    exact ⟨rfl, hb1⟩
  · have hn : l.length ≤ 1048576 := by omega
    have hs : ∀ i (h : i < l.length), l[i].k.size ≤ 1048576 ∧ l[i].v.size ≤ 1048576 := fun i h => by have := tot4_mem l i h; omega
    clear hr1
    have T := fun w h => toItemS_any v l w h hn
    have S := fun a c w h hc => specTab_any a c l w h hc hn hs
    have I := fun a c w h hc => implTab_any a c l w h hc hn hs
    generalize okT l = g at *
    generalize tabF l = B at *
    go_wp2_with fail
    refine (T _ hv1).mono ?_
    rintro e w2 ⟨rfl, o2, hb2⟩
    have hB2 := below_then hb1 hb2
    have hv2 := hv1.below hb2
    have i2 := IR_of_owns o2 rfl
    clear hb1 hb2 hv1 o2
    go_wp2_with fail
    refine (S _ _ _ i2 (Nat.le_refl _)).mono ?_
    rintro e w3 ⟨rfl, hb3⟩
    have hB3 := below_then hB2 hb3
    have hv3 := hv2.below hb3
    clear hB2 hb3 hv2 i2 S
    go_wp2_with fail
    refine (T _ hv3).mono ?_
    rintro e w4 ⟨rfl, o4, hb4⟩
    have hB4 := below_then hB3 hb4
    have hv4 := hv3.below hb4
    have i4 := IR_of_owns o4 rfl
    clear hB3 hb4 hv3 o4
    go_wp2_with fail
    refine (I _ _ _ i4 (Nat.le_refl _)).mono ?_
    rintro e w5 ⟨rfl, hb5⟩
    have hB5 := below_then hB4 hb5
    have hv5 := hv4.below hb5
    have i5 := i4.below hb5
    clear hB4 hb5 hv4 i4 I
    cases g
    all_goals
      go_wp2_with fail
      refine (T _ hv5).mono ?_
      rintro e w6 ⟨rfl, o6, hb6⟩
      have hB6 := below_then hB5 hb6
      have i6 := i5.below hb6
      have j6 := IR_of_owns o6 rfl
      clear hB5 hb6 hv5 o6 i5 T
      go_wp2_with fail
      refine (eqItemS_same _ _ l _ i6 j6 hn).mono ?_
      rintro e w7 ⟨rfl, hb7⟩
      have hB7 := below_then hB6 hb7
      clear hB6 hb7 i6 j6
      go_wp2
      go_ret
      exact ⟨rfl, hB7⟩


theorem own : ownKnob Try.prog.godebug = none := by kernel_rfl
theorem laidOut : laidOutB Try.prog = true := by kernel_rfl
theorem cells82 : Try.prog.cellsOf 40 = 4 := by kernel_rfl
theorem cells5 : Try.prog.cellsOf 5 = 1 := by kernel_rfl
theorem cells9 : Try.prog.cellsOf 9 = 1 := by kernel_rfl

set_option maxRecDepth 100000 in
theorem lifted (os : Os) (started : os.Started) (H : Type) (enc : TypeId × Value → H) :
    ReturnsInHanded {} Try.checked os 3 .any (Rows.fnExactTableBytesSpec.pre6 enc Try.prog Try.f3 Rows.fnExactTableBytesRow.domain false) (Rows.fnExactTableBytesSpec.post enc Try.prog Try.f3 false true false false) := by
  refine returnsInHanded_of_change (C := Try.checked) own started (by kernel_rfl) Try.func3
    (ChangeSpec.witness6 (enc := enc) (C := Try.checked) false ⟨#[], #[.slice none 0 0], []⟩ 8 (by kernel_rfl) (by kernel_rfl) (by kernel_rfl) (by kernel_rfl)) ?_
  intro W base args ds gs before hval0 hW hcnd _
  have hval : ∀ (j : Nat) t v, Try.f3.params[j]? = some t → args[j]? = some v → Value.okWide Try.prog W .any base t v := hval0
  have hW' := hW
  obtain ⟨p, q, hA0, hV, rfl, hfz, hnd⟩ := hW
  have hA : DataW.TrodAll enc Try.prog W 0 (fun _ => true) true Try.f3.params.toList args.toList ds p := hA0
  rw [Try.params3] at hA hval
  obtain ⟨rfl, rfl⟩ := trodVars_none hV
  obtain ⟨v0, vs0, d0, ds0, p0, q0, hargs0, hds0, hp0, h0, r0⟩ := trodAll_cons hA
  obtain ⟨e1, e2, e3⟩ := trodAll_nil r0
  subst e2 e3
  subst e1
  subst hds0 hp0
  obtain rfl : args = #[v0] := by cases args; simp_all
  have k0 := h0
  have lt0 : ∀ x ∈ p0, x.block < W.heap.size := by obtain ⟨m, hm⟩ := k0; exact DataW.trod_lt m _ _ _ hm
  obtain ⟨l0, P0, n0, s0⟩ : ∃ l : List It, IR W v0 l ∧ l.length ≤ maxLen ∧ ∀ i (hi : i < l.length), l[i].k.size ≤ maxLen ∧ l[i].v.size ≤ maxLen := by
    obtain ⟨f, hf⟩ := k0
    obtain ⟨_, _, _, rfl⟩ := okWide_slice Try.underlying22 (hval 0 22 v0 rfl rfl)
    exact IR_of_trod Try.underlying22 Try.underlying40 cells82 (by kernel_rfl) Try.underlying9 Try.underlying3 Try.underlying3 Try.underlying9 hf
  clear hA0 hval0
  refine (law v0 l0 W P0 n0 s0).mono fun e W' ⟨he, bel⟩ => ?_
  subst he
  exact ⟨_, rfl, _, _, _, [], _, [], hW', trodAll_mk1 (shut_bool Try.underlying4 _), (trodAll_cons_mk (Below.trod laidOut (by kernel_rfl) (of_decide_eq_true (by kernel_rfl)) k0 bel lt0) trodAll_mk0), rfl, bel.frame _, fun h => by cases h⟩

theorem over : Rows.fnExactTableBytesRow.holds Try.pinned (OpenSpec.ofChange Rows.fnExactTableBytesSpec) :=
  OpenClaim.holds_of_wide 3 Try.f3 rfl rfl rfl rfl rfl rfl rfl ⟨rfl, rfl, rfl, rfl, rfl⟩ rfl rfl rfl rfl rfl (by kernel_rfl) Try.func3 (by kernel_rfl)
    (of_decide_eq_true (by kernel_rfl)) (by unfold Func.isWrapper; first | (rw [if_pos (by decide +kernel)]; kernel_rfl) | (rw [if_neg (by decide +kernel)]; exact ⟨rfl, rfl⟩))
    (fun os started H enc _ => lifted os started H enc)
end fnExactTableBytes
theorem fnExactTableBytes_holds : Rows.FnExactTableBytesSaid := fnExactTableBytes.over
#print axioms fnExactTableBytes_holds
end Go.Proofs.Ytfdaffnkgpdhhaa
