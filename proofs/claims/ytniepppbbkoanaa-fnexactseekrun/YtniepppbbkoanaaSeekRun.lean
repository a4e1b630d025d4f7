/-
  At every list of items, key and number, impl.SeekRun answers as its specification, and writes into no argument: the law laws.FnExactSeekRun returns true. No condition.
-/
import Derived.Test.YtniepppbbkoanaaRows
import Derived.Test.YtniepppbbkoanaaChecked
import Derived.Test.YtniepppbbkoanaaK4
import Derived.Test.YtniepppbbkoanaaM2
import Derived.OpenShut
import Derived.ChangeOld
import Derived.ShutString
import Derived.JoinedOf
import Derived.JoinedAt
import Derived.RowKit3
namespace Go.Proofs.Ytniepppbbkoanaa
namespace fnExactSeekRun
open Go.ChangeShapes Go.WideShapes Go.ChangeAt Go.RowKit
open Go.ChangeMaps (open_string shut_string)
set_option linter.unusedVariables false

set_option maxRecDepth 100000 in
set_option maxHeartbeats 2000000 in
theorem law (v : Value) (l : List It) (key : ByteArray) (n : Int) (w : World) (hv : IR w v l) (hn : l.length ≤ maxLen) (hs : ∀ i (h : i < l.length), l[i].k.size ≤ maxLen ∧ l[i].v.size ≤ maxLen) (hky : key.size ≤ maxLen) (_ : -9223372036854775808 ≤ n) (_ : n ≤ 9223372036854775807) :
    Calls Try.prog 9 #[v, .string key, .int .i64 n] w fun e w' => e = .returned (.bool true) ∧ Below w.heap.size w w' := by
  unfold maxLen at hky
  by_cases hk : key.size ≤ 1048576
  · skip
    have SZ := szItemS_any v l 1048576 w hv (by omega) (by omega) hn hs
    clear hs hn
    go_enter Try.func9, Try.ntmps9
    go_wp2_with fail
    refine SZ.mono ?_
    rintro e w1 ⟨⟨r, rfl, hr⟩, hb1⟩
    clear SZ
    have hv1 := hv.below hb1
    clear hv
    rcases hr with rfl | ⟨hr0, hr1⟩
    · go_wp2
      go_ret
      exact ⟨rfl, hb1⟩
    · have hn : l.length ≤ 1048576 := by omega
      have hs : ∀ i (h : i < l.length), l[i].k.size ≤ 1048576 ∧ l[i].v.size ≤ 1048576 := fun i h => by have := tot4_mem l i h; omega
      clear hr1
      have T := fun w h => toItemS_any v l w h hn
      have S := fun u w h => specSeek_any u l key n w h hn hs hk
      have I := fun u w h => implSeek_any u l key n w h hn hs hk
      generalize okSeek l key n = g at *
      generalize sekF l key n = B at *
      go_wp2_with fail
      refine (T _ hv1).mono ?_
      rintro e w2 ⟨rfl, o2, hb2⟩
      have hB2 := below_then hb1 hb2
      have hv2 := hv1.below hb2
      have i2 := IR_of_owns o2 rfl
      clear hb1 hb2 hv1 o2
      go_wp2_with fail
      refine (S _ _ i2).mono ?_
      rintro e w3 ⟨rfl, hb3⟩
      have hB3 := below_then hB2 hb3
      have hv3 := hv2.below hb3
      clear hB2 hb3 hv2 i2 S
      go_wp2_with fail
      refine (T _ hv3).mono ?_
      rintro e w4 ⟨rfl, o4, hb4⟩
      have hB4 := below_then hB3 hb4
      have hv4 := hv3.below hb4
      have i4 := IR_of_owns o4 rfl
      clear hB3 hb4 hv3 o4
      go_wp2_with fail
      refine (I _ _ i4).mono ?_
      rintro e w5 ⟨rfl, hb5⟩
      have hB5 := below_then hB4 hb5
      have hv5 := hv4.below hb5
      have i5 := i4.below hb5
      clear hB4 hb5 hv4 i4 I
      cases g
      all_goals
        go_wp2_with fail
        refine (T _ hv5).mono ?_
        rintro e w6 ⟨rfl, o6, hb6⟩
        have hB6 := below_then hB5 hb6
        have i6 := i5.below hb6
        have j6 := IR_of_owns o6 rfl
        clear hB5 hb6 hv5 o6 i5 T
        go_wp2_with fail
        refine (eqItemS_same _ _ l _ i6 j6 hn).mono ?_
        rintro e w7 ⟨rfl, hb7⟩
        have hB7 := below_then hB6 hb7
        clear hB6 hb7 i6 j6
        go_wp2
        go_ret
        exact ⟨rfl, hB7⟩
  · go_enter Try.func9, Try.ntmps9
    go_wp2
    go_ret
    exact ⟨rfl, Below.refl _ _⟩


theorem own : ownKnob Try.prog.godebug = none := by kernel_rfl
theorem laidOut : laidOutB Try.prog = true := by kernel_rfl
theorem cells82 : Try.prog.cellsOf 82 = 4 := by kernel_rfl
theorem cells5 : Try.prog.cellsOf 5 = 1 := by kernel_rfl
theorem cells9 : Try.prog.cellsOf 9 = 1 := by kernel_rfl

set_option maxRecDepth 100000 in
theorem lifted (os : Os) (started : os.Started) (H : Type) (enc : TypeId × Value → H) :
    ReturnsInHanded {} Try.checked os 9 .any (Rows.fnExactSeekRunSpec.pre6 enc Try.prog Try.f9 Rows.fnExactSeekRunRow.domain false) (Rows.fnExactSeekRunSpec.post enc Try.prog Try.f9 false true false false) := by
  refine returnsInHanded_of_change (C := Try.checked) own started (by kernel_rfl) Try.func9
    (ChangeSpec.witness6 (enc := enc) (C := Try.checked) false ⟨#[], #[.slice none 0 0, .string ⟨#[]⟩, .int .i64 0], []⟩ 8 (by kernel_rfl) (by kernel_rfl) (by kernel_rfl) (by kernel_rfl)) ?_
  intro W base args ds gs before hval0 hW hcnd _
  have hval : ∀ (j : Nat) t v, Try.f9.params[j]? = some t → args[j]? = some v → Value.okWide Try.prog W .any base t v := hval0
  have hW' := hW
  obtain ⟨p, q, hA0, hV, rfl, hfz, hnd⟩ := hW
  have hA : DataW.TrodAll enc Try.prog W 0 (fun _ => true) true Try.f9.params.toList args.toList ds p := hA0
  rw [Try.params9] at hA hval
  obtain ⟨rfl, rfl⟩ := trodVars_none hV
  obtain ⟨v0, vs0, d0, ds0, p0, q0, hargs0, hds0, hp0, h0, r0⟩ := trodAll_cons hA
  obtain ⟨v1, vs1, d1, ds1, p1, q1, hargs1, hds1, hp1, h1, r1⟩ := trodAll_cons r0
  obtain ⟨v2, vs2, d2, ds2, p2, q2, hargs2, hds2, hp2, h2, r2⟩ := trodAll_cons r1
  obtain ⟨e1, e2, e3⟩ := trodAll_nil r2
  subst e2 e3
  subst e1
  subst hargs2 hds2 hp2
  subst hargs1 hds1 hp1
  subst hds0 hp0
  obtain rfl : args = #[v0, v1, v2] := by cases args; simp_all
  have k0 := h0
  have lt0 : ∀ x ∈ p0, x.block < W.heap.size := by obtain ⟨m, hm⟩ := k0; exact DataW.trod_lt m _ _ _ hm
  obtain ⟨l0, P0, n0, s0⟩ : ∃ l : List It, IR W v0 l ∧ l.length ≤ maxLen ∧ ∀ i (hi : i < l.length), l[i].k.size ≤ maxLen ∧ l[i].v.size ≤ maxLen := by
    obtain ⟨f, hf⟩ := k0
    obtain ⟨_, _, _, rfl⟩ := okWide_slice Try.underlying46 (hval 0 46 v0 rfl rfl)
    exact IR_of_trod Try.underlying46 Try.underlying82 cells82 (by kernel_rfl) Try.underlying9 Try.underlying3 Try.underlying3 Try.underlying9 hf
  obtain ⟨x1, rfl, rfl, rfl, w_1⟩ := open_string Try.underlying9 (hval 1 9 v1 rfl rfl) h1
  obtain ⟨x2, rfl, rfl, rfl, w_2⟩ := open_int Try.underlying3 (hval 2 3 v2 rfl rfl) h2
  have b2 : -9223372036854775808 ≤ x2 ∧ x2 ≤ 9223372036854775807 := by
    have h := w_2
    simp only [Lit.wf, Bool.and_eq_true, decide_eq_true_eq] at h
    exact ⟨h.1, h.2⟩
  clear hA0 hval0
  refine (law v0 l0 x1 x2 W P0 n0 s0 w_1 b2.1 b2.2).mono fun e W' ⟨he, bel⟩ => ?_
  subst he
  exact ⟨_, rfl, _, _, _, [], _, [], hW', trodAll_mk1 (shut_bool Try.underlying4 _), (trodAll_cons_mk (Below.trod laidOut (by kernel_rfl) (of_decide_eq_true (by kernel_rfl)) k0 bel lt0) (trodAll_cons_mk (shut_string Try.underlying9 w_1) (trodAll_cons_mk (shut_int Try.underlying3 w_2) trodAll_mk0))), rfl, bel.frame _, fun h => by cases h⟩

theorem over : Rows.fnExactSeekRunRow.holds Try.pinned (OpenSpec.ofChange Rows.fnExactSeekRunSpec) :=
  OpenClaim.holds_of_wide 9 Try.f9 rfl rfl rfl rfl rfl rfl rfl ⟨rfl, rfl, rfl, rfl, rfl⟩ rfl rfl rfl rfl rfl (by kernel_rfl) Try.func9 (by kernel_rfl)
    (of_decide_eq_true (by kernel_rfl)) (by unfold Func.isWrapper; first | (rw [if_pos (by decide +kernel)]; kernel_rfl) | (rw [if_neg (by decide +kernel)]; exact ⟨rfl, rfl⟩))
    (fun os started H enc _ => lifted os started H enc)
end fnExactSeekRun
theorem fnExactSeekRun_holds : Rows.FnExactSeekRunSaid := fnExactSeekRun.over
#print axioms fnExactSeekRun_holds
end Go.Proofs.Ytniepppbbkoanaa
