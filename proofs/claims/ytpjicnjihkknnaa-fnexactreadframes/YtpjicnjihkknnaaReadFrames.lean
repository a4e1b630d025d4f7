/-
  At every text whatever, impl.ReadFrames answers as its specification (the texts, how many bytes they took, the bool), and its answer owns its memory, behind another call too: the law laws.FnExactReadFrames returns true. No condition.
-/
import Derived.Test.YtpjicnjihkknnaaRows
import Derived.Test.YtpjicnjihkknnaaChecked
import Derived.Test.YtpjicnjihkknnaaF3
import Derived.Test.YtpjicnjihkknnaaH1
import Derived.OpenShut
import Derived.ChangeOld
import Derived.ShutString
import Derived.JoinedOf
import Derived.JoinedAt
import Derived.RowKit3
namespace Go.Proofs.Ytpjicnjihkknnaa
namespace fnExactReadFrames
open Go.ChangeShapes Go.WideShapes Go.ChangeAt Go.RowKit
open Go.ChangeMaps (open_string shut_string)
set_option linter.unusedVariables false

theorem rf_len (s : ByteArray) (f : Nat) : ∀ a, (rf s f a).1.length ≤ f := by
  induction f with
  | zero => intro a; simp [rf]
  | succ f ih =>
    intro a
    rw [rf]
    split
    · have := ih (a + tfN (s.extract a s.size)); simp; omega
    · simp
theorem owns_blk {w : World} {base : Nat} {e : TypeId} {size : Nat} {v : Value} {n : Nat} {xs : List Value} (h : w.ownsRow base e size v n xs) : ∀ g, v.ownBlock = some g → g < w.heap.size := by
  intro g hg
  rcases h.2 with ⟨rfl, _⟩ | ⟨g', cap, cur, rfl, _, hh, _⟩
  · simp [Value.ownBlock] at hg
  · simp only [Value.ownBlock, Option.some.injEq] at hg
    rw [← hg]; exact (Array.getElem?_eq_some_iff.1 hh).1

set_option maxRecDepth 100000 in
set_option maxHeartbeats 2000000 in
theorem law (s : ByteArray) (w : World) (h : s.size ≤ maxLen) :
    Calls Try.prog 14 #[.string s] w fun e w' => e = .returned (.bool true) ∧ Below w.heap.size w w' := by
  unfold maxLen at h
  by_cases hl : s.size ≤ 1048576
  · have hlen : (framesOf s).length ≤ 60 := rf_len s 60 0
    have KS := fun w0 => specReadFrames_any s w0 hl
    have KI := fun w0 => implReadFrames_any s w0 hl
    generalize framesOf s = L at *
    generalize ((framesEnd s : Nat) : Int) = fe at *
    generalize (fe == (s.size : Int)) = bo at *
    go_enter Try.func14, Try.ntmps14
    go_wp2_with fail
    refine (KS _).mono ?_
    rintro e w1 ⟨vw, rfl, ow1, hb1⟩
    go_wp2_with fail
    refine (KI _).mono ?_
    rintro e w2 ⟨vg, rfl, og2, hb2⟩
    have ow2 := owns_below ow1 hb2
    have hB2 := below_then hb1 hb2
    have blw := owns_blk ow1
    have geg := owns_ge og2
    have hz1 := hb1.size
    have hz2 := hb2.size
    clear ow1 hb1 hb2
    go_wp2_with fail
    refine (eqStringS_same _ _ L _ (SL_of_owns og2) (SL_of_owns ow2) (by omega)).mono ?_
    rintro e w3 ⟨rfl, hb3⟩
    have ow3 := owns_below ow2 hb3
    have og3 := owns_below og2 hb3
    have hB3 := below_then hB2 hb3
    have hz3 := hb3.size
    clear ow2 og2 hb3 hB2
    go_wp2_with fail
    refine (markStringS_own _ _ L _ _ og3 (by omega) (by omega) (by omega)).mono ?_
    rintro e w4 ⟨rfl, og4, hc4⟩
    have hB4 : Below w.heap.size w w4 := hB3.trans (hc4.below (by omega) (fun b h => by have := geg b h; omega))
    have ow4 := hc4.owns ow3 (fun g hg h => by have := geg g h; have := blw g hg; omega)
    have hz4 := hc4.size
    clear ow3 og3 hc4 hB3
    have og4' : w4.ownsRow w1.heap.size 9 1 vg (mkAllS 1 L.length).length ((mkAllS 1 L.length).map Value.string) := by rw [mkAllS_length]; exact og4
    clear og4
    go_wp2_with fail
    refine (heldStringS_any _ L.length 1 _ (SL_of_owns og4') (by omega) (by omega) (by omega)).mono ?_
    rintro e w5 ⟨rfl, hb5⟩
    have ow5 := owns_below ow4 hb5
    have og5 := owns_below og4' hb5
    have hB5 := below_then hB4 hb5
    clear ow4 og4' hb5 hB4
    go_wp2_with fail
    refine (KI _).mono ?_
    rintro e w6 ⟨vh, rfl, oh6, hb6⟩
    have ow6 := owns_below ow5 hb6
    have og6 := owns_below og5 hb6
    have hB6 := below_then hB5 hb6
    clear ow5 og5 hb6 hB5
    go_wp2_with fail
    refine (eqStringS_same _ _ L _ (SL_of_owns oh6) (SL_of_owns ow6) (by omega)).mono ?_
    rintro e w7 ⟨rfl, hb7⟩
    have og7 := owns_below og6 hb7
    have hB7 := below_then hB6 hb7
    clear ow6 oh6 og6 hb7 hB6
    go_wp2_with fail
    refine (heldStringS_any _ L.length 1 _ (SL_of_owns og7) (by omega) (by omega) (by omega)).mono ?_
    rintro e w8 ⟨rfl, hb8⟩
    go_wp2
    go_ret
    exact ⟨rfl, below_then hB7 hb8⟩
  · go_enter Try.func14, Try.ntmps14
    go_wp2
    go_ret
    exact ⟨rfl, Below.refl _ _⟩


theorem own : ownKnob Try.prog.godebug = none := by kernel_rfl

set_option maxRecDepth 100000 in
theorem lifted (os : Os) (started : os.Started) (H : Type) (enc : TypeId × Value → H) :
    ReturnsInHanded {} Try.checked os 14 .any (Rows.fnExactReadFramesSpec.pre6 enc Try.prog Try.f14 Rows.fnExactReadFramesRow.domain false) (Rows.fnExactReadFramesSpec.post enc Try.prog Try.f14 false true false false) := by
  refine returnsInHanded_of_change (C := Try.checked) own started (by kernel_rfl) Try.func14
    (ChangeSpec.witness6 (enc := enc) (C := Try.checked) false ⟨#[], #[.string ⟨#[]⟩], []⟩ 8 (by kernel_rfl) (by kernel_rfl) (by kernel_rfl) (by kernel_rfl)) ?_
  intro W base args ds gs before hval0 hW hcnd _
  have hval : ∀ (j : Nat) t v, Try.f14.params[j]? = some t → args[j]? = some v → Value.okWide Try.prog W .any base t v := hval0
  have hW' := hW
  obtain ⟨p, q, hA0, hV, rfl, hfz, hnd⟩ := hW
  have hA : DataW.TrodAll enc Try.prog W 0 (fun _ => true) true Try.f14.params.toList args.toList ds p := hA0
  rw [Try.params14] at hA hval
  obtain ⟨rfl, rfl⟩ := trodVars_none hV
  obtain ⟨v0, vs0, d0, ds0, p0, q0, hargs0, hds0, hp0, h0, r0⟩ := trodAll_cons hA
  obtain ⟨e1, e2, e3⟩ := trodAll_nil r0
  subst e2 e3
  subst e1
  subst hds0 hp0
  obtain rfl : args = #[v0] := by cases args; simp_all
  obtain ⟨x0, rfl, rfl, rfl, w_0⟩ := open_string Try.underlying9 (hval 0 9 v0 rfl rfl) h0
  clear hA0 hval0
  refine (law x0 W w_0).mono fun e W' ⟨he, bel⟩ => ?_
  subst he
  exact ⟨_, rfl, _, _, _, [], _, [], hW', trodAll_mk1 (shut_bool Try.underlying4 _), (trodAll_cons_mk (shut_string Try.underlying9 w_0) trodAll_mk0), rfl, bel.frame _, fun h => by cases h⟩

theorem over : Rows.fnExactReadFramesRow.holds Try.pinned (OpenSpec.ofChange Rows.fnExactReadFramesSpec) :=
  OpenClaim.holds_of_wide 14 Try.f14 rfl rfl rfl rfl rfl rfl rfl ⟨rfl, rfl, rfl, rfl, rfl⟩ rfl rfl rfl rfl rfl (by kernel_rfl) Try.func14 (by kernel_rfl)
    (of_decide_eq_true (by kernel_rfl)) (by unfold Func.isWrapper; first | (rw [if_pos (by decide +kernel)]; kernel_rfl) | (rw [if_neg (by decide +kernel)]; exact ⟨rfl, rfl⟩))
    (fun os started H enc _ => lifted os started H enc)
end fnExactReadFrames
theorem fnExactReadFrames_holds : Rows.FnExactReadFramesSaid := fnExactReadFrames.over
#print axioms fnExactReadFrames_holds
end Go.Proofs.Ytpjicnjihkknnaa
