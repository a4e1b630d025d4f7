/-
  At every room and every list of steps whatever (any texts, any numbers), impl.PlayDisk answers as its specification, the disk, the codes and whether there are any; it writes into no argument and its answer owns its memory, behind another call too: the law laws.FnExactPlayDisk returns true. No condition.
-/
import Derived.Test.YtbgemebpfcbloaaRows
import Derived.Test.YtbgemebpfcbloaaChecked
import Derived.Test.YtbgemebpfcbloaaU9
import Derived.Test.YtbgemebpfcbloaaU10
import Derived.OpenShut
import Derived.ChangeOld
import Derived.ShutString
import Derived.JoinedOf
import Derived.JoinedAt
import Derived.RowKit3
import Derived.Lib.SmallJoins
namespace Go.Proofs.Ytbgemebpfcbloaa
namespace fnExactPlayDisk
open Go.ChangeShapes Go.WideShapes Go.ChangeAt Go.RowKit Go.Joins Go.Deep
open Go.ChangeMaps (open_string shut_string)
set_option linter.unusedVariables false

theorem laidOut : laidOutB Try.prog = true := by kernel_rfl
theorem cells56 : Try.prog.cellsOf 56 = 5 := by kernel_rfl
theorem own : ownKnob Try.prog.godebug = none := by kernel_rfl

set_option maxRecDepth 100000 in
theorem lifted (os : Os) (started : os.Started) (H : Type) (enc : TypeId × Value → H) :
    ReturnsInHanded {} Try.checked os 7 .any (Rows.fnExactPlayDiskSpec.pre6 enc Try.prog Try.f7 Rows.fnExactPlayDiskRow.domain false) (Rows.fnExactPlayDiskSpec.post enc Try.prog Try.f7 false true false false) := by
  refine returnsInHanded_of_change (C := Try.checked) own started (by kernel_rfl) Try.func7
    (ChangeSpec.witness6 (enc := enc) (C := Try.checked) false ⟨#[], #[.int .i64 0, .slice none 0 0], []⟩ 8 (by kernel_rfl) (by kernel_rfl) (by kernel_rfl) (by kernel_rfl)) ?_
  intro W base args ds gs before hval0 hW hcnd _
  have hval : ∀ (j : Nat) t v, Try.f7.params[j]? = some t → args[j]? = some v → Value.okWide Try.prog W .any base t v := hval0
  have hW' := hW
  obtain ⟨p, q, hA0, hV, rfl, hfz, hnd⟩ := hW
  have hA : DataW.TrodAll enc Try.prog W 0 (fun _ => true) true Try.f7.params.toList args.toList ds p := hA0
  rw [Try.params7] at hA hval
  obtain ⟨rfl, rfl⟩ := trodVars_none hV
  obtain ⟨v0, vs0, d0, ds0, p0, q0, hargs0, hds0, hp0', h0, r0⟩ := trodAll_cons hA
  obtain ⟨v1, vs1, d1, ds1, p1, q1, hargs1, hds1, hp1', h1, r1⟩ := trodAll_cons r0
  obtain ⟨e1, e2, e3⟩ := trodAll_nil r1
  subst e2 e3
  subst e1
  subst hargs1 hds1 hp1'
  subst hds0 hp0'
  obtain rfl : args = #[v0, v1] := by cases args; simp_all
  obtain ⟨x0, rfl, rfl, rfl, w_0⟩ := open_int Try.underlying3 (hval 0 3 v0 rfl rfl) h0
  have k1 := h1
  have lt1 : ∀ x ∈ p1, x.block < W.heap.size := by obtain ⟨m, hm⟩ := k1; exact DataW.trod_lt m _ _ _ hm
  obtain ⟨l, F1, n1, s1⟩ : ∃ l : List St, FL W v1 l ∧ l.length ≤ maxLen ∧ ∀ i (hi : i < l.length), l[i].nm.size ≤ maxLen ∧ l[i].ot.size ≤ maxLen ∧ l[i].da.size ≤ maxLen := by
    obtain ⟨f, hf⟩ := k1
    obtain ⟨_, _, _, rfl⟩ := okWide_slice Try.underlying64 (hval 1 64 v1 rfl rfl)
    exact FL_of_trod Try.underlying64 Try.underlying56 cells56 (by kernel_rfl) Try.underlying3 Try.underlying9 Try.underlying9 Try.underlying9 Try.underlying3 hf
  clear hA0 hval0
  refine (lawPlay_any x0 _ l W F1 n1 s1).mono fun e W' ⟨he, bel⟩ => ?_
  subst he
  exact ⟨_, rfl, _, _, _, [], _, [], hW', trodAll_mk1 (shut_bool Try.underlying4 _), (trodAll_cons_mk (shut_int Try.underlying3 w_0) (trodAll_cons_mk (Below.trod laidOut (by kernel_rfl) (of_decide_eq_true (by kernel_rfl)) k1 bel lt1) trodAll_mk0)), rfl, bel.frame _, fun h => by cases h⟩

theorem over : Rows.fnExactPlayDiskRow.holds Try.pinned (OpenSpec.ofChange Rows.fnExactPlayDiskSpec) :=
  OpenClaim.holds_of_wide 7 Try.f7 rfl rfl rfl rfl rfl rfl rfl ⟨rfl, rfl, rfl, rfl, rfl⟩ rfl rfl rfl rfl rfl (by kernel_rfl) Try.func7 (by kernel_rfl)
    (of_decide_eq_true (by kernel_rfl)) (by unfold Func.isWrapper; first | (rw [if_pos (by decide +kernel)]; kernel_rfl) | (rw [if_neg (by decide +kernel)]; exact ⟨rfl, rfl⟩))
    (fun os started H enc _ => lifted os started H enc)
end fnExactPlayDisk
theorem fnExactPlayDisk_holds : Rows.FnExactPlayDiskSaid := fnExactPlayDisk.over
#print axioms fnExactPlayDisk_holds
end Go.Proofs.Ytbgemebpfcbloaa
