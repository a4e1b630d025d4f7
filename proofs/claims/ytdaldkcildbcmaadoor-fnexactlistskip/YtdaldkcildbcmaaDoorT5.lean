/-
  What the laid tables give a walk; the door's own heap meets the condition.
-/
import Derived.Test.YtdaldkcildbcmaaDoorRows
import Derived.Test.YtdaldkcildbcmaaDoorT3
import Derived.LaidMore
import Derived.OpenShut
import Derived.Stop.Joined
import Derived.Lib.LaidTab
namespace Go.Proofs.YtdaldkcildbcmaaDoor
open Go.RowKit Go.Shelf
set_option linter.unusedVariables false
set_option maxRecDepth 100000

/-- The tables as every row of this seat lists them. -/
noncomputable def lay3 : List (String × DataW Unit) := [("math/bits.deBruijn32tab", Rows.laid_math_bits_deBruijn32tab), ("math/bits.deBruijn64tab", Rows.laid_math_bits_deBruijn64tab), ("internal/strconv.uint64pow10", Rows.laid_internal_strconv_uint64pow10)]
theorem door_met (os : Os) (args : Array Value) : laidMetH Tryd.prog lay3 ((World.doorLaid Tryd.prog 24 os).forCall (fun _ _ => 0) ⟨#[], args, []⟩).memory :=
  laidMetH_of_parts3 (fuel := 8) (laidMet_of_run' 8 (by kernel_rfl) (by kernel_rfl)) (by kernel_rfl) (by kernel_rfl)
theorem gTz : Tryd.prog.globalNamed "math/bits.deBruijn32tab" = some 0 := by kernel_rfl
theorem gPow : Tryd.prog.globalNamed "internal/strconv.uint64pow10" = some 1 := by kernel_rfl
theorem tTz : (Tryd.prog.globals[0]?).map (·.type) = some 117 := by kernel_rfl
theorem tPow : (Tryd.prog.globals[1]?).map (·.type) = some 136 := by kernel_rfl
theorem gRen : Tryd.laysTz_ren.g 0 = 0 := by kernel_rfl
def tz32 : List Int := Lib.deBruijn32tab.map (fun z : Nat => (z : Int))
theorem tz32_at (j : Nat) (h : j < Lib.deBruijn32tab.length) : tz32.getD j 0 = ((Lib.deBruijn32tab.getD j 0 : Nat) : Int) := by
  unfold tz32
  simp [List.getD, h]
theorem tz32_len : tz32.length = Lib.deBruijn32tab.length := by unfold tz32; simp
theorem dTz : (Rows.laid_math_bits_deBruijn32tab : DataW Unit) = Lib.tabData .u8 tz32 := by kernel_rfl
theorem dPow : (Rows.laid_internal_strconv_uint64pow10 : DataW Unit) = Lib.tabData .u64 Lib.pow10Tab := by kernel_rfl
theorem tabs_of_laid {W : World} (h : laidMetH Tryd.prog lay3 W) : Tabs W := by
  rw [MakeChecks.laidMetH_plain _ _ _ (by kernel_rfl)] at h
  obtain ⟨ps, ⟨g0, t0, cs0, f0, p0, q0, hg0, ht0, hv0, hd0, ⟨g1, t1, cs1, f1, p1, q1, hg1, ht1, hv1, hd1, ⟨g2, t2, cs2, f2, p2, q2, hg2, ht2, hv2, hd2, _, _⟩, _⟩, _⟩, _, _⟩ := h
  obtain rfl := Option.some.inj (gTz.symm.trans hg0)
  obtain rfl := Option.some.inj (gPow.symm.trans hg2)
  obtain rfl := Option.some.inj (tTz.symm.trans ht0)
  obtain rfl := Option.some.inj (tPow.symm.trans ht2)
  rw [dTz] at hd0
  rw [dPow] at hd2
  have e0 := Lib.cells_of_tab Tryd.underlying117 Tryd.underlying5 (by kernel_rfl) (by kernel_rfl) hd0
  have e2 := Lib.cells_of_tab Tryd.underlying136 Tryd.underlying66 (by kernel_rfl) (by kernel_rfl) hd2
  have T0 : Lib.TabIs Tryd.prog W "math/bits.deBruijn32tab" .u8 tz32 := by
    unfold Lib.TabIs; rw [hv0, ← e0]
  have T2 : Lib.TabIs Tryd.prog W "internal/strconv.uint64pow10" .u64 Lib.pow10Tab := by
    unfold Lib.TabIs; rw [hv2, ← e2]
  refine ⟨T2, fun j hj => ?_⟩
  rw [gRen, T0.cell gTz j (by rw [tz32_len]; exact hj), tz32_at j hj]
end Go.Proofs.YtdaldkcildbcmaaDoor
