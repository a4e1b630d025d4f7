/-
  From the reading of an argument to the lists that the contracts speak of: a slice of bytes that came in.
  What the laid tables give a walk; the door's own heap meets the condition.
-/
import Derived.Test.YtdaldkcildbcmaaDoorD2ToD5
import Derived.ChangeSlices
import Derived.Test.YtdaldkcildbcmaaDoorRows
import Derived.Test.YtdaldkcildbcmaaDoorT3
import Derived.LaidMore
import Derived.OpenShut
import Derived.Stop.Joined
import Derived.Lib.LaidTab
namespace Go.Proofs.YtdaldkcildbcmaaDoor
open Go.RowKit Go.ChangeShapes Go.WideShapes Go.ChangeAt
set_option maxRecDepth 100000
theorem YL_of_trod {H : Type} {enc : TypeId × Value → H} {P : Program} {w : World} {base : Nat} {spare : Nat → Bool} {held : Bool} {t e : TypeId} {fuel : Nat} {v : Value} {x : DataW H × List MemPlace}
    (ht : P.underlying t = some (.slice e)) (he : P.underlying e = some (.int .u8)) (ce : P.cellsOf e = 1)
    (h : DataW.trod enc P w base spare held fuel t [v] = some x) :
    ∃ l : List UInt8, YL w v l ∧ l.length ≤ maxLen := by
  rcases open_ints ht he ce h with ⟨hv, _⟩ | ⟨a, len, cap, zs, hv, hb, hl, hm, hz, hx, hcell, hws⟩
  · simp only [List.cons.injEq, and_true] at hv
    subst hv
    exact ⟨[], ⟨none, 0, rfl, fun h => absurd rfl h⟩, by simp⟩
  · simp only [List.cons.injEq, and_true] at hv
    subst hv
    have hls : len ≤ zs.length := by rw [hz]; split <;> omega
    have hlen : ((zs.take len).map fun z => UInt8.ofNat z.toNat).length = len := by simp; omega
    refine ⟨(zs.take len).map fun z => UInt8.ofNat z.toNat, ⟨some a, cap, by rw [hlen], fun hne => ?_⟩, by rw [hlen]; omega⟩
    have hpos : 0 < len := by
      rcases Nat.eq_zero_or_pos len with h0 | h0
      · subst h0; simp at hne
      · exact h0
    have hc0 := hcell 0 (by omega)
    have hsp : a.spot = none := by
      have := World.cell?_spot hc0
      simpa [Addr.add] using this
    obtain ⟨b, off, spot⟩ := a
    simp only at hsp
    subst hsp
    have hbl := World.block_lt_of_cell? _ _ hc0
    refine ⟨b, off, rfl, by simpa [Addr.add] using hbl, fun i hi => ?_⟩
    have hi' : i < len := by omega
    have hk := hcell i (by omega)
    have hwf := hws (zs.getD i 0) (by rw [List.getD_eq_getElem?_getD, List.getElem?_eq_getElem (by omega), Option.getD_some]; exact List.getElem_mem _)
    have hr : 0 ≤ zs.getD i 0 ∧ zs.getD i 0 ≤ 255 := by
      simp only [Lit.wf, Bool.and_eq_true, decide_eq_true_eq] at hwf
      exact ⟨hwf.1, hwf.2⟩
    have hg : (((zs.take len).map fun z => UInt8.ofNat z.toNat)[i].toNat : Int) = zs.getD i 0 := by
      rw [List.getElem_map, List.getElem_take, UInt8.toNat_ofNat']
      have e : zs[i]'(by omega) = zs.getD i 0 := by rw [List.getD_eq_getElem?_getD, List.getElem?_eq_getElem (by omega), Option.getD_some]
      rw [e]; omega
    rw [hg, ← hk]; congr 1
    by_cases h0 : i = 0
    · subst h0; simp [Addr.add]
    · simp [Addr.add, h0]
end Go.Proofs.YtdaldkcildbcmaaDoor
namespace Go.Proofs.YtdaldkcildbcmaaDoor
open Go.RowKit Go.Shelf
set_option linter.unusedVariables false
set_option maxRecDepth 100000
/-- The tables as every row of this seat lists them. -/
noncomputable def lay3 : List (String × DataW Unit) := [("math/bits.deBruijn32tab", Rows.laid_math_bits_deBruijn32tab), ("math/bits.deBruijn64tab", Rows.laid_math_bits_deBruijn64tab), ("internal/strconv.uint64pow10", Rows.laid_internal_strconv_uint64pow10)]
theorem door_met (os : Os) (args : Array Value) : laidMetH Tryd.prog lay3 ((World.doorLaid Tryd.prog 24 os).forCall (fun _ _ => 0) ⟨#[], args, []⟩).memory :=
  laidMetH_of_parts3 (fuel := 8) (laidMet_of_run' 8 (by kernel_rfl) (by kernel_rfl)) (by kernel_rfl) (by kernel_rfl)
theorem gTz : Tryd.prog.globalNamed "math/bits.deBruijn32tab" = some 0 := by kernel_rfl
theorem gPow : Tryd.prog.globalNamed "internal/strconv.uint64pow10" = some 1 := by kernel_rfl
theorem tTz : (Tryd.prog.globals[0]?).map (·.type) = some 117 := by kernel_rfl
theorem tPow : (Tryd.prog.globals[1]?).map (·.type) = some 136 := by kernel_rfl
theorem gRen : Tryd.laysTz_ren.g 0 = 0 := by kernel_rfl
def tz32 : List Int := Lib.deBruijn32tab.map (fun z : Nat => (z : Int))
theorem tz32_at (j : Nat) (h : j < Lib.deBruijn32tab.length) : tz32.getD j 0 = ((Lib.deBruijn32tab.getD j 0 : Nat) : Int) := by
  unfold tz32
  simp [List.getD, h]
theorem tz32_len : tz32.length = Lib.deBruijn32tab.length := by unfold tz32; simp
theorem dTz : (Rows.laid_math_bits_deBruijn32tab : DataW Unit) = Lib.tabData .u8 tz32 := by kernel_rfl
theorem dPow : (Rows.laid_internal_strconv_uint64pow10 : DataW Unit) = Lib.tabData .u64 Lib.pow10Tab := by kernel_rfl
theorem tabs_of_laid {W : World} (h : laidMetH Tryd.prog lay3 W) : Tabs W := by
  rw [MakeChecks.laidMetH_plain _ _ _ (by kernel_rfl)] at h
  obtain ⟨ps, ⟨g0, t0, cs0, f0, p0, q0, hg0, ht0, hv0, hd0, ⟨g1, t1, cs1, f1, p1, q1, hg1, ht1, hv1, hd1, ⟨g2, t2, cs2, f2, p2, q2, hg2, ht2, hv2, hd2, _, _⟩, _⟩, _⟩, _, _⟩ := h
  obtain rfl := Option.some.inj (gTz.symm.trans hg0)
  obtain rfl := Option.some.inj (gPow.symm.trans hg2)
  obtain rfl := Option.some.inj (tTz.symm.trans ht0)
  obtain rfl := Option.some.inj (tPow.symm.trans ht2)
  rw [dTz] at hd0
  rw [dPow] at hd2
  have e0 := Lib.cells_of_tab Tryd.underlying117 Tryd.underlying5 (by kernel_rfl) (by kernel_rfl) hd0
  have e2 := Lib.cells_of_tab Tryd.underlying136 Tryd.underlying66 (by kernel_rfl) (by kernel_rfl) hd2
  have T0 : Lib.TabIs Tryd.prog W "math/bits.deBruijn32tab" .u8 tz32 := by
    unfold Lib.TabIs; rw [hv0, ← e0]
  have T2 : Lib.TabIs Tryd.prog W "internal/strconv.uint64pow10" .u64 Lib.pow10Tab := by
    unfold Lib.TabIs; rw [hv2, ← e2]
  refine ⟨T2, fun j hj => ?_⟩
  rw [gRen, T0.cell gTz j (by rw [tz32_len]; exact hj), tz32_at j hj]
end Go.Proofs.YtdaldkcildbcmaaDoor
