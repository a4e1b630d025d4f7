/-
  From the reading of an argument to numbers and towers in rows.
  What the laid tables give a walk; the door's own heap meets the condition.
-/
import Derived.Test.YtcjkdkaahkphfaaDoorG2
import Derived.Deep.SlicePairs
import Derived.Lib.SmallJoins
import Derived.Test.YtcjkdkaahkphfaaDoorRows
import Derived.Test.YtcjkdkaahkphfaaDoorT3
import Derived.LaidMore
import Derived.OpenShut
import Derived.Stop.Joined
import Derived.Lib.LaidTab
namespace Go.Proofs.YtcjkdkaahkphfaaDoor
open Go.RowKit Go.Deep
set_option linter.unusedVariables false
set_option maxRecDepth 100000

theorem cells3 : Tryd.prog.cellsOf 3 = 1 := by kernel_rfl
theorem cells9 : Tryd.prog.cellsOf 9 = 1 := by kernel_rfl
theorem cells23 : Tryd.prog.cellsOf 22 = 1 := by kernel_rfl
theorem cells55 : Tryd.prog.cellsOf 27 = 4 := by kernel_rfl
theorem cells121 : Tryd.prog.cellsOf 64 = 5 := by kernel_rfl

theorem IL_of_trod {H : Type} {enc : TypeId × Value → H} {w : World} {base : Nat} {spare : Nat → Bool} {held : Bool} {fuel : Nat} {v : Value} {x : DataW H × List MemPlace}
    (h : DataW.trod enc Tryd.prog w base spare held fuel 22 [v] = some x) : ∃ zs : List Int, IL w v zs ∧ zs.length ≤ maxLen := by
  rcases open_slice Tryd.underlying22 h with ⟨hv, _⟩ | ⟨a, len, cap, m, n, D, Pl, hv, hb, hl, hm, hmm, hx, hel⟩
  · simp only [List.cons.injEq, and_true] at hv
    subst hv
    exact ⟨[], ⟨none, 0, rfl, fun h => absurd rfl h⟩, by simp⟩
  · simp only [List.cons.injEq, and_true] at hv
    subst hv
    have hlm : len ≤ m := by rw [hmm]; split <;> omega
    have each : ∀ i, i < len → ∃ s : Int, w.cell? (a.add i) = some (.int .i64 s) := by
      intro i hi
      obtain ⟨cs', h1, h2⟩ := hel i (by omega)
      rw [cells3] at h1
      obtain ⟨_, hlen, hcell⟩ := World.cells?_some h1
      obtain ⟨z1, e1, _, _⟩ := DataW.trod_int Tryd.underlying3 h2
      subst e1
      refine ⟨z1, ?_⟩
      have := hcell 0 (by omega)
      rw [Nat.mul_one] at this
      simpa [Addr.add] using this
    have all : ∀ i, ∃ s : Int, i < len → w.cell? (a.add i) = some (.int .i64 s) := by
      intro i
      by_cases hi : i < len
      · obtain ⟨q, hq⟩ := each i hi
        exact ⟨q, fun _ => hq⟩
      · exact ⟨0, fun h => absurd h hi⟩
    obtain ⟨F, hF⟩ := Classical.skolem.1 all
    have hlen : ((List.range len).map F).length = len := by simp
    refine ⟨(List.range len).map F, ⟨some a, cap, by rw [hlen], fun hne => ?_⟩, by rw [hlen]; omega⟩
    have hpos : 0 < len := by
      rcases Nat.eq_zero_or_pos len with h0 | h0
      · subst h0; simp at hne
      · exact h0
    have hc0 := hF 0 hpos
    have hsp : a.spot = none := by
      have := World.cell?_spot hc0
      simpa [Addr.add] using this
    obtain ⟨b, off, spot⟩ := a
    simp only at hsp
    subst hsp
    have hbl := World.block_lt_of_cell? _ _ hc0
    refine ⟨b, off, rfl, by simpa [Addr.add] using hbl, fun i hi => ?_⟩
    have hi' : i < len := by simpa using hi
    have hg : ((List.range len).map F)[i] = F i := by simp
    rw [hg, ← hF i hi']
    congr 1
    by_cases h0 : i = 0
    · subst h0; simp [Addr.add]
    · simp [Addr.add, h0]

theorem TW_of_trod {H : Type} {enc : TypeId × Value → H} {w : World} {base : Nat} {spare : Nat → Bool} {held : Bool} {fuel : Nat} {v : Value} {x : DataW H × List MemPlace}
    (h : DataW.trod enc Tryd.prog w base spare held fuel 23 [v] = some x) : ∃ ts : List Tw, TW w v ts ∧ ts.length ≤ maxLen ∧ ∀ i (hi : i < ts.length), ts[i].fits := by
  rcases open_slice Tryd.underlying23 h with ⟨hv, _⟩ | ⟨a, len, cap, m, n, D, Pl, hv, hb, hl, hm, hmm, hx, hel⟩
  · simp only [List.cons.injEq, and_true] at hv
    subst hv
    exact ⟨[], ⟨none, 0, rfl, fun h => absurd rfl h⟩, by simp, by simp⟩
  · simp only [List.cons.injEq, and_true] at hv
    subst hv
    have hlm : len ≤ m := by rw [hmm]; split <;> omega
    have each : ∀ i, i < len → ∃ s : Tw, (∃ u, (w.cell? ((a.add (i * 5)).add 0) = some (.string s.key) ∧ w.cell? ((a.add (i * 5)).add 1) = some (.int .i64 s.seq) ∧ w.cell? ((a.add (i * 5)).add 2) = some (.int .i64 s.kind) ∧ w.cell? ((a.add (i * 5)).add 3) = some (.string s.val) ∧ w.cell? ((a.add (i * 5)).add 4) = some u) ∧ IL w u s.next) ∧ s.fits := by
      intro i hi
      obtain ⟨cs', h1, h2⟩ := hel i (by omega)
      rw [cells121] at h1
      obtain ⟨_, hlen, hcell⟩ := World.cells?_some h1
      obtain ⟨xs, k, hk, hxy, _, hxl, hf⟩ := DataW.trod_struct Tryd.underlying64 h2
      match xs, hxl, cs', hlen with
      | [y0, y1], _, [c0, c1, c2, c3, c4], _ =>
        have g0 : DataW.trod enc Tryd.prog w base spare held k 27 (([c0, c1, c2, c3, c4].drop 0).take (Tryd.prog.cellsOf 27)) = [y0, y1][0]? := hf 0 _ rfl
        have g1 : DataW.trod enc Tryd.prog w base spare held k 22 (([c0, c1, c2, c3, c4].drop 4).take (Tryd.prog.cellsOf 22)) = [y0, y1][1]? := hf 1 _ rfl
        rw [cells55] at g0
        rw [cells23] at g1
        simp at g0 g1
        obtain ⟨zs, k2, hk2, _, _, hzl, hf2⟩ := DataW.trod_struct Tryd.underlying27 g0
        match zs, hzl with
        | [y2, y3, y4, y5], _ =>
          have j0 : DataW.trod enc Tryd.prog w base spare held k2 9 (([c0, c1, c2, c3].drop 0).take (Tryd.prog.cellsOf 9)) = [y2, y3, y4, y5][0]? := hf2 0 _ rfl
          have j1 : DataW.trod enc Tryd.prog w base spare held k2 3 (([c0, c1, c2, c3].drop 1).take (Tryd.prog.cellsOf 3)) = [y2, y3, y4, y5][1]? := hf2 1 _ rfl
          have j2 : DataW.trod enc Tryd.prog w base spare held k2 3 (([c0, c1, c2, c3].drop 2).take (Tryd.prog.cellsOf 3)) = [y2, y3, y4, y5][2]? := hf2 2 _ rfl
          have j3 : DataW.trod enc Tryd.prog w base spare held k2 9 (([c0, c1, c2, c3].drop 3).take (Tryd.prog.cellsOf 9)) = [y2, y3, y4, y5][3]? := hf2 3 _ rfl
          rw [cells9] at j0 j3
          rw [cells3] at j1 j2
          simp at j0 j1 j2 j3
          obtain ⟨z0, e0, _, s0⟩ := DataW.trod_string Tryd.underlying9 j0
          obtain ⟨z1, e1, _, _⟩ := DataW.trod_int Tryd.underlying3 j1
          obtain ⟨z2, e2, _, _⟩ := DataW.trod_int Tryd.underlying3 j2
          obtain ⟨z3, e3, _, s3⟩ := DataW.trod_string Tryd.underlying9 j3
          obtain ⟨l4, i4, n4⟩ := IL_of_trod g1
          simp only [List.cons.injEq, and_true] at e0 e1 e2 e3
          subst e0 e1 e2 e3
          exact ⟨⟨z0, z1, z2, z3, l4⟩, ⟨c4, ⟨hcell 0 (by omega), hcell 1 (by omega), hcell 2 (by omega), hcell 3 (by omega), hcell 4 (by omega)⟩, i4⟩, s0, s3, n4⟩
    have all : ∀ i, ∃ s : Tw, i < len → (∃ u, (w.cell? ((a.add (i * 5)).add 0) = some (.string s.key) ∧ w.cell? ((a.add (i * 5)).add 1) = some (.int .i64 s.seq) ∧ w.cell? ((a.add (i * 5)).add 2) = some (.int .i64 s.kind) ∧ w.cell? ((a.add (i * 5)).add 3) = some (.string s.val) ∧ w.cell? ((a.add (i * 5)).add 4) = some u) ∧ IL w u s.next) ∧ s.fits := by
      intro i
      by_cases hi : i < len
      · obtain ⟨q, hq⟩ := each i hi
        exact ⟨q, fun _ => hq⟩
      · exact ⟨default, fun h => absurd h hi⟩
    obtain ⟨F, hF⟩ := Classical.skolem.1 all
    have hlen : ((List.range len).map F).length = len := by simp
    refine ⟨(List.range len).map F, ⟨some a, cap, by rw [hlen], fun hne => ?_⟩, by rw [hlen]; omega, fun i hi => ?_⟩
    · have hpos : 0 < len := by
        rcases Nat.eq_zero_or_pos len with h0 | h0
        · subst h0; simp at hne
        · exact h0
      obtain ⟨⟨_, ⟨hc0, _⟩, _⟩, _⟩ := hF 0 hpos
      have hsp : a.spot = none := by
        have := World.cell?_spot hc0
        simpa [Addr.add] using this
      obtain ⟨b, off, spot⟩ := a
      simp only at hsp
      subst hsp
      have hbl := World.block_lt_of_cell? _ _ hc0
      have add5 : ∀ i j : Nat, ((⟨b, off, none⟩ : Addr).add (i * 5)).add j = ⟨b, off + i * 5 + j, none⟩ := by
        intro i j
        by_cases h1 : i = 0
        · subst h1; by_cases h2 : j = 0 <;> simp [Addr.add, h2]
        · have h3 : ¬ (i * 5 = 0) := by omega
          by_cases h2 : j = 0 <;> simp [Addr.add, h2, h3]
      refine ⟨b, off, rfl, by simpa [Addr.add] using hbl, fun i hi => ?_⟩
      have hi' : i < len := by simpa using hi
      obtain ⟨⟨u, ⟨q0, q1, q2, q3, q4⟩, hu⟩, _⟩ := hF i hi'
      rw [add5] at q0 q1 q2 q3 q4
      have hg : ((List.range len).map F)[i] = F i := by simp
      rw [hg]
      exact ⟨u, ⟨q0, q1, q2, q3, q4⟩, hu⟩
    · have hi' : i < len := by simpa using hi
      have hg : ((List.range len).map F)[i] = F i := by simp
      rw [hg]
      exact (hF i hi').2
end Go.Proofs.YtcjkdkaahkphfaaDoor

namespace Go.Proofs.YtcjkdkaahkphfaaDoor
open Go.RowKit Go.Shelf
set_option linter.unusedVariables false
set_option maxRecDepth 100000

/-- The tables as every row of this seat lists them. -/
noncomputable def lay3 : List (String × DataW Unit) := [("math/bits.deBruijn32tab", Rows.laid_math_bits_deBruijn32tab), ("math/bits.deBruijn64tab", Rows.laid_math_bits_deBruijn64tab), ("internal/strconv.uint64pow10", Rows.laid_internal_strconv_uint64pow10)]
theorem door_met (os : Os) (args : Array Value) : laidMetH Tryd.prog lay3 ((World.doorLaid Tryd.prog 24 os).forCall (fun _ _ => 0) ⟨#[], args, []⟩).memory :=
  laidMetH_of_parts3 (fuel := 8) (laidMet_of_run' 8 (by kernel_rfl) (by kernel_rfl)) (by kernel_rfl) (by kernel_rfl)
theorem gTz : Tryd.prog.globalNamed "math/bits.deBruijn32tab" = some 0 := by kernel_rfl
theorem gPow : Tryd.prog.globalNamed "internal/strconv.uint64pow10" = some 1 := by kernel_rfl
theorem tTz : (Tryd.prog.globals[0]?).map (·.type) = some 92 := by kernel_rfl
theorem tPow : (Tryd.prog.globals[1]?).map (·.type) = some 106 := by kernel_rfl
theorem gRen : Tryd.laysTz_ren.g 0 = 0 := by kernel_rfl
def tz32 : List Int := Lib.deBruijn32tab.map (fun z : Nat => (z : Int))
theorem tz32_at (j : Nat) (h : j < Lib.deBruijn32tab.length) : tz32.getD j 0 = ((Lib.deBruijn32tab.getD j 0 : Nat) : Int) := by
  unfold tz32
  simp [List.getD, h]
theorem tz32_len : tz32.length = Lib.deBruijn32tab.length := by unfold tz32; simp
theorem dTz : (Rows.laid_math_bits_deBruijn32tab : DataW Unit) = Lib.tabData .u8 tz32 := by kernel_rfl
theorem dPow : (Rows.laid_internal_strconv_uint64pow10 : DataW Unit) = Lib.tabData .u64 Lib.pow10Tab := by kernel_rfl
theorem tabs_of_laid {W : World} (h : laidMetH Tryd.prog lay3 W) : Tabs W := by
  rw [MakeChecks.laidMetH_plain _ _ _ (by kernel_rfl)] at h
  obtain ⟨ps, ⟨g0, t0, cs0, f0, p0, q0, hg0, ht0, hv0, hd0, ⟨g1, t1, cs1, f1, p1, q1, hg1, ht1, hv1, hd1, ⟨g2, t2, cs2, f2, p2, q2, hg2, ht2, hv2, hd2, _, _⟩, _⟩, _⟩, _, _⟩ := h
  obtain rfl := Option.some.inj (gTz.symm.trans hg0)
  obtain rfl := Option.some.inj (gPow.symm.trans hg2)
  obtain rfl := Option.some.inj (tTz.symm.trans ht0)
  obtain rfl := Option.some.inj (tPow.symm.trans ht2)
  rw [dTz] at hd0
  rw [dPow] at hd2
  have e0 := Lib.cells_of_tab Tryd.underlying92 Tryd.underlying5 (by kernel_rfl) (by kernel_rfl) hd0
  have e2 := Lib.cells_of_tab Tryd.underlying106 Tryd.underlying100 (by kernel_rfl) (by kernel_rfl) hd2
  have T0 : Lib.TabIs Tryd.prog W "math/bits.deBruijn32tab" .u8 tz32 := by
    unfold Lib.TabIs; rw [hv0, ← e0]
  have T2 : Lib.TabIs Tryd.prog W "internal/strconv.uint64pow10" .u64 Lib.pow10Tab := by
    unfold Lib.TabIs; rw [hv2, ← e2]
  refine ⟨T2, fun j hj => ?_⟩
  rw [gRen, T0.cell gTz j (by rw [tz32_len]; exact hj), tz32_at j hj]
end Go.Proofs.YtcjkdkaahkphfaaDoor
