/-
  From the reading of an argument to numbers and towers in rows.
-/
import Derived.Test.YtdaldkcildbcmaaDoorG2
import Derived.Deep.SlicePairs
import Derived.Lib.SmallJoins
namespace Go.Proofs.YtdaldkcildbcmaaDoor
open Go.RowKit Go.Deep
set_option linter.unusedVariables false
set_option maxRecDepth 100000

theorem cells3 : Tryd.prog.cellsOf 3 = 1 := by kernel_rfl
theorem cells9 : Tryd.prog.cellsOf 9 = 1 := by kernel_rfl
theorem cells23 : Tryd.prog.cellsOf 23 = 1 := by kernel_rfl
theorem cells55 : Tryd.prog.cellsOf 55 = 4 := by kernel_rfl
theorem cells121 : Tryd.prog.cellsOf 121 = 5 := by kernel_rfl

theorem IL_of_trod {H : Type} {enc : TypeId × Value → H} {w : World} {base : Nat} {spare : Nat → Bool} {held : Bool} {fuel : Nat} {v : Value} {x : DataW H × List MemPlace}
    (h : DataW.trod enc Tryd.prog w base spare held fuel 23 [v] = some x) : ∃ zs : List Int, IL w v zs ∧ zs.length ≤ maxLen := by
  rcases open_slice Tryd.underlying23 h with ⟨hv, _⟩ | ⟨a, len, cap, m, n, D, Pl, hv, hb, hl, hm, hmm, hx, hel⟩
  · simp only [List.cons.injEq, and_true] at hv
    subst hv
    exact ⟨[], ⟨none, 0, rfl, fun h => absurd rfl h⟩, by simp⟩
  · simp only [List.cons.injEq, and_true] at hv
    subst hv
    have hlm : len ≤ m := by rw [hmm]; split <;> omega
    have each : ∀ i, i < len → ∃ s : Int, w.cell? (a.add i) = some (.int .i64 s) := by
      intro i hi
      obtain ⟨cs', h1, h2⟩ := hel i (by omega)
      rw [cells3] at h1
      obtain ⟨_, hlen, hcell⟩ := World.cells?_some h1
      obtain ⟨z1, e1, _, _⟩ := DataW.trod_int Tryd.underlying3 h2
      subst e1
      refine ⟨z1, ?_⟩
      have := hcell 0 (by omega)
      rw [Nat.mul_one] at this
      simpa [Addr.add] using this
    have all : ∀ i, ∃ s : Int, i < len → w.cell? (a.add i) = some (.int .i64 s) := by
      intro i
      by_cases hi : i < len
      · obtain ⟨q, hq⟩ := each i hi
        exact ⟨q, fun _ => hq⟩
      · exact ⟨0, fun h => absurd h hi⟩
    obtain ⟨F, hF⟩ := Classical.skolem.1 all
    have hlen : ((List.range len).map F).length = len := by simp
    refine ⟨(List.range len).map F, ⟨some a, cap, by rw [hlen], fun hne => ?_⟩, by rw [hlen]; omega⟩
    have hpos : 0 < len := by
      rcases Nat.eq_zero_or_pos len with h0 | h0
      · subst h0; simp at hne
      · exact h0
    have hc0 := hF 0 hpos
    have hsp : a.spot = none := by
      have := World.cell?_spot hc0
      simpa [Addr.add] using this
    obtain ⟨b, off, spot⟩ := a
    simp only at hsp
    subst hsp
    have hbl := World.block_lt_of_cell? _ _ hc0
    refine ⟨b, off, rfl, by simpa [Addr.add] using hbl, fun i hi => ?_⟩
    have hi' : i < len := by simpa using hi
    have hg : ((List.range len).map F)[i] = F i := by simp
    rw [hg, ← hF i hi']
    congr 1
    by_cases h0 : i = 0
    · subst h0; simp [Addr.add]
    · simp [Addr.add, h0]

theorem TW_of_trod {H : Type} {enc : TypeId × Value → H} {w : World} {base : Nat} {spare : Nat → Bool} {held : Bool} {fuel : Nat} {v : Value} {x : DataW H × List MemPlace}
    (h : DataW.trod enc Tryd.prog w base spare held fuel 48 [v] = some x) : ∃ ts : List Tw, TW w v ts ∧ ts.length ≤ maxLen ∧ ∀ i (hi : i < ts.length), ts[i].fits := by
  rcases open_slice Tryd.underlying48 h with ⟨hv, _⟩ | ⟨a, len, cap, m, n, D, Pl, hv, hb, hl, hm, hmm, hx, hel⟩
  · simp only [List.cons.injEq, and_true] at hv
    subst hv
    exact ⟨[], ⟨none, 0, rfl, fun h => absurd rfl h⟩, by simp, by simp⟩
  · simp only [List.cons.injEq, and_true] at hv
    subst hv
    have hlm : len ≤ m := by rw [hmm]; split <;> omega
    have each : ∀ i, i < len → ∃ s : Tw, (∃ u, (w.cell? ((a.add (i * 5)).add 0) = some (.string s.key) ∧ w.cell? ((a.add (i * 5)).add 1) = some (.int .i64 s.seq) ∧ w.cell? ((a.add (i * 5)).add 2) = some (.int .i64 s.kind) ∧ w.cell? ((a.add (i * 5)).add 3) = some (.string s.val) ∧ w.cell? ((a.add (i * 5)).add 4) = some u) ∧ IL w u s.next) ∧ s.fits := by
      intro i hi
      obtain ⟨cs', h1, h2⟩ := hel i (by omega)
      rw [cells121] at h1
      obtain ⟨_, hlen, hcell⟩ := World.cells?_some h1
      obtain ⟨xs, k, hk, hxy, _, hxl, hf⟩ := DataW.trod_struct Tryd.underlying121 h2
      match xs, hxl, cs', hlen with
      | [y0, y1], _, [c0, c1, c2, c3, c4], _ =>
        have g0 : DataW.trod enc Tryd.prog w base spare held k 55 (([c0, c1, c2, c3, c4].drop 0).take (Tryd.prog.cellsOf 55)) = [y0, y1][0]? := hf 0 _ rfl
        have g1 : DataW.trod enc Tryd.prog w base spare held k 23 (([c0, c1, c2, c3, c4].drop 4).take (Tryd.prog.cellsOf 23)) = [y0, y1][1]? := hf 1 _ rfl
        rw [cells55] at g0
        rw [cells23] at g1
        simp at g0 g1
        obtain ⟨zs, k2, hk2, _, _, hzl, hf2⟩ := DataW.trod_struct Tryd.underlying55 g0
        match zs, hzl with
        | [y2, y3, y4, y5], _ =>
          have j0 : DataW.trod enc Tryd.prog w base spare held k2 9 (([c0, c1, c2, c3].drop 0).take (Tryd.prog.cellsOf 9)) = [y2, y3, y4, y5][0]? := hf2 0 _ rfl
          have j1 : DataW.trod enc Tryd.prog w base spare held k2 3 (([c0, c1, c2, c3].drop 1).take (Tryd.prog.cellsOf 3)) = [y2, y3, y4, y5][1]? := hf2 1 _ rfl
          have j2 : DataW.trod enc Tryd.prog w base spare held k2 3 (([c0, c1, c2, c3].drop 2).take (Tryd.prog.cellsOf 3)) = [y2, y3, y4, y5][2]? := hf2 2 _ rfl
          have j3 : DataW.trod enc Tryd.prog w base spare held k2 9 (([c0, c1, c2, c3].drop 3).take (Tryd.prog.cellsOf 9)) = [y2, y3, y4, y5][3]? := hf2 3 _ rfl
          rw [cells9] at j0 j3
          rw [cells3] at j1 j2
          simp at j0 j1 j2 j3
          obtain ⟨z0, e0, _, s0⟩ := DataW.trod_string Tryd.underlying9 j0
          obtain ⟨z1, e1, _, _⟩ := DataW.trod_int Tryd.underlying3 j1
          obtain ⟨z2, e2, _, _⟩ := DataW.trod_int Tryd.underlying3 j2
          obtain ⟨z3, e3, _, s3⟩ := DataW.trod_string Tryd.underlying9 j3
          obtain ⟨l4, i4, n4⟩ := IL_of_trod g1
          simp only [List.cons.injEq, and_true] at e0 e1 e2 e3
          subst e0 e1 e2 e3
          exact ⟨⟨z0, z1, z2, z3, l4⟩, ⟨c4, ⟨hcell 0 (by omega), hcell 1 (by omega), hcell 2 (by omega), hcell 3 (by omega), hcell 4 (by omega)⟩, i4⟩, s0, s3, n4⟩
    have all : ∀ i, ∃ s : Tw, i < len → (∃ u, (w.cell? ((a.add (i * 5)).add 0) = some (.string s.key) ∧ w.cell? ((a.add (i * 5)).add 1) = some (.int .i64 s.seq) ∧ w.cell? ((a.add (i * 5)).add 2) = some (.int .i64 s.kind) ∧ w.cell? ((a.add (i * 5)).add 3) = some (.string s.val) ∧ w.cell? ((a.add (i * 5)).add 4) = some u) ∧ IL w u s.next) ∧ s.fits := by
      intro i
      by_cases hi : i < len
      · obtain ⟨q, hq⟩ := each i hi
        exact ⟨q, fun _ => hq⟩
      · exact ⟨default, fun h => absurd h hi⟩
    obtain ⟨F, hF⟩ := Classical.skolem.1 all
    have hlen : ((List.range len).map F).length = len := by simp
    refine ⟨(List.range len).map F, ⟨some a, cap, by rw [hlen], fun hne => ?_⟩, by rw [hlen]; omega, fun i hi => ?_⟩
    · have hpos : 0 < len := by
        rcases Nat.eq_zero_or_pos len with h0 | h0
        · subst h0; simp at hne
        · exact h0
      obtain ⟨⟨_, ⟨hc0, _⟩, _⟩, _⟩ := hF 0 hpos
      have hsp : a.spot = none := by
        have := World.cell?_spot hc0
        simpa [Addr.add] using this
      obtain ⟨b, off, spot⟩ := a
      simp only at hsp
      subst hsp
      have hbl := World.block_lt_of_cell? _ _ hc0
      have add5 : ∀ i j : Nat, ((⟨b, off, none⟩ : Addr).add (i * 5)).add j = ⟨b, off + i * 5 + j, none⟩ := by
        intro i j
        by_cases h1 : i = 0
        · subst h1; by_cases h2 : j = 0 <;> simp [Addr.add, h2]
        · have h3 : ¬ (i * 5 = 0) := by omega
          by_cases h2 : j = 0 <;> simp [Addr.add, h2, h3]
      refine ⟨b, off, rfl, by simpa [Addr.add] using hbl, fun i hi => ?_⟩
      have hi' : i < len := by simpa using hi
      obtain ⟨⟨u, ⟨q0, q1, q2, q3, q4⟩, hu⟩, _⟩ := hF i hi'
      rw [add5] at q0 q1 q2 q3 q4
      have hg : ((List.range len).map F)[i] = F i := by simp
      rw [hg]
      exact ⟨u, ⟨q0, q1, q2, q3, q4⟩, hu⟩
    · have hi' : i < len := by simpa using hi
      have hg : ((List.range len).map F)[i] = F i := by simp
      rw [hg]
      exact (hF i hi').2
end Go.Proofs.YtdaldkcildbcmaaDoor
