/-
  From the reading of an argument to the lists of pairs and sessions that the contracts speak of.
-/
import Derived.Test.YthlllegedfjhlaaKV
import Derived.Deep.SlicePairs
import Derived.Lib.SmallJoins
namespace Go.Proofs.Ythlllegedfjhlaa
open Go.RowKit Go.Deep
set_option linter.unusedVariables false
set_option maxRecDepth 100000

theorem PR_of_trod {H : Type} {enc : TypeId × Value → H} {P : Program} {w : World} {base : Nat} {spare : Nat → Bool} {held : Bool} {t e : TypeId} {f0 f1 : Field} {fuel : Nat} {v : Value} {x : DataW H × List MemPlace}
    (ht : P.underlying t = some (.slice e)) (he : P.underlying e = some (.struct #[f0, f1])) (ce : P.cellsOf e = 2) (hone : oneCellFields P #[f0, f1] = true)
    (u0 : P.underlying f0.type = some .string) (u1 : P.underlying f1.type = some .string)
    (h : DataW.trod enc P w base spare held fuel t [v] = some x) :
    ∃ l : List Pr, PR w v l ∧ l.length ≤ maxLen ∧ ∀ i (hi : i < l.length), l[i].k.size ≤ maxLen ∧ l[i].v.size ≤ maxLen := by
  obtain ⟨p0, k0⟩ := hone_of hone 0 f0 rfl
  obtain ⟨p1, k1⟩ := hone_of hone 1 f1 rfl
  rcases open_slice ht h with ⟨hv, _⟩ | ⟨a, len, cap, m, n, D, Pl, hv, hb, hl, hm, hmm, hx, hel⟩
  · simp only [List.cons.injEq, and_true] at hv
    subst hv
    exact ⟨[], ⟨none, 0, rfl, fun h => absurd rfl h⟩, by simp, by simp⟩
  · simp only [List.cons.injEq, and_true] at hv
    subst hv
    have hlm : len ≤ m := by rw [hmm]; split <;> omega
    have each : ∀ i, i < len → ∃ s : Pr, (w.cell? ((a.add (i * 2)).add 0) = some (.string s.k) ∧ w.cell? ((a.add (i * 2)).add 1) = some (.string s.v)) ∧ s.k.size ≤ maxLen ∧ s.v.size ≤ maxLen := by
      intro i hi
      obtain ⟨cs', h1, h2⟩ := hel i (by omega)
      rw [ce] at h1
      obtain ⟨_, hlen, hcell⟩ := World.cells?_some h1
      obtain ⟨xs, k, hk, hxy, _, hxl, hf⟩ := DataW.trod_struct he h2
      match xs, hxl, cs', hlen with
      | [y0, y1], _, [c0, c1], _ =>
        have g0 := hf 0 f0 rfl
        have g1 := hf 1 f1 rfl
        simp [p0, k0] at g0
        simp [p1, k1] at g1
        obtain ⟨z0, e0, _, s0⟩ := DataW.trod_string u0 g0
        obtain ⟨z1, e1, _, s1⟩ := DataW.trod_string u1 g1
        simp only [List.cons.injEq, and_true] at e0 e1
        subst e0 e1
        exact ⟨⟨z0, z1⟩, ⟨hcell 0 (by omega), hcell 1 (by omega)⟩, s0, s1⟩
    have all : ∀ i, ∃ s : Pr, i < len → (w.cell? ((a.add (i * 2)).add 0) = some (.string s.k) ∧ w.cell? ((a.add (i * 2)).add 1) = some (.string s.v)) ∧ s.k.size ≤ maxLen ∧ s.v.size ≤ maxLen := by
      intro i
      by_cases hi : i < len
      · obtain ⟨q, hq⟩ := each i hi
        exact ⟨q, fun _ => hq⟩
      · exact ⟨Pr.zero, fun h => absurd h hi⟩
    obtain ⟨F, hF⟩ := Classical.skolem.1 all
    have hlen : ((List.range len).map F).length = len := by simp
    refine ⟨(List.range len).map F, ⟨some a, cap, by rw [hlen], fun hne => ?_⟩, by rw [hlen]; omega, fun i hi => ?_⟩
    · have hpos : 0 < len := by
        rcases Nat.eq_zero_or_pos len with h0 | h0
        · subst h0; simp at hne
        · exact h0
      obtain ⟨⟨hc0, _⟩, _⟩ := hF 0 hpos
      have hsp : a.spot = none := by
        have := World.cell?_spot hc0
        simpa [Addr.add] using this
      obtain ⟨b, off, spot⟩ := a
      simp only at hsp
      subst hsp
      have hbl := World.block_lt_of_cell? _ _ hc0
      have add5 : ∀ i j : Nat, ((⟨b, off, none⟩ : Addr).add (i * 2)).add j = ⟨b, off + i * 2 + j, none⟩ := by
        intro i j
        by_cases h1 : i = 0
        · subst h1; by_cases h2 : j = 0 <;> simp [Addr.add, h2]
        · have h3 : ¬ (i * 2 = 0) := by omega
          by_cases h2 : j = 0 <;> simp [Addr.add, h2, h3]
      refine ⟨b, off, rfl, by simpa [Addr.add] using hbl, fun i hi => ?_⟩
      have hi' : i < len := by simpa using hi
      obtain ⟨⟨q0, q1⟩, _⟩ := hF i hi'
      rw [add5] at q0 q1
      have hg : ((List.range len).map F)[i] = F i := by simp
      rw [hg]
      exact ⟨q0, q1⟩
    · have hi' : i < len := by simpa using hi
      have hg : ((List.range len).map F)[i] = F i := by simp
      rw [hg]
      exact (hF i hi').2
theorem cells3 : Try.prog.cellsOf 3 = 1 := by kernel_rfl
theorem cells9 : Try.prog.cellsOf 9 = 1 := by kernel_rfl
theorem cells67 : Try.prog.cellsOf 67 = 2 := by kernel_rfl
theorem cells69 : Try.prog.cellsOf 69 = 4 := by kernel_rfl
theorem SR_of_trod {H : Type} {enc : TypeId × Value → H} {w : World} {base : Nat} {spare : Nat → Bool} {held : Bool} {fuel : Nat} {v : Value} {x : DataW H × List MemPlace}
    (h : DataW.trod enc Try.prog w base spare held fuel 23 [v] = some x) : ∃ l : List Ss, SR w v l ∧ l.length ≤ maxLen ∧ ∀ i (hi : i < l.length), l[i].v.size ≤ maxLen := by
  rcases open_slice Try.underlying23 h with ⟨hv, _⟩ | ⟨a, len, cap, m, n, D, Pl, hv, hb, hl, hm, hmm, hx, hel⟩
  · simp only [List.cons.injEq, and_true] at hv
    subst hv
    exact ⟨[], ⟨none, 0, rfl, fun h => absurd rfl h⟩, by simp, by simp⟩
  · simp only [List.cons.injEq, and_true] at hv
    subst hv
    have hlm : len ≤ m := by rw [hmm]; split <;> omega
    have each : ∀ i, i < len → ∃ s : Ss, (w.cell? ((a.add (i * 4)).add 0) = some (.int .i64 s.n) ∧ w.cell? ((a.add (i * 4)).add 1) = some (.int .i64 s.d) ∧ w.cell? ((a.add (i * 4)).add 2) = some (.int .i64 s.c) ∧ w.cell? ((a.add (i * 4)).add 3) = some (.string s.v)) ∧ s.v.size ≤ maxLen := by
      intro i hi
      obtain ⟨cs', h1, h2⟩ := hel i (by omega)
      rw [cells69] at h1
      obtain ⟨_, hlen, hcell⟩ := World.cells?_some h1
      obtain ⟨xs, k, hk, hxy, _, hxl, hf⟩ := DataW.trod_struct Try.underlying69 h2
      match xs, hxl, cs', hlen with
      | [y0, y1, y2], _, [c0, c1, c2, c3], _ =>
        have g0 : DataW.trod enc Try.prog w base spare held k 3 (([c0, c1, c2, c3].drop 0).take (Try.prog.cellsOf 3)) = [y0, y1, y2][0]? := hf 0 _ rfl
        have g1 : DataW.trod enc Try.prog w base spare held k 3 (([c0, c1, c2, c3].drop 1).take (Try.prog.cellsOf 3)) = [y0, y1, y2][1]? := hf 1 _ rfl
        have g2 : DataW.trod enc Try.prog w base spare held k 67 (([c0, c1, c2, c3].drop 2).take (Try.prog.cellsOf 67)) = [y0, y1, y2][2]? := hf 2 _ rfl
        rw [cells3] at g0 g1
        rw [cells67] at g2
        simp at g0 g1 g2
        obtain ⟨zs, k2, hk2, _, _, hzl, hf2⟩ := DataW.trod_struct Try.underlying67 g2
        match zs, hzl with
        | [y3, y4], _ =>
          have j0 : DataW.trod enc Try.prog w base spare held k2 3 (([c2, c3].drop 0).take (Try.prog.cellsOf 3)) = [y3, y4][0]? := hf2 0 _ rfl
          have j1 : DataW.trod enc Try.prog w base spare held k2 9 (([c2, c3].drop 1).take (Try.prog.cellsOf 9)) = [y3, y4][1]? := hf2 1 _ rfl
          rw [cells3] at j0
          rw [cells9] at j1
          simp at j0 j1
          obtain ⟨z0, e0, _, _⟩ := DataW.trod_int Try.underlying3 g0
          obtain ⟨z1, e1, _, _⟩ := DataW.trod_int Try.underlying3 g1
          obtain ⟨z2, e2, _, _⟩ := DataW.trod_int Try.underlying3 j0
          obtain ⟨z3, e3, _, s3⟩ := DataW.trod_string Try.underlying9 j1
          simp only [List.cons.injEq, and_true] at e0 e1 e2 e3
          subst e0 e1 e2 e3
          exact ⟨⟨z0, z1, z2, z3⟩, ⟨hcell 0 (by omega), hcell 1 (by omega), hcell 2 (by omega), hcell 3 (by omega)⟩, s3⟩
    have all : ∀ i, ∃ s : Ss, i < len → (w.cell? ((a.add (i * 4)).add 0) = some (.int .i64 s.n) ∧ w.cell? ((a.add (i * 4)).add 1) = some (.int .i64 s.d) ∧ w.cell? ((a.add (i * 4)).add 2) = some (.int .i64 s.c) ∧ w.cell? ((a.add (i * 4)).add 3) = some (.string s.v)) ∧ s.v.size ≤ maxLen := by
      intro i
      by_cases hi : i < len
      · obtain ⟨q, hq⟩ := each i hi
        exact ⟨q, fun _ => hq⟩
      · exact ⟨Ss.zero, fun h => absurd h hi⟩
    obtain ⟨F, hF⟩ := Classical.skolem.1 all
    have hlen : ((List.range len).map F).length = len := by simp
    refine ⟨(List.range len).map F, ⟨some a, cap, by rw [hlen], fun hne => ?_⟩, by rw [hlen]; omega, fun i hi => ?_⟩
    · have hpos : 0 < len := by
        rcases Nat.eq_zero_or_pos len with h0 | h0
        · subst h0; simp at hne
        · exact h0
      obtain ⟨⟨hc0, _⟩, _⟩ := hF 0 hpos
      have hsp : a.spot = none := by
        have := World.cell?_spot hc0
        simpa [Addr.add] using this
      obtain ⟨b, off, spot⟩ := a
      simp only at hsp
      subst hsp
      have hbl := World.block_lt_of_cell? _ _ hc0
      have add5 : ∀ i j : Nat, ((⟨b, off, none⟩ : Addr).add (i * 4)).add j = ⟨b, off + i * 4 + j, none⟩ := by
        intro i j
        by_cases h1 : i = 0
        · subst h1; by_cases h2 : j = 0 <;> simp [Addr.add, h2]
        · have h3 : ¬ (i * 4 = 0) := by omega
          by_cases h2 : j = 0 <;> simp [Addr.add, h2, h3]
      refine ⟨b, off, rfl, by simpa [Addr.add] using hbl, fun i hi => ?_⟩
      have hi' : i < len := by simpa using hi
      obtain ⟨⟨q0, q1, q2, q3⟩, _⟩ := hF i hi'
      rw [add5] at q0 q1 q2 q3
      have hg : ((List.range len).map F)[i] = F i := by simp
      rw [hg]
      exact ⟨q0, q1, q2, q3⟩
    · have hi' : i < len := by simpa using hi
      have hg : ((List.range len).map F)[i] = F i := by simp
      rw [hg]
      exact (hF i hi').2
end Go.Proofs.Ythlllegedfjhlaa
