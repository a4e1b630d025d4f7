/-
  A slice of runs that came in, opened.
-/
import Derived.Test.YtcjkdkaahkphfaaR9
import Derived.Test.YtcjkdkaahkphfaaO8
namespace Go.Proofs.Ytcjkdkaahkphfaa
open Go.RowKit Go.Deep Go.Joins Go.ChangeShapes Go.WideShapes Go.ChangeAt
set_option linter.unusedVariables false
set_option maxRecDepth 100000

theorem RL_of_trod {H : Type} {enc : TypeId × Value → H} {P : Program} {w : World} {base : Nat} {spare : Nat → Bool} {held : Bool} {t e e2 : TypeId} {fr f0 f1 f2 f3 : Field} {fuel : Nat} {v : Value} {x : DataW H × List MemPlace}
    (ht : P.underlying t = some (.slice e)) (he : P.underlying e = some (.struct #[fr])) (ce : P.cellsOf e = 1) (hone1 : oneCellFields P #[fr] = true) (hr : P.underlying fr.type = some (.slice e2)) (he2 : P.underlying e2 = some (.struct #[f0, f1, f2, f3])) (ce2 : P.cellsOf e2 = 4) (hone : oneCellFields P #[f0, f1, f2, f3] = true)
    (u0 : P.underlying f0.type = some .string) (u1 : P.underlying f1.type = some (.int .i64)) (u2 : P.underlying f2.type = some (.int .i64)) (u3 : P.underlying f3.type = some .string)
    (h : DataW.trod enc P w base spare held fuel t [v] = some x) :
    ∃ l : List (List It), RL w v l ∧ l.length ≤ maxLen ∧ ∀ i (hi : i < l.length), l[i].length ≤ maxLen ∧ ∀ j (hj : j < l[i].length), l[i][j].k.size ≤ maxLen ∧ l[i][j].v.size ≤ maxLen := by
  obtain ⟨p0, k0⟩ := hone_of hone1 0 fr rfl
  rcases open_slice ht h with ⟨hv, _⟩ | ⟨a, len, cap, m, n, D, Pl, hv, hb, hl, hm, hmm, hx, hel⟩
  · simp only [List.cons.injEq, and_true] at hv
    subst hv
    exact ⟨[], ⟨none, 0, rfl, fun h => absurd rfl h⟩, by simp, by simp⟩
  · simp only [List.cons.injEq, and_true] at hv
    subst hv
    have hlm : len ≤ m := by rw [hmm]; split <;> omega
    have each : ∀ i, i < len → ∃ l : List It, (∃ u, w.cell? ((a.add (i * 1)).add 0) = some u ∧ IR w u l) ∧ l.length ≤ maxLen ∧ ∀ j (hj : j < l.length), l[j].k.size ≤ maxLen ∧ l[j].v.size ≤ maxLen := by
      intro i hi
      obtain ⟨cs', h1, h2⟩ := hel i (by omega)
      rw [ce] at h1
      obtain ⟨_, hlen, hcell⟩ := World.cells?_some h1
      obtain ⟨xs, k, hk, hxy, _, hxl, hf⟩ := DataW.trod_struct he h2
      match xs, hxl, cs', hlen with
      | [y0], _, [c0], _ =>
        have g0 := hf 0 fr rfl
        simp [p0, k0] at g0
        obtain ⟨l, q1, q2, q3⟩ := IR_of_trod hr he2 ce2 hone u0 u1 u2 u3 g0
        exact ⟨l, ⟨c0, hcell 0 (by omega), q1⟩, q2, q3⟩
    have all : ∀ i, ∃ l : List It, i < len → (∃ u, w.cell? ((a.add (i * 1)).add 0) = some u ∧ IR w u l) ∧ l.length ≤ maxLen ∧ ∀ j (hj : j < l.length), l[j].k.size ≤ maxLen ∧ l[j].v.size ≤ maxLen := by
      intro i
      by_cases hi : i < len
      · obtain ⟨q, hq⟩ := each i hi
        exact ⟨q, fun _ => hq⟩
      · exact ⟨[], fun h => absurd h hi⟩
    obtain ⟨F, hF⟩ := Classical.skolem.1 all
    have hlen : ((List.range len).map F).length = len := by simp
    have hget : ∀ i (hi : i < ((List.range len).map F).length), ((List.range len).map F)[i] = F i := fun i hi => by simp
    refine ⟨(List.range len).map F, ⟨some a, cap, by rw [hlen], fun hne => ?_⟩, by rw [hlen]; omega, fun i hi => ?_⟩
    · have hpos : 0 < len := by
        rcases Nat.eq_zero_or_pos len with h0 | h0
        · subst h0; simp at hne
        · exact h0
      obtain ⟨⟨_, hc0, _⟩, _⟩ := hF 0 hpos
      have hsp : a.spot = none := by
        have := World.cell?_spot hc0
        simpa [Addr.add] using this
      obtain ⟨b, off, spot⟩ := a
      simp only at hsp
      subst hsp
      have hbl := World.block_lt_of_cell? _ _ hc0
      have add1 : ∀ i : Nat, ((⟨b, off, none⟩ : Addr).add (i * 1)).add 0 = ⟨b, off + i, none⟩ := by
        intro i
        by_cases h1 : i = 0
        · subst h1; simp [Addr.add]
        · simp [Addr.add, h1]
      refine ⟨b, off, rfl, by rw [add1] at hbl; exact hbl, fun i hi => ?_⟩
      obtain ⟨⟨u, hu, hir⟩, _⟩ := hF i (by rw [hlen] at hi; exact hi)
      rw [add1] at hu
      exact ⟨u, hu, by rw [hget]; exact hir⟩
    · obtain ⟨_, q1, q2⟩ := hF i (by rw [hlen] at hi; exact hi)
      rw [hget] 
      exact ⟨q1, q2⟩
end Go.Proofs.Ytcjkdkaahkphfaa
