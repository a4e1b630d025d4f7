/-
  From the reading of an argument to the lists that the contracts speak of: a slice of pairs (a text and a number) that came in.
-/
import Derived.Test.YtbgemebpfcbloaaB
import Derived.Deep.SlicePairs
import Derived.Lib.SmallJoins
namespace Go.Proofs.Ytbgemebpfcbloaa
open Go.RowKit Go.Deep
set_option maxRecDepth 100000

theorem PL_of_trod {H : Type} {enc : TypeId × Value → H} {P : Program} {w : World} {base : Nat} {spare : Nat → Bool} {held : Bool} {t e : TypeId} {f0 f1 : Field} {fuel : Nat} {v : Value} {x : DataW H × List MemPlace}
    (ht : P.underlying t = some (.slice e)) (he : P.underlying e = some (.struct #[f0, f1])) (ce : P.cellsOf e = 2) (o0 : f0.offset = 0) (o1 : f1.offset = 1) (c0 : P.cellsOf f0.type = 1) (c1 : P.cellsOf f1.type = 1)
    (u0 : P.underlying f0.type = some .string) (u1 : P.underlying f1.type = some (.int .i64))
    (h : DataW.trod enc P w base spare held fuel t [v] = some x) :
    ∃ l : List (ByteArray × Int), PL w v l ∧ l.length ≤ maxLen ∧ ∀ i (hi : i < l.length), l[i].1.size ≤ maxLen := by
  rcases open_slice_pairs ht he ce o0 o1 c0 c1 h with ⟨hv, _⟩ | ⟨a, len, cap, m, n, V0, V1, D0, D1, P0, P1, hv, hb, hl, hm, hmm, hx, hcell⟩
  · simp only [List.cons.injEq, and_true] at hv
    subst hv
    exact ⟨[], ⟨none, 0, rfl, fun h => absurd rfl h⟩, by simp, by simp⟩
  · simp only [List.cons.injEq, and_true] at hv
    subst hv
    have hlm : len ≤ m := by rw [hmm]; split <;> omega
    have each : ∀ i, i < len → ∃ q : ByteArray × Int, V0 i = .string q.1 ∧ V1 i = .int .i64 q.2 ∧ q.1.size ≤ maxLen := by
      intro i hi
      obtain ⟨_, _, h0, h1⟩ := hcell i (by omega)
      obtain ⟨s, e0, _, hs⟩ := DataW.trod_string u0 h0
      obtain ⟨k, e1, _, _⟩ := DataW.trod_int u1 h1
      simp only [List.cons.injEq, and_true] at e0 e1
      exact ⟨(s, k), e0, e1, hs⟩
    have all : ∀ i, ∃ q : ByteArray × Int, i < len → V0 i = .string q.1 ∧ V1 i = .int .i64 q.2 ∧ q.1.size ≤ maxLen := by
      intro i
      by_cases hi : i < len
      · obtain ⟨q, hq⟩ := each i hi
        exact ⟨q, fun _ => hq⟩
      · exact ⟨(⟨#[]⟩, 0), fun h => absurd h hi⟩
    obtain ⟨F, hF⟩ := Classical.skolem.1 all
    have hlen : ((List.range len).map F).length = len := by simp
    refine ⟨(List.range len).map F, ⟨some a, cap, by rw [hlen], fun hne => ?_⟩, by rw [hlen]; omega, fun i hi => ?_⟩
    · have hpos : 0 < len := by
        rcases Nat.eq_zero_or_pos len with h0 | h0
        · subst h0; simp at hne
        · exact h0
      obtain ⟨hc0, hc1, _, _⟩ := hcell 0 (by omega)
      have hsp : a.spot = none := by
        have := World.cell?_spot hc0
        simpa [Addr.add] using this
      obtain ⟨b, off, spot⟩ := a
      simp only at hsp
      subst hsp
      have hbl := World.block_lt_of_cell? _ _ hc0
      refine ⟨b, off, rfl, by simpa [Addr.add] using hbl, fun i hi => ?_⟩
      have hi' : i < len := by simpa using hi
      obtain ⟨k0, k1, _, _⟩ := hcell i (by omega)
      obtain ⟨e0, e1, _⟩ := hF i hi'
      have hg : ((List.range len).map F)[i] = F i := by simp
      rw [hg, ← e0, ← e1]
      constructor
      · rw [← k0]; congr 1
        by_cases h0 : i = 0
        · subst h0; simp [Addr.add]
        · simp [Addr.add, show ¬ (i * 2 = 0) from by omega]
      · rw [← k1]; congr 1

    · have hi' : i < len := by simpa using hi
      have hg : ((List.range len).map F)[i] = F i := by simp
      rw [hg]
      exact (hF i hi').2.2
end Go.Proofs.Ytbgemebpfcbloaa
