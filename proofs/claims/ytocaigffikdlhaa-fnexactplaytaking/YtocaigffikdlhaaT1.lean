/-
  From the reading of an argument to the lists that the contracts speak of: a slice of texts, a slice of bytes that came in.
-/
import Derived.Test.YtocaigffikdlhaaH1
import Derived.SliceStrings
namespace Go.Proofs.Ytocaigffikdlhaa
open Go.RowKit Go.ChangeMaps Go.ChangeShapes Go.WideShapes Go.ChangeAt

theorem SL_of_trod {H : Type} {enc : TypeId × Value → H} {P : Program} {w : World} {base : Nat} {spare : Nat → Bool} {held : Bool} {t e : TypeId} {fuel : Nat} {v : Value} {x : DataW H × List MemPlace}
    (ht : P.underlying t = some (.slice e)) (he : P.underlying e = some .string) (ce : P.cellsOf e = 1)
    (h : DataW.trod enc P w base spare held fuel t [v] = some x) :
    ∃ l : List ByteArray, SL w v l ∧ l.length ≤ maxLen ∧ ∀ i (hi : i < l.length), l[i].size ≤ maxLen := by
  rcases open_strings ht he ce h with ⟨hv, _⟩ | ⟨a, len, cap, ss, hv, hb, hl, hm, hz, hx, hcell, hws⟩
  · simp only [List.cons.injEq, and_true] at hv
    subst hv
    exact ⟨[], ⟨none, 0, rfl, fun h => absurd rfl h⟩, by simp, by simp⟩
  · simp only [List.cons.injEq, and_true] at hv
    subst hv
    have hls : len ≤ ss.length := by rw [hz]; split <;> omega
    have hlen : (ss.take len).length = len := by simp; omega
    refine ⟨ss.take len, ⟨some a, cap, by rw [hlen], fun hne => ?_⟩, by rw [hlen]; omega, fun i hi => hws _ (List.mem_of_mem_take (List.getElem_mem _))⟩
    have hpos : 0 < len := by
      rcases Nat.eq_zero_or_pos len with h0 | h0
      · subst h0; simp at hne
      · exact h0
    have hc0 := hcell 0 (by omega)
    have hsp : a.spot = none := by
      have := World.cell?_spot hc0
      simpa [Addr.add] using this
    obtain ⟨b, off, spot⟩ := a
    simp only at hsp
    subst hsp
    have hbl := World.block_lt_of_cell? _ _ hc0
    refine ⟨b, off, rfl, by simpa [Addr.add] using hbl, fun i hi => ?_⟩
    have hi' : i < len := by omega
    have hk := hcell i (by omega)
    have hg : (ss.take len)[i] = ss.getD i ByteArray.empty := by
      rw [List.getElem_take, List.getD_eq_getElem?_getD, List.getElem?_eq_getElem (by omega), Option.getD_some]
    rw [hg, ← hk]; congr 1
    by_cases h0 : i = 0
    · subst h0; simp [Addr.add]
    · simp [Addr.add, h0]
end Go.Proofs.Ytocaigffikdlhaa
