/-
  A builder's WriteString: which blocks it turns.
-/
import Derived.Test.YtenbdjlhcadhaaaS7
import Derived.Test.YtenbdjlhcadhaaaE
import Derived.Test.YtenbdjlhcadhaaaV1
namespace Go.Proofs.Ytenbdjlhcadhaaa
open Go.RowKit Go.Lib
set_option linter.unusedVariables false
set_option maxRecDepth 100000

/-- The blocks of a builder: its own, and that of its row. -/
def BlkOf (w : World) (b k : Nat) : Prop := k = b ∨ ∃ v, w.cell? ⟨b, 1, none⟩ = some v ∧ v.ownBlock = some k
theorem copyCheck_chg (B b : Nat) (bs : List Value) (w : World) (h : Lib.IsBuilder 128 5 B b bs w) :
    Calls Try.prog 126 #[.pointer (some ⟨b, 0, none⟩)] w fun e w' => e = .returned (.tuple #[]) ∧ (Lib.BuilderAt 128 5 B b (.pointer (some ⟨b, 0, none⟩)) bs w' ∧ Below B w w' ∧ Chg (· = b) w w' ∧ w'.cell? ⟨b, 1, none⟩ = w.cell? ⟨b, 1, none⟩) := by
  rcases h with h | h
  · refine (copyFresh_any b w h.cell0 h.shape h.frozen0).mono ?_
    rintro e w' ⟨rfl, rfl⟩
    exact ⟨rfl, h.used _, (Below.refl B w).setCell (p := ⟨b, 0, none⟩) h.1 _, Chg.setCell (S := fun k => k = b) (p := ⟨b, 0, none⟩) (Chg.refl _ _) rfl _, World.cell?_setCell_other _ _ _ _ (by simp)⟩
  · refine (copyUsed_any b w h.cell0).mono ?_
    rintro e w' ⟨rfl, rfl⟩
    exact ⟨rfl, h, Below.refl B _, Chg.refl _ _, rfl⟩
set_option maxHeartbeats 2000000 in
theorem writeString_chg (B b : Nat) (bs : List Value) (s : ByteArray) (w : World) (h : Lib.IsBuilder 128 5 B b bs w) (hlen : bs.length + s.size ≤ 1073741824) (hBw : B ≤ w.heap.size) :
    Calls Try.prog 112 #[.pointer (some ⟨b, 0, none⟩), .string s] w fun e w' => e = .returned (.tuple #[.int .i64 s.size, .nilIface]) ∧ (Lib.BuilderAt 128 5 B b (.pointer (some ⟨b, 0, none⟩)) (bs ++ Lib.strCells s) w' ∧ Below B w w' ∧ Chg (BlkOf w b) w w') := by
  obtain ⟨i0, hi, hz0, hz1, hz2⟩ := info_parts Try.info5
  go_enter Try.func112, Try.ntmps112
  go_wp2_with fail
  refine (copyCheck_chg B b bs _ h).mono ?_
  rintro e w1 ⟨rfl, h1, hb1, hc1, hce⟩
  obtain ⟨hB, v, hbk, hown, hne⟩ := h1
  have c0 : w1.cell? ⟨b, 0, none⟩ = some (.pointer (some ⟨b, 0, none⟩)) := by rw [Lib.cell_of_heap hbk]; rfl
  have c1 : w1.cell? ⟨b, 1, none⟩ = some v := by rw [Lib.cell_of_heap hbk]; rfl
  have hz1w := hb1.size
  have HV : Hid (∀ k, v.ownBlock = some k → BlkOf w b k) := fun k hk => .inr ⟨v, by rw [← hce]; exact c1, hk⟩
  have HC : Hid (Chg (BlkOf w b) w w1) := hc1.mono fun k hk => .inl hk
  clear h hc1 hce
  go_wp2_with (at_builtin; refine Lib.wpList_append_own_string _ rfl _ _ 22 9 rfl B 5 i0 Try.underlying22 Try.underlying9 hi hz0 hz1 hz2 _ _ _ rfl hown s rfl ?c3 ?c4 ?c5 ?_)
  case c3 => unfold maxLen; omega
  case c4 => omega
  case c5 => omega
  intro v' w2 hown' hgrow _
  have hlt : b < w1.heap.size := by
    rcases Nat.lt_or_ge b w1.heap.size with h' | h'
    · exact h'
    · simp [Array.getElem?_eq_none h'] at hbk
  have hb2 : w2.heap[b]? = some (.cells #[.pointer (some ⟨b, 0, none⟩), v] 128 (0, 0)) := by
    rw [hgrow.block b hlt (fun e => hne e.symm)]
    exact hbk
  have d0 : w2.cell? ⟨b, 0, none⟩ = some (.pointer (some ⟨b, 0, none⟩)) := by rw [Lib.cell_of_heap hb2]; rfl
  have d1 : w2.cell? ⟨b, 1, none⟩ = some v := by rw [Lib.cell_of_heap hb2]; rfl
  have f1 : w2.frozen? ⟨b, 1, none⟩ = false := Lib.frozen_of_heap hb2 1
  obtain ⟨ao, n', cap, rfl⟩ : ∃ ao n' cap, v' = .slice ao n' cap := by
    rcases hown'.2 with ⟨hv, _⟩ | ⟨g, cap, cur, hv, _⟩
    · exact ⟨_, _, _, hv⟩
    · exact ⟨_, _, _, hv⟩
  have HC2 : Hid (Chg (BlkOf w b) w w2) := HC.out.trans ⟨hgrow.os, hgrow.tape, hgrow.output, hgrow.size, fun k hk hs => hgrow.block k hk (fun e => hs (HV.out k e.symm))⟩
  clear HC HV
  go_wp2
  go_ret2
  refine ⟨rfl, ?_, ?_, ?_⟩
  · exact Lib.BuilderAt.put (T := 128) (e := 5) hB hb2 (bs' := bs ++ Lib.strCells s) (by simpa [Lib.strCells_length] using hown') (by decide)
  · exact (hb1.grown hgrow (by omega) (fun k hk => (hown.lt k hk).1)).setCell (p := ⟨b, 1, none⟩) hB _
  · exact HC2.out.setCell (p := ⟨b, 1, none⟩) (.inl rfl) _
/-- The blocks of a builder lie in the world. -/
theorem blkOf_lt {w : World} {B b : Nat} {bs : List Value} (h : Lib.IsBuilder 128 5 B b bs w) {k : Nat} (hk : BlkOf w b k) : k < w.heap.size := by
  have key : ∀ p, Lib.BuilderAt 128 5 B b p bs w → k < w.heap.size := by
    rintro p ⟨h1, v, h2, h3, h4⟩
    rcases hk with rfl | ⟨v', hv, ho⟩
    · exact (Array.getElem?_eq_some_iff.1 h2).1
    · have c1 : w.cell? ⟨b, 1, none⟩ = some v := by rw [Lib.cell_of_heap h2]; rfl
      rw [c1] at hv
      cases hv
      exact (h3.lt k ho).2
  rcases h with h | h
  · exact key _ h
  · exact key _ h
theorem blkOf_below {w w' : World} {b k : Nat} (hl : b < w.heap.size) (hb : Below w.heap.size w w') (h : BlkOf w' b k) : BlkOf w b k := by
  rcases h with h | ⟨v, hv, ho⟩
  · exact .inl h
  · exact .inr ⟨v, by rw [← hb.cell (p := ⟨b, 1, none⟩) hl]; exact hv, ho⟩
end Go.Proofs.Ytenbdjlhcadhaaa
