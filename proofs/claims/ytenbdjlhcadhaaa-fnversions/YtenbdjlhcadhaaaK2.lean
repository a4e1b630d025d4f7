/-
  NewSkip: both; slices of numbers: eqIntS, markIntS, heldIntS; the helpers of a list without towers.
-/
import Derived.Test.YtenbdjlhcadhaaaV1
import Derived.Test.YtenbdjlhcadhaaaCToL
import Derived.Test.YtenbdjlhcadhaaaE
namespace Go.Proofs.Ytenbdjlhcadhaaa
open Go.RowKit
set_option linter.unusedVariables false
set_option maxRecDepth 100000

theorem Box.under {w w' : World} {b B : Nat} {vs : List Value} (h : Box w b vs) (hb : Below B w w') (hB : b < B) : Box w' b vs :=
  ⟨Nat.lt_of_lt_of_le h.1 hb.size, fun j v hv => (hb.cell (p := ⟨b, j, none⟩) hB).trans (h.2.1 j v hv), fun j => (hb.frozen (p := ⟨b, j, none⟩) hB).trans (h.2.2 j)⟩

/-- The value v is a slice of the numbers zs. -/
def IL (w : World) (v : Value) (zs : List Int) : Prop :=
  ∃ a cap, v = .slice a zs.length cap ∧ (zs ≠ [] → ∃ b off, a = some ⟨b, off, none⟩ ∧ b < w.heap.size ∧ ∀ i (h : i < zs.length), w.cell? ⟨b, off + i, none⟩ = some (.int .i64 zs[i]))
theorem IL.below {w w' : World} {v : Value} {zs : List Int} (h : IL w v zs) (hb : Below w.heap.size w w') : IL w' v zs := by
  obtain ⟨a, cap, hv, hc⟩ := h
  refine ⟨a, cap, hv, fun hl => ?_⟩
  obtain ⟨b, off, ha, hbl, hcell⟩ := hc hl
  exact ⟨b, off, ha, Nat.lt_of_lt_of_le hbl hb.size, fun i hi => (hb.cell (p := ⟨b, off + i, none⟩) hbl).trans (hcell i hi)⟩
theorem IL_of_box {w : World} {g cap : Nat} {zs : List Int} (h : Box w g (zs.map (.int .i64))) : IL w (.slice (some ⟨g, 0, none⟩) zs.length cap) zs :=
  ⟨_, _, rfl, fun _ => ⟨g, 0, rfl, h.1, fun i hi => h.2.1 _ _ (by simp [hi])⟩⟩
theorem IL_of_owns {w : World} {base n : Nat} {v : Value} {zs : List Int} (h : w.ownsRow base 3 1 v n (zs.map (.int .i64))) (hn : n = zs.length) : IL w v zs := by
  have h' := h
  obtain ⟨hl, h⟩ := h
  rcases h with ⟨rfl, h0⟩ | ⟨g, cap, cur, rfl, hbg, hh, hcap, hm, hsz, htk⟩
  · refine ⟨none, 0, by rw [← hn, h0], fun hne => absurd (List.length_eq_zero_iff.1 (by omega)) hne⟩
  · refine ⟨_, cap, by rw [hn], fun _ => ⟨g, 0, rfl, (Array.getElem?_eq_some_iff.1 hh).1, fun i hi => ?_⟩⟩
    rw [Nat.zero_add, h'.cellAt i (by omega)]; simp [hi]

/-- Marks from k on. -/
def mkI (k : Int) (n : Nat) : List Value := (List.range n).map fun i : Nat => .int .i64 (k + (i : Int))
theorem mkI_length (k : Int) (n : Nat) : (mkI k n).length = n := by simp [mkI]
theorem mkI_at (k : Int) (n i : Nat) (h : i < n) : (mkI k n)[i]? = some (.int .i64 (k + (i : Int))) := by simp [mkI, h]
def mkJ (l : List Value) (k : Int) (j : Nat) : List Value := (mkI k l.length).take j ++ l.drop j
theorem mkJ_length (l : List Value) (k : Int) (j : Nat) (h : j ≤ l.length) : (mkJ l k j).length = l.length := by
  unfold mkJ
  rw [List.length_append, List.length_take, List.length_drop, mkI_length]; omega
theorem mkJ_set (l : List Value) (k : Int) (j : Nat) (h : j < l.length) : (mkJ l k j).set j (.int .i64 (k + (j : Int))) = mkJ l k (j + 1) := by
  unfold mkJ
  have h1 : ((mkI k l.length).take j).length = j := by rw [List.length_take, mkI_length]; omega
  have h2 : (mkI k l.length)[j]'(by rw [mkI_length]; exact h) = .int .i64 (k + (j : Int)) := by simp [mkI]
  rw [List.set_append_right _ _ (by omega), h1, Nat.sub_self, List.take_succ_eq_append_getElem (by rw [mkI_length]; exact h), h2, List.drop_eq_getElem_cons h, List.set_cons_zero, List.append_assoc]
  rfl
theorem mkJ_all (l : List Value) (k : Int) : mkJ l k l.length = mkI k l.length := by
  unfold mkJ
  rw [List.take_of_length_le (by rw [mkI_length]; omega), List.drop_eq_nil_of_le (by omega), List.append_nil]

end Go.Proofs.Ytenbdjlhcadhaaa
