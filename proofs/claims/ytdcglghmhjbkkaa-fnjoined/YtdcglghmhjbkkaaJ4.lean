/-
  Filters, plainly: joined in any order; a filter of two has what either has.
-/
import Derived.Test.YtdcglghmhjbkkaaJ2
import Derived.Test.YtdcglghmhjbkkaaM2
namespace Go.Proofs.Ytdcglghmhjbkkaa
set_option linter.unusedVariables false

theorem orK_get (l r : List UInt8) (k j : Nat) (h : j < l.length) : (orK l r k).getD j 0 = if j < k then l.getD j 0 ||| r.getD j 0 else l.getD j 0 := by
  induction k with
  | zero => simp [orK]
  | succ k ih =>
    have hlk := orK_length l r k
    simp only [orK, List.getD_eq_getElem?_getD] at *
    by_cases hjk : j = k
    · subst hjk
      rw [List.getElem?_set_self (by omega), if_pos (by omega)]; rfl
    · rw [List.getElem?_set_ne (by omega), ih]
      by_cases h2 : j < k
      · rw [if_pos h2, if_pos (by omega)]
      · rw [if_neg h2, if_neg (by omega)]
theorem orK_swap (l r : List UInt8) (hl : l.length = 32) (hr : r.length = 32) : orK l r 32 = orK r l 32 := by
  apply List.ext_getElem
  · rw [orK_length, orK_length, hl, hr]
  · intro j h1 h2
    have hj : j < 32 := by rw [orK_length, hl] at h1; exact h1
    have e1 := orK_get l r 32 j (by omega)
    have e2 := orK_get r l 32 j (by omega)
    rw [if_pos hj] at e1 e2
    rw [UInt8.or_comm] at e2
    rw [← e2] at e1
    simpa [h1, h2] using e1
theorem joinB_swap (s s2 : ByteArray) (hl : s.size = 32) (hr : s2.size = 32) : joinB s s2 = joinB s2 s := by
  unfold joinB
  rw [orK_swap _ _ (by simpa using hl) (by simpa using hr)]
theorem joinF_swap (n : Int) (s : ByteArray) (m : Int) (n2 : Int) (s2 : ByteArray) (m2 : Int) : joinF n2 s2 m2 n s m = joinF n s m n2 s2 m2 := by
  unfold joinF
  cases hg : goodF n s m && goodF n2 s2 m2 && decide (n = n2) with
  | true =>
    rw [Bool.and_eq_true, Bool.and_eq_true, decide_eq_true_eq] at hg
    obtain ⟨⟨h1, h2⟩, rfl⟩ := hg
    rw [h1, h2, joinB_swap s2 s (goodF_parts h2).2.1 (goodF_parts h1).2.1, Int.add_comm m2 m]
    simp
  | false =>
    have : (goodF n2 s2 m2 && goodF n s m && decide (n2 = n)) = false := by
      rw [← hg, Bool.and_comm (goodF n2 s2 m2)]
      congr 1
      rw [Bool.eq_iff_iff]; simp; exact ⟨Eq.symm, Eq.symm⟩
    rw [this]; simp
theorem or_has (c d : UInt8) (i : Nat) (h : c.toNat / 2 ^ i % 2 = 1) : (c ||| d).toNat / 2 ^ i % 2 = 1 := by
  have hb := bit_of c i
  rw [decide_eq_true h] at hb
  have hb2 := bit_of (c ||| d) i
  rw [or_u8, Nat.testBit_or, ← hb, Bool.true_or] at hb2
  rw [or_u8]
  exact of_decide_eq_true hb2
theorem hasB_join (l r : List UInt8) (p : Nat) (hl : l.length = 32) (hp : p < 256) (h : hasB l p = true) : hasB (orK l r 32) p = true := by
  unfold hasB at *
  rw [decide_eq_true_eq] at *
  rw [orK_get l r 32 (p / 8) (by omega), if_pos (by omega)]
  exact or_has _ _ _ h
theorem hasBs_join (l r : List UInt8) (ps : List Nat) (hl : l.length = 32) (hp : ∀ p ∈ ps, p < 256) (h : hasBs l ps = true) : hasBs (orK l r 32) ps = true := by
  unfold hasBs at *
  rw [List.all_eq_true] at *
  exact fun p hq => hasB_join l r p hl (hp p hq) (h p hq)
theorem good_join {n : Int} {s : ByteArray} {m : Int} {s2 : ByteArray} {m2 : Int} (h : goodF n s m = true) (h2 : goodF n s2 m2 = true) : goodF n (joinB s s2) (cap6 (m + m2)) = true := by
  obtain ⟨h1, h3, h4, h5⟩ := goodF_parts h
  obtain ⟨_, _, h6, h7⟩ := goodF_parts h2
  have hz : (joinB s s2).size = 32 := by
    show (orK s.data.toList s2.data.toList 32).toArray.size = 32
    rw [List.size_toArray, orK_length]; simpa using h3
  unfold goodF
  rw [h1, hz]
  unfold cap6
  split <;> simp <;> omega
theorem joinB_list (s s2 : ByteArray) : (joinB s s2).data.toList = orK s.data.toList s2.data.toList 32 := by
  unfold joinB
  generalize orK s.data.toList s2.data.toList 32 = q
  simp
/-- What the law asks of a filter of two. -/
theorem may_join {n : Int} {s : ByteArray} {m : Int} {s2 : ByteArray} {m2 : Int} (h : goodF n s m = true) (h2 : goodF n s2 m2 = true) (k : ByteArray) :
    (mayF n s m k).2 = (mayF n (joinB s s2) (cap6 (m + m2)) k).2 ∧ ((mayF n s m k).2 = true → (mayF n (joinB s s2) (cap6 (m + m2)) k).1 = false → (mayF n s m k).1 = false ∧ (mayF n s2 m2 k).1 = false) := by
  have hl : s.data.toList.length = 32 := by simpa using (goodF_parts h).2.1
  have hl2 : s2.data.toList.length = 32 := by simpa using (goodF_parts h2).2.1
  have e1 : mayF n s m k = if goodK k then (hasBs s.data.toList (plK k n.toNat), true) else (false, false) := by unfold mayF; rw [h, Bool.and_true]
  have e2 : mayF n s2 m2 k = if goodK k then (hasBs s2.data.toList (plK k n.toNat), true) else (false, false) := by unfold mayF; rw [h2, Bool.and_true]
  have e3 : mayF n (joinB s s2) (cap6 (m + m2)) k = if goodK k then (hasBs (orK s.data.toList s2.data.toList 32) (plK k n.toNat), true) else (false, false) := by unfold mayF; rw [good_join h h2, Bool.and_true, joinB_list]
  rw [e1, e2, e3]
  clear e1 e2 e3
  have hp := plK_lt k n.toNat
  generalize plK k n.toNat = ps at *
  have a1 := hasBs_join s.data.toList s2.data.toList ps hl hp
  have a2 := hasBs_join s2.data.toList s.data.toList ps hl2 hp
  rw [← orK_swap _ _ hl hl2] at a2
  generalize hasBs (orK s.data.toList s2.data.toList 32) ps = x at *
  generalize hasBs s.data.toList ps = y at *
  generalize hasBs s2.data.toList ps = z at *
  clear hl hl2 h h2
  cases goodK k <;> cases x <;> cases y <;> cases z <;> simp at *
end Go.Proofs.Ytdcglghmhjbkkaa
