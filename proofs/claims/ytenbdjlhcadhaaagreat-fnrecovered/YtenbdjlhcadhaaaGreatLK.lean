/-
  What is lacking: fileSet.lacking, l9Has.
-/
import Derived.Test.YtenbdjlhcadhaaaGreatY9
namespace Go.Proofs.YtenbdjlhcadhaaaGreat
open Go.RowKit Go.Maps
set_option linter.unusedVariables false
set_option maxRecDepth 100000

theorem any_take_succ' (f : Mt → Bool) (l : List Mt) (k : Nat) (h : k < l.length) : (l.take (k + 1)).any f = ((l.take k).any f || f l[k]) := by
  rw [List.take_succ_eq_append_getElem h, List.any_append]; simp
theorem apart_eq {l : List Mt} (h : l.Pairwise fun a b => a.n ≠ b.n) {a b : Mt} (ha : a ∈ l) (hb : b ∈ l) (hn : a.n = b.n) : a = b := by
  obtain ⟨i, hi, rfl⟩ := List.getElem_of_mem ha
  obtain ⟨j, hj, rfl⟩ := List.getElem_of_mem hb
  rw [List.pairwise_iff_getElem] at h
  rcases Nat.lt_trichotomy i j with hij | hij | hij
  · exact absurd hn (h i j hi hj hij)
  · subst hij; rfl
  · exact absurd hn.symm (h j i hj hi hij)
theorem lk_eq {D : DataW Unit} {la : List Mt} (h : Means D la) {s m : Mt} (hs : 1 ≤ s.n) (hm : D.atKey (keyN s.n) (mtD Mt.zero) = mtD m) : eqM m s = hasM la s := by
  obtain ⟨h1, h2, h3, h4⟩ := h
  by_cases he : ∃ a ∈ la, a.n = s.n
  · obtain ⟨a, ha, hn⟩ := he
    have e := h4 a ha (mtD Mt.zero)
    rw [hn] at e
    have : a = m := mtD_inj (e.symm.trans hm)
    subst this
    rw [Bool.eq_iff_iff, eqM_iff, hasM_iff]
    exact ⟨fun e => e ▸ ha, fun hs => apart_eq h2 ha hs hn⟩
  · have hh : Maps.has D (keyN s.n) = false := by
      rw [h3, List.any_eq_false]
      intro x hx
      simp only [beq_iff_eq]
      exact fun e => he ⟨x, hx, e⟩
    rw [atKey_of_not_has hh] at hm
    have : Mt.zero = m := mtD_inj hm
    subst this
    have e1 : eqM Mt.zero s = false := by
      rw [← Bool.not_eq_true, eqM_iff]
      rintro rfl
      simp [Mt.zero] at hs
    have e2 : hasM la s = false := by
      rw [← Bool.not_eq_true, hasM_iff]
      exact fun hx => he ⟨s, hx, rfl⟩
    rw [e1, e2]
/-- Those of the first k that are not in la just so. -/
def lkL (la l : List Mt) (k : Nat) : List Mt := (l.take k).filter fun m => !hasM la m
theorem lkL_zero (la l : List Mt) : lkL la l 0 = [] := rfl
theorem lkL_yes (la l : List Mt) (k : Nat) (h : k < l.length) (hy : hasM la l[k] = false) : lkL la l (k + 1) = lkL la l k ++ [l[k]] := by
  unfold lkL; rw [List.take_succ_eq_append_getElem h, List.filter_append]; simp [hy]
theorem lkL_no (la l : List Mt) (k : Nat) (h : k < l.length) (hy : hasM la l[k] = true) : lkL la l (k + 1) = lkL la l k := by
  unfold lkL; rw [List.take_succ_eq_append_getElem h, List.filter_append]; simp [hy]
theorem lkL_len (la l : List Mt) (k : Nat) : (lkL la l k).length ≤ k := by
  unfold lkL
  exact Nat.le_trans (List.length_filter_le _ _) (by simp; omega)
theorem four_new (W : World) (n d : Int) (k v : ByteArray) : ∀ j u, [Value.int .i64 n, .int .i64 d, .string k, .string v][j]? = some u → (W.alloc (.cells #[.int .i64 n, .int .i64 d, .string k, .string v] 71)).cell? ((⟨W.heap.size, 0, none⟩ : Addr).add j) = some u := by
  intro j u hj
  have hb := Box.new W #[.int .i64 n, .int .i64 d, .string k, .string v] 71
  rw [show (⟨W.heap.size, 0, none⟩ : Addr).add j = ⟨W.heap.size, j, none⟩ from by simp [Addr.add]; omega]
  exact hb.2.1 j u hj
theorem flat4_one (s : Mt) : flat4 [s] = [.int .i64 s.n, .int .i64 s.d, .string s.k, .string s.v] := rfl
theorem flat4_ones (n d : Int) (k v : ByteArray) : ∀ u ∈ [Value.int .i64 n, .int .i64 d, .string k, .string v], u.oneCell' = true := by
  intro u hu
  simp only [List.mem_cons, List.not_mem_nil, or_false] at hu
  rcases hu with rfl | rfl | rfl | rfl <;> rfl

end Go.Proofs.YtenbdjlhcadhaaaGreat
