/-
  spec.l1Do: what is looked up; steps that are bad.
-/
import Derived.Test.YtbgemebpfcbloaaZ3
namespace Go.Proofs.Ytbgemebpfcbloaa
open Go.RowKit Go.Maps
set_option linter.unusedVariables false
set_option maxRecDepth 100000

theorem tot_le (l : List (ByteArray × Int)) (M : Nat) (h : ∀ x ∈ l, x.1.size ≤ M) : tot l ≤ l.length * M := by
  induction l with
  | nil => simp [tot]
  | cons x r ih =>
    have h1 := h x (by simp)
    have h2 := ih fun y hy => h y (List.mem_cons_of_mem _ hy)
    simp only [tot, List.length_cons, Nat.add_mul, Nat.one_mul]; omega

theorem l1At_look (v : Value) (l : List (ByteArray × Int)) (nm : ByteArray) (w : World) (hv : PL w v l) (hn : l.length ≤ 1048576) (hr : Ris l) :
    Calls Try.prog 108 #[v, .string nm] w fun e w' => (∃ k : Nat, k ≤ l.length ∧ (∀ c, lkp nm none l = some c → ∃ hk : k < l.length, l[k].2 = c) ∧ e = .returned (.tuple #[.int .i64 k, .bool (lkp nm none l).isSome])) ∧ Below w.heap.size w w' := by
  refine (l1At_any v l nm w hv hn).mono ?_
  rintro e w' ⟨⟨k, hk, hb, ha, rfl⟩, hB⟩
  refine ⟨⟨k, hk, ?_, ?_⟩, hB⟩
  · intro c hc
    obtain ⟨i, hi, e⟩ := List.getElem_of_mem ((lkp_iff hr nm c).1 hc)
    have hik : i = k := by
      rcases Nat.lt_trichotomy i k with h1 | h1 | h1
      · have := hb i hi h1; rw [e, less_irrefl] at this; cases this
      · exact h1
      · have h2 := List.pairwise_iff_getElem.1 hr k i (by omega) hi h1
        have h3 := ha (by omega)
        rw [e] at h2; rw [h2] at h3; cases h3
    subst hik
    exact ⟨hi, by rw [e]⟩
  · have hb' : (decide (k < l.length) && (l.getD k default).1.toList == nm.toList) = (lkp nm none l).isSome := by
      cases hv : lkp nm none l with
      | some c =>
        obtain ⟨i, hi, e⟩ := List.getElem_of_mem ((lkp_iff hr nm c).1 hv)
        have hik : i = k := by
          rcases Nat.lt_trichotomy i k with h1 | h1 | h1
          · have := hb i hi h1; rw [e, less_irrefl] at this; cases this
          · exact h1
          · have h2 := List.pairwise_iff_getElem.1 hr k i (by omega) hi h1
            have h3 := ha (by omega)
            rw [e] at h2; rw [h2] at h3; cases h3
        subst hik
        rw [decide_eq_true hi, getD_lt _ _ hi, e]; simp
      | none =>
        by_cases hkl : k < l.length
        · have := (lkp_iff_none hr nm).1 hv l[k] (List.getElem_mem _)
          rw [decide_eq_true hkl, getD_lt _ _ hkl, Bool.true_and]
          simp only [Option.isSome_none, beq_eq_false_iff_ne]
          exact fun e => this (toList_inj e)
        · rw [decide_eq_false hkl]; rfl
    rw [hb']

end Go.Proofs.Ytbgemebpfcbloaa
