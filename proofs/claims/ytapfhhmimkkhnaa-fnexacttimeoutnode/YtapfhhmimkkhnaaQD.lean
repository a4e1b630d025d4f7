/-
  Nothing is committed where no entry is of the new Term; an asker has no Match.
-/
import Derived.Test.YtapfhhmimkkhnaaQC
namespace Go.Proofs.Ytapfhhmimkkhnaa
open Go.RowKit Go.Maps
set_option linter.unusedVariables false

theorem gE_le (T : Int) (l : List En) : ∀ a, gE T a l = true → ∀ k (h : k < l.length), l[k].t ≤ T := by
  induction l with
  | nil => intro a _ k h; simp at h
  | cons e r ih =>
    intro a hg k h
    simp only [gE, Bool.and_eq_true, decide_eq_true_eq] at hg
    cases k with
    | zero => exact hg.1.2
    | succ k => exact ih _ hg.2 k (by simpa using h)
theorem comTo_none (te pe co : Int) (log : List En) (mt : List Int) (hn : ∀ k (h : k < log.length), log[k].t ≠ te) : ∀ k, k ≤ log.length → comTo te pe co log mt k = co := by
  intro k
  induction k with
  | zero => intro _; rfl
  | succ k ih =>
    intro hk
    have h1 := hn k (by omega)
    have h2 : log.getD k En.zero = log[k] := by simp [List.getD, show k < log.length from by omega]
    unfold comTo
    have h3 : ¬ (log[k].t = te ∧ pe < 2 * (cI ((k + 1 : Nat) : Int) mt : Int)) := fun h => h1 h.1
    rw [h2]
    simp only [h3, if_false, ih (by omega), ite_self]
theorem goodN_gE {id pe te vo co ro : Int} {log : List En} {vs mt : List Int} (h : goodN id pe te vo co ro log vs mt = true) : ∀ k (h : k < log.length), log[k].t ≤ te := by
  rw [goodN_spec] at h
  simp only [Bool.and_eq_true] at h
  exact gE_le te log 0 h.2.2.2.2.1.1
theorem goodN_newCom {id pe te vo co ro : Int} {log : List En} {vs mt : List Int} (h : goodN id pe te vo co ro log vs mt = true) (p : Int) (m : List Int) : comTo (te + 1) p co log m log.length = co :=
  comTo_none _ _ _ _ _ (fun k hk => by have := goodN_gE h k hk; omega) _ (Nat.le_refl _)
theorem goodN_mt0 {id pe te vo co ro : Int} {log : List En} {vs mt : List Int} (h : goodN id pe te vo co ro log vs mt = true) (h2 : ¬ ro = 2) : mt = [] := by
  rw [goodN_spec] at h
  simp only [Bool.and_eq_true] at h
  have h' := h.2.2.2.2.2.2.2
  unfold goodRo at h'
  simp [h2] at h'
  rcases h' with h' | h'
  · exact h'.2.2
  · exact h'.2.2
end Go.Proofs.Ytapfhhmimkkhnaa
