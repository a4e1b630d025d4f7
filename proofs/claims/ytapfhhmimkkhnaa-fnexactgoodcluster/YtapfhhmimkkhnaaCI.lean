/-
  What the laws of clusters lean on.
-/
import Derived.Test.YtapfhhmimkkhnaaCG
namespace Go.Proofs.Ytapfhhmimkkhnaa
open Go.RowKit
set_option linter.unusedVariables false
set_option maxRecDepth 100000

theorem cs_of_sum (N : List Nv) (M : List Mv) (L : List Ld) (h : sm tN N + N.length + sm tM M + M.length + L.length ≤ 1048576) : CS N M L := by
  refine ⟨by omega, by omega, by omega, fun i hi => ?_, fun i hi => ?_, fun i hi j hj => ?_, fun i hi j hj => ?_⟩
  · have := sm_mem tN N i hi; simp only [tN] at this; omega
  · have := sm_mem tM M i hi; simp only [tM] at this; omega
  · have := sm_mem tN N i hi; simp only [tN] at this; have := tot2_mem N[i].n.log j hj; omega
  · have := sm_mem tM M i hi; simp only [tM] at this; have := tot2_mem M[i].q.es j hj; omega
theorem map_at {α β : Type} {f : α → β} {l l' : List α} (h : l'.map f = l.map f) (i : Nat) (hi : i < l'.length) : ∃ hi2 : i < l.length, f l'[i] = f l[i] := by
  have hl : l'.length = l.length := by have := congrArg List.length h; simpa using this
  refine ⟨by omega, ?_⟩
  have := congrArg (fun t => t[i]?) h
  simpa [hi, show i < l.length from by omega] using this
theorem CS.same {N N' : List Nv} {M M' : List Mv} {L : List Ld} (h : CS N M L) (hn : N'.map Nv.n = N.map Nv.n) (hm : M'.map Mv.q = M.map Mv.q) : CS N' M' L := by
  have l1 : N'.length = N.length := by have := congrArg List.length hn; simpa using this
  have l2 : M'.length = M.length := by have := congrArg List.length hm; simpa using this
  refine ⟨by rw [l1]; exact h.n, by rw [l2]; exact h.m, h.l, fun i hi => ?_, fun i hi => ?_, fun i hi j hj => ?_, fun i hi j hj => ?_⟩
  · obtain ⟨h2, e⟩ := map_at hn i hi; rw [e]; exact h.ne i h2
  · obtain ⟨h2, e⟩ := map_at hm i hi; rw [e]; exact h.me i h2
  · obtain ⟨h2, e⟩ := map_at hn i hi; simp only [e] at hj ⊢; exact h.ns i h2 j hj
  · obtain ⟨h2, e⟩ := map_at hm i hi; simp only [e] at hj ⊢; exact h.ms i h2 j hj
theorem run_neq_bool_same (w : World) (b : Bool) : (binOp .neq 4 (.bool b) (.bool b)).run Try.prog w = .ok (.bool false) w := by
  cases b <;> kernel_rfl
end Go.Proofs.Ytapfhhmimkkhnaa
