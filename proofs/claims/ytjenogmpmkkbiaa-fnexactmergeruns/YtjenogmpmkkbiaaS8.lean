/-
  Which item is seen: impl's seen, spec's l8Seen.
-/
import Derived.Test.YtjenogmpmkkbiaaM8
namespace Go.Proofs.Ytjenogmpmkkbiaa
open Go.RowKit
set_option linter.unusedVariables false
set_option maxRecDepth 100000

theorem keyEq (a b : ByteArray) : (a.toList == b.toList) = decide (a = b) := by
  by_cases h : a = b
  · rw [h, decide_eq_true rfl]; simp
  · rw [decide_eq_false h, Bool.eq_false_iff]; intro e; exact h (tl_inj (eq_of_beq e))

set_option maxHeartbeats 2000000 in
theorem seen_any (v : Value) (l : List It) (i : Nat) (q : Int) (w : World) (hv : IR w v l) (hn : l.length ≤ 1048576) (hi : i < l.length) :
    Calls Try.prog 51 #[.agg #[v], .int .i64 i, .int .i64 q] w fun e w' => e = .returned (.bool (seenB l q i)) ∧ Below w.heap.size w w' := by
  obtain ⟨a, cap, rfl, hc⟩ := hv
  obtain ⟨b, off, rfl, hbl, hcell⟩ := hc (by intro e; simp [e] at hi)
  have c1 := (hcell i hi).2.1
  have c0 := (hcell i hi).1
  have HS : Hid (seenB l q i = (decide (l[i].n ≤ q) && (i == 0 || !decide ((l.getD (i - 1) default).k = l[i].k) || decide (q < (l.getD (i - 1) default).n)))) := by show _ = _; unfold seenB; rw [getD_at l i hi]
  by_cases hq : q < l[i].n
  · have HS2 : Hid (seenB l q i = false) := by show _ = _; rw [HS.out, decide_eq_false (by omega)]; rfl
    clear hcell hc HS
    generalize l[i] = s at *
    obtain ⟨sk, sn, sd, sv⟩ := s
    dsimp only at *
    go_enter Try.func51, Try.ntmps51
    go_wp2
    go_ret
    exact ⟨by rw [HS2.out]; rfl, below_alloc _ _⟩
  · have hdq : decide (l[i].n ≤ q) = true := decide_eq_true (by omega)
    cases i with
    | zero =>
      have HS2 : Hid (seenB l q 0 = true) := by show _ = _; rw [HS.out, hdq]; rfl
      rw [show off + 0 * 4 = off from by omega] at c0 c1
      clear hcell hc HS hdq
      generalize l[0] = s at *
      obtain ⟨sk, sn, sd, sv⟩ := s
      dsimp only at *
      go_enter Try.func51, Try.ntmps51
      go_wp2_with fail
      go_quiet (fail)
      go_wp2
      go_ret
      exact ⟨by rw [HS2.out]; rfl, below_drewN (below_alloc _ _) _⟩
    | succ j =>
      have hj : j < l.length := by omega
      have d0 := (hcell j hj).1
      have d1 := (hcell j hj).2.1
      have HS1 : Hid (seenB l q (j + 1) = (!decide (l[j].k = l[j+1].k) || decide (q < l[j].n))) := by show _ = _; rw [HS.out, hdq, show j + 1 - 1 = j from rfl, getD_at l j hj]; rfl
      have hk := keyEq l[j].k l[j+1].k
      clear hcell hc HS hdq
      generalize l[j+1] = s at *
      obtain ⟨k, hkE⟩ : ∃ k, k = j + 1 := ⟨_, rfl⟩
      rw [← hkE] at c0 c1 HS1 hi ⊢
      have k1 : ((k : Int) == 0) = false := by simp; omega
      have k2 : decide ((k : Int) = 0) = false := decide_eq_false (by omega)
      have k3 : (k : Int) - 1 = (j : Int) := by omega
      have k4 : IntKind.i64.wrap ((k : Int) - 1) = (j : Int) := by rw [k3, IntKind.wrap_i64]; omega
      have k5 : IntKind.i64.wrap (j : Int) = (j : Int) := by rw [IntKind.wrap_i64]; omega
      generalize l[j] = t at *
      obtain ⟨sk, sn, sd, sv⟩ := s
      obtain ⟨tk, tn, td, tv⟩ := t
      dsimp only at *
      by_cases he : tk = sk
      · subst he
        have HS2 : Hid (seenB l q k = decide (q < tn)) := by show _ = _; rw [HS1.out]; simp
        clear HS1 hk hkE
        go_enter Try.func51, Try.ntmps51
        go_wp2_with fail
        go_quiet (fail)
        go_wp2
        go_ret
        exact ⟨by rw [HS2.out]; rfl, below_drewN (below_alloc _ _) _⟩
      · have HS2 : Hid (seenB l q k = true) := by show _ = _; rw [HS1.out, decide_eq_false he]; rfl
        rw [decide_eq_false he] at hk
        clear HS1 he hkE
        go_enter Try.func51, Try.ntmps51
        go_wp2_with fail
        go_quiet (fail)
        go_wp2
        go_ret
        exact ⟨by rw [HS2.out]; rfl, below_drewN (below_alloc _ _) _⟩
end Go.Proofs.Ytjenogmpmkkbiaa
