/-
  CommittedIn: both sides.
-/
import Derived.Test.YtapfhhmimkkhnaaC1
namespace Go.Proofs.Ytapfhhmimkkhnaa
open Go.RowKit Go.Maps
set_option linter.unusedVariables false
set_option maxRecDepth 100000

def commN (g : Bool) (co : Int) (log : List En) : List En := if g then log.take co.toNat else []
theorem commN_le (g : Bool) (co : Int) (log : List En) : (commN g co log).length ≤ log.length := by
  unfold commN
  cases g
  · simp
  · rw [if_pos rfl, List.length_take]; omega
theorem owns_cap {w : World} {base : Nat} {e : TypeId} {size n m c : Nat} {a : Option Addr} {xs : List Value} (h : w.ownsRow base e size (.slice a m c) n xs) : n ≤ c ∧ m = n := by
  rcases h.2 with ⟨h1, h0⟩ | ⟨g, cap, cur, h1, _, _, hcap, _⟩
  · simp at h1; omega
  · simp at h1; omega
theorem goodN_co {id pe te vo co ro : Int} {log : List En} {vs mt : List Int} (h : goodN id pe te vo co ro log vs mt = true) : 0 ≤ co ∧ co ≤ (log.length : Int) := by
  rw [goodN_spec] at h
  simp [inB] at h
  omega
theorem Nn.sl {a : Option Addr} {n c m : Nat} (h : Nn (.slice a n c)) (hm : m ≤ c) : Nn (.slice a m c) := by
  intro x y he
  simp only [Value.slice.injEq] at he
  obtain ⟨rfl, rfl, rfl⟩ := he
  have := (h _ _ rfl).2
  omega
end Go.Proofs.Ytapfhhmimkkhnaa
