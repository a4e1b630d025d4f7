/-
  The items of a level: plainly, and spec.l4List.
-/
import Derived.Test.YtdaldkcildbcmaaDoorG5ToG6
import Derived.Test.YtdaldkcildbcmaaDoorT2
import Derived.Test.YtdaldkcildbcmaaDoorG2ToG4
import Derived.Test.YtdaldkcildbcmaaDoorH1
namespace Go.Proofs.YtdaldkcildbcmaaDoor
open Go.RowKit
set_option linter.unusedVariables false
set_option maxRecDepth 100000

def itOf (t : Tw) : It := ⟨t.key, t.seq, t.kind, t.val⟩
def lsL (ts : List Tw) (l : List Int) : List It := l.map fun x => itOf (tw ts x)
theorem lsL_len (ts : List Tw) (l : List Int) : (lsL ts l).length = l.length := by simp [lsL]
theorem lev_cases {ts : List Tw} {lv f : Nat} {a x : Int} {l : List Int} (h : lev ts lv f a x = some l) : (x = -1 ∧ l = []) ∨ ∃ f' l', f = f' + 1 ∧ l = x :: l' ∧ okAt ts lv x ∧ lev ts lv f' x (nx ts x lv) = some l' := by
  cases f with
  | zero => cases h
  | succ f =>
    rw [lev] at h
    by_cases h1 : x = -1
    · rw [if_pos h1] at h
      exact .inl ⟨h1, by simpa using h.symm⟩
    · rw [if_neg h1] at h
      by_cases h2 : mayB ts lv a x = true
      · rw [if_pos h2] at h
        obtain ⟨l', h3, h4⟩ := Option.map_eq_some_iff.1 h
        exact .inr ⟨f, l', rfl, h4.symm, ((mayB_iff ts lv a x).1 h2).1, h3⟩
      · rw [if_neg h2] at h
        cases h
theorem lev_len {ts : List Tw} {lv : Nat} : ∀ {f : Nat} {a x : Int} {l : List Int}, lev ts lv f a x = some l → l.length + 1 ≤ f
  | 0, a, x, l, h => by cases h
  | f + 1, a, x, l, h => by
    rcases lev_cases h with ⟨_, rfl⟩ | ⟨f', l', hf, rfl, _, h2⟩
    · simp
    · obtain rfl : f = f' := by omega
      have := lev_len h2
      simp only [List.length_cons]; omega
def sliceLen : Value → Nat
  | .slice _ n _ => n
  | _ => 0
theorem owns_lower {w : World} {base base' : Nat} {e : TypeId} {size : Nat} {v : Value} {n : Nat} {xs : List Value} (h : w.ownsRow base e size v n xs) (hb : base' ≤ base) : w.ownsRow base' e size v n xs := by
  refine ⟨h.1, ?_⟩
  rcases h.2 with h1 | ⟨g, c, cur, h1, h2, h3⟩
  · exact .inl h1
  · exact .inr ⟨g, c, cur, h1, by omega, h3⟩
theorem owns_below_lt {w : World} {base : Nat} {e : TypeId} {size : Nat} {v : Value} {n : Nat} {xs : List Value} (h : w.ownsRow base e size v n xs) : ∀ b, v.ownBlock = some b → b < w.heap.size := by
  intro b hb
  rcases h.2 with ⟨rfl, _⟩ | ⟨g', cap, cur, rfl, _, hh, _⟩
  · simp [Value.ownBlock] at hb
  · simp only [Value.ownBlock, Option.some.injEq] at hb
    subst hb
    exact (Array.getElem?_eq_some_iff.1 hh).1
theorem cells_new4 (W : World) (x : It) : ∀ j u, (flat4 [x])[j]? = some u → (W.alloc (.cells #[.string x.k, .int .i64 x.n, .int .i64 x.d, .string x.v] 28)).cell? ((⟨W.heap.size, 0, none⟩ : Addr).add j) = some u := by
  intro j u hj
  have hb := Box.new W #[.string x.k, .int .i64 x.n, .int .i64 x.d, .string x.v] 28
  rw [show (⟨W.heap.size, 0, none⟩ : Addr).add j = ⟨W.heap.size, j, none⟩ from by simp [Addr.add]; omega]
  exact hb.2.1 j u hj
theorem one4 (x : It) : ∀ u ∈ flat4 [x], u.oneCell' = true := by
  intro u hu
  simp only [flat4, List.mem_cons, List.not_mem_nil, or_false] at hu
  rcases hu with rfl | rfl | rfl | rfl <;> rfl

end Go.Proofs.YtdaldkcildbcmaaDoor
