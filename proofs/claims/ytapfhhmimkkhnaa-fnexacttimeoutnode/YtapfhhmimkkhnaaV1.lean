/-
  spec.l2Var, spec.VarBytes, impl.VarBytes: a number's bytes.
-/
import Derived.Test.YtapfhhmimkkhnaaProg
import Derived.Test.YtapfhhmimkkhnaaA
import Derived.Test.YtapfhhmimkkhnaaC
import Derived.WalkLawsBesides
import Derived.OwnWalk
import Derived.WalkMore
import Derived.Test.YtapfhhmimkkhnaaL
import Derived.Laws.IdiomStrings
import Derived.Laws.Concat
namespace Go.Proofs.Ytapfhhmimkkhnaa
open Go.RowKit
set_option maxRecDepth 100000
set_option linter.unusedVariables false

theorem Try.info5 : (Try.prog.info? 5).map (fun i => (i.zero, i.size, i.bytes)) = some (some (.int .u8 0), 1, 1) := by kernel_rfl
theorem owns_ge {w : World} {base : Nat} {e : TypeId} {size : Nat} {v : Value} {n : Nat} {xs : List Value} (h : w.ownsRow base e size v n xs) : ∀ g, v.ownBlock = some g → base ≤ g := by
  intro g hg
  rcases h.2 with ⟨rfl, _⟩ | ⟨g', cap, cur, rfl, hb, _⟩
  · simp [Value.ownBlock] at hg
  · simp only [Value.ownBlock, Option.some.injEq] at hg
    omega
/-- A text out of bytes that the call made. -/
theorem conv_back {w : World} {base cap : Nat} {g : Nat} {l : List UInt8} (h : w.ownsRow base 5 1 (.slice (some ⟨g, 0, none⟩) l.length cap) l.length (bcs l)) :
    (convert 22 9 (.slice (some ⟨g, 0, none⟩) l.length cap)).run Try.prog w = .ok (.string ⟨l.toArray⟩) w := by
  have := run_convert_bytes_back (P := Try.prog) w 22 9 5 ⟨g, 0, none⟩ cap l Try.underlying22 Try.underlying5 Try.underlying9 (by
    intro j hj
    rw [show (⟨g, 0, none⟩ : Addr).add j = ⟨g, j, none⟩ from by simp [Addr.add]; omega, h.cellAt j (by omega)]
    simp [bcs, hj])
  simpa using this

theorem owns_some {w : World} {base : Nat} {e : TypeId} {size : Nat} {v : Value} {n : Nat} {xs : List Value} (h : w.ownsRow base e size v (n + 1) xs) : ∃ g cap, v = .slice (some ⟨g, 0, none⟩) (n + 1) cap := by
  rcases h.2 with ⟨_, h0⟩ | ⟨g, cap, cur, rfl, _⟩
  · omega
  · exact ⟨g, cap, rfl⟩
theorem conv_back' {w : World} {base cap : Nat} {g n : Nat} {l : List UInt8} {c : UInt8} (h : w.ownsRow base 5 1 (.slice (some ⟨g, 0, none⟩) (n + 1) cap) (l.length + 1) (bcs l ++ [.int .u8 (c.toNat : Int)])) :
    (convert 22 9 (.slice (some ⟨g, 0, none⟩) (n + 1) cap)).run Try.prog w = .ok (.string ⟨(l ++ [c]).toArray⟩) w := by
  obtain rfl : n = l.length := by
    rcases h.2 with ⟨h, _⟩ | ⟨g', c', cur, h, _⟩
    · simp at h
    · simp only [Value.slice.injEq] at h; omega
  have h2 : w.ownsRow base 5 1 (.slice (some ⟨g, 0, none⟩) (l ++ [c]).length cap) (l ++ [c]).length (bcs (l ++ [c])) := by
    rw [List.length_append, bcs_append]; exact h
  have := conv_back h2
  rw [List.length_append] at this
  exact this

/-- What VarBytes answers. -/
def varT (k : Int) : ByteArray := if 0 ≤ k then ⟨(varL k.toNat).toArray⟩ else ⟨#[]⟩
theorem varT_nat (n : Nat) : varT (n : Int) = ⟨(varL n).toArray⟩ := by simp [varT]
theorem varT_neg (k : Int) (h : k < 0) : varT k = ⟨#[]⟩ := by simp [varT]; omega

end Go.Proofs.Ytapfhhmimkkhnaa
