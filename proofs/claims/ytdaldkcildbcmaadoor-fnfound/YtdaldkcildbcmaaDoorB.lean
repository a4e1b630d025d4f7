/-
  Plain facts on worlds and lists, no program: a slice of pairs (a text and a number), a struct's box, what a call that writes nothing old leaves.
-/
import Derived.WalkKit
import Derived.ProofKit
import Derived.Below
namespace Go.Proofs.YtdaldkcildbcmaaDoor
open Go.RowKit

theorem below_alloc (w : World) (o : Obj) : Below w.heap.size w (w.alloc o) := (Below.refl _ _).alloc (Nat.le_refl _) _

/-- The value v is a slice whose elements are the pairs l. -/
def PL (w : World) (v : Value) (l : List (ByteArray × Int)) : Prop :=
  ∃ a cap, v = .slice a l.length cap ∧ (l ≠ [] → ∃ b off, a = some ⟨b, off, none⟩ ∧ b < w.heap.size ∧
    ∀ i (h : i < l.length), w.cell? ⟨b, off + i * 2, none⟩ = some (.string l[i].1) ∧ w.cell? ⟨b, off + i * 2 + 1, none⟩ = some (.int .i64 l[i].2))

theorem PL.below {w w' : World} {v : Value} {l : List (ByteArray × Int)} (h : PL w v l) (hb : Below w.heap.size w w') : PL w' v l := by
  obtain ⟨a, cap, hv, hc⟩ := h
  refine ⟨a, cap, hv, fun hl => ?_⟩
  obtain ⟨b, off, ha, hbl, hcell⟩ := hc hl
  refine ⟨b, off, ha, Nat.lt_of_lt_of_le hbl hb.size, fun i hi => ?_⟩
  rw [hb.cell (p := ⟨b, off + i * 2, none⟩) hbl, hb.cell (p := ⟨b, off + i * 2 + 1, none⟩) hbl]
  exact hcell i hi

/-- The bytes and places of a list of pairs. -/
def tot : List (ByteArray × Int) → Nat
  | [] => 0
  | x :: r => x.1.size + tot r
/-- The cells of a list of pairs. -/
def flat : List (ByteArray × Int) → List Value
  | [] => []
  | x :: r => .string x.1 :: .int .i64 x.2 :: flat r
theorem owns_below {w w' : World} {base : Nat} {e : TypeId} {size : Nat} {v : Value} {n : Nat} {xs : List Value} (h : w.ownsRow base e size v n xs) (hb : Below w.heap.size w w') : w'.ownsRow base e size v n xs := by
  obtain ⟨hl, h⟩ := h
  refine ⟨hl, ?_⟩
  rcases h with h | ⟨g, cap, cur, hv, hbg, hh, h⟩
  · exact .inl h
  · refine .inr ⟨g, cap, cur, hv, hbg, ?_, h⟩
    rw [hb.block g (by have := (Array.getElem?_eq_some_iff.1 hh).1; exact this)]
    exact hh

/-- The first k of a list, and zero pairs for the rest. -/
def part (l : List (ByteArray × Int)) (k : Nat) : List (ByteArray × Int) := l.take k ++ List.replicate (l.length - k) (⟨#[]⟩, 0)
/-- Block b holds a struct's cells; they may be written. -/
def Box (w : World) (b : Nat) (vs : List Value) : Prop := b < w.heap.size ∧ (∀ j v, vs[j]? = some v → w.cell? ⟨b, j, none⟩ = some v) ∧ ∀ j, w.frozen? ⟨b, j, none⟩ = false
theorem Box.below {w w' : World} {b : Nat} {vs : List Value} (h : Box w b vs) (hb : Below w.heap.size w w') : Box w' b vs :=
  ⟨Nat.lt_of_lt_of_le h.1 hb.size, fun j v hv => (hb.cell (p := ⟨b, j, none⟩) h.1).trans (h.2.1 j v hv), fun j => (hb.frozen (p := ⟨b, j, none⟩) h.1).trans (h.2.2 j)⟩
theorem Box.alloc {w : World} {b : Nat} {vs : List Value} (h : Box w b vs) (o : Obj) : Box (w.alloc o) b vs := h.below (below_alloc _ _)
theorem Box.new (w : World) (cs : Array Value) (t : TypeId) : Box (w.alloc (.cells cs t)) w.heap.size cs.toList :=
  ⟨by simp, fun j v hv => by simpa using hv, fun j => by simp⟩
theorem Box.set {w : World} {b : Nat} {vs : List Value} (h : Box w b vs) (i : Nat) (u : Value) (hi : i < vs.length) : Box (w.setCell ⟨b, i, none⟩ u) b (vs.set i u) := by
  refine ⟨by simpa using h.1, fun j v hv => ?_, fun j => by simpa using h.2.2 j⟩
  by_cases hj : j = i
  · subst hj
    rw [List.getElem?_set_self hi] at hv
    have hc := h.2.1 j _ (List.getElem?_eq_getElem hi)
    rw [World.cell?_setCell_same _ _ _ hc]; exact hv
  · rw [List.getElem?_set_ne (by omega)] at hv
    rw [World.cell?_setCell_other _ _ _ _ (fun e => hj (congrArg Addr.off e).symm)]
    exact h.2.1 j v hv
theorem Box.setOther {w : World} {b : Nat} {vs : List Value} (h : Box w b vs) (a : Addr) (u : Value) (ha : a.block ≠ b) : Box (w.setCell a u) b vs := by
  refine ⟨by simpa using h.1, fun j v hv => ?_, fun j => by simpa using h.2.2 j⟩
  rw [World.cell?_setCell_other _ _ _ _ (by intro e; rw [e] at ha; simp at ha)]
  exact h.2.1 j v hv
theorem Box.c2 {w : World} {b : Nat} {v0 v1 : Value} (h : Box w b [v0, v1]) : b < w.heap.size ∧ w.cell? ⟨b, 0, none⟩ = some v0 ∧ w.cell? ⟨b, 1, none⟩ = some v1 :=
  ⟨h.1, h.2.1 0 _ rfl, h.2.1 1 _ rfl⟩
theorem Box.c4 {w : World} {b : Nat} {v0 v1 v2 v3 : Value} (h : Box w b [v0, v1, v2, v3]) : b < w.heap.size ∧ w.cell? ⟨b, 0, none⟩ = some v0 ∧ w.cell? ⟨b, 1, none⟩ = some v1 ∧ w.cell? ⟨b, 2, none⟩ = some v2 ∧ w.cell? ⟨b, 3, none⟩ = some v3 :=
  ⟨h.1, h.2.1 0 _ rfl, h.2.1 1 _ rfl, h.2.1 2 _ rfl, h.2.1 3 _ rfl⟩
theorem PL.alloc {w : World} {v : Value} {l : List (ByteArray × Int)} (h : PL w v l) (o : Obj) : PL (w.alloc o) v l := h.below (below_alloc _ _)
theorem below2 (w : World) (o p : Obj) : Below w.heap.size w ((w.alloc o).alloc p) := (below_alloc _ _).alloc (by simp) _
theorem below3 (w : World) (o p q : Obj) : Below w.heap.size w (((w.alloc o).alloc p).alloc q) := (below2 _ _ _).alloc (by simp; omega) _
/-- What is kept by a first call is kept by a second. -/
theorem below_then {a b c : World} (h : Below a.heap.size a b) (k : Below b.heap.size b c) : Below a.heap.size a c := h.trans (k.mono h.size)
theorem owns_lt {w : World} {base : Nat} {e : TypeId} {size g cap n : Nat} {xs : List Value} (h : w.ownsRow base e size (.slice (some ⟨g, 0, none⟩) n cap) n xs) : base ≤ g ∧ g < w.heap.size := by
  rcases h.2 with ⟨h, _⟩ | ⟨g', c, cur, h, hb, hh, _⟩
  · simp at h
  · simp only [Value.slice.injEq, Option.some.injEq, Addr.mk.injEq, and_true, true_and] at h
    rw [← h.1] at hh hb
    exact ⟨hb, (Array.getElem?_eq_some_iff.1 hh).1⟩
end Go.Proofs.YtdaldkcildbcmaaDoor
