/-
  Plain functions of chapter 2, no program: a number's bytes, what is taken of bytes, the sum's table and the sum.
  Plain facts on worlds and lists, no program: a slice of pairs (a text and a number), a struct's box, what a call that writes nothing old leaves.
  A region that draws its order and holds calls that only make new memory and answer one value, whatever the world: one walk, in the order of the text (the library's theorem on quiet regions, at the class 'as it was below block B').
  A scope in which the run jumps back to one label, the way to the label and the way behind it walked once each.
-/
import Derived.WalkKit
import Derived.ProofKit
import Derived.Below
import Derived.Deep.QuietTactic
import Derived.BigQuiet
import Derived.ScopeJumps
import Derived.Tactics
namespace Go.Proofs.Ytbgemebpfcbloaa
open Go.RowKit

/-- The bytes of a number: seven bits each, the lowest ahead. -/
def varL (n : Nat) : List UInt8 := if h : n < 128 then [UInt8.ofNat n] else UInt8.ofNat (n % 128 + 128) :: varL (n / 128)
termination_by n
decreasing_by omega
theorem varL_lt (n : Nat) (h : n < 128) : varL n = [UInt8.ofNat n] := by rw [varL, dif_pos h]
theorem varL_ge (n : Nat) (h : ¬ n < 128) : varL n = UInt8.ofNat (n % 128 + 128) :: varL (n / 128) := by rw [varL, dif_neg h]
theorem varL_len (j : Nat) : ∀ n, n < 128 ^ (j + 1) → (varL n).length ≤ j + 1 := by
  induction j with
  | zero => intro n h; rw [varL_lt n (by simpa using h)]; simp
  | succ j ih =>
    intro n h
    by_cases h1 : n < 128
    · rw [varL_lt n h1]; simp
    · rw [varL_ge n h1]
      have := ih (n / 128) (by rw [Nat.pow_succ] at h; omega)
      simp; omega
theorem varL_pos (n : Nat) : 1 ≤ (varL n).length := by
  by_cases h1 : n < 128
  · rw [varL_lt n h1]; simp
  · rw [varL_ge n h1]; simp

/-- Bytes as cells. -/
def bcs (l : List UInt8) : List Value := l.map fun c => .int .u8 (c.toNat : Int)
theorem bcs_length (l : List UInt8) : (bcs l).length = l.length := by simp [bcs]
theorem bcs_append (l r : List UInt8) : bcs (l ++ r) = bcs l ++ bcs r := by simp [bcs]

/-- What is taken of a number's bytes, from byte k on; f: how many bytes may come yet. -/
def tk (s : List UInt8) : Nat → Nat → Nat → Nat × Nat
  | 0, _, _ => (0, 0)
  | f + 1, k, n =>
    match s[k]? with
    | none => (0, 0)
    | some c => if c.toNat < 128 then (if 0 < k ∧ c.toNat = 0 then (0, 0) else (n + c.toNat % 128 * 128 ^ k, k + 1)) else tk s f (k + 1) (n + c.toNat % 128 * 128 ^ k)
def take (s : List UInt8) : Nat × Nat := tk s 9 0 0
theorem tk_none (s : List UInt8) (f k n : Nat) (h : s.length ≤ k) : tk s f k n = (0, 0) := by
  cases f with
  | zero => rfl
  | succ f => simp [tk, List.getElem?_eq_none h]
theorem tk_some (s : List UInt8) (f k n : Nat) (h : k < s.length) : tk s (f + 1) k n = if s[k].toNat < 128 then (if 0 < k ∧ s[k].toNat = 0 then (0, 0) else (n + s[k].toNat % 128 * 128 ^ k, k + 1)) else tk s f (k + 1) (n + s[k].toNat % 128 * 128 ^ k) := by
  simp [tk, List.getElem?_eq_getElem h]
theorem tk_bound (s : List UInt8) (f : Nat) : ∀ k n, n < 128 ^ k → k + f = 9 → k ≤ s.length → (tk s f k n).1 < 128 ^ 9 ∧ (tk s f k n).2 ≤ 9 ∧ (tk s f k n).2 ≤ s.length := by
  induction f with
  | zero => intro k n _ _ _; simp [tk]
  | succ f ih =>
    intro k n h hf hk
    by_cases h1 : k < s.length
    · rw [tk_some s f k n h1]
      have hlt : n + s[k].toNat % 128 * 128 ^ k < 128 ^ (k + 1) := by
        rw [Nat.pow_succ]
        have h2 : s[k].toNat % 128 ≤ 127 := by omega
        have h3 := Nat.mul_le_mul_right (128 ^ k) h2
        omega
      have hle : 128 ^ (k + 1) ≤ 128 ^ 9 := Nat.pow_le_pow_right (by omega) (by omega)
      split
      · split
        · simp
        · exact ⟨by show _ < _; omega, by show _ ≤ _; omega, by show _ ≤ _; omega⟩
      · exact ih _ _ hlt (by omega) (by omega)
    · rw [tk_none s _ _ _ (by omega)]; simp
theorem take_bound (s : List UInt8) : (take s).1 < 9223372036854775808 ∧ (take s).2 ≤ 9 ∧ (take s).2 ≤ s.length := by
  have := tk_bound s 9 0 0 (by simp) rfl (by omega)
  simpa [take] using this

/-- One step of the sum's rule. -/
def cb (n : Nat) : Nat := if n % 2 = 1 then (n / 2) ^^^ 2197175160 else n / 2
def cbs : Nat → Nat → Nat
  | 0, n => n
  | k + 1, n => cbs k (cb n)
def ct (i : Nat) : Nat := cbs 8 i
theorem cb_lt (n : Nat) (h : n < 4294967296) : cb n < 4294967296 := by
  unfold cb
  split
  · exact Nat.xor_lt_two_pow (n := 32) (by omega) (by omega)
  · omega
theorem cbs_lt (k n : Nat) (h : n < 4294967296) : cbs k n < 4294967296 := by
  induction k generalizing n with
  | zero => exact h
  | succ k ih => exact ih _ (cb_lt n h)
theorem cbs_succ (k n : Nat) : cbs (k + 1) n = cb (cbs k n) := by
  induction k generalizing n with
  | zero => rfl
  | succ k ih => exact ih (cb n)
theorem ct_lt (i : Nat) (h : i < 256) : ct i < 4294967296 := cbs_lt 8 i (by omega)
/-- The sum goes on by one byte. -/
def cstep (s c : Nat) : Nat := ct ((s % 256) ^^^ c) ^^^ (s / 256)
theorem cstep_lt (s c : Nat) (hs : s < 4294967296) (hc : c < 256) : cstep s c < 4294967296 :=
  Nat.xor_lt_two_pow (n := 32) (ct_lt _ (Nat.xor_lt_two_pow (n := 8) (by omega) (by omega))) (by omega)
def con : Nat → List UInt8 → Nat
  | s, [] => s
  | s, c :: l => con (cstep s c.toNat) l
theorem con_lt (l : List UInt8) (s : Nat) (hs : s < 4294967296) : con s l < 4294967296 := by
  induction l generalizing s with
  | nil => exact hs
  | cons c l ih => exact ih _ (cstep_lt s _ hs c.toNat_lt)
theorem con_append (a b : List UInt8) (s : Nat) : con s (a ++ b) = con (con s a) b := by
  induction a generalizing s with
  | nil => rfl
  | cons c l ih => exact ih _
def csum (l : List UInt8) : Nat := 4294967295 - con 4294967295 l
theorem csum_lt (l : List UInt8) : csum l < 4294967296 := by unfold csum; omega
theorem con_take_succ (l : List UInt8) (s k : Nat) (h : k < l.length) : con s (l.take (k + 1)) = cstep (con s (l.take k)) l[k].toNat := by
  rw [List.take_succ_eq_append_getElem h, con_append]
  rfl
/-- The table. -/
def tblL : List Value := (List.range 256).map fun i => .int .u32 ((ct i : Nat) : Int)
theorem tblL_length : tblL.length = 256 := by simp [tblL]
theorem tblL_at (i : Nat) (h : i < 256) : tblL[i]? = some (.int .u32 ((ct i : Nat) : Int)) := by simp [tblL, h]
end Go.Proofs.Ytbgemebpfcbloaa

namespace Go.Proofs.Ytbgemebpfcbloaa
open Go.RowKit

theorem below_alloc (w : World) (o : Obj) : Below w.heap.size w (w.alloc o) := (Below.refl _ _).alloc (Nat.le_refl _) _

theorem bcell {W w1 : World} (hb : Below W.heap.size W w1) : (∀ b o, b < W.heap.size → w1.cell? ⟨b, o, none⟩ = W.cell? ⟨b, o, none⟩) ∧ (∀ b o, b < W.heap.size → w1.frozen? ⟨b, o, none⟩ = W.frozen? ⟨b, o, none⟩) :=
  ⟨fun b o h => hb.cell (p := ⟨b, o, none⟩) h, fun b o h => hb.frozen (p := ⟨b, o, none⟩) h⟩

/-- The value v is a slice whose elements are the pairs l. -/
def PL (w : World) (v : Value) (l : List (ByteArray × Int)) : Prop :=
  ∃ a cap, v = .slice a l.length cap ∧ (l ≠ [] → ∃ b off, a = some ⟨b, off, none⟩ ∧ b < w.heap.size ∧
    ∀ i (h : i < l.length), w.cell? ⟨b, off + i * 2, none⟩ = some (.string l[i].1) ∧ w.cell? ⟨b, off + i * 2 + 1, none⟩ = some (.int .i64 l[i].2))

theorem PL.below {w w' : World} {v : Value} {l : List (ByteArray × Int)} (h : PL w v l) (hb : Below w.heap.size w w') : PL w' v l := by
  obtain ⟨a, cap, hv, hc⟩ := h
  refine ⟨a, cap, hv, fun hl => ?_⟩
  obtain ⟨b, off, ha, hbl, hcell⟩ := hc hl
  refine ⟨b, off, ha, Nat.lt_of_lt_of_le hbl hb.size, fun i hi => ?_⟩
  rw [hb.cell (p := ⟨b, off + i * 2, none⟩) hbl, hb.cell (p := ⟨b, off + i * 2 + 1, none⟩) hbl]
  exact hcell i hi

/-- The bytes and places of a list of pairs. -/
def tot : List (ByteArray × Int) → Nat
  | [] => 0
  | x :: r => x.1.size + tot r
theorem tot_take_succ (l : List (ByteArray × Int)) (k : Nat) (h : k < l.length) : tot (l.take (k + 1)) = tot (l.take k) + l[k].1.size := by
  induction l generalizing k with
  | nil => simp at h
  | cons x r ih =>
    cases k with
    | zero => simp [tot]
    | succ k =>
      simp only [List.take_succ_cons, tot, List.getElem_cons_succ]
      rw [ih k (by simpa using h)]; omega

/-- The cells of a list of pairs. -/
def flat : List (ByteArray × Int) → List Value
  | [] => []
  | x :: r => .string x.1 :: .int .i64 x.2 :: flat r
theorem flat_length (l : List (ByteArray × Int)) : (flat l).length = l.length * 2 := by
  induction l with
  | nil => rfl
  | cons x r ih => simp only [flat, List.length_cons, ih]; omega
theorem flat_append (l r : List (ByteArray × Int)) : flat (l ++ r) = flat l ++ flat r := by
  induction l with
  | nil => rfl
  | cons x l ih => simp only [flat, List.cons_append, ih]
theorem flat_get0 (l : List (ByteArray × Int)) (i : Nat) (h : i < l.length) : (flat l)[i * 2]? = some (.string l[i].1) := by
  induction l generalizing i with
  | nil => simp at h
  | cons x r ih =>
    cases i with
    | zero => rfl
    | succ i =>
      rw [show (i + 1) * 2 = i * 2 + 1 + 1 from by omega]
      simp only [flat, List.getElem?_cons_succ, List.getElem_cons_succ]
      exact ih i (by simpa using h)
theorem flat_get1 (l : List (ByteArray × Int)) (i : Nat) (h : i < l.length) : (flat l)[i * 2 + 1]? = some (.int .i64 l[i].2) := by
  induction l generalizing i with
  | nil => simp at h
  | cons x r ih =>
    cases i with
    | zero => rfl
    | succ i =>
      rw [show (i + 1) * 2 + 1 = (i * 2 + 1) + 1 + 1 from by omega]
      simp only [flat, List.getElem?_cons_succ, List.getElem_cons_succ]
      exact ih i (by simpa using h)
theorem flat_set (l : List (ByteArray × Int)) (i : Nat) (s : ByteArray) (m : Int) : ((flat l).set (i * 2) (.string s)).set (i * 2 + 1) (.int .i64 m) = flat (l.set i (s, m)) := by
  induction l generalizing i with
  | nil => simp [flat]
  | cons x r ih =>
    cases i with
    | zero => simp [flat]
    | succ i =>
      rw [show (i + 1) * 2 = i * 2 + 1 + 1 from by omega]
      simp only [flat, List.set_cons_succ]
      rw [ih i]
theorem flat_zeros (n : Nat) : (madeCells (Value.agg #[.string ⟨#[]⟩, .int .i64 0]).cells (n * 2)).toList = flat (List.replicate n (⟨#[]⟩, 0)) := by
  have hcs : (Value.agg #[.string ⟨#[]⟩, .int .i64 0]).cells = #[.string ⟨#[]⟩, .int .i64 0] := rfl
  rw [hcs]
  apply List.ext_getElem?
  intro i
  by_cases hi : i < n * 2
  · rcases Nat.mod_two_eq_zero_or_one i with h | h
    · obtain ⟨j, rfl⟩ : ∃ j, i = j * 2 := ⟨i / 2, by omega⟩
      rw [flat_get0 _ j (by simp; omega)]
      simp [madeCells, hi]
    · obtain ⟨j, rfl⟩ : ∃ j, i = j * 2 + 1 := ⟨i / 2, by omega⟩
      rw [flat_get1 _ j (by simp; omega)]
      simp [madeCells, hi]
  · rw [List.getElem?_eq_none (by simp [madeCells]; omega), List.getElem?_eq_none (by rw [flat_length]; simp; omega)]

theorem owns_below {w w' : World} {base : Nat} {e : TypeId} {size : Nat} {v : Value} {n : Nat} {xs : List Value} (h : w.ownsRow base e size v n xs) (hb : Below w.heap.size w w') : w'.ownsRow base e size v n xs := by
  obtain ⟨hl, h⟩ := h
  refine ⟨hl, ?_⟩
  rcases h with h | ⟨g, cap, cur, hv, hbg, hh, h⟩
  · exact .inl h
  · refine .inr ⟨g, cap, cur, hv, hbg, ?_, h⟩
    rw [hb.block g (by have := (Array.getElem?_eq_some_iff.1 hh).1; exact this)]
    exact hh

theorem PL_of_owns {w : World} {base : Nat} {e : TypeId} {v : Value} {l : List (ByteArray × Int)} (h : w.ownsRow base e 2 v l.length (flat l)) : PL w v l := by
  have h' := h
  obtain ⟨hl, h⟩ := h
  rcases h with ⟨rfl, h0⟩ | ⟨g, cap, cur, rfl, hbg, hh, hcap, hm, hsz, htk⟩
  · exact ⟨none, 0, by rw [h0], fun hne => absurd (List.length_eq_zero_iff.1 h0) hne⟩
  · refine ⟨_, cap, rfl, fun _ => ⟨g, 0, rfl, (Array.getElem?_eq_some_iff.1 hh).1, fun i hi => ?_⟩⟩
    rw [Nat.zero_add]
    exact ⟨by rw [h'.cellAt (i * 2) (by omega), flat_get0 l i hi], by rw [h'.cellAt (i * 2 + 1) (by omega), flat_get1 l i hi]⟩

/-- A store of a pair into a row that the call made. -/
theorem owns_set {w : World} {base : Nat} {e : TypeId} {g cap n : Nat} {l : List (ByteArray × Int)} (h : w.ownsRow base e 2 (.slice (some ⟨g, 0, none⟩) n cap) n (flat l)) (i : Nat) (s : ByteArray) (m : Int) :
    ((w.setCell ⟨g, i * 2, none⟩ (.string s)).setCell ⟨g, i * 2 + 1, none⟩ (.int .i64 m)).ownsRow base e 2 (.slice (some ⟨g, 0, none⟩) n cap) n (flat (l.set i (s, m))) := by
  have h1 := ((h.stored (i * 2) (.string s)).1.stored (i * 2 + 1) (.int .i64 m)).1
  rw [flat_set] at h1
  exact h1
theorem owns_at {w : World} {base : Nat} {e : TypeId} {g cap n : Nat} {l : List (ByteArray × Int)} (h : w.ownsRow base e 2 (.slice (some ⟨g, 0, none⟩) n cap) n (flat l)) (i : Nat) (hi : i < n) (hl : n ≤ l.length) :
    w.cell? ⟨g, i * 2, none⟩ = some (.string l[i].1) ∧ w.cell? ⟨g, i * 2 + 1, none⟩ = some (.int .i64 l[i].2) ∧ w.frozen? ⟨g, i * 2, none⟩ = false ∧ w.frozen? ⟨g, i * 2 + 1, none⟩ = false :=
  ⟨by rw [h.cellAt (i * 2) (by omega), flat_get0 l i (by omega)], by rw [h.cellAt (i * 2 + 1) (by omega), flat_get1 l i (by omega)], h.frozenAt _, h.frozenAt _⟩
/-- The first k of a list, and zero pairs for the rest. -/
def part (l : List (ByteArray × Int)) (k : Nat) : List (ByteArray × Int) := l.take k ++ List.replicate (l.length - k) (⟨#[]⟩, 0)
theorem part_length (l : List (ByteArray × Int)) (k : Nat) (h : k ≤ l.length) : (part l k).length = l.length := by simp [part]; omega
theorem part_zero (l : List (ByteArray × Int)) : part l 0 = List.replicate l.length (⟨#[]⟩, 0) := by simp [part]
theorem part_all (l : List (ByteArray × Int)) : part l l.length = l := by simp [part]
theorem part_set (l : List (ByteArray × Int)) (k : Nat) (h : k < l.length) : (part l k).set k (l[k].1, l[k].2) = part l (k + 1) := by
  unfold part
  apply List.ext_getElem?
  intro i
  by_cases hi : i < k
  · rw [List.getElem?_set_ne (by omega), List.getElem?_append_left (by simp; omega), List.getElem?_append_left (by simp; omega)]
    simp [hi, Nat.lt_succ_of_lt hi]
  · by_cases hk : i = k
    · subst hk
      rw [List.getElem?_set_self (by simp; omega), List.getElem?_append_left (by simp; omega)]
      simp [h]
    · rw [List.getElem?_set_ne (by omega), List.getElem?_append_right (by simp; omega), List.getElem?_append_right (by simp; omega)]
      simp only [List.length_take, List.getElem?_replicate]
      have e1 : min k l.length = k := by omega
      have e2 : min (k + 1) l.length = k + 1 := by omega
      rw [e1, e2]
      by_cases hil : i < l.length
      · rw [if_pos (by omega), if_pos (by omega)]
      · rw [if_neg (by omega), if_neg (by omega)]

/-- Block b holds a struct's cells; they may be written. -/
def Box (w : World) (b : Nat) (vs : List Value) : Prop := b < w.heap.size ∧ (∀ j v, vs[j]? = some v → w.cell? ⟨b, j, none⟩ = some v) ∧ ∀ j, w.frozen? ⟨b, j, none⟩ = false
theorem Box.below {w w' : World} {b : Nat} {vs : List Value} (h : Box w b vs) (hb : Below w.heap.size w w') : Box w' b vs :=
  ⟨Nat.lt_of_lt_of_le h.1 hb.size, fun j v hv => (hb.cell (p := ⟨b, j, none⟩) h.1).trans (h.2.1 j v hv), fun j => (hb.frozen (p := ⟨b, j, none⟩) h.1).trans (h.2.2 j)⟩
theorem Box.alloc {w : World} {b : Nat} {vs : List Value} (h : Box w b vs) (o : Obj) : Box (w.alloc o) b vs := h.below (below_alloc _ _)
theorem Box.new (w : World) (cs : Array Value) (t : TypeId) : Box (w.alloc (.cells cs t)) w.heap.size cs.toList :=
  ⟨by simp, fun j v hv => by simpa using hv, fun j => by simp⟩
theorem Box.set {w : World} {b : Nat} {vs : List Value} (h : Box w b vs) (i : Nat) (u : Value) (hi : i < vs.length) : Box (w.setCell ⟨b, i, none⟩ u) b (vs.set i u) := by
  refine ⟨by simpa using h.1, fun j v hv => ?_, fun j => by simpa using h.2.2 j⟩
  by_cases hj : j = i
  · subst hj
    rw [List.getElem?_set_self hi] at hv
    have hc := h.2.1 j _ (List.getElem?_eq_getElem hi)
    rw [World.cell?_setCell_same _ _ _ hc]; exact hv
  · rw [List.getElem?_set_ne (by omega)] at hv
    rw [World.cell?_setCell_other _ _ _ _ (fun e => hj (congrArg Addr.off e).symm)]
    exact h.2.1 j v hv
theorem Box.setOther {w : World} {b : Nat} {vs : List Value} (h : Box w b vs) (a : Addr) (u : Value) (ha : a.block ≠ b) : Box (w.setCell a u) b vs := by
  refine ⟨by simpa using h.1, fun j v hv => ?_, fun j => by simpa using h.2.2 j⟩
  rw [World.cell?_setCell_other _ _ _ _ (by intro e; rw [e] at ha; simp at ha)]
  exact h.2.1 j v hv
theorem Box.c2 {w : World} {b : Nat} {v0 v1 : Value} (h : Box w b [v0, v1]) : b < w.heap.size ∧ w.cell? ⟨b, 0, none⟩ = some v0 ∧ w.cell? ⟨b, 1, none⟩ = some v1 :=
  ⟨h.1, h.2.1 0 _ rfl, h.2.1 1 _ rfl⟩
theorem Box.c4 {w : World} {b : Nat} {v0 v1 v2 v3 : Value} (h : Box w b [v0, v1, v2, v3]) : b < w.heap.size ∧ w.cell? ⟨b, 0, none⟩ = some v0 ∧ w.cell? ⟨b, 1, none⟩ = some v1 ∧ w.cell? ⟨b, 2, none⟩ = some v2 ∧ w.cell? ⟨b, 3, none⟩ = some v3 :=
  ⟨h.1, h.2.1 0 _ rfl, h.2.1 1 _ rfl, h.2.1 2 _ rfl, h.2.1 3 _ rfl⟩
theorem PL.alloc {w : World} {v : Value} {l : List (ByteArray × Int)} (h : PL w v l) (o : Obj) : PL (w.alloc o) v l := h.below (below_alloc _ _)
theorem below2 (w : World) (o p : Obj) : Below w.heap.size w ((w.alloc o).alloc p) := (below_alloc _ _).alloc (by simp) _
theorem below3 (w : World) (o p q : Obj) : Below w.heap.size w (((w.alloc o).alloc p).alloc q) := (below2 _ _ _).alloc (by simp; omega) _
/-- What is kept by a first call is kept by a second. -/
theorem below_then {a b c : World} (h : Below a.heap.size a b) (k : Below b.heap.size b c) : Below a.heap.size a c := h.trans (k.mono h.size)
theorem owns_lt {w : World} {base : Nat} {e : TypeId} {size g cap n : Nat} {xs : List Value} (h : w.ownsRow base e size (.slice (some ⟨g, 0, none⟩) n cap) n xs) : base ≤ g ∧ g < w.heap.size := by
  rcases h.2 with ⟨h, _⟩ | ⟨g', c, cur, h, hb, hh, _⟩
  · simp at h
  · simp only [Value.slice.injEq, Option.some.injEq, Addr.mk.injEq, and_true, true_and] at h
    rw [← h.1] at hh hb
    exact ⟨hb, (Array.getElem?_eq_some_iff.1 hh).1⟩
theorem owns_base {w : World} {base base' : Nat} {e : TypeId} {size g cap n : Nat} {xs : List Value} (h : w.ownsRow base e size (.slice (some ⟨g, 0, none⟩) n cap) n xs) (hb : base' ≤ g) : w.ownsRow base' e size (.slice (some ⟨g, 0, none⟩) n cap) n xs := by
  refine ⟨h.1, ?_⟩
  rcases h.2 with ⟨h, _⟩ | ⟨g', c, cur, h, _, hh⟩
  · simp at h
  · have h' := h
    simp only [Value.slice.injEq, Option.some.injEq, Addr.mk.injEq, and_true, true_and] at h'
    exact .inr ⟨g', c, cur, h, by omega, hh⟩
end Go.Proofs.Ytbgemebpfcbloaa

namespace Go.Proofs.Ytbgemebpfcbloaa
open Go.RowKit

/-- A world that is as W was below block B. -/
structure WC (B : Nat) (W : World) where
  w : World
  ok : Below B W w

theorem wp_region_calm {P : Program} {B : Nat} {W : World} {id : Nat} {Q : Exit → Act → World → Prop} {a : Act} {w : World} {l : List Oper} (hm : P.follows .mixedOrders = true) (hB : Region.lexB .any l.toArray = true) (hw : Below B W w)
    (h : wpQuiet P l.toArray (fun w' => ∃ n : WC B W, w' = n.w) (fun a' => ∀ w', (∃ n : WC B W, w' = n.w) → Q .normal a' w') l a) : (Code.region id l.toArray true).wp P Q a w :=
  wp_region_quiet (C := fun w' => ∃ n : WC B W, w' = n.w) hm hB ⟨⟨w.drew, hw.drew⟩, rfl⟩ (by simpa using h)

/-- A call that answers v and leaves what is below B. -/
theorem calm_of {P : Program} {B : Nat} {W : World} {f : FuncId} {args : Array Value} {x : WC B W} {v : Value}
    (h : Calls P f args x.w fun e w'' => e = .returned v ∧ Below B W w'') : Calls P f args x.w fun e w'' => e = .returned v ∧ ∃ m : WC B W, w'' = m.w :=
  h.mono fun _ w'' ⟨he, hb⟩ => ⟨he, ⟨w'', hb⟩, rfl⟩
/-- .. out of a contract that leaves all that was there. -/
theorem calm_of_below {P : Program} {B : Nat} {W : World} {f : FuncId} {args : Array Value} {x : WC B W} {v : Value} (hB : B ≤ W.heap.size)
    (h : Calls P f args x.w fun e w'' => e = .returned v ∧ Below x.w.heap.size x.w w'') : Calls P f args x.w fun e w'' => e = .returned v ∧ ∃ m : WC B W, w'' = m.w :=
  calm_of (h.mono fun _ _ ⟨he, hb⟩ => ⟨he, x.ok.trans (hb.mono (Nat.le_trans hB x.ok.size))⟩)
theorem calm_of_same {P : Program} {B : Nat} {W : World} {f : FuncId} {args : Array Value} {x : WC B W} {v : Value}
    (h : Calls P f args x.w fun e w'' => e = .returned v ∧ w'' = x.w) : Calls P f args x.w fun e w'' => e = .returned v ∧ ∃ m : WC B W, w'' = m.w :=
  h.mono fun _ _ ⟨he, hb⟩ => ⟨he, x, hb⟩
end Go.Proofs.Ytbgemebpfcbloaa

namespace Go.Proofs.Ytbgemebpfcbloaa

theorem jump_mono {l : Nat} {J J' : Act → World → Prop} {Q : Exit → Act → World → Prop} (h : ∀ a w, J a w → J' a w) : ∀ e a w, Exit.jump l J Q e a w → Exit.jump l J' Q e a w
  | .goto _, a, w, ⟨e, hJ⟩ => ⟨e, h a w hJ⟩
  | .normal, _, _, h => h
  | .exit _, _, _, h => h
  | .ret, _, _, h => h
  | .panic _, _, _, h => h
  | .outgrown, _, _, h => h
theorem wp_scope_jumps2 {P : Program} {a : Act} {w : World} {Q : Exit → Act → World → Prop} {c X : Code} (l : Nat) (J : Act → World → Prop) (μ : Act → World → Nat) (hf : findLabel c l = some (Code.skip.seq X))
    (pass : ∀ a w, J a w → X.wp P (Exit.jump l (fun a' w' => J a' w' ∧ μ a' w' < μ a w) Q) a w)
    (first : (∀ a w, J a w → X.wp P (Exit.jump l J Q) a w) → c.wp P (Exit.jump l J Q) a w) : (Code.scope c).wp P Q a w :=
  wp_scope_jumps l J μ hf (first fun a w h => Code.wp_mono (jump_mono fun _ _ h => h.1) (pass a w h)) (fun a w h => wp_seq (wp_skip (pass a w h)))
end Go.Proofs.Ytbgemebpfcbloaa
