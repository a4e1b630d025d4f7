/-
  Items in a row: rows of four cells; eqItemS.
  Marks in a list of items: markText, markItemS, heldItemS.
-/
import Derived.Test.YtcjkdkaahkphfaaDoorG5
import Derived.Test.YtcjkdkaahkphfaaDoorI2
import Derived.OwnWalk
import Derived.Deep.RegionHeld3
import Derived.Deep.QuietTactic
import Derived.BigQuiet
import Derived.Test.YtcjkdkaahkphfaaDoorT2
namespace Go.Proofs.YtcjkdkaahkphfaaDoor
open Go.RowKit
set_option linter.unusedVariables false
set_option maxRecDepth 100000

/-- An item. -/
structure It where
  k : ByteArray
  n : Int
  d : Int
  v : ByteArray
def It.zero : It := ⟨⟨#[]⟩, 0, 0, ⟨#[]⟩⟩
instance : Inhabited It := ⟨It.zero⟩

def flat4 : List It → List Value
  | [] => []
  | s :: r => .string s.k :: .int .i64 s.n :: .int .i64 s.d :: .string s.v :: flat4 r
theorem flat4_length (l : List It) : (flat4 l).length = l.length * 4 := by
  induction l with
  | nil => rfl
  | cons x r ih => simp only [flat4, List.length_cons, ih]; omega
theorem flat4_append (l m : List It) : flat4 (l ++ m) = flat4 l ++ flat4 m := by
  induction l with
  | nil => rfl
  | cons x r ih => simp only [List.cons_append, flat4, ih]
theorem flat4_get (l : List It) (i : Nat) (h : i < l.length) : (flat4 l)[i * 4]? = some (.string l[i].k) ∧ (flat4 l)[i * 4 + 1]? = some (.int .i64 l[i].n) ∧ (flat4 l)[i * 4 + 2]? = some (.int .i64 l[i].d) ∧ (flat4 l)[i * 4 + 3]? = some (.string l[i].v) := by
  induction l generalizing i with
  | nil => simp at h
  | cons x r ih =>
    cases i with
    | zero => exact ⟨rfl, rfl, rfl, rfl⟩
    | succ i =>
      have := ih i (by simpa using h)
      rw [show (i + 1) * 4 = i * 4 + 1 + 1 + 1 + 1 from by omega, show i * 4 + 1 + 1 + 1 + 1 + 1 = (i * 4 + 1) + 1 + 1 + 1 + 1 from by omega, show i * 4 + 1 + 1 + 1 + 1 + 2 = (i * 4 + 2) + 1 + 1 + 1 + 1 from by omega, show i * 4 + 1 + 1 + 1 + 1 + 3 = (i * 4 + 3) + 1 + 1 + 1 + 1 from by omega]
      simp only [flat4, List.getElem?_cons_succ, List.getElem_cons_succ]
      exact this
theorem flat4_set (l : List It) (i : Nat) (s : It) : ((((flat4 l).set (i * 4) (.string s.k)).set (i * 4 + 1) (.int .i64 s.n)).set (i * 4 + 2) (.int .i64 s.d)).set (i * 4 + 3) (.string s.v) = flat4 (l.set i s) := by
  induction l generalizing i with
  | nil => simp [flat4]
  | cons x r ih =>
    cases i with
    | zero => simp [flat4]
    | succ i =>
      rw [show (i + 1) * 4 = i * 4 + 1 + 1 + 1 + 1 from by omega, show i * 4 + 1 + 1 + 1 + 1 + 1 = (i * 4 + 1) + 1 + 1 + 1 + 1 from by omega, show i * 4 + 1 + 1 + 1 + 1 + 2 = (i * 4 + 2) + 1 + 1 + 1 + 1 from by omega, show i * 4 + 1 + 1 + 1 + 1 + 3 = (i * 4 + 3) + 1 + 1 + 1 + 1 from by omega]
      simp only [flat4, List.set_cons_succ]
      rw [ih i]
theorem flat4_zeros (n : Nat) : (madeCells (Value.agg #[.string ⟨#[]⟩, .int .i64 0, .int .i64 0, .string ⟨#[]⟩]).cells (n * 4)).toList = flat4 (List.replicate n It.zero) := by
  have hcs : (Value.agg #[.string ⟨#[]⟩, .int .i64 0, .int .i64 0, .string ⟨#[]⟩]).cells = #[.string ⟨#[]⟩, .int .i64 0, .int .i64 0, .string ⟨#[]⟩] := rfl
  rw [hcs]
  apply List.ext_getElem?
  intro i
  by_cases hi : i < n * 4
  · obtain ⟨j, m, hm, rfl⟩ : ∃ j m, m < 4 ∧ i = j * 4 + m := ⟨i / 4, i % 4, by omega, by omega⟩
    have hj : j < (List.replicate n It.zero).length := by simp; omega
    obtain ⟨g0, g1, g2, g3⟩ := flat4_get _ j hj
    obtain rfl | rfl | rfl | rfl : m = 0 ∨ m = 1 ∨ m = 2 ∨ m = 3 := by omega
    · rw [Nat.add_zero] at hi ⊢; rw [g0]; simp [madeCells, hi, It.zero]
    · rw [g1]; simp [madeCells, hi, It.zero]
    · rw [g2]; simp [madeCells, hi, It.zero]
    · rw [g3]; simp [madeCells, hi, It.zero]
  · rw [List.getElem?_eq_none (by simp [madeCells]; omega), List.getElem?_eq_none (by rw [flat4_length]; simp; omega)]
/-- The value v is a slice of the items l. -/
def IR (w : World) (v : Value) (l : List It) : Prop :=
  ∃ a cap, v = .slice a l.length cap ∧ (l ≠ [] → ∃ b off, a = some ⟨b, off, none⟩ ∧ b < w.heap.size ∧
    ∀ i (h : i < l.length), w.cell? ⟨b, off + i * 4, none⟩ = some (.string l[i].k) ∧ w.cell? ⟨b, off + i * 4 + 1, none⟩ = some (.int .i64 l[i].n) ∧ w.cell? ⟨b, off + i * 4 + 2, none⟩ = some (.int .i64 l[i].d) ∧ w.cell? ⟨b, off + i * 4 + 3, none⟩ = some (.string l[i].v))
theorem IR.below {w w' : World} {v : Value} {l : List It} (h : IR w v l) (hb : Below w.heap.size w w') : IR w' v l := by
  obtain ⟨a, cap, hv, hc⟩ := h
  refine ⟨a, cap, hv, fun hl => ?_⟩
  obtain ⟨b, off, ha, hbl, hcell⟩ := hc hl
  refine ⟨b, off, ha, Nat.lt_of_lt_of_le hbl hb.size, fun i hi => ?_⟩
  obtain ⟨c0, c1, c2, c3⟩ := hcell i hi
  exact ⟨(hb.cell (p := ⟨b, off + i * 4, none⟩) hbl).trans c0, (hb.cell (p := ⟨b, off + i * 4 + 1, none⟩) hbl).trans c1, (hb.cell (p := ⟨b, off + i * 4 + 2, none⟩) hbl).trans c2, (hb.cell (p := ⟨b, off + i * 4 + 3, none⟩) hbl).trans c3⟩
theorem IR_nil (w : World) : IR w (.slice none 0 0) [] := ⟨none, 0, rfl, fun h => absurd rfl h⟩
theorem IR_of_owns {w : World} {base n : Nat} {e : TypeId} {v : Value} {l : List It} (h : w.ownsRow base e 4 v n (flat4 l)) (hn : n = l.length) : IR w v l := by
  subst hn
  have h' := h
  obtain ⟨hl, h⟩ := h
  rcases h with ⟨rfl, h0⟩ | ⟨g, cap, cur, rfl, hbg, hh, hcap, hm, hsz, htk⟩
  · exact ⟨none, 0, by rw [h0], fun hne => absurd (List.length_eq_zero_iff.1 h0) hne⟩
  · refine ⟨_, cap, rfl, fun _ => ⟨g, 0, rfl, (Array.getElem?_eq_some_iff.1 hh).1, fun i hi => ?_⟩⟩
    obtain ⟨g0, g1, g2, g3⟩ := flat4_get l i hi
    rw [Nat.zero_add]
    exact ⟨by rw [h'.cellAt (i * 4) (by omega), g0], by rw [h'.cellAt (i * 4 + 1) (by omega), g1], by rw [h'.cellAt (i * 4 + 2) (by omega), g2], by rw [h'.cellAt (i * 4 + 3) (by omega), g3]⟩
def part4 (l : List It) (k : Nat) : List It := l.take k ++ List.replicate (l.length - k) It.zero
theorem part4_zero (l : List It) : part4 l 0 = List.replicate l.length It.zero := by simp [part4]
theorem part4_all (l : List It) : part4 l l.length = l := by simp [part4]
theorem part4_set (l : List It) (k : Nat) (h : k < l.length) : (part4 l k).set k l[k] = part4 l (k + 1) := by
  unfold part4
  have h1 : (l.take k).length = k := by simp; omega
  obtain ⟨m, hm⟩ : ∃ m, l.length - k = m + 1 := ⟨l.length - k - 1, by omega⟩
  rw [List.set_append_right _ _ (by omega), h1, Nat.sub_self, hm, List.replicate_succ, List.set_cons_zero, List.take_succ_eq_append_getElem h, List.append_assoc, show l.length - (k + 1) = m from by omega]
  rfl
theorem owns4_at {w : World} {base : Nat} {e : TypeId} {g cap n : Nat} {xs : List Value} (h : w.ownsRow base e 4 (.slice (some ⟨g, 0, none⟩) n cap) n xs) (i : Nat) (hi : i < n) (j : Nat) (hj : j < 4) :
    (∃ u, w.cell? ⟨g, i * 4 + j, none⟩ = some u) ∧ w.frozen? ⟨g, i * 4 + j, none⟩ = false := by
  have hl := h.1
  refine ⟨?_, h.frozenAt _⟩
  rw [h.cellAt (i * 4 + j) (by omega)]
  exact ⟨_, List.getElem?_eq_getElem (by omega)⟩
def tot4 : List It → Nat
  | [] => 0
  | s :: r => s.k.size + s.v.size + tot4 r
theorem tot4_take (l : List It) (k : Nat) (h : k < l.length) : tot4 (l.take (k + 1)) = tot4 (l.take k) + (l[k].k.size + l[k].v.size) := by
  induction l generalizing k with
  | nil => simp at h
  | cons x r ih =>
    cases k with
    | zero => simp [tot4]
    | succ k =>
      simp only [List.take_succ_cons, tot4, List.getElem_cons_succ]
      rw [ih k (by simpa using h)]; omega
theorem tot4_mem (l : List It) (k : Nat) (h : k < l.length) : l[k].k.size + l[k].v.size ≤ tot4 l := by
  induction l generalizing k with
  | nil => simp at h
  | cons x r ih =>
    cases k with
    | zero => simp [tot4]
    | succ k => have := ih k (by simpa using h); simp only [tot4, List.getElem_cons_succ]; omega

theorem Tryd.info36 : (Tryd.prog.info? 36).map (fun i => (i.zero, i.size, i.bytes)) = some (some (.agg #[.string ⟨#[]⟩, .int .i64 0, .int .i64 0, .string ⟨#[]⟩]), 4, 48) := by kernel_rfl

end Go.Proofs.YtcjkdkaahkphfaaDoor

namespace Go.Proofs.YtcjkdkaahkphfaaDoor
open Go.RowKit
set_option linter.unusedVariables false
set_option maxRecDepth 100000

def mkD : Nat → Nat → List UInt8 → List UInt8
  | 0, _, acc => acc
  | f + 1, k, acc => if k = 0 then acc else mkD f (k / 10) (UInt8.ofNat (48 + k % 10) :: acc)
def mkT (k : Int) : ByteArray := if k ≤ 0 then ⟨#[109, 48]⟩ else ⟨(109 :: mkD 20 k.toNat []).toArray⟩

theorem mkD_zero (f : Nat) (acc : List UInt8) : mkD f 0 acc = acc := by cases f <;> simp [mkD]
theorem mkT_pos (n : Nat) (h : 1 ≤ n) : mkT (n : Int) = ⟨(109 :: mkD 20 n []).toArray⟩ := by simp [mkT]; omega



set_option maxRecDepth 100000 in
set_option maxHeartbeats 1000000 in
theorem markText_any (k : Int) (w : World) (h1 : 1 ≤ k) (h2 : k ≤ 100000000) :
    Calls Tryd.prog 57 #[.int .i64 k] w fun e w' => e = .returned (.string (mkT k)) ∧ Below w.heap.size w w' := by
  obtain ⟨n, rfl⟩ := Int.eq_ofNat_of_zero_le (show 0 ≤ k from by omega)
  go_enter Tryd.func57, Tryd.ntmps57
  go_wp2
  go_loopw [0, 3] (fun k s wr => ∃ (j m : Nat) (acc : List UInt8), j ≤ 20 ∧ acc.length ≤ j ∧ m ≤ 100000000 ∧ m < 10 ^ (20 - j) ∧ k = .int .i64 m ∧ s = .string ⟨acc.toArray⟩ ∧ mkD 20 n [] = mkD (20 - j) m acc ∧ Below w.heap.size w wr) (fun k _ _ => (intOf k).toNat)
  case atStart => exact ⟨0, n, [], by omega, by simp, by omega, by omega, rfl, rfl, rfl, Below.refl _ _⟩
  case round =>
    obtain ⟨j, m, acc, hj, ha, hm, hp, rfl, rfl, he, hb⟩ := hrel
    have HE : Hid (mkD 20 n [] = mkD (20 - j) m acc) := he
    have HP : Hid (m < 10 ^ (20 - j)) := hp
    clear he hp
    by_cases h0 : (0 : Int) < (m : Int)
    · obtain ⟨c, hc⟩ : ∃ c : UInt8, c = UInt8.ofNat (48 + m % 10) := ⟨_, rfl⟩
      have hcn : ((c.toNat : Nat) : Int) = 48 + (m : Int) % 10 := by
        rw [hc, UInt8.toNat_ofNat']; omega
      have hcv : (convert 95 9 (.slice (some ⟨wr.heap.size, 0, none⟩) 1 1)).run Tryd.prog (wr.alloc (.cells #[.int .u8 (48 + (m : Int) % 10)] 5)) = .ok (.string ⟨#[c]⟩) (wr.alloc (.cells #[.int .u8 (48 + (m : Int) % 10)] 5)) := by
        have := run_convert_bytes_back (P := Tryd.prog) (wr.alloc (.cells #[.int .u8 (48 + (m : Int) % 10)] 5)) 95 9 5 ⟨wr.heap.size, 0, none⟩ 1 [c] Tryd.underlying95 Tryd.underlying5 Tryd.underlying9 (by
          intro j hj
          have : j = 0 := by simpa using hj
          subst this
          simp [Addr.add, hcn])
        simpa using this
      have hz := hb.size
      have hj20 : j < 20 := by
        rcases Nat.lt_or_ge j 20 with h | h
        · exact h
        · have := HP.out; rw [show 20 - j = 0 from by omega] at this; omega
      have HN : Hid (mkD 20 n [] = mkD (20 - (j + 1)) (m / 10) (c :: acc)) := by
        show mkD 20 n [] = _
        rw [HE.out, show 20 - j = (20 - (j + 1)) + 1 from by omega, mkD, if_neg (by omega), ← hc]
      have HP2 : Hid (m / 10 < 10 ^ (20 - (j + 1))) := by
        show m / 10 < _
        have := HP.out
        rw [show 20 - j = (20 - (j + 1)) + 1 from by omega, Nat.pow_succ] at this
        omega
      clear hc hcn
      go_wp2
      go_roundw
      case rel => exact ⟨j + 1, m / 10, c :: acc, by omega, by simp; omega, by omega, HP2.out, by go_num, congrArg Value.string (bcat [c] acc), HN.out, hb.alloc hz _⟩
      case measure => simp [intOf]; omega
    · obtain rfl : m = 0 := by omega
      go_wp2
      go_ret
      refine ⟨?_, hb⟩
      rw [mkT_pos n (by omega), HE.out, mkD_zero]
      exact congrArg (fun s => Ending.returned (Value.string s)) (bcat [109] acc)


/-- The item marked from k on; the first j of l marked. -/
def mkIt (k : Int) : It := ⟨mkT k, k + 1, k + 1 + 1, mkT (k + 1 + 1 + 1)⟩
def mkIts (k : Int) (n : Nat) : List It := (List.range n).map fun j : Nat => mkIt (k + 4 * (j : Int))
theorem mkIts_length (k : Int) (n : Nat) : (mkIts k n).length = n := by simp [mkIts]
theorem mkIts_at (k : Int) (n j : Nat) (h : j < n) : (mkIts k n)[j]'(by rw [mkIts_length]; exact h) = mkIt (k + 4 * (j : Int)) := by simp [mkIts]
def mkP (l : List It) (k : Int) (j : Nat) : List It := (mkIts k l.length).take j ++ l.drop j
theorem mkP_set (l : List It) (k : Int) (j : Nat) (h : j < l.length) : (mkP l k j).set j (mkIt (k + 4 * (j : Int))) = mkP l k (j + 1) := by
  unfold mkP
  have h1 : ((mkIts k l.length).take j).length = j := by rw [List.length_take, mkIts_length]; omega
  rw [List.set_append_right _ _ (by omega), h1, Nat.sub_self, List.take_succ_eq_append_getElem (by rw [mkIts_length]; exact h), mkIts_at k _ j h, List.drop_eq_getElem_cons h, List.set_cons_zero, List.append_assoc]
  rfl
theorem mkP_all (l : List It) (k : Int) : mkP l k l.length = mkIts k l.length := by
  unfold mkP
  rw [List.take_of_length_le (by rw [mkIts_length]; omega), List.drop_eq_nil_of_le (by omega), List.append_nil]
theorem mkP_zero (l : List It) (k : Int) : mkP l k 0 = l := by simp [mkP]

end Go.Proofs.YtcjkdkaahkphfaaDoor
