/-
  laws.markText; slices of texts: eqStringS, markStringS, heldStringS.
-/
import Derived.Test.YtbgemebpfcbloaaxV1
import Derived.Test.YtbgemebpfcbloaaE
import Derived.Deep.QuietTactic
import Derived.BigQuiet
namespace Go.Proofs.Ytbgemebpfcbloaa
open Go.RowKit
set_option maxRecDepth 100000
set_option linter.unusedVariables false

def mkD : Nat → Nat → List UInt8 → List UInt8
  | 0, _, acc => acc
  | f + 1, k, acc => if k = 0 then acc else mkD f (k / 10) (UInt8.ofNat (48 + k % 10) :: acc)
def mkT (k : Int) : ByteArray := if k ≤ 0 then ⟨#[109, 48]⟩ else ⟨(109 :: mkD 20 k.toNat []).toArray⟩

theorem mkD_zero (f : Nat) (acc : List UInt8) : mkD f 0 acc = acc := by cases f <;> simp [mkD]
theorem bcat (a b : List UInt8) : (⟨a.toArray⟩ : ByteArray) ++ ⟨b.toArray⟩ = ⟨(a ++ b).toArray⟩ := by
  apply ByteArray.ext
  simp
theorem mkT_pos (n : Nat) (h : 1 ≤ n) : mkT (n : Int) = ⟨(109 :: mkD 20 n []).toArray⟩ := by simp [mkT]; omega

set_option maxRecDepth 100000 in
set_option maxHeartbeats 1000000 in
theorem markText_any (k : Int) (w : World) (h1 : 1 ≤ k) (h2 : k ≤ 100000000) :
    Calls Try.prog 86 #[.int .i64 k] w fun e w' => e = .returned (.string (mkT k)) ∧ Below w.heap.size w w' := by
  obtain ⟨n, rfl⟩ := Int.eq_ofNat_of_zero_le (show 0 ≤ k from by omega)
  go_enter Try.func86, Try.ntmps86
  go_wp2
  go_loopw [0, 3] (fun k s wr => ∃ (j m : Nat) (acc : List UInt8), j ≤ 20 ∧ acc.length ≤ j ∧ m ≤ 100000000 ∧ m < 10 ^ (20 - j) ∧ k = .int .i64 m ∧ s = .string ⟨acc.toArray⟩ ∧ mkD 20 n [] = mkD (20 - j) m acc ∧ Below w.heap.size w wr) (fun k _ _ => (intOf k).toNat)
  case atStart => exact ⟨0, n, [], by omega, by simp, by omega, by omega, rfl, rfl, rfl, Below.refl _ _⟩
  case round =>
    obtain ⟨j, m, acc, hj, ha, hm, hp, rfl, rfl, he, hb⟩ := hrel
    have HE : Hid (mkD 20 n [] = mkD (20 - j) m acc) := he
    have HP : Hid (m < 10 ^ (20 - j)) := hp
    clear he hp
    by_cases h0 : (0 : Int) < (m : Int)
    · obtain ⟨c, hc⟩ : ∃ c : UInt8, c = UInt8.ofNat (48 + m % 10) := ⟨_, rfl⟩
      have hcn : ((c.toNat : Nat) : Int) = 48 + (m : Int) % 10 := by
        rw [hc, UInt8.toNat_ofNat']; omega
      have hcv : (convert 22 9 (.slice (some ⟨wr.heap.size, 0, none⟩) 1 1)).run Try.prog (wr.alloc (.cells #[.int .u8 (48 + (m : Int) % 10)] 5)) = .ok (.string ⟨#[c]⟩) (wr.alloc (.cells #[.int .u8 (48 + (m : Int) % 10)] 5)) := by
        have := run_convert_bytes_back (P := Try.prog) (wr.alloc (.cells #[.int .u8 (48 + (m : Int) % 10)] 5)) 22 9 5 ⟨wr.heap.size, 0, none⟩ 1 [c] Try.underlying22 Try.underlying5 Try.underlying9 (by
          intro j hj
          have : j = 0 := by simpa using hj
          subst this
          simp [Addr.add, hcn])
        simpa using this
      have hz := hb.size
      have hj20 : j < 20 := by
        rcases Nat.lt_or_ge j 20 with h | h
        · exact h
        · have := HP.out; rw [show 20 - j = 0 from by omega] at this; omega
      have HN : Hid (mkD 20 n [] = mkD (20 - (j + 1)) (m / 10) (c :: acc)) := by
        show mkD 20 n [] = _
        rw [HE.out, show 20 - j = (20 - (j + 1)) + 1 from by omega, mkD, if_neg (by omega), ← hc]
      have HP2 : Hid (m / 10 < 10 ^ (20 - (j + 1))) := by
        show m / 10 < _
        have := HP.out
        rw [show 20 - j = (20 - (j + 1)) + 1 from by omega, Nat.pow_succ] at this
        omega
      clear hc hcn
      go_wp2
      go_roundw
      case rel => exact ⟨j + 1, m / 10, c :: acc, by omega, by simp; omega, by omega, HP2.out, by go_num, congrArg Value.string (bcat [c] acc), HN.out, hb.alloc hz _⟩
      case measure => simp [intOf]; omega
    · obtain rfl : m = 0 := by omega
      go_wp2
      go_ret
      refine ⟨?_, hb⟩
      rw [mkT_pos n (by omega), HE.out, mkD_zero]
      exact congrArg (fun s => Ending.returned (Value.string s)) (bcat [109] acc)

/-- The value v is a slice whose elements are the texts l. -/
def SL (w : World) (v : Value) (l : List ByteArray) : Prop :=
  ∃ a cap, v = .slice a l.length cap ∧ (l ≠ [] → ∃ b off, a = some ⟨b, off, none⟩ ∧ b < w.heap.size ∧ ∀ i (h : i < l.length), w.cell? ⟨b, off + i, none⟩ = some (.string l[i]))
theorem SL_of_owns {w : World} {base : Nat} {e : TypeId} {v : Value} {l : List ByteArray} (h : w.ownsRow base e 1 v l.length (l.map Value.string)) : SL w v l := by
  have h' := h
  obtain ⟨hl, h⟩ := h
  rcases h with ⟨rfl, h0⟩ | ⟨g, cap, cur, rfl, hbg, hh, hcap, hm, hsz, htk⟩
  · exact ⟨none, 0, by rw [h0], fun hne => absurd (List.length_eq_zero_iff.1 h0) hne⟩
  · refine ⟨_, cap, rfl, fun _ => ⟨g, 0, rfl, (Array.getElem?_eq_some_iff.1 hh).1, fun i hi => ?_⟩⟩
    rw [Nat.zero_add, h'.cellAt i (by omega)]
    simp [hi]

/-- Marks of a row of texts. -/
def mkLS (k : Int) (l : List ByteArray) : Nat → List ByteArray
  | 0 => l
  | j + 1 => (mkLS k l j).set j (mkT (k + j))
theorem mkLS_length (k : Int) (l : List ByteArray) (j : Nat) : (mkLS k l j).length = l.length := by
  induction j with
  | zero => rfl
  | succ j ih => simp [mkLS, ih]
theorem mkLS_get (k : Int) (l : List ByteArray) (j i : Nat) (hi : i < l.length) : (mkLS k l j)[i]? = if i < j then some (mkT (k + i)) else l[i]? := by
  induction j with
  | zero => simp [mkLS]
  | succ j ih =>
    simp only [mkLS]
    by_cases h : i = j
    · subst h
      rw [List.getElem?_set_self (by rw [mkLS_length]; exact hi), if_pos (by omega)]
    · rw [List.getElem?_set_ne (by omega), ih]
      by_cases h2 : i < j
      · rw [if_pos h2, if_pos (by omega)]
      · rw [if_neg h2, if_neg (by omega)]
def mkAllS (k : Int) (n : Nat) : List ByteArray := (List.range n).map fun i : Nat => mkT (k + (i : Int))
theorem mkAllS_length (k : Int) (n : Nat) : (mkAllS k n).length = n := by simp [mkAllS]
theorem mkLS_all (k : Int) (l : List ByteArray) : mkLS k l l.length = mkAllS k l.length := by
  apply List.ext_getElem?
  intro i
  by_cases hi : i < l.length
  · rw [mkLS_get k l _ i hi, if_pos hi]; simp [mkAllS, hi]
  · rw [List.getElem?_eq_none (by rw [mkLS_length]; omega), List.getElem?_eq_none (by rw [mkAllS_length]; omega)]

end Go.Proofs.Ytbgemebpfcbloaa
