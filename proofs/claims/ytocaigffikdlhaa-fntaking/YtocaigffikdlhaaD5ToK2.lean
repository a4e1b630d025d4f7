/-
  The cursor's one, key, keys.
  NewSkip: both; slices of numbers: eqIntS, markIntS, heldIntS; the helpers of a list without towers.
-/
import Derived.Test.YtocaigffikdlhaaD2ToD3
import Derived.Test.YtocaigffikdlhaaG1
import Derived.Deep.Cut
import Derived.Test.YtocaigffikdlhaaV1ToE
import Derived.Test.YtocaigffikdlhaaCToL
namespace Go.Proofs.Ytocaigffikdlhaa
open Go.RowKit
set_option maxRecDepth 100000
set_option linter.unusedVariables false

set_option maxRecDepth 100000 in
set_option maxHeartbeats 1000000 in
theorem one_any (b : Nat) (l : List UInt8) (K n : Nat) (w : World) (h : Cur w b l K) (hl : l.length ≤ 9223372036854775807) (hK : K ≤ 100000000) (hn : n ≤ 1000000) :
    Calls Try.prog 62 #[.pointer (some ⟨b, 0, none⟩), .int .i64 n] w fun e w' => (∃ x : Bool, e = .returned (.bool x)) ∧ Cur w' b l (K + 2) ∧ Chg (· = b) w w' := by
  go_enter Try.func62, Try.ntmps62
  go_wp2_with fail
  refine (pick_any b l K n _ h hl hK hn).mono ?_
  rintro e w1 ⟨⟨x, rfl, hx⟩, hc1, hch1⟩
  go_wp2
  go_ret
  exact ⟨⟨_, rfl⟩, hc1, hch1⟩

theorem sizes_snoc {L : List ByteArray} {t : ByteArray} (h : ∀ i (h : i < L.length), L[i].size ≤ 17) (ht : t.size ≤ 17) : ∀ i (h : i < (L ++ [t]).length), (L ++ [t])[i].size ≤ 17 := by
  intro i hi
  by_cases hl : i < L.length
  · rw [List.getElem_append_left hl]; exact h i hl
  · rw [List.getElem_append_right (by omega)]; simpa using ht
/-- What is left below B, with the cursor below B. -/
theorem cur_low {w w' : World} {b B : Nat} {l : List UInt8} {K : Nat} (h : Cur w b l K) (hB : b < B) (hb : Below B w w') : Cur w' b l K := by
  obtain ⟨v, k, sd, X, h1, h2, a, cap, rfl, hc⟩ := h
  refine ⟨_, k, sd, ⟨Nat.lt_of_lt_of_le X.1 hb.size, fun j u hu => (hb.cell (p := ⟨b, j, none⟩) hB).trans (X.2.1 j u hu), fun j => (hb.frozen (p := ⟨b, j, none⟩) hB).trans (X.2.2 j)⟩, h1, h2, a, cap, rfl, fun hl => ?_⟩
  obtain ⟨cb, off, ha, hcb, hne, hcell⟩ := hc hl
  exact ⟨cb, off, ha, Nat.lt_of_lt_of_le hcb hb.size, hne, fun i hi => (hb.cell (p := ⟨cb, off + i, none⟩) (show cb < B by omega)).trans (hcell i hi)⟩

theorem chg_below {S : Nat → Prop} {w w1 w2 : World} (h : Chg S w w1) (hb : Below w.heap.size w1 w2) : Chg S w w2 :=
  ⟨hb.os.trans h.os, hb.tape.trans h.tape, hb.output.trans h.output, Nat.le_trans h.size hb.size, fun k hk hs => (hb.block k hk).trans (h.block k hk hs)⟩


theorem two_bytes (p q : Nat) (w : World) (hp : p < 100) (hq : q < 100) : ∃ t : ByteArray, t.size ≤ 17 ∧ (convert 22 9 (.slice (some ⟨w.heap.size, 0, none⟩) 2 2)).run Try.prog (w.alloc (.cells #[.int .u8 (97 + (p : Int)), .int .u8 (97 + (q : Int))] 5)) = .ok (.string t) (w.alloc (.cells #[.int .u8 (97 + (p : Int)), .int .u8 (97 + (q : Int))] 5)) := by
  have hb := Box.new w #[.int .u8 (97 + (p : Int)), .int .u8 (97 + (q : Int))] 5
  have e1 : (97 + (p : Int)) = ((UInt8.ofNat (97 + p)).toNat : Int) := by rw [UInt8.toNat_ofNat']; omega
  have e2 : (97 + (q : Int)) = ((UInt8.ofNat (97 + q)).toNat : Int) := by rw [UInt8.toNat_ofNat']; omega
  have hw : Wr (w.alloc (.cells #[.int .u8 (97 + (p : Int)), .int .u8 (97 + (q : Int))] 5)) w.heap.size [UInt8.ofNat (97 + p), UInt8.ofNat (97 + q)] := by
    refine ⟨hb.1, fun j hj => ⟨?_, hb.2.2 j⟩⟩
    match j, hj with
    | 0, _ => rw [hb.2.1 0 _ rfl, e1]; rfl
    | 1, _ => rw [hb.2.1 1 _ rfl, e2]; rfl
  exact ⟨_, by show [UInt8.ofNat (97 + p), UInt8.ofNat (97 + q)].toArray.size ≤ 17; simp, conv_wr (cap := 2) (n := 2) hw rfl⟩
def keysB : List ByteArray := [⟨#[]⟩, ⟨#[49, 50, 51, 52, 53, 54, 55, 56, 57, 48, 49, 50, 51, 52, 53, 54, 55]⟩]
def keysA : List ByteArray := [⟨#[97]⟩, ⟨#[98]⟩, ⟨#[98, 97]⟩, ⟨#[99]⟩, ⟨#[99, 97, 114]⟩, ⟨#[100]⟩, ⟨#[101]⟩]
theorem keysB_le (x : ByteArray) (h : x ∈ keysB) : x.size ≤ 17 := by
  simp [keysB] at h
  rcases h with rfl | rfl <;> decide
theorem keysA_le (x : ByteArray) (h : x ∈ keysA) : x.size ≤ 17 := by
  simp [keysA] at h
  rcases h with rfl | rfl | rfl | rfl | rfl | rfl | rfl <;> decide
end Go.Proofs.Ytocaigffikdlhaa

namespace Go.Proofs.Ytocaigffikdlhaa
open Go.RowKit
set_option linter.unusedVariables false
set_option maxRecDepth 100000

theorem Box.under {w w' : World} {b B : Nat} {vs : List Value} (h : Box w b vs) (hb : Below B w w') (hB : b < B) : Box w' b vs :=
  ⟨Nat.lt_of_lt_of_le h.1 hb.size, fun j v hv => (hb.cell (p := ⟨b, j, none⟩) hB).trans (h.2.1 j v hv), fun j => (hb.frozen (p := ⟨b, j, none⟩) hB).trans (h.2.2 j)⟩

/-- The value v is a slice of the numbers zs. -/
def IL (w : World) (v : Value) (zs : List Int) : Prop :=
  ∃ a cap, v = .slice a zs.length cap ∧ (zs ≠ [] → ∃ b off, a = some ⟨b, off, none⟩ ∧ b < w.heap.size ∧ ∀ i (h : i < zs.length), w.cell? ⟨b, off + i, none⟩ = some (.int .i64 zs[i]))
theorem IL.below {w w' : World} {v : Value} {zs : List Int} (h : IL w v zs) (hb : Below w.heap.size w w') : IL w' v zs := by
  obtain ⟨a, cap, hv, hc⟩ := h
  refine ⟨a, cap, hv, fun hl => ?_⟩
  obtain ⟨b, off, ha, hbl, hcell⟩ := hc hl
  exact ⟨b, off, ha, Nat.lt_of_lt_of_le hbl hb.size, fun i hi => (hb.cell (p := ⟨b, off + i, none⟩) hbl).trans (hcell i hi)⟩
theorem IL_of_box {w : World} {g cap : Nat} {zs : List Int} (h : Box w g (zs.map (.int .i64))) : IL w (.slice (some ⟨g, 0, none⟩) zs.length cap) zs :=
  ⟨_, _, rfl, fun _ => ⟨g, 0, rfl, h.1, fun i hi => h.2.1 _ _ (by simp [hi])⟩⟩
theorem IL_of_owns {w : World} {base n : Nat} {v : Value} {zs : List Int} (h : w.ownsRow base 3 1 v n (zs.map (.int .i64))) (hn : n = zs.length) : IL w v zs := by
  have h' := h
  obtain ⟨hl, h⟩ := h
  rcases h with ⟨rfl, h0⟩ | ⟨g, cap, cur, rfl, hbg, hh, hcap, hm, hsz, htk⟩
  · refine ⟨none, 0, by rw [← hn, h0], fun hne => absurd (List.length_eq_zero_iff.1 (by omega)) hne⟩
  · refine ⟨_, cap, by rw [hn], fun _ => ⟨g, 0, rfl, (Array.getElem?_eq_some_iff.1 hh).1, fun i hi => ?_⟩⟩
    rw [Nat.zero_add, h'.cellAt i (by omega)]; simp [hi]

/-- Marks from k on. -/
def mkI (k : Int) (n : Nat) : List Value := (List.range n).map fun i : Nat => .int .i64 (k + (i : Int))
theorem mkI_length (k : Int) (n : Nat) : (mkI k n).length = n := by simp [mkI]
theorem mkI_at (k : Int) (n i : Nat) (h : i < n) : (mkI k n)[i]? = some (.int .i64 (k + (i : Int))) := by simp [mkI, h]
def mkJ (l : List Value) (k : Int) (j : Nat) : List Value := (mkI k l.length).take j ++ l.drop j
theorem mkJ_length (l : List Value) (k : Int) (j : Nat) (h : j ≤ l.length) : (mkJ l k j).length = l.length := by
  unfold mkJ
  rw [List.length_append, List.length_take, List.length_drop, mkI_length]; omega
theorem mkJ_set (l : List Value) (k : Int) (j : Nat) (h : j < l.length) : (mkJ l k j).set j (.int .i64 (k + (j : Int))) = mkJ l k (j + 1) := by
  unfold mkJ
  have h1 : ((mkI k l.length).take j).length = j := by rw [List.length_take, mkI_length]; omega
  have h2 : (mkI k l.length)[j]'(by rw [mkI_length]; exact h) = .int .i64 (k + (j : Int)) := by simp [mkI]
  rw [List.set_append_right _ _ (by omega), h1, Nat.sub_self, List.take_succ_eq_append_getElem (by rw [mkI_length]; exact h), h2, List.drop_eq_getElem_cons h, List.set_cons_zero, List.append_assoc]
  rfl
theorem mkJ_all (l : List Value) (k : Int) : mkJ l k l.length = mkI k l.length := by
  unfold mkJ
  rw [List.take_of_length_le (by rw [mkI_length]; omega), List.drop_eq_nil_of_le (by omega), List.append_nil]

end Go.Proofs.Ytocaigffikdlhaa
