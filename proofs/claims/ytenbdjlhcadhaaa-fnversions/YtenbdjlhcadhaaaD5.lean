/-
  The cursor's one, key, keys.
-/
import Derived.Test.YtenbdjlhcadhaaaD2ToD3
import Derived.Test.YtenbdjlhcadhaaaH1ToG1
import Derived.Deep.Cut
namespace Go.Proofs.Ytenbdjlhcadhaaa
open Go.RowKit
set_option maxRecDepth 100000
set_option linter.unusedVariables false

set_option maxRecDepth 100000 in
set_option maxHeartbeats 1000000 in
theorem one_any (b : Nat) (l : List UInt8) (K n : Nat) (w : World) (h : Cur w b l K) (hl : l.length ≤ 9223372036854775807) (hK : K ≤ 100000000) (hn : n ≤ 1000000) :
    Calls Try.prog 50 #[.pointer (some ⟨b, 0, none⟩), .int .i64 n] w fun e w' => (∃ x : Bool, e = .returned (.bool x)) ∧ Cur w' b l (K + 2) ∧ Chg (· = b) w w' := by
  go_enter Try.func50, Try.ntmps50
  go_wp2_with fail
  refine (pick_any b l K n _ h hl hK hn).mono ?_
  rintro e w1 ⟨⟨x, rfl, hx⟩, hc1, hch1⟩
  go_wp2
  go_ret
  exact ⟨⟨_, rfl⟩, hc1, hch1⟩

theorem sizes_snoc {L : List ByteArray} {t : ByteArray} (h : ∀ i (h : i < L.length), L[i].size ≤ 17) (ht : t.size ≤ 17) : ∀ i (h : i < (L ++ [t]).length), (L ++ [t])[i].size ≤ 17 := by
  intro i hi
  by_cases hl : i < L.length
  · rw [List.getElem_append_left hl]; exact h i hl
  · rw [List.getElem_append_right (by omega)]; simpa using ht
/-- What is left below B, with the cursor below B. -/
theorem cur_low {w w' : World} {b B : Nat} {l : List UInt8} {K : Nat} (h : Cur w b l K) (hB : b < B) (hb : Below B w w') : Cur w' b l K := by
  obtain ⟨v, k, sd, X, h1, h2, a, cap, rfl, hc⟩ := h
  refine ⟨_, k, sd, ⟨Nat.lt_of_lt_of_le X.1 hb.size, fun j u hu => (hb.cell (p := ⟨b, j, none⟩) hB).trans (X.2.1 j u hu), fun j => (hb.frozen (p := ⟨b, j, none⟩) hB).trans (X.2.2 j)⟩, h1, h2, a, cap, rfl, fun hl => ?_⟩
  obtain ⟨cb, off, ha, hcb, hne, hcell⟩ := hc hl
  exact ⟨cb, off, ha, Nat.lt_of_lt_of_le hcb hb.size, hne, fun i hi => (hb.cell (p := ⟨cb, off + i, none⟩) (show cb < B by omega)).trans (hcell i hi)⟩

theorem chg_below {S : Nat → Prop} {w w1 w2 : World} (h : Chg S w w1) (hb : Below w.heap.size w1 w2) : Chg S w w2 :=
  ⟨hb.os.trans h.os, hb.tape.trans h.tape, hb.output.trans h.output, Nat.le_trans h.size hb.size, fun k hk hs => (hb.block k hk).trans (h.block k hk hs)⟩


theorem two_bytes (p q : Nat) (w : World) (hp : p < 100) (hq : q < 100) : ∃ t : ByteArray, t.size ≤ 17 ∧ (convert 22 9 (.slice (some ⟨w.heap.size, 0, none⟩) 2 2)).run Try.prog (w.alloc (.cells #[.int .u8 (97 + (p : Int)), .int .u8 (97 + (q : Int))] 5)) = .ok (.string t) (w.alloc (.cells #[.int .u8 (97 + (p : Int)), .int .u8 (97 + (q : Int))] 5)) := by
  have hb := Box.new w #[.int .u8 (97 + (p : Int)), .int .u8 (97 + (q : Int))] 5
  have e1 : (97 + (p : Int)) = ((UInt8.ofNat (97 + p)).toNat : Int) := by rw [UInt8.toNat_ofNat']; omega
  have e2 : (97 + (q : Int)) = ((UInt8.ofNat (97 + q)).toNat : Int) := by rw [UInt8.toNat_ofNat']; omega
  have hw : Wr (w.alloc (.cells #[.int .u8 (97 + (p : Int)), .int .u8 (97 + (q : Int))] 5)) w.heap.size [UInt8.ofNat (97 + p), UInt8.ofNat (97 + q)] := by
    refine ⟨hb.1, fun j hj => ⟨?_, hb.2.2 j⟩⟩
    match j, hj with
    | 0, _ => rw [hb.2.1 0 _ rfl, e1]; rfl
    | 1, _ => rw [hb.2.1 1 _ rfl, e2]; rfl
  exact ⟨_, by show [UInt8.ofNat (97 + p), UInt8.ofNat (97 + q)].toArray.size ≤ 17; simp, conv_wr (cap := 2) (n := 2) hw rfl⟩
def keysB : List ByteArray := [⟨#[]⟩, ⟨#[49, 50, 51, 52, 53, 54, 55, 56, 57, 48, 49, 50, 51, 52, 53, 54, 55]⟩]
def keysA : List ByteArray := [⟨#[97]⟩, ⟨#[98]⟩, ⟨#[98, 97]⟩, ⟨#[99]⟩, ⟨#[99, 97, 114]⟩, ⟨#[100]⟩, ⟨#[101]⟩]
theorem keysB_le (x : ByteArray) (h : x ∈ keysB) : x.size ≤ 17 := by
  simp [keysB] at h
  rcases h with rfl | rfl <;> decide
theorem keysA_le (x : ByteArray) (h : x ∈ keysA) : x.size ≤ 17 := by
  simp [keysA] at h
  rcases h with rfl | rfl | rfl | rfl | rfl | rfl | rfl <;> decide
set_option maxRecDepth 100000 in
set_option maxHeartbeats 1000000 in
theorem key_any (b : Nat) (l : List UInt8) (K : Nat) (w : World) (h : Cur w b l K) (hl : l.length ≤ 9223372036854775807) (hK : K ≤ 1000000) :
    Calls Try.prog 99 #[.pointer (some ⟨b, 0, none⟩)] w fun e w' => (∃ t : ByteArray, e = .returned (.string t) ∧ t.size ≤ 17) ∧ Cur w' b l (K + 4) ∧ Chg (· = b) w w' := by
  have hbw := h.lt
  go_enter Try.func99, Try.ntmps99
  go_wp2_with fail
  refine (one_any b l K 60 _ h hl (by omega) (by omega)).mono ?_
  rintro e w1 ⟨⟨y, rfl⟩, hc1, hch1⟩
  have hb1 := hc1.lt
  cases y with
  | true =>
    go_wp2_with fail
    refine (of_any b l (K + 2) w1.heap.size keysB _ (hc1.chg (below_alloc _ _)) hl (by omega) (Box.new w1 #[.string ⟨#[]⟩, .string ⟨#[49, 50, 51, 52, 53, 54, 55, 56, 57, 48, 49, 50, 51, 52, 53, 54, 55]⟩] 9) (by omega) (by decide) (by decide)).mono ?_
    rintro e w2 ⟨⟨x, rfl, hx⟩, hc2, hch2⟩
    have hsz : Hid (x.size ≤ 17) := keysB_le x hx
    have hC := hch1.trans ((Chg.of_below (S := (· = b)) (below_alloc _ _)).trans hch2)
    clear hx
    go_wp2
    go_ret
    exact ⟨⟨_, rfl, hsz.out⟩, hc2, hC⟩
  | false =>
    go_wp2_with fail
    refine (of_any b l (K + 2) w1.heap.size keysA _ (hc1.chg (below_alloc _ _)) hl (by omega) (Box.new w1 #[.string ⟨#[97]⟩, .string ⟨#[98]⟩, .string ⟨#[98, 97]⟩, .string ⟨#[99]⟩, .string ⟨#[99, 97, 114]⟩, .string ⟨#[100]⟩, .string ⟨#[101]⟩] 9) (by omega) (by decide) (by decide)).mono ?_
    rintro e w2 ⟨⟨x, rfl, hx⟩, hc2, hch2⟩
    have hsz : Hid (x.size ≤ 17) := keysA_le x hx
    have hC := hch1.trans ((Chg.of_below (S := (· = b)) (below_alloc _ _)).trans hch2)
    clear hx
    go_wp2
    go_ret
    exact ⟨⟨_, rfl, hsz.out⟩, hc2, hC⟩

end Go.Proofs.Ytenbdjlhcadhaaa
