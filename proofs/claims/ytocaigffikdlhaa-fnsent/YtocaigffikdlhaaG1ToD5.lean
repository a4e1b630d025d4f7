/-
  Slices of texts that came in: szStringS, toStringS; spec.FramesBytes, impl.FramesBytes.
  The cursor's one, key, keys.
-/
import Derived.Test.YtocaigffikdlhaaEToH1
import Derived.SliceStrings
import Derived.Test.YtocaigffikdlhaaD2ToD3
import Derived.Deep.Cut
namespace Go.Proofs.Ytocaigffikdlhaa
open Go.RowKit
set_option linter.unusedVariables false

theorem Try.info9g : (Try.prog.info? 9).map (fun i => (i.zero, i.size, i.bytes)) = some (some (.string ⟨#[]⟩), 1, 16) := by kernel_rfl
theorem SL.below {w w' : World} {v : Value} {l : List ByteArray} (h : SL w v l) (hb : Below w.heap.size w w') : SL w' v l := by
  obtain ⟨a, cap, hv, hc⟩ := h
  refine ⟨a, cap, hv, fun hl => ?_⟩
  obtain ⟨b, off, ha, hbl, hcell⟩ := hc hl
  exact ⟨b, off, ha, Nat.lt_of_lt_of_le hbl hb.size, fun i hi => (hb.cell (p := ⟨b, off + i, none⟩) hbl).trans (hcell i hi)⟩

def totS : List ByteArray → Nat
  | [] => 0
  | x :: r => x.size + totS r
theorem totS_take_succ (l : List ByteArray) (k : Nat) (h : k < l.length) : totS (l.take (k + 1)) = totS (l.take k) + l[k].size := by
  induction l generalizing k with
  | nil => simp at h
  | cons x r ih =>
    cases k with
    | zero => simp [totS]
    | succ k =>
      simp only [List.take_succ_cons, totS, List.getElem_cons_succ]
      rw [ih k (by simpa using h)]; omega

set_option maxRecDepth 100000 in
set_option maxHeartbeats 1000000 in
theorem szStringS_any (v : Value) (l : List ByteArray) (left : Int) (w : World) (hv : SL w v l) (h0 : 0 ≤ left) (h1 : left ≤ 1048576) (hn : l.length ≤ maxLen) (hs : ∀ i (h : i < l.length), l[i].size ≤ maxLen) :
    Calls Try.prog 31 #[v, .int .i64 left] w fun e w' => (∃ r : Int, e = .returned (.int .i64 r) ∧ (r = -1 ∨ (0 ≤ r ∧ (totS l : Int) + l.length + r = left))) ∧ w' = w := by
  obtain ⟨a, cap, rfl, hc⟩ := hv
  unfold maxLen at hn hs
  by_cases hl : l.length ≤ left
  · go_enter Try.func31, Try.ntmps31
    go_wp2
    go_loopw [1, 5] (fun t i wr => ∃ k : Nat, k ≤ l.length ∧ i = .int .i64 k ∧ (totS (l.take k) : Int) ≤ left - l.length ∧ t = .int .i64 (left - l.length - totS (l.take k)) ∧ wr = w) (fun _ i _ => l.length - (intOf i).toNat)
    case atStart => exact ⟨0, Nat.zero_le _, rfl, by simp [totS]; omega, by simp [totS], rfl⟩
    case round =>
      obtain ⟨k, hk, rfl, ht, rfl, rfl⟩ := hrel
      by_cases hlt : k < l.length
      · obtain ⟨b, off, rfl, hbl, hcell⟩ := hc (by intro e; simp [e] at hlt)
        obtain ⟨s, hse⟩ : ∃ s, s = l[k] := ⟨_, rfl⟩
        have hc0 : wr.cell? ⟨b, off + k, none⟩ = some (.string s) := by rw [hse]; exact hcell k hlt
        have hss : s.size ≤ 9223372036854775807 := by rw [hse]; exact hs k hlt
        have HT : Hid (totS (l.take (k + 1)) = totS (l.take k) + s.size) := by rw [hse]; exact totS_take_succ l k hlt
        clear hcell hs hse hc
        generalize totS (l.take k) = T at *
        by_cases hle : (s.size : Int) ≤ left - l.length - T
        · go_wp2
          go_roundw
          case rel => exact ⟨k + 1, by omega, by go_num, by rw [HT.out]; omega, by rw [HT.out]; go_num, trivial⟩
          case measure => simp [intOf]; omega
        · go_wp2
          go_ret
          exact ⟨⟨-1, rfl, .inl rfl⟩, rfl⟩
      · have hkk : k = l.length := by omega
        subst hkk
        rw [List.take_length] at ht ⊢
        go_wp2
        go_ret
        exact ⟨⟨_, rfl, .inr ⟨by omega, by omega⟩⟩, rfl⟩
  · go_enter Try.func31, Try.ntmps31
    go_wp2
    go_ret
    exact ⟨⟨-1, rfl, .inl rfl⟩, rfl⟩

/-- The first k of a list of texts, and empty ones for the rest. -/
def partS (l : List ByteArray) (k : Nat) : List ByteArray := l.take k ++ List.replicate (l.length - k) ⟨#[]⟩
theorem partS_zero (l : List ByteArray) : partS l 0 = List.replicate l.length ⟨#[]⟩ := by simp [partS]
theorem partS_all (l : List ByteArray) : partS l l.length = l := by simp [partS]
theorem partS_at (l : List ByteArray) (k : Nat) (h : k < l.length) : (partS l k)[k]? = some ⟨#[]⟩ := by
  unfold partS
  rw [List.getElem?_append_right (by simp; omega)]
  simp only [List.length_take, List.getElem?_replicate]
  rw [if_pos (by omega)]
theorem partS_set (l : List ByteArray) (k : Nat) (h : k < l.length) : (partS l k).set k l[k] = partS l (k + 1) := by
  unfold partS
  have hl : (l.take k).length = k := by rw [List.length_take]; omega
  rw [List.set_append_right _ _ (by omega), hl, Nat.sub_self, List.take_succ_eq_append_getElem h, show l.length - k = (l.length - (k + 1)) + 1 from by omega, List.replicate_succ, List.set_cons_zero, List.append_assoc]
  rfl
theorem madeS (n : Nat) : (madeCells (Value.string ⟨#[]⟩).cells (n * 1)).toList = (List.replicate n (⟨#[]⟩ : ByteArray)).map Value.string := by
  have h : (Value.string ⟨#[]⟩).cells = #[.string ⟨#[]⟩] := rfl
  rw [h]
  apply List.ext_getElem?
  intro i
  by_cases hi : i < n
  · simp [madeCells, hi, Nat.mod_one]
  · rw [List.getElem?_eq_none (by simp [madeCells]; omega), List.getElem?_eq_none (by simp; omega)]

set_option maxRecDepth 100000 in
set_option maxHeartbeats 1000000 in
theorem toStringS_any (v : Value) (l : List ByteArray) (w : World) (hv : SL w v l) (hn : l.length ≤ 1048576) :
    Calls Try.prog 33 #[v] w fun e w' => e = .returned (.slice (some ⟨w.heap.size, 0, none⟩) l.length l.length) ∧ w'.ownsRow w.heap.size 9 1 (.slice (some ⟨w.heap.size, 0, none⟩) l.length l.length) l.length (l.map Value.string) ∧ Below w.heap.size w w' := by
  obtain ⟨a, cap, rfl, hc⟩ := hv
  obtain ⟨i0, hi, hz0, hz1, hz2⟩ := info_parts Try.info9g
  go_enter Try.func33, Try.ntmps33
  go_wp2_with (at_make; refine wpList_make_full _ rfl _ _ 23 rfl w.heap.size 9 i0 _ 1 Try.underlying23 hi hz0 hz1 .i64 .i64 _ _ l.length rfl rfl rfl rfl (by rw [hz2]; omega) (by unfold maxLen; omega) (Nat.le_refl _) ?_; intro w0 hown0 hgr0)
  rw [madeS, ← partS_zero] at hown0
  have hb0 : Below w.heap.size w w0 := (Below.refl _ _).grown hgr0 (Nat.le_refl _) (by simp)
  have hlt0 : w.heap.size < w0.heap.size := (owns_lt hown0).2
  clear hgr0 hi hz0 hz1 hz2
  go_loopw [4] (fun i wr => ∃ k : Nat, k ≤ l.length ∧ i = .int .i64 k ∧ wr.ownsRow w.heap.size 9 1 (.slice (some ⟨w.heap.size, 0, none⟩) l.length l.length) l.length ((partS l k).map Value.string) ∧ Below w.heap.size w wr) (fun i _ => l.length - (intOf i).toNat)
  case atStart => exact ⟨0, Nat.zero_le _, rfl, hown0, hb0⟩
  case round =>
    obtain ⟨k, hk, rfl, hown, hb⟩ := hrel
    clear hown0 hb0 hlt0
    by_cases hlt : k < l.length
    · obtain ⟨b, off, rfl, hbl, hcell⟩ := hc (by intro e; simp [e] at hlt)
      obtain ⟨s, hse⟩ : ∃ s, s = l[k] := ⟨_, rfl⟩
      have hc0 : wr.cell? ⟨b, off + k, none⟩ = some (.string s) := by rw [hse]; exact (hb.cell (p := ⟨b, off + k, none⟩) hbl).trans (hcell k hlt)
      have HS : Hid (((partS l k).map Value.string).set k (.string s) = (partS l (k + 1)).map Value.string) := by
        show _ = _
        rw [hse, ← partS_set l k hlt, List.map_set]
      have d0 : wr.cell? ⟨w.heap.size, k, none⟩ = some (.string ⟨#[]⟩) := by rw [hown.cellAt k (by omega), List.getElem?_map, partS_at l k hlt]; rfl
      have f0 : wr.frozen? ⟨w.heap.size, k, none⟩ = false := hown.frozenAt _
      have hlt1 := (owns_lt hown).2
      have HO : Hid _ := (hown.stored k (.string s)).1
      clear hcell hse hc hown
      have hz := hb.size
      go_wp2
      go_roundw
      case rel => exact ⟨k + 1, by omega, by go_num, by rw [← HS.out]; exact HO.out, hb.setCell (by simp) _⟩
      case measure => simp [intOf]; omega
    · go_wp2
      go_ret
      have : k = l.length := by omega
      subst this
      rw [partS_all] at hown
      exact ⟨rfl, hown, hb⟩

end Go.Proofs.Ytocaigffikdlhaa

namespace Go.Proofs.Ytocaigffikdlhaa
open Go.RowKit
set_option maxRecDepth 100000
set_option linter.unusedVariables false

set_option maxRecDepth 100000 in
set_option maxHeartbeats 1000000 in
theorem one_any (b : Nat) (l : List UInt8) (K n : Nat) (w : World) (h : Cur w b l K) (hl : l.length ≤ 9223372036854775807) (hK : K ≤ 100000000) (hn : n ≤ 1000000) :
    Calls Try.prog 62 #[.pointer (some ⟨b, 0, none⟩), .int .i64 n] w fun e w' => (∃ x : Bool, e = .returned (.bool x)) ∧ Cur w' b l (K + 2) ∧ Chg (· = b) w w' := by
  go_enter Try.func62, Try.ntmps62
  go_wp2_with fail
  refine (pick_any b l K n _ h hl hK hn).mono ?_
  rintro e w1 ⟨⟨x, rfl, hx⟩, hc1, hch1⟩
  go_wp2
  go_ret
  exact ⟨⟨_, rfl⟩, hc1, hch1⟩

theorem sizes_snoc {L : List ByteArray} {t : ByteArray} (h : ∀ i (h : i < L.length), L[i].size ≤ 17) (ht : t.size ≤ 17) : ∀ i (h : i < (L ++ [t]).length), (L ++ [t])[i].size ≤ 17 := by
  intro i hi
  by_cases hl : i < L.length
  · rw [List.getElem_append_left hl]; exact h i hl
  · rw [List.getElem_append_right (by omega)]; simpa using ht
/-- What is left below B, with the cursor below B. -/
theorem cur_low {w w' : World} {b B : Nat} {l : List UInt8} {K : Nat} (h : Cur w b l K) (hB : b < B) (hb : Below B w w') : Cur w' b l K := by
  obtain ⟨v, k, sd, X, h1, h2, a, cap, rfl, hc⟩ := h
  refine ⟨_, k, sd, ⟨Nat.lt_of_lt_of_le X.1 hb.size, fun j u hu => (hb.cell (p := ⟨b, j, none⟩) hB).trans (X.2.1 j u hu), fun j => (hb.frozen (p := ⟨b, j, none⟩) hB).trans (X.2.2 j)⟩, h1, h2, a, cap, rfl, fun hl => ?_⟩
  obtain ⟨cb, off, ha, hcb, hne, hcell⟩ := hc hl
  exact ⟨cb, off, ha, Nat.lt_of_lt_of_le hcb hb.size, hne, fun i hi => (hb.cell (p := ⟨cb, off + i, none⟩) (show cb < B by omega)).trans (hcell i hi)⟩

theorem chg_below {S : Nat → Prop} {w w1 w2 : World} (h : Chg S w w1) (hb : Below w.heap.size w1 w2) : Chg S w w2 :=
  ⟨hb.os.trans h.os, hb.tape.trans h.tape, hb.output.trans h.output, Nat.le_trans h.size hb.size, fun k hk hs => (hb.block k hk).trans (h.block k hk hs)⟩


theorem two_bytes (p q : Nat) (w : World) (hp : p < 100) (hq : q < 100) : ∃ t : ByteArray, t.size ≤ 17 ∧ (convert 22 9 (.slice (some ⟨w.heap.size, 0, none⟩) 2 2)).run Try.prog (w.alloc (.cells #[.int .u8 (97 + (p : Int)), .int .u8 (97 + (q : Int))] 5)) = .ok (.string t) (w.alloc (.cells #[.int .u8 (97 + (p : Int)), .int .u8 (97 + (q : Int))] 5)) := by
  have hb := Box.new w #[.int .u8 (97 + (p : Int)), .int .u8 (97 + (q : Int))] 5
  have e1 : (97 + (p : Int)) = ((UInt8.ofNat (97 + p)).toNat : Int) := by rw [UInt8.toNat_ofNat']; omega
  have e2 : (97 + (q : Int)) = ((UInt8.ofNat (97 + q)).toNat : Int) := by rw [UInt8.toNat_ofNat']; omega
  have hw : Wr (w.alloc (.cells #[.int .u8 (97 + (p : Int)), .int .u8 (97 + (q : Int))] 5)) w.heap.size [UInt8.ofNat (97 + p), UInt8.ofNat (97 + q)] := by
    refine ⟨hb.1, fun j hj => ⟨?_, hb.2.2 j⟩⟩
    match j, hj with
    | 0, _ => rw [hb.2.1 0 _ rfl, e1]; rfl
    | 1, _ => rw [hb.2.1 1 _ rfl, e2]; rfl
  exact ⟨_, by show [UInt8.ofNat (97 + p), UInt8.ofNat (97 + q)].toArray.size ≤ 17; simp, conv_wr (cap := 2) (n := 2) hw rfl⟩
def keysB : List ByteArray := [⟨#[]⟩, ⟨#[49, 50, 51, 52, 53, 54, 55, 56, 57, 48, 49, 50, 51, 52, 53, 54, 55]⟩]
def keysA : List ByteArray := [⟨#[97]⟩, ⟨#[98]⟩, ⟨#[98, 97]⟩, ⟨#[99]⟩, ⟨#[99, 97, 114]⟩, ⟨#[100]⟩, ⟨#[101]⟩]
theorem keysB_le (x : ByteArray) (h : x ∈ keysB) : x.size ≤ 17 := by
  simp [keysB] at h
  rcases h with rfl | rfl <;> decide
theorem keysA_le (x : ByteArray) (h : x ∈ keysA) : x.size ≤ 17 := by
  simp [keysA] at h
  rcases h with rfl | rfl | rfl | rfl | rfl | rfl | rfl <;> decide
end Go.Proofs.Ytocaigffikdlhaa
