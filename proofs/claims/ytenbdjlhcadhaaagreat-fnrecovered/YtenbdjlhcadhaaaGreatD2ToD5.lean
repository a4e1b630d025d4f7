/-
  spec.DrawSumOf, spec.DrawSumOn, laws.numberOf; bytes of a text that may be written.
  The cursor's among and of; spec.DrawVarBytes, spec.DrawTakeVar.
  Slices of texts that came in: szStringS, toStringS; spec.FramesBytes, impl.FramesBytes.
  The cursor's one, key, keys.
-/
import Derived.Test.YtenbdjlhcadhaaaGreatF4ToD1
import Derived.Test.YtenbdjlhcadhaaaGreatRV0ToH1
import Derived.SliceStrings
import Derived.Deep.Cut
namespace Go.Proofs.YtenbdjlhcadhaaaGreat
open Go.RowKit
set_option maxRecDepth 100000
set_option linter.unusedVariables false

/-- The value v is a slice whose elements are the bytes l. -/
def YL (w : World) (v : Value) (l : List UInt8) : Prop :=
  ∃ a cap, v = .slice a l.length cap ∧ (l ≠ [] → ∃ cb off, a = some ⟨cb, off, none⟩ ∧ cb < w.heap.size ∧ ∀ i (h : i < l.length), w.cell? ⟨cb, off + i, none⟩ = some (.int .u8 (l[i].toNat : Int)))
theorem YL.below {w w' : World} {v : Value} {l : List UInt8} (h : YL w v l) (hb : Below w.heap.size w w') : YL w' v l := by
  obtain ⟨a, cap, hv, hc⟩ := h
  refine ⟨a, cap, hv, fun hl => ?_⟩
  obtain ⟨b, off, ha, hbl, hcell⟩ := hc hl
  exact ⟨b, off, ha, Nat.lt_of_lt_of_le hbl hb.size, fun i hi => (hb.cell (p := ⟨b, off + i, none⟩) hbl).trans (hcell i hi)⟩
theorem cur_new {w : World} {v : Value} {l : List UInt8} (h : YL w v l) : Cur (w.alloc (.cells #[v, .int .i64 0, .int .u64 0] 51)) w.heap.size l 0 := by
  have hb := below_alloc w (.cells #[v, .int .i64 0, .int .u64 0] 51)
  refine ⟨v, 0, 0, Box.new w #[v, .int .i64 0, .int .u64 0] 51, by omega, by omega, ?_⟩
  obtain ⟨a, cap, rfl, hc⟩ := h
  refine ⟨a, cap, rfl, fun hl => ?_⟩
  obtain ⟨cb, off, ha, hbl, hcell⟩ := hc hl
  exact ⟨cb, off, ha, Nat.lt_of_lt_of_le hbl hb.size, hbl, fun i hi => (hb.cell (p := ⟨cb, off + i, none⟩) hbl).trans (hcell i hi)⟩
theorem below_cur {w w1 w2 : World} (hb : Below w.heap.size w w1) (hc : Chg (· = w.heap.size) w1 w2) : Below w.heap.size w w2 :=
  hb.trans (hc.below hb.size (fun k hk => by omega))

/-- Block g holds the bytes m; they may be written. -/
def Wr (w : World) (g : Nat) (m : List UInt8) : Prop := g < w.heap.size ∧ ∀ j (h : j < m.length), w.cell? ⟨g, j, none⟩ = some (.int .u8 (m[j].toNat : Int)) ∧ w.frozen? ⟨g, j, none⟩ = false
theorem Wr.below {w w' : World} {g : Nat} {m : List UInt8} (h : Wr w g m) (hb : Below w.heap.size w w') : Wr w' g m :=
  ⟨Nat.lt_of_lt_of_le h.1 hb.size, fun j hj => ⟨(hb.cell (p := ⟨g, j, none⟩) h.1).trans (h.2 j hj).1, (hb.frozen (p := ⟨g, j, none⟩) h.1).trans (h.2 j hj).2⟩⟩
theorem Wr.set {w : World} {g : Nat} {m : List UInt8} (h : Wr w g m) (i : Nat) (hi : i < m.length) (c : UInt8) : Wr (w.setCell ⟨g, i, none⟩ (.int .u8 (c.toNat : Int))) g (m.set i c) := by
  refine ⟨by simpa using h.1, fun j hj => ⟨?_, by simpa using (h.2 j (by simpa using hj)).2⟩⟩
  by_cases hji : j = i
  · subst hji
    rw [World.cell?_setCell_same _ _ _ (h.2 j hi).1, List.getElem_set_self]
  · rw [World.cell?_setCell_other _ _ _ _ (fun e => hji (congrArg Addr.off e).symm), List.getElem_set_ne (by omega)]
    exact (h.2 j (by simpa using hj)).1
theorem bytes_of (s : ByteArray) (w : World) : ∃ cap W', (convert 9 22 (.string s)).run Tryz.prog w = .ok (.slice (some ⟨w.heap.size, 0, none⟩) s.size cap) W' ∧ Wr W' w.heap.size s.data.toList ∧ Below w.heap.size w W' := by
  refine ⟨_, _, run_bytes_of_string w 9 22 5 s Tryz.underlying9 Tryz.underlying22 Tryz.underlying5, ⟨?_, fun j hj => ?_⟩, (Below.refl _ _).drew.alloc (Nat.le_refl _) _⟩
  · simp
  · have hj' : j < s.data.size := by simpa using hj
    refine ⟨?_, ?_⟩
    · refine (World.cell?_alloc_mark w.drew _ _ _ j).trans ?_
      rw [bytesRow_at s _ j hj']; simp
    · refine (World.frozen?_alloc_mark w.drew _ _ _ _ j).trans ?_
      have hsz : s.data.size ≤ (bytesRow s (grownCap w s.size 0 5)).size := by
        unfold bytesRow
        rw [Array.size_append, Array.size_map]; omega
      rw [decide_eq_false (by omega), Bool.false_and]
theorem conv_wr {w : World} {g cap n : Nat} {m : List UInt8} (h : Wr w g m) (hn : m.length = n) : (convert 22 9 (.slice (some ⟨g, 0, none⟩) n cap)).run Tryz.prog w = .ok (.string ⟨m.toArray⟩) w := by
  subst hn
  have := run_convert_bytes_back (P := Tryz.prog) w 22 9 5 ⟨g, 0, none⟩ cap m Tryz.underlying22 Tryz.underlying5 Tryz.underlying9 (by
    intro j hj
    rw [show (⟨g, 0, none⟩ : Addr).add j = ⟨g, j, none⟩ from by simp [Addr.add]; omega]
    exact (h.2 j hj).1)
  simpa using this
end Go.Proofs.YtenbdjlhcadhaaaGreat

namespace Go.Proofs.YtenbdjlhcadhaaaGreat
open Go.RowKit
set_option maxRecDepth 100000
set_option linter.unusedVariables false

set_option maxRecDepth 100000 in
set_option maxHeartbeats 1000000 in
theorem among_any (b : Nat) (l : List UInt8) (K g : Nat) (xs : List Int) (w : World) (h : Cur w b l K) (hl : l.length ≤ 9223372036854775807) (hK : K ≤ 10000000) (hx : Box w g (xs.map (Value.int .i64))) (hg : g ≠ b) (h0 : 0 < xs.length) (h1 : xs.length ≤ 1000) :
    Calls Tryz.prog 51 #[.pointer (some ⟨b, 0, none⟩), .slice (some ⟨g, 0, none⟩) xs.length xs.length] w fun e w' => (∃ x, e = .returned (.int .i64 x) ∧ x ∈ xs) ∧ Cur w' b l (K + 2) ∧ Chg (· = b) w w' := by
  go_enter Tryz.func51, Tryz.ntmps51
  go_wp2_with fail
  refine (pick_any b l K xs.length _ h hl (by omega) (by omega)).mono ?_
  rintro e w1 ⟨⟨x, rfl, hxl⟩, hc1, hch1⟩
  have hlt : x < xs.length := by omega
  have hx1 := hch1.box hx hg
  have d0 := hx1.2.1 x (.int .i64 xs[x]) (by simp [hlt])
  have hgl := hx1.1
  obtain ⟨y, hy⟩ : ∃ y, y = xs[x] := ⟨_, rfl⟩
  have hmem : Hid (y ∈ xs) := by rw [hy]; exact List.getElem_mem _
  rw [← hy] at d0
  clear hy hx hx1
  go_wp2
  go_ret
  exact ⟨⟨y, rfl, hmem.out⟩, hc1, hch1⟩

set_option maxRecDepth 100000 in
set_option maxHeartbeats 1000000 in
theorem of_any (b : Nat) (l : List UInt8) (K g : Nat) (xs : List ByteArray) (w : World) (h : Cur w b l K) (hl : l.length ≤ 9223372036854775807) (hK : K ≤ 10000000) (hx : Box w g (xs.map Value.string)) (hg : g ≠ b) (h0 : 0 < xs.length) (h1 : xs.length ≤ 1000) :
    Calls Tryz.prog 79 #[.pointer (some ⟨b, 0, none⟩), .slice (some ⟨g, 0, none⟩) xs.length xs.length] w fun e w' => (∃ x, e = .returned (.string x) ∧ x ∈ xs) ∧ Cur w' b l (K + 2) ∧ Chg (· = b) w w' := by
  go_enter Tryz.func79, Tryz.ntmps79
  go_wp2_with fail
  refine (pick_any b l K xs.length _ h hl (by omega) (by omega)).mono ?_
  rintro e w1 ⟨⟨x, rfl, hxl⟩, hc1, hch1⟩
  have hlt : x < xs.length := by omega
  have hx1 := hch1.box hx hg
  have d0 := hx1.2.1 x (.string xs[x]) (by simp [hlt])
  have hgl := hx1.1
  obtain ⟨y, hy⟩ : ∃ y, y = xs[x] := ⟨_, rfl⟩
  have hmem : Hid (y ∈ xs) := by rw [hy]; exact List.getElem_mem _
  rw [← hy] at d0
  clear hy hx hx1
  go_wp2
  go_ret
  exact ⟨⟨y, rfl, hmem.out⟩, hc1, hch1⟩

theorem varT_le (n : Int) (h : n ≤ 9223372036854775807) : (varT n).size ≤ 9 := by
  by_cases h0 : 0 ≤ n
  · obtain ⟨k, rfl⟩ := Int.eq_ofNat_of_zero_le h0
    rw [varT_nat]
    have := varL_len 8 k (by simpa using (show k < 9223372036854775808 from by omega))
    show (varL k).toArray.size ≤ 9
    simpa using this
  · rw [varT_neg n (by omega)]; exact Nat.zero_le _

end Go.Proofs.YtenbdjlhcadhaaaGreat

namespace Go.Proofs.YtenbdjlhcadhaaaGreat
open Go.RowKit
set_option maxRecDepth 100000
set_option linter.unusedVariables false

theorem Tryz.info9g : (Tryz.prog.info? 9).map (fun i => (i.zero, i.size, i.bytes)) = some (some (.string ⟨#[]⟩), 1, 16) := by kernel_rfl
theorem SL.below {w w' : World} {v : Value} {l : List ByteArray} (h : SL w v l) (hb : Below w.heap.size w w') : SL w' v l := by
  obtain ⟨a, cap, hv, hc⟩ := h
  refine ⟨a, cap, hv, fun hl => ?_⟩
  obtain ⟨b, off, ha, hbl, hcell⟩ := hc hl
  exact ⟨b, off, ha, Nat.lt_of_lt_of_le hbl hb.size, fun i hi => (hb.cell (p := ⟨b, off + i, none⟩) hbl).trans (hcell i hi)⟩

def totS : List ByteArray → Nat
  | [] => 0
  | x :: r => x.size + totS r
theorem totS_take_succ (l : List ByteArray) (k : Nat) (h : k < l.length) : totS (l.take (k + 1)) = totS (l.take k) + l[k].size := by
  induction l generalizing k with
  | nil => simp at h
  | cons x r ih =>
    cases k with
    | zero => simp [totS]
    | succ k =>
      simp only [List.take_succ_cons, totS, List.getElem_cons_succ]
      rw [ih k (by simpa using h)]; omega

/-- The first k of a list of texts, and empty ones for the rest. -/
def partS (l : List ByteArray) (k : Nat) : List ByteArray := l.take k ++ List.replicate (l.length - k) ⟨#[]⟩
theorem partS_zero (l : List ByteArray) : partS l 0 = List.replicate l.length ⟨#[]⟩ := by simp [partS]
theorem partS_all (l : List ByteArray) : partS l l.length = l := by simp [partS]
theorem partS_at (l : List ByteArray) (k : Nat) (h : k < l.length) : (partS l k)[k]? = some ⟨#[]⟩ := by
  unfold partS
  rw [List.getElem?_append_right (by simp; omega)]
  simp only [List.length_take, List.getElem?_replicate]
  rw [if_pos (by omega)]
theorem partS_set (l : List ByteArray) (k : Nat) (h : k < l.length) : (partS l k).set k l[k] = partS l (k + 1) := by
  unfold partS
  have hl : (l.take k).length = k := by rw [List.length_take]; omega
  rw [List.set_append_right _ _ (by omega), hl, Nat.sub_self, List.take_succ_eq_append_getElem h, show l.length - k = (l.length - (k + 1)) + 1 from by omega, List.replicate_succ, List.set_cons_zero, List.append_assoc]
  rfl
theorem madeS (n : Nat) : (madeCells (Value.string ⟨#[]⟩).cells (n * 1)).toList = (List.replicate n (⟨#[]⟩ : ByteArray)).map Value.string := by
  have h : (Value.string ⟨#[]⟩).cells = #[.string ⟨#[]⟩] := rfl
  rw [h]
  apply List.ext_getElem?
  intro i
  by_cases hi : i < n
  · simp [madeCells, hi, Nat.mod_one]
  · rw [List.getElem?_eq_none (by simp [madeCells]; omega), List.getElem?_eq_none (by simp; omega)]

end Go.Proofs.YtenbdjlhcadhaaaGreat

namespace Go.Proofs.YtenbdjlhcadhaaaGreat
open Go.RowKit
set_option maxRecDepth 100000
set_option linter.unusedVariables false

set_option maxRecDepth 100000 in
set_option maxHeartbeats 1000000 in
theorem one_any (b : Nat) (l : List UInt8) (K n : Nat) (w : World) (h : Cur w b l K) (hl : l.length ≤ 9223372036854775807) (hK : K ≤ 100000000) (hn : n ≤ 1000000) :
    Calls Tryz.prog 33 #[.pointer (some ⟨b, 0, none⟩), .int .i64 n] w fun e w' => (∃ x : Bool, e = .returned (.bool x)) ∧ Cur w' b l (K + 2) ∧ Chg (· = b) w w' := by
  go_enter Tryz.func33, Tryz.ntmps33
  go_wp2_with fail
  refine (pick_any b l K n _ h hl hK hn).mono ?_
  rintro e w1 ⟨⟨x, rfl, hx⟩, hc1, hch1⟩
  go_wp2
  go_ret
  exact ⟨⟨_, rfl⟩, hc1, hch1⟩

theorem sizes_snoc {L : List ByteArray} {t : ByteArray} (h : ∀ i (h : i < L.length), L[i].size ≤ 17) (ht : t.size ≤ 17) : ∀ i (h : i < (L ++ [t]).length), (L ++ [t])[i].size ≤ 17 := by
  intro i hi
  by_cases hl : i < L.length
  · rw [List.getElem_append_left hl]; exact h i hl
  · rw [List.getElem_append_right (by omega)]; simpa using ht
/-- What is left below B, with the cursor below B. -/
theorem cur_low {w w' : World} {b B : Nat} {l : List UInt8} {K : Nat} (h : Cur w b l K) (hB : b < B) (hb : Below B w w') : Cur w' b l K := by
  obtain ⟨v, k, sd, X, h1, h2, a, cap, rfl, hc⟩ := h
  refine ⟨_, k, sd, ⟨Nat.lt_of_lt_of_le X.1 hb.size, fun j u hu => (hb.cell (p := ⟨b, j, none⟩) hB).trans (X.2.1 j u hu), fun j => (hb.frozen (p := ⟨b, j, none⟩) hB).trans (X.2.2 j)⟩, h1, h2, a, cap, rfl, fun hl => ?_⟩
  obtain ⟨cb, off, ha, hcb, hne, hcell⟩ := hc hl
  exact ⟨cb, off, ha, Nat.lt_of_lt_of_le hcb hb.size, hne, fun i hi => (hb.cell (p := ⟨cb, off + i, none⟩) (show cb < B by omega)).trans (hcell i hi)⟩

theorem chg_below {S : Nat → Prop} {w w1 w2 : World} (h : Chg S w w1) (hb : Below w.heap.size w1 w2) : Chg S w w2 :=
  ⟨hb.os.trans h.os, hb.tape.trans h.tape, hb.output.trans h.output, Nat.le_trans h.size hb.size, fun k hk hs => (hb.block k hk).trans (h.block k hk hs)⟩


theorem two_bytes (p q : Nat) (w : World) (hp : p < 100) (hq : q < 100) : ∃ t : ByteArray, t.size ≤ 17 ∧ (convert 22 9 (.slice (some ⟨w.heap.size, 0, none⟩) 2 2)).run Tryz.prog (w.alloc (.cells #[.int .u8 (97 + (p : Int)), .int .u8 (97 + (q : Int))] 5)) = .ok (.string t) (w.alloc (.cells #[.int .u8 (97 + (p : Int)), .int .u8 (97 + (q : Int))] 5)) := by
  have hb := Box.new w #[.int .u8 (97 + (p : Int)), .int .u8 (97 + (q : Int))] 5
  have e1 : (97 + (p : Int)) = ((UInt8.ofNat (97 + p)).toNat : Int) := by rw [UInt8.toNat_ofNat']; omega
  have e2 : (97 + (q : Int)) = ((UInt8.ofNat (97 + q)).toNat : Int) := by rw [UInt8.toNat_ofNat']; omega
  have hw : Wr (w.alloc (.cells #[.int .u8 (97 + (p : Int)), .int .u8 (97 + (q : Int))] 5)) w.heap.size [UInt8.ofNat (97 + p), UInt8.ofNat (97 + q)] := by
    refine ⟨hb.1, fun j hj => ⟨?_, hb.2.2 j⟩⟩
    match j, hj with
    | 0, _ => rw [hb.2.1 0 _ rfl, e1]; rfl
    | 1, _ => rw [hb.2.1 1 _ rfl, e2]; rfl
  exact ⟨_, by show [UInt8.ofNat (97 + p), UInt8.ofNat (97 + q)].toArray.size ≤ 17; simp, conv_wr (cap := 2) (n := 2) hw rfl⟩
def keysB : List ByteArray := [⟨#[]⟩, ⟨#[49, 50, 51, 52, 53, 54, 55, 56, 57, 48, 49, 50, 51, 52, 53, 54, 55]⟩]
def keysA : List ByteArray := [⟨#[97]⟩, ⟨#[98]⟩, ⟨#[98, 97]⟩, ⟨#[99]⟩, ⟨#[99, 97, 114]⟩, ⟨#[100]⟩, ⟨#[101]⟩]
theorem keysB_le (x : ByteArray) (h : x ∈ keysB) : x.size ≤ 17 := by
  simp [keysB] at h
  rcases h with rfl | rfl <;> decide
theorem keysA_le (x : ByteArray) (h : x ∈ keysA) : x.size ≤ 17 := by
  simp [keysA] at h
  rcases h with rfl | rfl | rfl | rfl | rfl | rfl | rfl <;> decide
set_option maxRecDepth 100000 in
set_option maxHeartbeats 1000000 in
theorem key_any (b : Nat) (l : List UInt8) (K : Nat) (w : World) (h : Cur w b l K) (hl : l.length ≤ 9223372036854775807) (hK : K ≤ 1000000) :
    Calls Tryz.prog 78 #[.pointer (some ⟨b, 0, none⟩)] w fun e w' => (∃ t : ByteArray, e = .returned (.string t) ∧ t.size ≤ 17) ∧ Cur w' b l (K + 4) ∧ Chg (· = b) w w' := by
  have hbw := h.lt
  go_enter Tryz.func78, Tryz.ntmps78
  go_wp2_with fail
  refine (one_any b l K 60 _ h hl (by omega) (by omega)).mono ?_
  rintro e w1 ⟨⟨y, rfl⟩, hc1, hch1⟩
  have hb1 := hc1.lt
  cases y with
  | true =>
    go_wp2_with fail
    refine (of_any b l (K + 2) w1.heap.size keysB _ (hc1.chg (below_alloc _ _)) hl (by omega) (Box.new w1 #[.string ⟨#[]⟩, .string ⟨#[49, 50, 51, 52, 53, 54, 55, 56, 57, 48, 49, 50, 51, 52, 53, 54, 55]⟩] 9) (by omega) (by decide) (by decide)).mono ?_
    rintro e w2 ⟨⟨x, rfl, hx⟩, hc2, hch2⟩
    have hsz : Hid (x.size ≤ 17) := keysB_le x hx
    have hC := hch1.trans ((Chg.of_below (S := (· = b)) (below_alloc _ _)).trans hch2)
    clear hx
    go_wp2
    go_ret
    exact ⟨⟨_, rfl, hsz.out⟩, hc2, hC⟩
  | false =>
    go_wp2_with fail
    refine (of_any b l (K + 2) w1.heap.size keysA _ (hc1.chg (below_alloc _ _)) hl (by omega) (Box.new w1 #[.string ⟨#[97]⟩, .string ⟨#[98]⟩, .string ⟨#[98, 97]⟩, .string ⟨#[99]⟩, .string ⟨#[99, 97, 114]⟩, .string ⟨#[100]⟩, .string ⟨#[101]⟩] 9) (by omega) (by decide) (by decide)).mono ?_
    rintro e w2 ⟨⟨x, rfl, hx⟩, hc2, hch2⟩
    have hsz : Hid (x.size ≤ 17) := keysA_le x hx
    have hC := hch1.trans ((Chg.of_below (S := (· = b)) (below_alloc _ _)).trans hch2)
    clear hx
    go_wp2
    go_ret
    exact ⟨⟨_, rfl, hsz.out⟩, hc2, hC⟩

end Go.Proofs.YtenbdjlhcadhaaaGreat
