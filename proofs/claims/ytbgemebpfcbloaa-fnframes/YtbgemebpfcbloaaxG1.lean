/-
  Slices of texts that came in: szStringS, toStringS; spec.FramesBytes, impl.FramesBytes.
-/
import Derived.Test.YtbgemebpfcbloaaxF1
import Derived.Test.YtbgemebpfcbloaaxH1
import Derived.SliceStrings
namespace Go.Proofs.Ytbgemebpfcbloaa
open Go.RowKit
set_option maxRecDepth 100000
set_option linter.unusedVariables false

theorem Try.info9g : (Try.prog.info? 9).map (fun i => (i.zero, i.size, i.bytes)) = some (some (.string ⟨#[]⟩), 1, 16) := by kernel_rfl
theorem SL.below {w w' : World} {v : Value} {l : List ByteArray} (h : SL w v l) (hb : Below w.heap.size w w') : SL w' v l := by
  obtain ⟨a, cap, hv, hc⟩ := h
  refine ⟨a, cap, hv, fun hl => ?_⟩
  obtain ⟨b, off, ha, hbl, hcell⟩ := hc hl
  exact ⟨b, off, ha, Nat.lt_of_lt_of_le hbl hb.size, fun i hi => (hb.cell (p := ⟨b, off + i, none⟩) hbl).trans (hcell i hi)⟩

def totS : List ByteArray → Nat
  | [] => 0
  | x :: r => x.size + totS r
theorem totS_take_succ (l : List ByteArray) (k : Nat) (h : k < l.length) : totS (l.take (k + 1)) = totS (l.take k) + l[k].size := by
  induction l generalizing k with
  | nil => simp at h
  | cons x r ih =>
    cases k with
    | zero => simp [totS]
    | succ k =>
      simp only [List.take_succ_cons, totS, List.getElem_cons_succ]
      rw [ih k (by simpa using h)]; omega

/-- The first k of a list of texts, and empty ones for the rest. -/
def partS (l : List ByteArray) (k : Nat) : List ByteArray := l.take k ++ List.replicate (l.length - k) ⟨#[]⟩
theorem partS_zero (l : List ByteArray) : partS l 0 = List.replicate l.length ⟨#[]⟩ := by simp [partS]
theorem partS_all (l : List ByteArray) : partS l l.length = l := by simp [partS]
theorem partS_at (l : List ByteArray) (k : Nat) (h : k < l.length) : (partS l k)[k]? = some ⟨#[]⟩ := by
  unfold partS
  rw [List.getElem?_append_right (by simp; omega)]
  simp only [List.length_take, List.getElem?_replicate]
  rw [if_pos (by omega)]
theorem partS_set (l : List ByteArray) (k : Nat) (h : k < l.length) : (partS l k).set k l[k] = partS l (k + 1) := by
  unfold partS
  have hl : (l.take k).length = k := by rw [List.length_take]; omega
  rw [List.set_append_right _ _ (by omega), hl, Nat.sub_self, List.take_succ_eq_append_getElem h, show l.length - k = (l.length - (k + 1)) + 1 from by omega, List.replicate_succ, List.set_cons_zero, List.append_assoc]
  rfl
theorem madeS (n : Nat) : (madeCells (Value.string ⟨#[]⟩).cells (n * 1)).toList = (List.replicate n (⟨#[]⟩ : ByteArray)).map Value.string := by
  have h : (Value.string ⟨#[]⟩).cells = #[.string ⟨#[]⟩] := rfl
  rw [h]
  apply List.ext_getElem?
  intro i
  by_cases hi : i < n
  · simp [madeCells, hi, Nat.mod_one]
  · rw [List.getElem?_eq_none (by simp [madeCells]; omega), List.getElem?_eq_none (by simp; omega)]

/-- The frames of the first k texts. -/
def catF (l : List ByteArray) (k : Nat) : ByteArray := (l.take k).foldl (fun a s => a ++ frameT s) ⟨#[]⟩
theorem catF_succ (l : List ByteArray) (k : Nat) (h : k < l.length) : catF l (k + 1) = catF l k ++ frameT l[k] := by
  unfold catF
  rw [List.take_succ_eq_append_getElem h, List.foldl_append]; rfl
theorem frameT_size (s : ByteArray) (h : s.size ≤ 1000) : (frameT s).size ≤ 1013 := by
  have h1 := varT_size s.size (by omega)
  have h3 : (⟨(wordL (csum s.data.toList)).toArray⟩ : ByteArray).size = 4 := rfl
  rw [frameT_yes s h, ByteArray.size_append, ByteArray.size_append, h3]
  omega
def fsOk (l : List ByteArray) : Bool := decide (l.length ≤ 60) && l.all fun s => decide (s.size ≤ 1000)
def fsT (l : List ByteArray) : ByteArray := if fsOk l then catF l l.length else ⟨#[]⟩
theorem fs_no (l : List ByteArray) (h : fsOk l = false) : fsT l = ⟨#[]⟩ := by simp [fsT, h]
theorem fs_long (l : List ByteArray) (h : ¬ l.length ≤ 60) : fsOk l = false := by simp [fsOk]; omega
theorem fs_big (l : List ByteArray) (k : Nat) (hk : k < l.length) (h : ¬ l[k].size ≤ 1000) : fsOk l = false := by
  have : (l.all fun s => decide (s.size ≤ 1000)) = false := by
    rw [List.all_eq_false]
    exact ⟨l[k], List.getElem_mem _, by simpa using h⟩
  rw [fsOk, this, Bool.and_false]
theorem fs_yes (l : List ByteArray) (h : l.length ≤ 60) (ha : ∀ i (hi : i < l.length), l[i].size ≤ 1000) : fsOk l = true ∧ fsT l = catF l l.length := by
  have e : fsOk l = true := by
    rw [fsOk, decide_eq_true h, Bool.true_and, List.all_eq_true]
    intro x hx
    obtain ⟨i, hi, rfl⟩ := List.getElem_of_mem hx
    exact decide_eq_true (ha i hi)
  exact ⟨e, by simp [fsT, e]⟩

set_option maxRecDepth 100000 in
set_option maxHeartbeats 1000000 in
theorem specFrames_any (v : Value) (l : List ByteArray) (w : World) (hv : SL w v l) (hn : l.length ≤ 1048576) (hs : ∀ i (h : i < l.length), l[i].size ≤ 1048576) :
    Calls Try.prog 22 #[v] w fun e w' => e = .returned (.tuple #[.string (fsT l), .bool (fsOk l)]) ∧ Below w.heap.size w w' := by
  obtain ⟨a, cap, rfl, hc⟩ := hv
  by_cases h60 : l.length ≤ 60
  · go_enter Try.func22, Try.ntmps22
    go_wp2
    go_loopw [4, 12] (fun t i wr => ∃ (k : Nat), k ≤ l.length ∧ i = .int .i64 k ∧ t = .string (catF l k) ∧ (catF l k).size ≤ 1013 * k ∧ (∀ i (hi : i < l.length), i < k → l[i].size ≤ 1000) ∧ Below w.heap.size w wr) (fun _ i _ => l.length - (intOf i).toNat)
    case atStart => exact ⟨0, Nat.zero_le _, rfl, rfl, by simp [catF, ByteArray.size], by omega, Below.refl _ _⟩
    case round =>
      obtain ⟨k, hk, rfl, rfl, hsz, hall, hb⟩ := hrel
      have HA : Hid (∀ i (hi : i < l.length), i < k → l[i].size ≤ 1000) := hall
      clear hall
      by_cases hlt : k < l.length
      · obtain ⟨b, off, rfl, hbl, hcell⟩ := hc (by intro e; simp [e] at hlt)
        obtain ⟨s, hse⟩ : ∃ s, s = l[k] := ⟨_, rfl⟩
        have hc0 : wr.cell? ⟨b, off + k, none⟩ = some (.string s) := by rw [hse]; exact (hb.cell (p := ⟨b, off + k, none⟩) hbl).trans (hcell k hlt)
        have hss : s.size ≤ 1048576 := by rw [hse]; exact hs k hlt
        have hz := hb.size
        have HC : Hid (catF l (k + 1) = catF l k ++ frameT s) := by rw [hse]; exact catF_succ l k hlt
        by_cases hbig : s.size ≤ 1000
        · have HN : Hid (∀ i (hi : i < l.length), i < k + 1 → l[i].size ≤ 1000) := fun i hi h => by
            by_cases hik : i = k
            · subst hik; rw [← hse]; exact hbig
            · exact HA.out i hi (by omega)
          have hfs := frameT_size s hbig
          clear hcell hse hc hs HA
          go_wp2_with fail
          refine (l2Frame_any s _ hbig).mono ?_
          rintro e w1 ⟨rfl, hb1⟩
          generalize catF l k = A at *
          generalize frameT s = B at *
          go_wp2
          go_roundw
          case rel => exact ⟨k + 1, by omega, by go_num, by rw [HC.out], by rw [HC.out, ByteArray.size_append]; omega, HN.out, hb.trans (hb1.mono hz)⟩
          case measure => simp [intOf]; omega
        · have HF : Hid (fsOk l = false) := fs_big l k hlt (by rw [← hse]; exact hbig)
          clear hcell hse hc hs HA
          go_wp2
          go_ret2
          exact ⟨by rw [fs_no l HF.out, HF.out]; rfl, hb⟩
      · have hkk : k = l.length := by omega
        subst hkk
        obtain ⟨e1, e2⟩ := fs_yes l h60 (fun i hi => HA.out i hi hi)
        have HF1 : Hid (fsOk l = true) := e1
        have HF2 : Hid (fsT l = catF l l.length) := e2
        clear e1 e2 hc hs HA
        go_wp2
        go_ret2
        exact ⟨by rw [HF1.out, HF2.out]; rfl, hb⟩
  · have HF : Hid (fsOk l = false) := fs_long l h60
    go_enter Try.func22, Try.ntmps22
    go_wp2
    go_ret2
    exact ⟨by rw [fs_no l HF.out, HF.out]; rfl, Below.refl _ _⟩

set_option maxRecDepth 100000 in
set_option maxHeartbeats 1000000 in
theorem implFrames_any (v : Value) (l : List ByteArray) (w : World) (hv : SL w v l) (hn : l.length ≤ 1048576) (hs : ∀ i (h : i < l.length), l[i].size ≤ 1048576) :
    Calls Try.prog 21 #[v] w fun e w' => e = .returned (.tuple #[.string (fsT l), .bool (fsOk l)]) ∧ Below w.heap.size w w' := by
  obtain ⟨a, cap, rfl, hc⟩ := hv
  by_cases h60 : l.length ≤ 60
  · go_enter Try.func21, Try.ntmps21
    go_wp2
    go_loopw [4, 14] (fun t i wr => ∃ (k : Nat), k ≤ l.length ∧ i = .int .i64 k ∧ t = .string (catF l k) ∧ (catF l k).size ≤ 1013 * k ∧ (∀ i (hi : i < l.length), i < k → l[i].size ≤ 1000) ∧ Below w.heap.size w wr) (fun _ i _ => l.length - (intOf i).toNat)
    case atStart => exact ⟨0, Nat.zero_le _, rfl, rfl, by simp [catF, ByteArray.size], by omega, Below.refl _ _⟩
    case round =>
      obtain ⟨k, hk, rfl, rfl, hsz, hall, hb⟩ := hrel
      have HA : Hid (∀ i (hi : i < l.length), i < k → l[i].size ≤ 1000) := hall
      clear hall
      by_cases hlt : k < l.length
      · obtain ⟨b, off, rfl, hbl, hcell⟩ := hc (by intro e; simp [e] at hlt)
        obtain ⟨s, hse⟩ : ∃ s, s = l[k] := ⟨_, rfl⟩
        have hc0 : wr.cell? ⟨b, off + k, none⟩ = some (.string s) := by rw [hse]; exact (hb.cell (p := ⟨b, off + k, none⟩) hbl).trans (hcell k hlt)
        have hss : s.size ≤ 1048576 := by rw [hse]; exact hs k hlt
        have hz := hb.size
        have HC : Hid (catF l (k + 1) = catF l k ++ frameT s) := by rw [hse]; exact catF_succ l k hlt
        have KF := implFrame_any s wr (by unfold maxLen; omega)
        by_cases hbig : s.size ≤ 1000
        · have HN : Hid (∀ i (hi : i < l.length), i < k + 1 → l[i].size ≤ 1000) := fun i hi h => by
            by_cases hik : i = k
            · subst hik; rw [← hse]; exact hbig
            · exact HA.out i hi (by omega)
          have hfs := frameT_size s hbig
          rw [decide_eq_true hbig] at KF
          clear hcell hse hc hs HA
          go_wp2_with fail
          refine KF.mono ?_
          rintro e w1 ⟨rfl, hb1⟩
          generalize catF l k = A at *
          generalize frameT s = B at *
          go_wp2
          go_roundw
          case rel => exact ⟨k + 1, by omega, by go_num, by rw [HC.out], by rw [HC.out, ByteArray.size_append]; omega, HN.out, hb.trans (hb1.mono hz)⟩
          case measure => simp [intOf]; omega
        · have HF : Hid (fsOk l = false) := fs_big l k hlt (by rw [← hse]; exact hbig)
          rw [decide_eq_false hbig] at KF
          clear hcell hse hc hs HA
          go_wp2_with fail
          refine KF.mono ?_
          rintro e w1 ⟨rfl, hb1⟩
          go_wp2
          go_ret2
          exact ⟨by rw [fs_no l HF.out, HF.out]; rfl, hb.trans (hb1.mono hz)⟩
      · have hkk : k = l.length := by omega
        subst hkk
        obtain ⟨e1, e2⟩ := fs_yes l h60 (fun i hi => HA.out i hi hi)
        have HF1 : Hid (fsOk l = true) := e1
        have HF2 : Hid (fsT l = catF l l.length) := e2
        clear e1 e2 hc hs HA
        go_wp2
        go_ret2
        exact ⟨by rw [HF1.out, HF2.out]; rfl, hb⟩
  · have HF : Hid (fsOk l = false) := fs_long l h60
    go_enter Try.func21, Try.ntmps21
    go_wp2
    go_ret2
    exact ⟨by rw [fs_no l HF.out, HF.out]; rfl, Below.refl _ _⟩
end Go.Proofs.Ytbgemebpfcbloaa
