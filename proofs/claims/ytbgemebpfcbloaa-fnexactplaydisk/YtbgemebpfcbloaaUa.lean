/-
  Steps in a row: rows of five cells; szDiskStepS, toDiskStepS, eqDiskStepS, markDiskStepS.
  Slices of steps: szDiskStepS, toDiskStepS, eqDiskStepS, markDiskStepS.
  toDiskStepS, eqDiskStepS, markDiskStepS.
-/
import Derived.Test.YtbgemebpfcbloaaV1
import Derived.OwnWalk
import Derived.Deep.RegionHeld3
namespace Go.Proofs.Ytbgemebpfcbloaa
open Go.RowKit Go.Maps
set_option linter.unusedVariables false
set_option maxRecDepth 100000

/-- A step of a disk. -/
structure St where
  k : Int
  nm : ByteArray
  ot : ByteArray
  da : ByteArray
  kp : Int
def St.zero : St := ⟨0, ⟨#[]⟩, ⟨#[]⟩, ⟨#[]⟩, 0⟩
def St.cells (s : St) : List Value := [.int .i64 s.k, .string s.nm, .string s.ot, .string s.da, .int .i64 s.kp]
def flat5 : List St → List Value
  | [] => []
  | s :: r => .int .i64 s.k :: .string s.nm :: .string s.ot :: .string s.da :: .int .i64 s.kp :: flat5 r
theorem flat5_length (l : List St) : (flat5 l).length = l.length * 5 := by
  induction l with
  | nil => rfl
  | cons x r ih => simp only [flat5, List.length_cons, ih]; omega
theorem flat5_get (l : List St) (i : Nat) (h : i < l.length) : (flat5 l)[i * 5]? = some (.int .i64 l[i].k) ∧ (flat5 l)[i * 5 + 1]? = some (.string l[i].nm) ∧ (flat5 l)[i * 5 + 2]? = some (.string l[i].ot) ∧ (flat5 l)[i * 5 + 3]? = some (.string l[i].da) ∧ (flat5 l)[i * 5 + 4]? = some (.int .i64 l[i].kp) := by
  induction l generalizing i with
  | nil => simp at h
  | cons x r ih =>
    cases i with
    | zero => exact ⟨rfl, rfl, rfl, rfl, rfl⟩
    | succ i =>
      have := ih i (by simpa using h)
      rw [show (i + 1) * 5 = i * 5 + 1 + 1 + 1 + 1 + 1 from by omega, show i * 5 + 1 + 1 + 1 + 1 + 1 + 1 = (i * 5 + 1) + 1 + 1 + 1 + 1 + 1 from by omega, show i * 5 + 1 + 1 + 1 + 1 + 1 + 2 = (i * 5 + 2) + 1 + 1 + 1 + 1 + 1 from by omega, show i * 5 + 1 + 1 + 1 + 1 + 1 + 3 = (i * 5 + 3) + 1 + 1 + 1 + 1 + 1 from by omega, show i * 5 + 1 + 1 + 1 + 1 + 1 + 4 = (i * 5 + 4) + 1 + 1 + 1 + 1 + 1 from by omega]
      simp only [flat5, List.getElem?_cons_succ, List.getElem_cons_succ]
      exact this
theorem flat5_set (l : List St) (i : Nat) (s : St) : (((((flat5 l).set (i * 5) (.int .i64 s.k)).set (i * 5 + 1) (.string s.nm)).set (i * 5 + 2) (.string s.ot)).set (i * 5 + 3) (.string s.da)).set (i * 5 + 4) (.int .i64 s.kp) = flat5 (l.set i s) := by
  induction l generalizing i with
  | nil => simp [flat5]
  | cons x r ih =>
    cases i with
    | zero => simp [flat5]
    | succ i =>
      rw [show (i + 1) * 5 = i * 5 + 1 + 1 + 1 + 1 + 1 from by omega, show i * 5 + 1 + 1 + 1 + 1 + 1 + 1 = (i * 5 + 1) + 1 + 1 + 1 + 1 + 1 from by omega, show i * 5 + 1 + 1 + 1 + 1 + 1 + 2 = (i * 5 + 2) + 1 + 1 + 1 + 1 + 1 from by omega, show i * 5 + 1 + 1 + 1 + 1 + 1 + 3 = (i * 5 + 3) + 1 + 1 + 1 + 1 + 1 from by omega, show i * 5 + 1 + 1 + 1 + 1 + 1 + 4 = (i * 5 + 4) + 1 + 1 + 1 + 1 + 1 from by omega]
      simp only [flat5, List.set_cons_succ]
      rw [ih i]
theorem flat5_zeros (n : Nat) : (madeCells (Value.agg #[.int .i64 0, .string ⟨#[]⟩, .string ⟨#[]⟩, .string ⟨#[]⟩, .int .i64 0]).cells (n * 5)).toList = flat5 (List.replicate n St.zero) := by
  have hcs : (Value.agg #[.int .i64 0, .string ⟨#[]⟩, .string ⟨#[]⟩, .string ⟨#[]⟩, .int .i64 0]).cells = #[.int .i64 0, .string ⟨#[]⟩, .string ⟨#[]⟩, .string ⟨#[]⟩, .int .i64 0] := rfl
  rw [hcs]
  apply List.ext_getElem?
  intro i
  by_cases hi : i < n * 5
  · obtain ⟨j, m, hm, rfl⟩ : ∃ j m, m < 5 ∧ i = j * 5 + m := ⟨i / 5, i % 5, by omega, by omega⟩
    have hj : j < (List.replicate n St.zero).length := by simp; omega
    obtain ⟨g0, g1, g2, g3, g4⟩ := flat5_get _ j hj
    obtain rfl | rfl | rfl | rfl | rfl : m = 0 ∨ m = 1 ∨ m = 2 ∨ m = 3 ∨ m = 4 := by omega
    · rw [Nat.add_zero] at hi ⊢; rw [g0]; simp [madeCells, hi, St.zero]
    · rw [g1]; simp [madeCells, hi, St.zero]
    · rw [g2]; simp [madeCells, hi, St.zero]
    · rw [g3]; simp [madeCells, hi, St.zero]
    · rw [g4]; simp [madeCells, hi, St.zero]
  · rw [List.getElem?_eq_none (by simp [madeCells]; omega), List.getElem?_eq_none (by rw [flat5_length]; simp; omega)]
end Go.Proofs.Ytbgemebpfcbloaa

namespace Go.Proofs.Ytbgemebpfcbloaa
open Go.RowKit Go.Maps
set_option linter.unusedVariables false
set_option maxRecDepth 100000

/-- The value v is a slice of the steps l. -/
def FL (w : World) (v : Value) (l : List St) : Prop :=
  ∃ a cap, v = .slice a l.length cap ∧ (l ≠ [] → ∃ b off, a = some ⟨b, off, none⟩ ∧ b < w.heap.size ∧
    ∀ i (h : i < l.length), w.cell? ⟨b, off + i * 5, none⟩ = some (.int .i64 l[i].k) ∧ w.cell? ⟨b, off + i * 5 + 1, none⟩ = some (.string l[i].nm) ∧ w.cell? ⟨b, off + i * 5 + 2, none⟩ = some (.string l[i].ot) ∧ w.cell? ⟨b, off + i * 5 + 3, none⟩ = some (.string l[i].da) ∧ w.cell? ⟨b, off + i * 5 + 4, none⟩ = some (.int .i64 l[i].kp))
theorem FL.below {w w' : World} {v : Value} {l : List St} (h : FL w v l) (hb : Below w.heap.size w w') : FL w' v l := by
  obtain ⟨a, cap, hv, hc⟩ := h
  refine ⟨a, cap, hv, fun hl => ?_⟩
  obtain ⟨b, off, ha, hbl, hcell⟩ := hc hl
  refine ⟨b, off, ha, Nat.lt_of_lt_of_le hbl hb.size, fun i hi => ?_⟩
  obtain ⟨c0, c1, c2, c3, c4⟩ := hcell i hi
  exact ⟨(hb.cell (p := ⟨b, off + i * 5, none⟩) hbl).trans c0, (hb.cell (p := ⟨b, off + i * 5 + 1, none⟩) hbl).trans c1, (hb.cell (p := ⟨b, off + i * 5 + 2, none⟩) hbl).trans c2, (hb.cell (p := ⟨b, off + i * 5 + 3, none⟩) hbl).trans c3, (hb.cell (p := ⟨b, off + i * 5 + 4, none⟩) hbl).trans c4⟩
theorem FL_of_owns {w : World} {base : Nat} {e : TypeId} {v : Value} {l : List St} (h : w.ownsRow base e 5 v l.length (flat5 l)) : FL w v l := by
  have h' := h
  obtain ⟨hl, h⟩ := h
  rcases h with ⟨rfl, h0⟩ | ⟨g, cap, cur, rfl, hbg, hh, hcap, hm, hsz, htk⟩
  · exact ⟨none, 0, by rw [h0], fun hne => absurd (List.length_eq_zero_iff.1 h0) hne⟩
  · refine ⟨_, cap, rfl, fun _ => ⟨g, 0, rfl, (Array.getElem?_eq_some_iff.1 hh).1, fun i hi => ?_⟩⟩
    obtain ⟨g0, g1, g2, g3, g4⟩ := flat5_get l i hi
    rw [Nat.zero_add]
    exact ⟨by rw [h'.cellAt (i * 5) (by omega), g0], by rw [h'.cellAt (i * 5 + 1) (by omega), g1], by rw [h'.cellAt (i * 5 + 2) (by omega), g2], by rw [h'.cellAt (i * 5 + 3) (by omega), g3], by rw [h'.cellAt (i * 5 + 4) (by omega), g4]⟩
def part5 (l : List St) (k : Nat) : List St := l.take k ++ List.replicate (l.length - k) St.zero
theorem part5_length (l : List St) (k : Nat) (h : k ≤ l.length) : (part5 l k).length = l.length := by simp [part5]; omega
theorem part5_zero (l : List St) : part5 l 0 = List.replicate l.length St.zero := by simp [part5]
theorem part5_all (l : List St) : part5 l l.length = l := by simp [part5]
theorem part5_set (l : List St) (k : Nat) (h : k < l.length) : (part5 l k).set k l[k] = part5 l (k + 1) := by
  unfold part5
  have h1 : (l.take k).length = k := by simp; omega
  obtain ⟨m, hm⟩ : ∃ m, l.length - k = m + 1 := ⟨l.length - k - 1, by omega⟩
  rw [List.set_append_right _ _ (by omega), h1, Nat.sub_self, hm, List.replicate_succ, List.set_cons_zero, List.take_succ_eq_append_getElem h, List.append_assoc, show l.length - (k + 1) = m from by omega]
  rfl
theorem owns5_at {w : World} {base : Nat} {e : TypeId} {g cap n : Nat} {xs : List Value} (h : w.ownsRow base e 5 (.slice (some ⟨g, 0, none⟩) n cap) n xs) (i : Nat) (hi : i < n) (j : Nat) (hj : j < 5) :
    (∃ u, w.cell? ⟨g, i * 5 + j, none⟩ = some u) ∧ w.frozen? ⟨g, i * 5 + j, none⟩ = false := by
  have hl := h.1
  refine ⟨?_, h.frozenAt _⟩
  rw [h.cellAt (i * 5 + j) (by omega)]
  exact ⟨_, List.getElem?_eq_getElem (by omega)⟩

def tot5 : List St → Nat
  | [] => 0
  | s :: r => s.nm.size + s.ot.size + s.da.size + tot5 r
theorem tot5_take (l : List St) (k : Nat) (h : k < l.length) : tot5 (l.take (k + 1)) = tot5 (l.take k) + (l[k].nm.size + l[k].ot.size + l[k].da.size) := by
  induction l generalizing k with
  | nil => simp at h
  | cons x r ih =>
    cases k with
    | zero => simp [tot5]
    | succ k =>
      simp only [List.take_succ_cons, tot5, List.getElem_cons_succ]
      rw [ih k (by simpa using h)]; omega
theorem tot5_mem (l : List St) (k : Nat) (h : k < l.length) : l[k].nm.size + l[k].ot.size + l[k].da.size ≤ tot5 l := by
  induction l generalizing k with
  | nil => simp at h
  | cons x r ih =>
    cases k with
    | zero => simp [tot5]
    | succ k => have := ih k (by simpa using h); simp only [tot5, List.getElem_cons_succ]; omega

theorem Try.info28 : (Try.prog.info? 28).map (fun i => (i.zero, i.size, i.bytes)) = some (some (.agg #[.int .i64 0, .string ⟨#[]⟩, .string ⟨#[]⟩, .string ⟨#[]⟩, .int .i64 0]), 5, 64) := by kernel_rfl

set_option maxHeartbeats 2000000 in
theorem szDiskStepS_any (v : Value) (l : List St) (left : Int) (w : World) (hv : FL w v l) (h0 : 0 ≤ left) (h1 : left ≤ 1048576) (hn : l.length ≤ maxLen) (hs : ∀ i (h : i < l.length), l[i].nm.size ≤ maxLen ∧ l[i].ot.size ≤ maxLen ∧ l[i].da.size ≤ maxLen) :
    Calls Try.prog 34 #[v, .int .i64 left] w fun e w' => (∃ r : Int, e = .returned (.int .i64 r) ∧ (r = -1 ∨ (0 ≤ r ∧ (tot5 l : Int) + l.length + r = left))) ∧ Below w.heap.size w w' := by
  obtain ⟨a, cap, rfl, hc⟩ := hv
  unfold maxLen at hn
  by_cases hl : l.length ≤ left
  · go_enter Try.func34, Try.ntmps34
    go_wp2
    go_loopw [1, 5] (fun t i wr => ∃ k : Nat, k ≤ l.length ∧ i = .int .i64 k ∧ (tot5 (l.take k) : Int) ≤ left - l.length ∧ t = .int .i64 (left - l.length - tot5 (l.take k)) ∧ Below w.heap.size w wr) (fun _ i _ => l.length - (intOf i).toNat)
    case atStart => exact ⟨0, Nat.zero_le _, rfl, by simp [tot5]; omega, by simp [tot5], Below.refl _ _⟩
    case round =>
      obtain ⟨k, hk, rfl, ht, rfl, hb⟩ := hrel
      by_cases hlt : k < l.length
      · obtain ⟨b, off, rfl, hbl, hcell⟩ := hc (by intro e; simp [e] at hlt)
        obtain ⟨s, hse⟩ : ∃ s, s = l[k] := ⟨_, rfl⟩
        have hc0 := (hb.cell (p := ⟨b, off + k * 5, none⟩) hbl).trans (hcell k hlt).1
        have hc1 := (hb.cell (p := ⟨b, off + k * 5 + 1, none⟩) hbl).trans (hcell k hlt).2.1
        have hc2 := (hb.cell (p := ⟨b, off + k * 5 + 2, none⟩) hbl).trans (hcell k hlt).2.2.1
        have hc3 := (hb.cell (p := ⟨b, off + k * 5 + 3, none⟩) hbl).trans (hcell k hlt).2.2.2.1
        have hc4 := (hb.cell (p := ⟨b, off + k * 5 + 4, none⟩) hbl).trans (hcell k hlt).2.2.2.2
        have hss := hs k hlt
        have HT : Hid (tot5 (l.take (k + 1)) = tot5 (l.take k) + (s.nm.size + s.ot.size + s.da.size)) := by rw [hse]; exact tot5_take l k hlt
        rw [← hse] at hc0 hc1 hc2 hc3 hc4 hss
        clear hcell hs hse hc
        have hz := hb.size
        have KS := fun w => szDiskStep_any s.k s.kp s.nm s.ot s.da (left - l.length - tot5 (l.take k)) w (by omega) (by omega) hss.1 hss.2.1 hss.2.2
        obtain ⟨sk, sn, so, sd, sp⟩ := s
        dsimp only at *
        by_cases hle : (sn.size : Int) + so.size + sd.size ≤ left - l.length - tot5 (l.take k)
        · rw [if_pos hle] at KS
          go_wp2_with fail
          refine (KS _).mono ?_
          rintro e w1 ⟨rfl, hb1⟩
          go_wp2_with fail
          go_roundw
          case rel => exact ⟨k + 1, by omega, by go_num, by rw [HT.out]; omega, by rw [HT.out]; go_num, hb.trans (hb1.mono hz)⟩
          case measure => simp [intOf]; omega
        · rw [if_neg hle] at KS
          go_wp2_with fail
          refine (KS _).mono ?_
          rintro e w1 ⟨rfl, hb1⟩
          go_wp2_with fail
          go_ret
          exact ⟨⟨-1, rfl, .inl rfl⟩, hb.trans (hb1.mono hz)⟩
      · go_wp2
        go_ret
        have : k = l.length := by omega
        subst this
        exact ⟨⟨_, rfl, .inr (by rw [List.take_length] at *; omega)⟩, hb⟩
  · go_enter Try.func34, Try.ntmps34
    go_wp2
    go_ret
    exact ⟨⟨-1, rfl, .inl rfl⟩, Below.refl _ _⟩
end Go.Proofs.Ytbgemebpfcbloaa

namespace Go.Proofs.Ytbgemebpfcbloaa
open Go.RowKit Go.Maps
set_option linter.unusedVariables false
set_option maxRecDepth 100000

set_option maxHeartbeats 2000000 in
theorem toDiskStepS_any (v : Value) (l : List St) (w : World) (hv : FL w v l) (hn : l.length ≤ 1048576) :
    Calls Try.prog 36 #[v] w fun e w' => e = .returned (.slice (some ⟨w.heap.size, 0, none⟩) l.length l.length) ∧ w'.ownsRow w.heap.size 28 5 (.slice (some ⟨w.heap.size, 0, none⟩) l.length l.length) l.length (flat5 l) ∧ Below w.heap.size w w' := by
  obtain ⟨a, cap, rfl, hc⟩ := hv
  obtain ⟨i0, hi, hz0, hz1, hz2⟩ := info_parts Try.info28
  go_enter Try.func36, Try.ntmps36
  go_wp2_with (at_make; refine wpList_make_full _ rfl _ _ 69 rfl w.heap.size 28 i0 _ 5 Try.underlying69 hi hz0 hz1 .i64 .i64 _ _ l.length rfl rfl rfl rfl (by rw [hz2]; omega) (by unfold maxLen; omega) (Nat.le_refl _) ?_; intro w0 hown0 hgr0)
  rw [flat5_zeros, ← part5_zero] at hown0
  have hb0 : Below w.heap.size w w0 := (Below.refl _ _).grown hgr0 (Nat.le_refl _) (by simp)
  have hlt0 : w.heap.size < w0.heap.size := (owns_lt hown0).2
  clear hgr0 hi hz0 hz1 hz2
  go_loopw [4] (fun i wr => ∃ k : Nat, k ≤ l.length ∧ i = .int .i64 k ∧ wr.ownsRow w.heap.size 28 5 (.slice (some ⟨w.heap.size, 0, none⟩) l.length l.length) l.length (flat5 (part5 l k)) ∧ Below w.heap.size w wr ∧ w.heap.size < wr.heap.size) (fun i _ => l.length - (intOf i).toNat)
  case atStart => exact ⟨0, Nat.zero_le _, rfl, hown0, hb0, hlt0⟩
  case round =>
    obtain ⟨k, hk, rfl, hown, hb, hlt1⟩ := hrel
    clear hown0 hb0 hlt0
    by_cases hlt : k < l.length
    · obtain ⟨b, off, rfl, hbl, hcell⟩ := hc (by intro e; simp [e] at hlt)
      obtain ⟨s, hse⟩ : ∃ s, s = l[k] := ⟨_, rfl⟩
      have hc0 := (hb.cell (p := ⟨b, off + k * 5, none⟩) hbl).trans (hcell k hlt).1
      have hc1 := (hb.cell (p := ⟨b, off + k * 5 + 1, none⟩) hbl).trans (hcell k hlt).2.1
      have hc2 := (hb.cell (p := ⟨b, off + k * 5 + 2, none⟩) hbl).trans (hcell k hlt).2.2.1
      have hc3 := (hb.cell (p := ⟨b, off + k * 5 + 3, none⟩) hbl).trans (hcell k hlt).2.2.2.1
      have hc4 := (hb.cell (p := ⟨b, off + k * 5 + 4, none⟩) hbl).trans (hcell k hlt).2.2.2.2
      have HS : Hid ((part5 l k).set k s = part5 l (k + 1)) := by rw [hse]; exact part5_set l k hlt
      rw [← hse] at hc0 hc1 hc2 hc3 hc4
      clear hcell hse hc
      have hz := hb.size
      obtain ⟨sk, sn, so, sd, sp⟩ := s
      dsimp only at hc0 hc1 hc2 hc3 hc4
      go_wp2_with fail
      refine (toDiskStep_any _ _ _ _ _ _).mono ?_
      rintro e w1 ⟨rfl, hb1⟩
      have hown1 := owns_below hown hb1
      obtain ⟨⟨u0, d0⟩, f0⟩ := owns5_at hown1 k hlt 0 (by omega)
      obtain ⟨⟨u1, d1⟩, f1⟩ := owns5_at hown1 k hlt 1 (by omega)
      obtain ⟨⟨u2, d2⟩, f2⟩ := owns5_at hown1 k hlt 2 (by omega)
      obtain ⟨⟨u3, d3⟩, f3⟩ := owns5_at hown1 k hlt 3 (by omega)
      obtain ⟨⟨u4, d4⟩, f4⟩ := owns5_at hown1 k hlt 4 (by omega)
      rw [Nat.add_zero] at d0 f0
      have hz1 := hb1.size
      have HO : Hid _ := (((((hown1.stored (k * 5) (.int .i64 sk)).1.stored (k * 5 + 1) (.string sn)).1.stored (k * 5 + 2) (.string so)).1.stored (k * 5 + 3) (.string sd)).1.stored (k * 5 + 4) (.int .i64 sp)).1
      clear hown hown1
      go_wp2
      go_roundw
      case rel =>
        refine ⟨k + 1, by omega, by go_num, ?_, ?_, ?_⟩
        · have := HO.out
          rw [flat5_set (part5 l k) k ⟨sk, sn, so, sd, sp⟩, HS.out] at this
          exact this
        · exact (((((hb.trans (hb1.mono hz)).setCell (by simp) _).setCell (by simp) _).setCell (by simp) _).setCell (by simp) _).setCell (by simp) _
        · simp; omega
      case measure => simp [intOf]; omega
    · go_wp2
      go_ret
      have : k = l.length := by omega
      subst this
      rw [part5_all] at hown
      exact ⟨rfl, hown, hb⟩

theorem eqDiskStep_same (sk sp : Int) (sn so sd : ByteArray) (w : World) :
    Calls Try.prog 85 #[.agg #[.int .i64 sk, .string sn, .string so, .string sd, .int .i64 sp], .agg #[.int .i64 sk, .string sn, .string so, .string sd, .int .i64 sp]] w fun e w' => e = .returned (.bool true) ∧ Below w.heap.size w w' := by
  go_enter Try.func85, Try.ntmps85
  go_wp2
  go_ret
  exact ⟨rfl, below2 _ _ _⟩

set_option maxHeartbeats 2000000 in
theorem eqDiskStepS_same (u v : Value) (l : List St) (w : World) (hu : FL w u l) (hv : FL w v l) (hn : l.length ≤ 1048576) :
    Calls Try.prog 39 #[u, v] w fun e w' => e = .returned (.bool true) ∧ Below w.heap.size w w' := by
  obtain ⟨a, cap, rfl, hc⟩ := hu
  obtain ⟨a', cap', rfl, hc'⟩ := hv
  go_enter Try.func39, Try.ntmps39
  go_wp2
  go_loopw [5] (fun i wr => ∃ k : Nat, k ≤ l.length ∧ i = .int .i64 k ∧ Below w.heap.size w wr) (fun i _ => l.length - (intOf i).toNat)
  case atStart => exact ⟨0, Nat.zero_le _, rfl, Below.refl _ _⟩
  case round =>
    obtain ⟨k, hk, rfl, hb⟩ := hrel
    by_cases hlt : k < l.length
    · obtain ⟨b, off, rfl, hbl, hcell⟩ := hc (by intro e; simp [e] at hlt)
      obtain ⟨b', off', rfl, hbl', hcell'⟩ := hc' (by intro e; simp [e] at hlt)
      obtain ⟨s, hse⟩ : ∃ s, s = l[k] := ⟨_, rfl⟩
      have hc0 := (hb.cell (p := ⟨b, off + k * 5, none⟩) hbl).trans (hcell k hlt).1
      have hc1 := (hb.cell (p := ⟨b, off + k * 5 + 1, none⟩) hbl).trans (hcell k hlt).2.1
      have hc2 := (hb.cell (p := ⟨b, off + k * 5 + 2, none⟩) hbl).trans (hcell k hlt).2.2.1
      have hc3 := (hb.cell (p := ⟨b, off + k * 5 + 3, none⟩) hbl).trans (hcell k hlt).2.2.2.1
      have hc4 := (hb.cell (p := ⟨b, off + k * 5 + 4, none⟩) hbl).trans (hcell k hlt).2.2.2.2
      have hd0 := (hb.cell (p := ⟨b', off' + k * 5, none⟩) hbl').trans (hcell' k hlt).1
      have hd1 := (hb.cell (p := ⟨b', off' + k * 5 + 1, none⟩) hbl').trans (hcell' k hlt).2.1
      have hd2 := (hb.cell (p := ⟨b', off' + k * 5 + 2, none⟩) hbl').trans (hcell' k hlt).2.2.1
      have hd3 := (hb.cell (p := ⟨b', off' + k * 5 + 3, none⟩) hbl').trans (hcell' k hlt).2.2.2.1
      have hd4 := (hb.cell (p := ⟨b', off' + k * 5 + 4, none⟩) hbl').trans (hcell' k hlt).2.2.2.2
      rw [← hse] at hc0 hc1 hc2 hc3 hc4 hd0 hd1 hd2 hd3 hd4
      clear hcell hse hc hcell' hc'
      have hz := hb.size
      obtain ⟨sk, sn, so, sd, sp⟩ := s
      dsimp only at hc0 hc1 hc2 hc3 hc4 hd0 hd1 hd2 hd3 hd4
      go_wp2_with fail
      go_region_held3 (fun w' => (w'.cell? ⟨b, off + k * 5, none⟩ = some (.int .i64 sk) ∧ w'.cell? ⟨b, off + k * 5 + 1, none⟩ = some (.string sn) ∧ w'.cell? ⟨b, off + k * 5 + 2, none⟩ = some (.string so) ∧ w'.cell? ⟨b, off + k * 5 + 3, none⟩ = some (.string sd) ∧ w'.cell? ⟨b, off + k * 5 + 4, none⟩ = some (.int .i64 sp)) ∧ w'.cell? ⟨b', off' + k * 5, none⟩ = some (.int .i64 sk) ∧ w'.cell? ⟨b', off' + k * 5 + 1, none⟩ = some (.string sn) ∧ w'.cell? ⟨b', off' + k * 5 + 2, none⟩ = some (.string so) ∧ w'.cell? ⟨b', off' + k * 5 + 3, none⟩ = some (.string sd) ∧ w'.cell? ⟨b', off' + k * 5 + 4, none⟩ = some (.int .i64 sp)) (go_keep)
        (first | (go_at_call 85; refine (eqDiskStep_same _ _ _ _ _ _).mono ?_; rintro e w1 ⟨rfl, hb1'⟩; have hb1 := below_undrew hb1'; have hbl2 : b < wr.heap.size := (by omega); have hbl3 : b' < wr.heap.size := (by omega); replace hc0 := (hb1.cell (p := ⟨b, off + k * 5, none⟩) hbl2).trans hc0; replace hc1 := (hb1.cell (p := ⟨b, off + k * 5 + 1, none⟩) hbl2).trans hc1; replace hc2 := (hb1.cell (p := ⟨b, off + k * 5 + 2, none⟩) hbl2).trans hc2; replace hc3 := (hb1.cell (p := ⟨b, off + k * 5 + 3, none⟩) hbl2).trans hc3; replace hc4 := (hb1.cell (p := ⟨b, off + k * 5 + 4, none⟩) hbl2).trans hc4; replace hd0 := (hb1.cell (p := ⟨b', off' + k * 5, none⟩) hbl3).trans hd0; replace hd1 := (hb1.cell (p := ⟨b', off' + k * 5 + 1, none⟩) hbl3).trans hd1; replace hd2 := (hb1.cell (p := ⟨b', off' + k * 5 + 2, none⟩) hbl3).trans hd2; replace hd3 := (hb1.cell (p := ⟨b', off' + k * 5 + 3, none⟩) hbl3).trans hd3; replace hd4 := (hb1.cell (p := ⟨b', off' + k * 5 + 4, none⟩) hbl3).trans hd4))
      go_wp2
      go_roundw
      case rel => exact ⟨k + 1, by omega, by go_num, hb.trans (hb1.mono hz)⟩
      case measure => simp [intOf]; omega
    · clear hc hc'
      go_wp2
      go_ret
      exact ⟨rfl, hb⟩

set_option maxHeartbeats 4000000 in
theorem markDiskStepS_at (g cap base n : Nat) (xs : List Value) (k : Int) (w : World) (ho : w.ownsRow base 28 5 (.slice (some ⟨g, 0, none⟩) n cap) n xs) (hn : n ≤ 1048576) (h1 : 1 ≤ k) (h2 : k ≤ 1000) :
    Calls Try.prog 40 #[.slice (some ⟨g, 0, none⟩) n cap, .int .i64 k] w fun e w' => e = .returned (.int .i64 (k + 5 * n)) ∧ Chg (· = g) w w' := by
  go_enter Try.func40, Try.ntmps40
  go_wp2
  go_loopw [1, 5] (fun t i wr => ∃ (j : Nat) (ys : List Value), j ≤ n ∧ i = .int .i64 j ∧ t = .int .i64 (k + 5 * j) ∧ wr.ownsRow base 28 5 (.slice (some ⟨g, 0, none⟩) n cap) n ys ∧ Chg (· = g) w wr) (fun _ i _ => n - (intOf i).toNat)
  case atStart => exact ⟨0, xs, Nat.zero_le _, rfl, by go_num, ho, Chg.refl _ _⟩
  case round =>
    clear ho
    obtain ⟨j, ys, hj, rfl, rfl, hown, hch⟩ := hrel
    by_cases hlt : j < n
    · obtain ⟨⟨u0, d0⟩, f0⟩ := owns5_at hown j hlt 0 (by omega)
      rw [Nat.add_zero] at d0 f0
      have hgl := (owns_lt hown).2
      have o1 := (hown.stored (j * 5) (.int .i64 (k + 5 * j))).1
      have C1 := hch.setCell (p := ⟨g, j * 5, none⟩) rfl (.int .i64 (k + 5 * j))
      clear hown hch
      go_wp2_with fail
      refine (markText_any _ _ (by omega) (by omega)).mono ?_
      rintro e w1 ⟨rfl, hb1⟩
      replace o1 := owns_below o1 hb1
      have C2 := C1.trans (Chg.of_below hb1)
      have hz1 := hb1.size
      obtain ⟨⟨u1, d1⟩, f1⟩ := owns5_at o1 j hlt 1 (by omega)
      have o2 := (o1.stored (j * 5 + 1) (.string (mkT (k + 5 * j + 1)))).1
      have C3 := C2.setCell (p := ⟨g, j * 5 + 1, none⟩) rfl (.string (mkT (k + 5 * j + 1)))
      have hgl1 := (owns_lt o1).2
      clear d0 f0 C1 C2 o1 hb1
      generalize mkT (k + 5 * j + 1) = t1 at *
      go_wp2_with fail
      refine (markText_any _ _ (by omega) (by omega)).mono ?_
      rintro e w2 ⟨rfl, hb2⟩
      replace o2 := owns_below o2 hb2
      have C4 := C3.trans (Chg.of_below hb2)
      obtain ⟨⟨u2, d2⟩, f2⟩ := owns5_at o2 j hlt 2 (by omega)
      have o3 := (o2.stored (j * 5 + 2) (.string (mkT (k + 5 * j + 1 + 1)))).1
      have C5 := C4.setCell (p := ⟨g, j * 5 + 2, none⟩) rfl (.string (mkT (k + 5 * j + 1 + 1)))
      have hgl2 := (owns_lt o2).2
      clear d1 f1 C3 C4 o2 hb2
      generalize mkT (k + 5 * j + 1 + 1) = t2 at *
      go_wp2_with fail
      refine (markText_any _ _ (by omega) (by omega)).mono ?_
      rintro e w3 ⟨rfl, hb3⟩
      replace o3 := owns_below o3 hb3
      have C6 := C5.trans (Chg.of_below hb3)
      obtain ⟨⟨u3, d3⟩, f3⟩ := owns5_at o3 j hlt 3 (by omega)
      obtain ⟨⟨u4, d4⟩, f4⟩ := owns5_at o3 j hlt 4 (by omega)
      have o5 := ((o3.stored (j * 5 + 3) (.string (mkT (k + 5 * j + 1 + 1 + 1)))).1.stored (j * 5 + 4) (.int .i64 (k + 5 * j + 1 + 1 + 1 + 1))).1
      have C7 := (C6.setCell (p := ⟨g, j * 5 + 3, none⟩) rfl (.string (mkT (k + 5 * j + 1 + 1 + 1)))).setCell (p := ⟨g, j * 5 + 4, none⟩) rfl (.int .i64 (k + 5 * j + 1 + 1 + 1 + 1))
      have hgl3 := (owns_lt o3).2
      have HO : Hid _ := o5
      clear d2 f2 C5 C6 o3 hb3 o5
      generalize mkT (k + 5 * j + 1 + 1 + 1) = t3 at *
      go_wp2
      go_roundw
      case rel => exact ⟨j + 1, _, by omega, by go_num, by go_num, HO.out, C7⟩
      case measure => simp [intOf]; omega
    · obtain rfl : j = n := by omega
      go_wp2
      go_ret
      exact ⟨rfl, hch⟩
end Go.Proofs.Ytbgemebpfcbloaa

