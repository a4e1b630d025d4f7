/-
  What is wanted, in a row: rows of two cells; szWantedS, toWantedS, eqWantedS.
-/
import Derived.Test.YtocaigffikdlhaaMC
import Derived.Test.YtocaigffikdlhaaEToH1
import Derived.OwnWalk
import Derived.Deep.RegionHeld3
import Derived.Deep.QuietTactic
import Derived.BigQuiet
namespace Go.Proofs.Ytocaigffikdlhaa
open Go.RowKit
set_option linter.unusedVariables false
set_option maxRecDepth 100000

/-- What is wanted of a file: t its size, d its sum. -/
structure Wt where
  t : Int
  d : Int
def Wt.zero : Wt := ⟨0, 0⟩
instance : Inhabited Wt := ⟨Wt.zero⟩
def flat2 : List Wt → List Value
  | [] => []
  | s :: r => .int .i64 s.t :: .int .u32 s.d :: flat2 r
theorem flat2_length (l : List Wt) : (flat2 l).length = l.length * 2 := by
  induction l with
  | nil => rfl
  | cons x r ih => simp only [flat2, List.length_cons, ih]; omega
theorem flat2_append (l m : List Wt) : flat2 (l ++ m) = flat2 l ++ flat2 m := by
  induction l with
  | nil => rfl
  | cons x r ih => simp only [List.cons_append, flat2, ih]
theorem flat2_get (l : List Wt) (i : Nat) (h : i < l.length) : (flat2 l)[i * 2]? = some (.int .i64 l[i].t) ∧ (flat2 l)[i * 2 + 1]? = some (.int .u32 l[i].d) := by
  induction l generalizing i with
  | nil => simp at h
  | cons x r ih =>
    cases i with
    | zero => exact ⟨rfl, rfl⟩
    | succ i =>
      have := ih i (by simpa using h)
      rw [show (i + 1) * 2 = i * 2 + 1 + 1 from by omega, show i * 2 + 1 + 1 + 1 = (i * 2 + 1) + 1 + 1 from by omega]
      simp only [flat2, List.getElem?_cons_succ, List.getElem_cons_succ]
      exact this
theorem flat2_set (l : List Wt) (i : Nat) (s : Wt) : ((flat2 l).set (i * 2) (.int .i64 s.t)).set (i * 2 + 1) (.int .u32 s.d) = flat2 (l.set i s) := by
  induction l generalizing i with
  | nil => simp [flat2]
  | cons x r ih =>
    cases i with
    | zero => simp [flat2]
    | succ i =>
      rw [show (i + 1) * 2 = i * 2 + 1 + 1 from by omega, show i * 2 + 1 + 1 + 1 = (i * 2 + 1) + 1 + 1 from by omega]
      simp only [flat2, List.set_cons_succ]
      rw [ih i]
theorem flat2_zeros (n : Nat) : (madeCells (Value.agg #[.int .i64 0, .int .u32 0]).cells (n * 2)).toList = flat2 (List.replicate n Wt.zero) := by
  have hcs : (Value.agg #[.int .i64 0, .int .u32 0]).cells = #[.int .i64 0, .int .u32 0] := rfl
  rw [hcs]
  apply List.ext_getElem?
  intro i
  by_cases hi : i < n * 2
  · obtain ⟨j, m, hm, rfl⟩ : ∃ j m, m < 2 ∧ i = j * 2 + m := ⟨i / 2, i % 2, by omega, by omega⟩
    have hj : j < (List.replicate n Wt.zero).length := by simp; omega
    obtain ⟨g0, g1⟩ := flat2_get _ j hj
    obtain rfl | rfl : m = 0 ∨ m = 1 := by omega
    · rw [Nat.add_zero] at hi ⊢; rw [g0]; simp [madeCells, hi, Wt.zero]
    · rw [g1]; simp [madeCells, hi, Wt.zero]
  · rw [List.getElem?_eq_none (by simp [madeCells]; omega), List.getElem?_eq_none (by rw [flat2_length]; simp; omega)]
/-- The value v is a slice of the wanted l. -/
def WR (w : World) (v : Value) (l : List Wt) : Prop :=
  ∃ a cap, v = .slice a l.length cap ∧ (l ≠ [] → ∃ b off, a = some ⟨b, off, none⟩ ∧ b < w.heap.size ∧
    ∀ i (h : i < l.length), w.cell? ⟨b, off + i * 2, none⟩ = some (.int .i64 l[i].t) ∧ w.cell? ⟨b, off + i * 2 + 1, none⟩ = some (.int .u32 l[i].d))
theorem WR.below {w w' : World} {v : Value} {l : List Wt} (h : WR w v l) (hb : Below w.heap.size w w') : WR w' v l := by
  obtain ⟨a, cap, hv, hc⟩ := h
  refine ⟨a, cap, hv, fun hl => ?_⟩
  obtain ⟨b, off, ha, hbl, hcell⟩ := hc hl
  refine ⟨b, off, ha, Nat.lt_of_lt_of_le hbl hb.size, fun i hi => ?_⟩
  obtain ⟨c0, c1⟩ := hcell i hi
  exact ⟨(hb.cell (p := ⟨b, off + i * 2, none⟩) hbl).trans c0, (hb.cell (p := ⟨b, off + i * 2 + 1, none⟩) hbl).trans c1⟩
theorem WR_nil (w : World) : WR w (.slice none 0 0) [] := ⟨none, 0, rfl, fun h => absurd rfl h⟩
theorem WR_of_owns {w : World} {base n : Nat} {e : TypeId} {v : Value} {l : List Wt} (h : w.ownsRow base e 2 v n (flat2 l)) (hn : n = l.length) : WR w v l := by
  subst hn
  have h' := h
  obtain ⟨hl, h⟩ := h
  rcases h with ⟨rfl, h0⟩ | ⟨g, cap, cur, rfl, hbg, hh, hcap, hm, hsz, htk⟩
  · exact ⟨none, 0, by rw [h0], fun hne => absurd (List.length_eq_zero_iff.1 h0) hne⟩
  · refine ⟨_, cap, rfl, fun _ => ⟨g, 0, rfl, (Array.getElem?_eq_some_iff.1 hh).1, fun i hi => ?_⟩⟩
    obtain ⟨g0, g1⟩ := flat2_get l i hi
    rw [Nat.zero_add]
    exact ⟨by rw [h'.cellAt (i * 2) (by omega), g0], by rw [h'.cellAt (i * 2 + 1) (by omega), g1]⟩
def part2 (l : List Wt) (k : Nat) : List Wt := l.take k ++ List.replicate (l.length - k) Wt.zero
theorem part2_zero (l : List Wt) : part2 l 0 = List.replicate l.length Wt.zero := by simp [part2]
theorem part2_all (l : List Wt) : part2 l l.length = l := by simp [part2]
theorem part2_set (l : List Wt) (k : Nat) (h : k < l.length) : (part2 l k).set k l[k] = part2 l (k + 1) := by
  unfold part2
  have h1 : (l.take k).length = k := by simp; omega
  obtain ⟨m, hm⟩ : ∃ m, l.length - k = m + 1 := ⟨l.length - k - 1, by omega⟩
  rw [List.set_append_right _ _ (by omega), h1, Nat.sub_self, hm, List.replicate_succ, List.set_cons_zero, List.take_succ_eq_append_getElem h, List.append_assoc, show l.length - (k + 1) = m from by omega]
  rfl
theorem owns2_at {w : World} {base : Nat} {e : TypeId} {g cap n : Nat} {xs : List Value} (h : w.ownsRow base e 2 (.slice (some ⟨g, 0, none⟩) n cap) n xs) (i : Nat) (hi : i < n) (j : Nat) (hj : j < 2) :
    (∃ u, w.cell? ⟨g, i * 2 + j, none⟩ = some u) ∧ w.frozen? ⟨g, i * 2 + j, none⟩ = false := by
  have hl := h.1
  refine ⟨?_, h.frozenAt _⟩
  rw [h.cellAt (i * 2 + j) (by omega)]
  exact ⟨_, List.getElem?_eq_getElem (by omega)⟩
theorem toWanted_any (t : Int) (d : Int) (w : World) :
    Calls Try.prog 88 #[.agg #[.int .i64 t, .int .u32 d]] w fun e w' => e = .returned (.agg #[.int .i64 t, .int .u32 d]) ∧ Below w.heap.size w w' := by
  go_enter Try.func88, Try.ntmps88
  go_wp2
  exact bodyPost_ret (v := .agg #[.int .i64 t, .int .u32 d]) (by simp [results, Try.results88, go_sem]) rfl ⟨rfl, below3 _ _ _ _⟩

theorem Try.info54 : (Try.prog.info? 54).map (fun i => (i.zero, i.size, i.bytes)) = some (some (.agg #[.int .i64 0, .int .u32 0]), 2, 16) := by kernel_rfl

theorem szWantedS_any (v : Value) (l : List Wt) (left : Int) (w : World) (hv : WR w v l) (h0 : 0 ≤ left) (h1 : left ≤ 1048576) (hn : l.length ≤ maxLen) :
    Calls Try.prog 44 #[v, .int .i64 left] w fun e w' => (∃ r : Int, e = .returned (.int .i64 r) ∧ (r = -1 ∨ (0 ≤ r ∧ (l.length : Int) + r = left))) ∧ w' = w := by
  obtain ⟨a, cap, rfl, hc⟩ := hv
  unfold maxLen at hn
  clear hc
  by_cases hl : l.length ≤ left
  · go_enter Try.func44, Try.ntmps44
    go_wp2
    go_ret
    exact ⟨⟨_, rfl, .inr (by omega)⟩, rfl⟩
  · go_enter Try.func44, Try.ntmps44
    go_wp2
    go_ret
    exact ⟨⟨-1, rfl, .inl rfl⟩, rfl⟩

set_option maxHeartbeats 2000000 in
theorem toWantedS_any (v : Value) (l : List Wt) (w : World) (hv : WR w v l) (hn : l.length ≤ 1048576) :
    Calls Try.prog 46 #[v] w fun e w' => e = .returned (.slice (some ⟨w.heap.size, 0, none⟩) l.length l.length) ∧ w'.ownsRow w.heap.size 54 2 (.slice (some ⟨w.heap.size, 0, none⟩) l.length l.length) l.length (flat2 l) ∧ Below w.heap.size w w' := by
  obtain ⟨a, cap, rfl, hc⟩ := hv
  obtain ⟨i0, hi, hz0, hz1, hz2⟩ := info_parts Try.info54
  go_enter Try.func46, Try.ntmps46
  go_wp2_with (at_make; refine wpList_make_full _ rfl _ _ 39 rfl w.heap.size 54 i0 _ 2 Try.underlying39 hi hz0 hz1 .i64 .i64 _ _ l.length rfl rfl rfl rfl (by rw [hz2]; omega) (by unfold maxLen; omega) (Nat.le_refl _) ?_; intro w0 hown0 hgr0)
  rw [flat2_zeros, ← part2_zero] at hown0
  have hb0 : Below w.heap.size w w0 := (Below.refl _ _).grown hgr0 (Nat.le_refl _) (by simp)
  have hlt0 : w.heap.size < w0.heap.size := (owns_lt hown0).2
  clear hgr0 hi hz0 hz1 hz2
  go_loopw [4] (fun i wr => ∃ k : Nat, k ≤ l.length ∧ i = .int .i64 k ∧ wr.ownsRow w.heap.size 54 2 (.slice (some ⟨w.heap.size, 0, none⟩) l.length l.length) l.length (flat2 (part2 l k)) ∧ Below w.heap.size w wr ∧ w.heap.size < wr.heap.size) (fun i _ => l.length - (intOf i).toNat)
  case atStart => exact ⟨0, Nat.zero_le _, rfl, hown0, hb0, hlt0⟩
  case round =>
    obtain ⟨k, hk, rfl, hown, hb, hlt1⟩ := hrel
    clear hown0 hb0 hlt0
    by_cases hlt : k < l.length
    · obtain ⟨b, off, rfl, hbl, hcell⟩ := hc (by intro e; simp [e] at hlt)
      obtain ⟨s, hse⟩ : ∃ s, s = l[k] := ⟨_, rfl⟩
      have hc0 := (hb.cell (p := ⟨b, off + k * 2, none⟩) hbl).trans (hcell k hlt).1
      have hc1 := (hb.cell (p := ⟨b, off + k * 2 + 1, none⟩) hbl).trans (hcell k hlt).2
      have HS : Hid ((part2 l k).set k s = part2 l (k + 1)) := by rw [hse]; exact part2_set l k hlt
      rw [← hse] at hc0 hc1
      clear hcell hse hc
      have hz := hb.size
      obtain ⟨st, sd⟩ := s
      dsimp only at hc0 hc1
      go_wp2_with fail
      refine (toWanted_any _ _ _).mono ?_
      rintro e w1 ⟨rfl, hb1⟩
      have hown1 := owns_below hown hb1
      obtain ⟨⟨u0, d0⟩, f0⟩ := owns2_at hown1 k hlt 0 (by omega)
      obtain ⟨⟨u1, d1⟩, f1⟩ := owns2_at hown1 k hlt 1 (by omega)
      rw [Nat.add_zero] at d0 f0
      have hz1 := hb1.size
      have HO : Hid _ := ((hown1.stored (k * 2) (.int .i64 st)).1.stored (k * 2 + 1) (.int .u32 sd)).1
      clear hown hown1
      go_wp2
      go_roundw
      case rel =>
        refine ⟨k + 1, by omega, by go_num, ?_, ?_, ?_⟩
        · have := HO.out
          rw [flat2_set (part2 l k) k ⟨st, sd⟩, HS.out] at this
          exact this
        · exact ((hb.trans (hb1.mono hz)).setCell (by simp) _).setCell (by simp) _
        · simp; omega
      case measure => simp [intOf]; omega
    · go_wp2
      go_ret
      have : k = l.length := by omega
      subst this
      rw [part2_all] at hown
      exact ⟨rfl, hown, hb⟩

theorem eqWanted_same (t : Int) (d : Int) (w : World) :
    Calls Try.prog 82 #[.agg #[.int .i64 t, .int .u32 d], .agg #[.int .i64 t, .int .u32 d]] w fun e w' => e = .returned (.bool true) ∧ Below w.heap.size w w' := by
  go_enter Try.func82, Try.ntmps82
  go_wp2
  go_ret
  exact ⟨rfl, below2 _ _ _⟩

set_option maxHeartbeats 2000000 in
theorem eqWantedS_same (u v : Value) (l : List Wt) (w : World) (hu : WR w u l) (hv : WR w v l) (hn : l.length ≤ 1048576) :
    Calls Try.prog 34 #[u, v] w fun e w' => e = .returned (.bool true) ∧ Below w.heap.size w w' := by
  obtain ⟨a, cap, rfl, hc⟩ := hu
  obtain ⟨a', cap', rfl, hc'⟩ := hv
  go_enter Try.func34, Try.ntmps34
  go_wp2
  go_loopw [5] (fun i wr => ∃ k : Nat, k ≤ l.length ∧ i = .int .i64 k ∧ Below w.heap.size w wr) (fun i _ => l.length - (intOf i).toNat)
  case atStart => exact ⟨0, Nat.zero_le _, rfl, Below.refl _ _⟩
  case round =>
    obtain ⟨k, hk, rfl, hb⟩ := hrel
    by_cases hlt : k < l.length
    · obtain ⟨b, off, rfl, hbl, hcell⟩ := hc (by intro e; simp [e] at hlt)
      obtain ⟨b', off', rfl, hbl', hcell'⟩ := hc' (by intro e; simp [e] at hlt)
      obtain ⟨s, hse⟩ : ∃ s, s = l[k] := ⟨_, rfl⟩
      have hc0 := (hb.cell (p := ⟨b, off + k * 2, none⟩) hbl).trans (hcell k hlt).1
      have hc1 := (hb.cell (p := ⟨b, off + k * 2 + 1, none⟩) hbl).trans (hcell k hlt).2
      have hd0 := (hb.cell (p := ⟨b', off' + k * 2, none⟩) hbl').trans (hcell' k hlt).1
      have hd1 := (hb.cell (p := ⟨b', off' + k * 2 + 1, none⟩) hbl').trans (hcell' k hlt).2
      rw [← hse] at hc0 hc1 hd0 hd1
      clear hcell hse hc hcell' hc'
      have hz := hb.size
      obtain ⟨st, sd⟩ := s
      dsimp only at hc0 hc1 hd0 hd1
      go_wp2_with fail
      go_region_held3 (fun w' => (w'.cell? ⟨b, off + k * 2, none⟩ = some (.int .i64 st) ∧ w'.cell? ⟨b, off + k * 2 + 1, none⟩ = some (.int .u32 sd)) ∧ w'.cell? ⟨b', off' + k * 2, none⟩ = some (.int .i64 st) ∧ w'.cell? ⟨b', off' + k * 2 + 1, none⟩ = some (.int .u32 sd)) (go_keep)
        (first | (go_at_call 82; refine (eqWanted_same _ _ _).mono ?_; rintro e w1 ⟨rfl, hb1'⟩; have hb1 := below_undrew hb1'; have hbl2 : b < wr.heap.size := (by omega); have hbl3 : b' < wr.heap.size := (by omega); replace hc0 := (hb1.cell (p := ⟨b, off + k * 2, none⟩) hbl2).trans hc0; replace hc1 := (hb1.cell (p := ⟨b, off + k * 2 + 1, none⟩) hbl2).trans hc1; replace hd0 := (hb1.cell (p := ⟨b', off' + k * 2, none⟩) hbl3).trans hd0; replace hd1 := (hb1.cell (p := ⟨b', off' + k * 2 + 1, none⟩) hbl3).trans hd1))
      go_wp2
      go_roundw
      case rel => exact ⟨k + 1, by omega, by go_num, hb.trans (hb1.mono hz)⟩
      case measure => simp [intOf]; omega
    · clear hc hc'
      go_wp2
      go_ret
      exact ⟨rfl, hb⟩
end Go.Proofs.Ytocaigffikdlhaa
