/-
  Entries in a row: rows of two cells; szEntryS, toEntryS, eqEntryS.
-/
import Derived.Test.YtapfhhmimkkhnaaCToH1
import Derived.OwnWalk
import Derived.Deep.RegionHeld3
import Derived.Deep.QuietTactic
import Derived.BigQuiet
namespace Go.Proofs.Ytapfhhmimkkhnaa
open Go.RowKit
set_option linter.unusedVariables false
set_option maxRecDepth 100000

/-- An entry: its term and its bytes. -/
structure En where
  t : Int
  d : ByteArray
def En.zero : En := ⟨0, ⟨#[]⟩⟩
def flat2 : List En → List Value
  | [] => []
  | s :: r => .int .i64 s.t :: .string s.d :: flat2 r
theorem flat2_length (l : List En) : (flat2 l).length = l.length * 2 := by
  induction l with
  | nil => rfl
  | cons x r ih => simp only [flat2, List.length_cons, ih]; omega
theorem flat2_append (l m : List En) : flat2 (l ++ m) = flat2 l ++ flat2 m := by
  induction l with
  | nil => rfl
  | cons x r ih => simp only [List.cons_append, flat2, ih]
theorem flat2_get (l : List En) (i : Nat) (h : i < l.length) : (flat2 l)[i * 2]? = some (.int .i64 l[i].t) ∧ (flat2 l)[i * 2 + 1]? = some (.string l[i].d) := by
  induction l generalizing i with
  | nil => simp at h
  | cons x r ih =>
    cases i with
    | zero => exact ⟨rfl, rfl⟩
    | succ i =>
      have := ih i (by simpa using h)
      rw [show (i + 1) * 2 = i * 2 + 1 + 1 from by omega, show i * 2 + 1 + 1 + 1 = (i * 2 + 1) + 1 + 1 from by omega]
      simp only [flat2, List.getElem?_cons_succ, List.getElem_cons_succ]
      exact this
theorem flat2_set (l : List En) (i : Nat) (s : En) : ((flat2 l).set (i * 2) (.int .i64 s.t)).set (i * 2 + 1) (.string s.d) = flat2 (l.set i s) := by
  induction l generalizing i with
  | nil => simp [flat2]
  | cons x r ih =>
    cases i with
    | zero => simp [flat2]
    | succ i =>
      rw [show (i + 1) * 2 = i * 2 + 1 + 1 from by omega, show i * 2 + 1 + 1 + 1 = (i * 2 + 1) + 1 + 1 from by omega]
      simp only [flat2, List.set_cons_succ]
      rw [ih i]
theorem flat2_zeros (n : Nat) : (madeCells (Value.agg #[.int .i64 0, .string ⟨#[]⟩]).cells (n * 2)).toList = flat2 (List.replicate n En.zero) := by
  have hcs : (Value.agg #[.int .i64 0, .string ⟨#[]⟩]).cells = #[.int .i64 0, .string ⟨#[]⟩] := rfl
  rw [hcs]
  apply List.ext_getElem?
  intro i
  by_cases hi : i < n * 2
  · obtain ⟨j, m, hm, rfl⟩ : ∃ j m, m < 2 ∧ i = j * 2 + m := ⟨i / 2, i % 2, by omega, by omega⟩
    have hj : j < (List.replicate n En.zero).length := by simp; omega
    obtain ⟨g0, g1⟩ := flat2_get _ j hj
    obtain rfl | rfl : m = 0 ∨ m = 1 := by omega
    · rw [Nat.add_zero] at hi ⊢; rw [g0]; simp [madeCells, hi, En.zero]
    · rw [g1]; simp [madeCells, hi, En.zero]
  · rw [List.getElem?_eq_none (by simp [madeCells]; omega), List.getElem?_eq_none (by rw [flat2_length]; simp; omega)]
/-- The value v is a slice of the entries l. -/
def ER (w : World) (v : Value) (l : List En) : Prop :=
  ∃ a cap, v = .slice a l.length cap ∧ (l ≠ [] → ∃ b off, a = some ⟨b, off, none⟩ ∧ b < w.heap.size ∧
    ∀ i (h : i < l.length), w.cell? ⟨b, off + i * 2, none⟩ = some (.int .i64 l[i].t) ∧ w.cell? ⟨b, off + i * 2 + 1, none⟩ = some (.string l[i].d))
theorem ER.below {w w' : World} {v : Value} {l : List En} (h : ER w v l) (hb : Below w.heap.size w w') : ER w' v l := by
  obtain ⟨a, cap, hv, hc⟩ := h
  refine ⟨a, cap, hv, fun hl => ?_⟩
  obtain ⟨b, off, ha, hbl, hcell⟩ := hc hl
  refine ⟨b, off, ha, Nat.lt_of_lt_of_le hbl hb.size, fun i hi => ?_⟩
  obtain ⟨c0, c1⟩ := hcell i hi
  exact ⟨(hb.cell (p := ⟨b, off + i * 2, none⟩) hbl).trans c0, (hb.cell (p := ⟨b, off + i * 2 + 1, none⟩) hbl).trans c1⟩
theorem ER_nil (w : World) : ER w (.slice none 0 0) [] := ⟨none, 0, rfl, fun h => absurd rfl h⟩
theorem ER_of_owns {w : World} {base n : Nat} {e : TypeId} {v : Value} {l : List En} (h : w.ownsRow base e 2 v n (flat2 l)) (hn : n = l.length) : ER w v l := by
  subst hn
  have h' := h
  obtain ⟨hl, h⟩ := h
  rcases h with ⟨rfl, h0⟩ | ⟨g, cap, cur, rfl, hbg, hh, hcap, hm, hsz, htk⟩
  · exact ⟨none, 0, by rw [h0], fun hne => absurd (List.length_eq_zero_iff.1 h0) hne⟩
  · refine ⟨_, cap, rfl, fun _ => ⟨g, 0, rfl, (Array.getElem?_eq_some_iff.1 hh).1, fun i hi => ?_⟩⟩
    obtain ⟨g0, g1⟩ := flat2_get l i hi
    rw [Nat.zero_add]
    exact ⟨by rw [h'.cellAt (i * 2) (by omega), g0], by rw [h'.cellAt (i * 2 + 1) (by omega), g1]⟩
def part2 (l : List En) (k : Nat) : List En := l.take k ++ List.replicate (l.length - k) En.zero
theorem part2_zero (l : List En) : part2 l 0 = List.replicate l.length En.zero := by simp [part2]
theorem part2_all (l : List En) : part2 l l.length = l := by simp [part2]
theorem part2_set (l : List En) (k : Nat) (h : k < l.length) : (part2 l k).set k l[k] = part2 l (k + 1) := by
  unfold part2
  have h1 : (l.take k).length = k := by simp; omega
  obtain ⟨m, hm⟩ : ∃ m, l.length - k = m + 1 := ⟨l.length - k - 1, by omega⟩
  rw [List.set_append_right _ _ (by omega), h1, Nat.sub_self, hm, List.replicate_succ, List.set_cons_zero, List.take_succ_eq_append_getElem h, List.append_assoc, show l.length - (k + 1) = m from by omega]
  rfl
theorem owns2_at {w : World} {base : Nat} {e : TypeId} {g cap n : Nat} {xs : List Value} (h : w.ownsRow base e 2 (.slice (some ⟨g, 0, none⟩) n cap) n xs) (i : Nat) (hi : i < n) (j : Nat) (hj : j < 2) :
    (∃ u, w.cell? ⟨g, i * 2 + j, none⟩ = some u) ∧ w.frozen? ⟨g, i * 2 + j, none⟩ = false := by
  have hl := h.1
  refine ⟨?_, h.frozenAt _⟩
  rw [h.cellAt (i * 2 + j) (by omega)]
  exact ⟨_, List.getElem?_eq_getElem (by omega)⟩
def tot2 : List En → Nat
  | [] => 0
  | s :: r => s.d.size + tot2 r
theorem tot2_take (l : List En) (k : Nat) (h : k < l.length) : tot2 (l.take (k + 1)) = tot2 (l.take k) + l[k].d.size := by
  induction l generalizing k with
  | nil => simp at h
  | cons x r ih =>
    cases k with
    | zero => simp [tot2]
    | succ k =>
      simp only [List.take_succ_cons, tot2, List.getElem_cons_succ]
      rw [ih k (by simpa using h)]; omega
theorem tot2_mem (l : List En) (k : Nat) (h : k < l.length) : l[k].d.size ≤ tot2 l := by
  induction l generalizing k with
  | nil => simp at h
  | cons x r ih =>
    cases k with
    | zero => simp [tot2]
    | succ k => have := ih k (by simpa using h); simp only [tot2, List.getElem_cons_succ]; omega

theorem toEntry_any (t : Int) (d : ByteArray) (w : World) :
    Calls Try.prog 121 #[.agg #[.int .i64 t, .string d]] w fun e w' => e = .returned (.agg #[.int .i64 t, .string d]) ∧ Below w.heap.size w w' := by
  go_enter Try.func121, Try.ntmps121
  go_wp2
  exact bodyPost_ret (v := .agg #[.int .i64 t, .string d]) (by simp [results, Try.results121, go_sem]) rfl ⟨rfl, below3 _ _ _ _⟩

theorem szEntry_any (t : Int) (d : ByteArray) (left : Int) (w : World) (h0 : 0 ≤ left) (h1 : left ≤ 1048576) (hd : d.size ≤ maxLen) :
    Calls Try.prog 120 #[.agg #[.int .i64 t, .string d], .int .i64 left] w fun e w' => e = .returned (.int .i64 (if (d.size : Int) ≤ left then left - d.size else -1)) ∧ Below w.heap.size w w' := by
  unfold maxLen at hd
  by_cases h : (d.size : Int) ≤ left
  · go_enter Try.func120, Try.ntmps120
    go_wp2
    go_ret
    exact ⟨by simp, below_alloc _ _⟩
  · go_enter Try.func120, Try.ntmps120
    go_wp2
    go_ret
    exact ⟨by simp, below_alloc _ _⟩

theorem Try.info34 : (Try.prog.info? 34).map (fun i => (i.zero, i.size, i.bytes)) = some (some (.agg #[.int .i64 0, .string ⟨#[]⟩]), 2, 24) := by kernel_rfl

set_option maxHeartbeats 2000000 in
theorem szEntryS_any (v : Value) (l : List En) (left : Int) (w : World) (hv : ER w v l) (h0 : 0 ≤ left) (h1 : left ≤ 1048576) (hn : l.length ≤ maxLen) (hs : ∀ i (h : i < l.length), l[i].d.size ≤ maxLen) :
    Calls Try.prog 75 #[v, .int .i64 left] w fun e w' => (∃ r : Int, e = .returned (.int .i64 r) ∧ (r = -1 ∨ (0 ≤ r ∧ (tot2 l : Int) + l.length + r = left))) ∧ Below w.heap.size w w' := by
  obtain ⟨a, cap, rfl, hc⟩ := hv
  unfold maxLen at hn
  by_cases hl : l.length ≤ left
  · go_enter Try.func75, Try.ntmps75
    go_wp2
    go_loopw [1, 5] (fun t i wr => ∃ k : Nat, k ≤ l.length ∧ i = .int .i64 k ∧ (tot2 (l.take k) : Int) ≤ left - l.length ∧ t = .int .i64 (left - l.length - tot2 (l.take k)) ∧ Below w.heap.size w wr) (fun _ i _ => l.length - (intOf i).toNat)
    case atStart => exact ⟨0, Nat.zero_le _, rfl, by simp [tot2]; omega, by simp [tot2], Below.refl _ _⟩
    case round =>
      obtain ⟨k, hk, rfl, ht, rfl, hb⟩ := hrel
      by_cases hlt : k < l.length
      · obtain ⟨b, off, rfl, hbl, hcell⟩ := hc (by intro e; simp [e] at hlt)
        obtain ⟨s, hse⟩ : ∃ s, s = l[k] := ⟨_, rfl⟩
        have hc0 := (hb.cell (p := ⟨b, off + k * 2, none⟩) hbl).trans (hcell k hlt).1
        have hc1 := (hb.cell (p := ⟨b, off + k * 2 + 1, none⟩) hbl).trans (hcell k hlt).2
        have hss := hs k hlt
        have HT : Hid (tot2 (l.take (k + 1)) = tot2 (l.take k) + s.d.size) := by rw [hse]; exact tot2_take l k hlt
        rw [← hse] at hc0 hc1 hss
        clear hcell hs hse hc
        have hz := hb.size
        have KS := fun w => szEntry_any s.t s.d (left - l.length - tot2 (l.take k)) w (by omega) (by omega) hss
        obtain ⟨st, sd⟩ := s
        dsimp only at *
        by_cases hle : (sd.size : Int) ≤ left - l.length - tot2 (l.take k)
        · rw [if_pos hle] at KS
          go_wp2_with fail
          refine (KS _).mono ?_
          rintro e w1 ⟨rfl, hb1⟩
          go_wp2_with fail
          go_roundw
          case rel => exact ⟨k + 1, by omega, by go_num, by rw [HT.out]; omega, by rw [HT.out]; go_num, hb.trans (hb1.mono hz)⟩
          case measure => simp [intOf]; omega
        · rw [if_neg hle] at KS
          go_wp2_with fail
          refine (KS _).mono ?_
          rintro e w1 ⟨rfl, hb1⟩
          go_wp2_with fail
          go_ret
          exact ⟨⟨-1, rfl, .inl rfl⟩, hb.trans (hb1.mono hz)⟩
      · go_wp2
        go_ret
        have : k = l.length := by omega
        subst this
        exact ⟨⟨_, rfl, .inr (by rw [List.take_length] at *; omega)⟩, hb⟩
  · go_enter Try.func75, Try.ntmps75
    go_wp2
    go_ret
    exact ⟨⟨-1, rfl, .inl rfl⟩, Below.refl _ _⟩

set_option maxHeartbeats 2000000 in
theorem toEntryS_any (v : Value) (l : List En) (w : World) (hv : ER w v l) (hn : l.length ≤ 1048576) :
    Calls Try.prog 78 #[v] w fun e w' => e = .returned (.slice (some ⟨w.heap.size, 0, none⟩) l.length l.length) ∧ w'.ownsRow w.heap.size 34 2 (.slice (some ⟨w.heap.size, 0, none⟩) l.length l.length) l.length (flat2 l) ∧ Below w.heap.size w w' := by
  obtain ⟨a, cap, rfl, hc⟩ := hv
  obtain ⟨i0, hi, hz0, hz1, hz2⟩ := info_parts Try.info34
  go_enter Try.func78, Try.ntmps78
  go_wp2_with (at_make; refine wpList_make_full _ rfl _ _ 23 rfl w.heap.size 34 i0 _ 2 Try.underlying23 hi hz0 hz1 .i64 .i64 _ _ l.length rfl rfl rfl rfl (by rw [hz2]; omega) (by unfold maxLen; omega) (Nat.le_refl _) ?_; intro w0 hown0 hgr0)
  rw [flat2_zeros, ← part2_zero] at hown0
  have hb0 : Below w.heap.size w w0 := (Below.refl _ _).grown hgr0 (Nat.le_refl _) (by simp)
  have hlt0 : w.heap.size < w0.heap.size := (owns_lt hown0).2
  clear hgr0 hi hz0 hz1 hz2
  go_loopw [4] (fun i wr => ∃ k : Nat, k ≤ l.length ∧ i = .int .i64 k ∧ wr.ownsRow w.heap.size 34 2 (.slice (some ⟨w.heap.size, 0, none⟩) l.length l.length) l.length (flat2 (part2 l k)) ∧ Below w.heap.size w wr ∧ w.heap.size < wr.heap.size) (fun i _ => l.length - (intOf i).toNat)
  case atStart => exact ⟨0, Nat.zero_le _, rfl, hown0, hb0, hlt0⟩
  case round =>
    obtain ⟨k, hk, rfl, hown, hb, hlt1⟩ := hrel
    clear hown0 hb0 hlt0
    by_cases hlt : k < l.length
    · obtain ⟨b, off, rfl, hbl, hcell⟩ := hc (by intro e; simp [e] at hlt)
      obtain ⟨s, hse⟩ : ∃ s, s = l[k] := ⟨_, rfl⟩
      have hc0 := (hb.cell (p := ⟨b, off + k * 2, none⟩) hbl).trans (hcell k hlt).1
      have hc1 := (hb.cell (p := ⟨b, off + k * 2 + 1, none⟩) hbl).trans (hcell k hlt).2
      have HS : Hid ((part2 l k).set k s = part2 l (k + 1)) := by rw [hse]; exact part2_set l k hlt
      rw [← hse] at hc0 hc1
      clear hcell hse hc
      have hz := hb.size
      obtain ⟨st, sd⟩ := s
      dsimp only at hc0 hc1
      go_wp2_with fail
      refine (toEntry_any _ _ _).mono ?_
      rintro e w1 ⟨rfl, hb1⟩
      have hown1 := owns_below hown hb1
      obtain ⟨⟨u0, d0⟩, f0⟩ := owns2_at hown1 k hlt 0 (by omega)
      obtain ⟨⟨u1, d1⟩, f1⟩ := owns2_at hown1 k hlt 1 (by omega)
      rw [Nat.add_zero] at d0 f0
      have hz1 := hb1.size
      have HO : Hid _ := ((hown1.stored (k * 2) (.int .i64 st)).1.stored (k * 2 + 1) (.string sd)).1
      clear hown hown1
      go_wp2
      go_roundw
      case rel =>
        refine ⟨k + 1, by omega, by go_num, ?_, ?_, ?_⟩
        · have := HO.out
          rw [flat2_set (part2 l k) k ⟨st, sd⟩, HS.out] at this
          exact this
        · exact ((hb.trans (hb1.mono hz)).setCell (by simp) _).setCell (by simp) _
        · simp; omega
      case measure => simp [intOf]; omega
    · go_wp2
      go_ret
      have : k = l.length := by omega
      subst this
      rw [part2_all] at hown
      exact ⟨rfl, hown, hb⟩

theorem below_undrew {w w' : World} (h : Below w.drew.heap.size w.drew w') : Below w.heap.size w w' := (Below.refl _ _).drew.trans h
theorem eqEntry_same (t : Int) (d : ByteArray) (w : World) :
    Calls Try.prog 107 #[.agg #[.int .i64 t, .string d], .agg #[.int .i64 t, .string d]] w fun e w' => e = .returned (.bool true) ∧ Below w.heap.size w w' := by
  go_enter Try.func107, Try.ntmps107
  go_wp2
  go_ret
  exact ⟨rfl, below2 _ _ _⟩

set_option maxHeartbeats 2000000 in
theorem eqEntryS_same (u v : Value) (l : List En) (w : World) (hu : ER w u l) (hv : ER w v l) (hn : l.length ≤ 1048576) :
    Calls Try.prog 49 #[u, v] w fun e w' => e = .returned (.bool true) ∧ Below w.heap.size w w' := by
  obtain ⟨a, cap, rfl, hc⟩ := hu
  obtain ⟨a', cap', rfl, hc'⟩ := hv
  go_enter Try.func49, Try.ntmps49
  go_wp2
  go_loopw [5] (fun i wr => ∃ k : Nat, k ≤ l.length ∧ i = .int .i64 k ∧ Below w.heap.size w wr) (fun i _ => l.length - (intOf i).toNat)
  case atStart => exact ⟨0, Nat.zero_le _, rfl, Below.refl _ _⟩
  case round =>
    obtain ⟨k, hk, rfl, hb⟩ := hrel
    by_cases hlt : k < l.length
    · obtain ⟨b, off, rfl, hbl, hcell⟩ := hc (by intro e; simp [e] at hlt)
      obtain ⟨b', off', rfl, hbl', hcell'⟩ := hc' (by intro e; simp [e] at hlt)
      obtain ⟨s, hse⟩ : ∃ s, s = l[k] := ⟨_, rfl⟩
      have hc0 := (hb.cell (p := ⟨b, off + k * 2, none⟩) hbl).trans (hcell k hlt).1
      have hc1 := (hb.cell (p := ⟨b, off + k * 2 + 1, none⟩) hbl).trans (hcell k hlt).2
      have hd0 := (hb.cell (p := ⟨b', off' + k * 2, none⟩) hbl').trans (hcell' k hlt).1
      have hd1 := (hb.cell (p := ⟨b', off' + k * 2 + 1, none⟩) hbl').trans (hcell' k hlt).2
      rw [← hse] at hc0 hc1 hd0 hd1
      clear hcell hse hc hcell' hc'
      have hz := hb.size
      obtain ⟨st, sd⟩ := s
      dsimp only at hc0 hc1 hd0 hd1
      go_wp2_with fail
      go_region_held3 (fun w' => (w'.cell? ⟨b, off + k * 2, none⟩ = some (.int .i64 st) ∧ w'.cell? ⟨b, off + k * 2 + 1, none⟩ = some (.string sd)) ∧ w'.cell? ⟨b', off' + k * 2, none⟩ = some (.int .i64 st) ∧ w'.cell? ⟨b', off' + k * 2 + 1, none⟩ = some (.string sd)) (go_keep)
        (first | (go_at_call 107; refine (eqEntry_same _ _ _).mono ?_; rintro e w1 ⟨rfl, hb1'⟩; have hb1 := below_undrew hb1'; have hbl2 : b < wr.heap.size := (by omega); have hbl3 : b' < wr.heap.size := (by omega); replace hc0 := (hb1.cell (p := ⟨b, off + k * 2, none⟩) hbl2).trans hc0; replace hc1 := (hb1.cell (p := ⟨b, off + k * 2 + 1, none⟩) hbl2).trans hc1; replace hd0 := (hb1.cell (p := ⟨b', off' + k * 2, none⟩) hbl3).trans hd0; replace hd1 := (hb1.cell (p := ⟨b', off' + k * 2 + 1, none⟩) hbl3).trans hd1))
      go_wp2
      go_roundw
      case rel => exact ⟨k + 1, by omega, by go_num, hb.trans (hb1.mono hz)⟩
      case measure => simp [intOf]; omega
    · clear hc hc'
      go_wp2
      go_ret
      exact ⟨rfl, hb⟩
end Go.Proofs.Ytapfhhmimkkhnaa
