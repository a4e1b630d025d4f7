/-
  Pairs in a row: rows of two cells; szPairS, toPairS, eqPairS.
-/
import Derived.Test.YthlllegedfjhlaaProg
import Derived.Test.YthlllegedfjhlaaB
import Derived.Test.YthlllegedfjhlaaC
import Derived.Test.YthlllegedfjhlaaE
import Derived.OwnWalk
import Derived.Deep.RegionHeld3
import Derived.Deep.QuietTactic
import Derived.BigQuiet
namespace Go.Proofs.Ythlllegedfjhlaa
open Go.RowKit
set_option linter.unusedVariables false
set_option maxRecDepth 100000

theorem ownsK_at {w : World} {base size : Nat} {e : TypeId} {g cap n : Nat} {xs : List Value} (h : w.ownsRow base e size (.slice (some ⟨g, 0, none⟩) n cap) n xs) (i : Nat) (hi : i < n) (j : Nat) (hj : j < size) :
    (∃ u, w.cell? ⟨g, i * size + j, none⟩ = some u) ∧ w.frozen? ⟨g, i * size + j, none⟩ = false := by
  have hl := h.1
  have hlt : i * size + j < n * size := Nat.lt_of_lt_of_le (by rw [Nat.add_mul, Nat.one_mul]; omega : i * size + j < (i + 1) * size) (Nat.mul_le_mul_right size hi)
  refine ⟨?_, h.frozenAt _⟩
  rw [h.cellAt (i * size + j) hlt]
  exact ⟨_, List.getElem?_eq_getElem (by omega)⟩
theorem below_undrew {w w' : World} (h : Below w.drew.heap.size w.drew w') : Below w.heap.size w w' := (Below.refl _ _).drew.trans h
/-- A pair: its key and its value. -/
structure Pr where
  k : ByteArray
  v : ByteArray
def Pr.zero : Pr := ⟨⟨#[]⟩, ⟨#[]⟩⟩
instance : Inhabited Pr := ⟨Pr.zero⟩
def flP : List Pr → List Value
  | [] => []
  | s :: r => .string s.k :: .string s.v :: flP r
theorem flP_length (l : List Pr) : (flP l).length = l.length * 2 := by
  induction l with
  | nil => rfl
  | cons x r ih => simp only [flP, List.length_cons, ih]; omega
theorem flP_append (l m : List Pr) : flP (l ++ m) = flP l ++ flP m := by
  induction l with
  | nil => rfl
  | cons x r ih => simp only [List.cons_append, flP, ih]
theorem flP_get (l : List Pr) (i : Nat) (h : i < l.length) : (flP l)[i * 2]? = some (.string l[i].k) ∧ (flP l)[i * 2 + 1]? = some (.string l[i].v) := by
  induction l generalizing i with
  | nil => simp at h
  | cons x r ih =>
    cases i with
    | zero => exact ⟨rfl, rfl⟩
    | succ i =>
      have := ih i (by simpa using h)
      rw [show (i + 1) * 2 = i * 2 + 1 + 1 from by omega, show i * 2 + 1 + 1 + 1 = (i * 2 + 1) + 1 + 1 from by omega]
      simp only [flP, List.getElem?_cons_succ, List.getElem_cons_succ]
      exact this
theorem flP_set (l : List Pr) (i : Nat) (s : Pr) : ((flP l).set (i * 2) (.string s.k)).set (i * 2 + 1) (.string s.v) = flP (l.set i s) := by
  induction l generalizing i with
  | nil => simp [flP]
  | cons x r ih =>
    cases i with
    | zero => simp [flP]
    | succ i =>
      rw [show (i + 1) * 2 = i * 2 + 1 + 1 from by omega, show i * 2 + 1 + 1 + 1 = (i * 2 + 1) + 1 + 1 from by omega]
      simp only [flP, List.set_cons_succ]
      rw [ih i]
theorem flP_zeros (n : Nat) : (madeCells (Value.agg #[.string ⟨#[]⟩, .string ⟨#[]⟩]).cells (n * 2)).toList = flP (List.replicate n Pr.zero) := by
  have hcs : (Value.agg #[.string ⟨#[]⟩, .string ⟨#[]⟩]).cells = #[.string ⟨#[]⟩, .string ⟨#[]⟩] := rfl
  rw [hcs]
  apply List.ext_getElem?
  intro i
  by_cases hi : i < n * 2
  · obtain ⟨j, m, hm, rfl⟩ : ∃ j m, m < 2 ∧ i = j * 2 + m := ⟨i / 2, i % 2, by omega, by omega⟩
    have hj : j < (List.replicate n Pr.zero).length := by simp; omega
    obtain ⟨g0, g1⟩ := flP_get _ j hj
    obtain rfl | rfl : m = 0 ∨ m = 1 := by omega
    · rw [Nat.add_zero] at hi ⊢; rw [g0]; simp [madeCells, hi, Pr.zero]
    · rw [g1]; simp [madeCells, hi, Pr.zero]
  · rw [List.getElem?_eq_none (by simp [madeCells]; omega), List.getElem?_eq_none (by rw [flP_length]; simp; omega)]
/-- The value v is a slice of the list l. -/
def PR (w : World) (v : Value) (l : List Pr) : Prop :=
  ∃ a cap, v = .slice a l.length cap ∧ (l ≠ [] → ∃ b off, a = some ⟨b, off, none⟩ ∧ b < w.heap.size ∧
    ∀ i (h : i < l.length), w.cell? ⟨b, off + i * 2, none⟩ = some (.string l[i].k) ∧ w.cell? ⟨b, off + i * 2 + 1, none⟩ = some (.string l[i].v))
theorem PR.below {w w' : World} {v : Value} {l : List Pr} (h : PR w v l) (hb : Below w.heap.size w w') : PR w' v l := by
  obtain ⟨a, cap, hv, hc⟩ := h
  refine ⟨a, cap, hv, fun hl => ?_⟩
  obtain ⟨b, off, ha, hbl, hcell⟩ := hc hl
  refine ⟨b, off, ha, Nat.lt_of_lt_of_le hbl hb.size, fun i hi => ?_⟩
  obtain ⟨c0, c1⟩ := hcell i hi
  exact ⟨(hb.cell (p := ⟨b, off + i * 2, none⟩) hbl).trans c0, (hb.cell (p := ⟨b, off + i * 2 + 1, none⟩) hbl).trans c1⟩
theorem PR_nil (w : World) : PR w (.slice none 0 0) [] := ⟨none, 0, rfl, fun h => absurd rfl h⟩
theorem PR.size {w : World} {v : Value} {l : List Pr} (h : PR w v l) : ∃ a cap, v = .slice a l.length cap := by obtain ⟨a, c, h, _⟩ := h; exact ⟨a, c, h⟩
theorem PR_of_owns {w : World} {base n : Nat} {e : TypeId} {v : Value} {l : List Pr} (h : w.ownsRow base e 2 v n (flP l)) (hn : n = l.length) : PR w v l := by
  subst hn
  have h' := h
  obtain ⟨hl, h⟩ := h
  rcases h with ⟨rfl, h0⟩ | ⟨g, cap, cur, rfl, hbg, hh, hcap, hm, hsz, htk⟩
  · exact ⟨none, 0, by rw [h0], fun hne => absurd (List.length_eq_zero_iff.1 h0) hne⟩
  · refine ⟨_, cap, rfl, fun _ => ⟨g, 0, rfl, (Array.getElem?_eq_some_iff.1 hh).1, fun i hi => ?_⟩⟩
    obtain ⟨g0, g1⟩ := flP_get l i hi
    rw [Nat.zero_add]
    exact ⟨by rw [h'.cellAt (i * 2) (by omega), g0], by rw [h'.cellAt (i * 2 + 1) (by omega), g1]⟩
def partP (l : List Pr) (k : Nat) : List Pr := l.take k ++ List.replicate (l.length - k) Pr.zero
theorem partP_zero (l : List Pr) : partP l 0 = List.replicate l.length Pr.zero := by simp [partP]
theorem partP_all (l : List Pr) : partP l l.length = l := by simp [partP]
theorem partP_set (l : List Pr) (k : Nat) (h : k < l.length) : (partP l k).set k l[k] = partP l (k + 1) := by
  unfold partP
  have h1 : (l.take k).length = k := by simp; omega
  obtain ⟨m, hm⟩ : ∃ m, l.length - k = m + 1 := ⟨l.length - k - 1, by omega⟩
  rw [List.set_append_right _ _ (by omega), h1, Nat.sub_self, hm, List.replicate_succ, List.set_cons_zero, List.take_succ_eq_append_getElem h, List.append_assoc, show l.length - (k + 1) = m from by omega]
  rfl
def totP : List Pr → Nat
  | [] => 0
  | s :: r => s.k.size + s.v.size + totP r
theorem totP_take (l : List Pr) (k : Nat) (h : k < l.length) : totP (l.take (k + 1)) = totP (l.take k) + (l[k].k.size + l[k].v.size) := by
  induction l generalizing k with
  | nil => simp at h
  | cons x r ih =>
    cases k with
    | zero => simp [totP]
    | succ k =>
      simp only [List.take_succ_cons, totP, List.getElem_cons_succ]
      rw [ih k (by simpa using h)]; omega
theorem totP_mem (l : List Pr) (k : Nat) (h : k < l.length) : l[k].k.size + l[k].v.size ≤ totP l := by
  induction l generalizing k with
  | nil => simp at h
  | cons x r ih =>
    cases k with
    | zero => simp [totP]
    | succ k => have := ih k (by simpa using h); simp only [totP, List.getElem_cons_succ]; omega
theorem toPair_any (k : ByteArray) (v : ByteArray) (w : World) :
    Calls Try.prog 33 #[.agg #[.string k, .string v]] w fun e w' => e = .returned (.agg #[.string k, .string v]) ∧ Below w.heap.size w w' := by
  go_enter Try.func33, Try.ntmps33
  go_wp2
  exact bodyPost_ret (v := .agg #[.string k, .string v]) (by simp [results, Try.results33, go_sem]) rfl ⟨rfl, below3 _ _ _ _⟩
theorem szPair_any (k : ByteArray) (v : ByteArray) (left : Int) (w : World) (h0 : 0 ≤ left) (h1 : left ≤ 1048576) (hk : k.size ≤ maxLen) (hv : v.size ≤ maxLen) :
    Calls Try.prog 31 #[.agg #[.string k, .string v], .int .i64 left] w fun e w' => e = .returned (.int .i64 (if (k.size : Int) + v.size ≤ left then left - k.size - v.size else -1)) ∧ Below w.heap.size w w' := by
  unfold maxLen at hk hv
  by_cases g0 : (k.size : Int) ≤ left
  · by_cases g1 : (k.size : Int) + v.size ≤ left
    · go_enter Try.func31, Try.ntmps31
      go_wp2
      go_ret
      exact ⟨by simp, below_alloc _ _⟩
    · go_enter Try.func31, Try.ntmps31
      go_wp2
      go_ret
      exact ⟨by simp, below_alloc _ _⟩
  · have gg : ¬ (k.size : Int) + v.size ≤ left := by omega
    go_enter Try.func31, Try.ntmps31
    go_wp2
    go_ret
    exact ⟨by simp, below_alloc _ _⟩
theorem eqPair_same (k : ByteArray) (v : ByteArray) (w : World) :
    Calls Try.prog 38 #[.agg #[.string k, .string v], .agg #[.string k, .string v]] w fun e w' => e = .returned (.bool true) ∧ Below w.heap.size w w' := by
  go_enter Try.func38, Try.ntmps38
  go_wp2
  go_ret
  exact ⟨rfl, below2 _ _ _⟩
theorem Try.info49 : (Try.prog.info? 49).map (fun i => (i.zero, i.size, i.bytes)) = some (some (.agg #[.string ⟨#[]⟩, .string ⟨#[]⟩]), 2, 32) := by kernel_rfl
set_option maxHeartbeats 2000000 in
theorem szPairS_any (v : Value) (l : List Pr) (left : Int) (w : World) (hv : PR w v l) (h0 : 0 ≤ left) (h1 : left ≤ 1048576) (hn : l.length ≤ maxLen) (hs : ∀ i (h : i < l.length), l[i].k.size ≤ maxLen ∧ l[i].v.size ≤ maxLen) :
    Calls Try.prog 16 #[v, .int .i64 left] w fun e w' => (∃ r : Int, e = .returned (.int .i64 r) ∧ (r = -1 ∨ (0 ≤ r ∧ (totP l : Int) + l.length + r = left))) ∧ Below w.heap.size w w' := by
  obtain ⟨a, cap, rfl, hc⟩ := hv
  unfold maxLen at hn
  by_cases hl : l.length ≤ left
  · go_enter Try.func16, Try.ntmps16
    go_wp2
    go_loopw [1, 5] (fun t i wr => ∃ k : Nat, k ≤ l.length ∧ i = .int .i64 k ∧ (totP (l.take k) : Int) ≤ left - l.length ∧ t = .int .i64 (left - l.length - totP (l.take k)) ∧ Below w.heap.size w wr) (fun _ i _ => l.length - (intOf i).toNat)
    case atStart => exact ⟨0, Nat.zero_le _, rfl, by simp [totP]; omega, by simp [totP], Below.refl _ _⟩
    case round =>
      obtain ⟨k, hk, rfl, ht, rfl, hb⟩ := hrel
      by_cases hlt : k < l.length
      · obtain ⟨b, off, rfl, hbl, hcell⟩ := hc (by intro e; simp [e] at hlt)
        obtain ⟨s, hse⟩ : ∃ s, s = l[k] := ⟨_, rfl⟩
        have hc0 := (hb.cell (p := ⟨b, off + k * 2, none⟩) hbl).trans (hcell k hlt).1
        have hc1 := (hb.cell (p := ⟨b, off + k * 2 + 1, none⟩) hbl).trans (hcell k hlt).2
        have hss := hs k hlt
        have HT : Hid (totP (l.take (k + 1)) = totP (l.take k) + (s.k.size + s.v.size)) := by rw [hse]; exact totP_take l k hlt
        rw [← hse] at hc0 hc1 hss
        clear hcell hs hse hc
        have hz := hb.size
        have KS := fun w => szPair_any s.k s.v (left - l.length - totP (l.take k)) w (by omega) (by omega) hss.1 hss.2
        obtain ⟨sk, sv⟩ := s
        dsimp only at *
        by_cases hle : (sk.size : Int) + sv.size ≤ left - l.length - totP (l.take k)
        · rw [if_pos hle] at KS
          go_wp2_with fail
          refine (KS _).mono ?_
          rintro e w1 ⟨rfl, hb1⟩
          go_wp2_with fail
          go_roundw
          case rel => exact ⟨k + 1, by omega, by go_num, by rw [HT.out]; omega, by rw [HT.out]; go_num, hb.trans (hb1.mono hz)⟩
          case measure => simp [intOf]; omega
        · rw [if_neg hle] at KS
          go_wp2_with fail
          refine (KS _).mono ?_
          rintro e w1 ⟨rfl, hb1⟩
          go_wp2_with fail
          go_ret
          exact ⟨⟨-1, rfl, .inl rfl⟩, hb.trans (hb1.mono hz)⟩
      · go_wp2
        go_ret
        have : k = l.length := by omega
        subst this
        exact ⟨⟨_, rfl, .inr (by rw [List.take_length] at *; omega)⟩, hb⟩
  · go_enter Try.func16, Try.ntmps16
    go_wp2
    go_ret
    exact ⟨⟨-1, rfl, .inl rfl⟩, Below.refl _ _⟩
set_option maxHeartbeats 2000000 in
theorem toPairS_any (v : Value) (l : List Pr) (w : World) (hv : PR w v l) (hn : l.length ≤ 1048576) :
    Calls Try.prog 20 #[v] w fun e w' => e = .returned (.slice (some ⟨w.heap.size, 0, none⟩) l.length l.length) ∧ w'.ownsRow w.heap.size 49 2 (.slice (some ⟨w.heap.size, 0, none⟩) l.length l.length) l.length (flP l) ∧ Below w.heap.size w w' := by
  obtain ⟨a, cap, rfl, hc⟩ := hv
  obtain ⟨i0, hi, hz0, hz1, hz2⟩ := info_parts Try.info49
  go_enter Try.func20, Try.ntmps20
  go_wp2_with (at_make; refine wpList_make_full _ rfl _ _ 28 rfl w.heap.size 49 i0 _ 2 Try.underlying28 hi hz0 hz1 .i64 .i64 _ _ l.length rfl rfl rfl rfl (by rw [hz2]; omega) (by unfold maxLen; omega) (Nat.le_refl _) ?_; intro w0 hown0 hgr0)
  rw [flP_zeros, ← partP_zero] at hown0
  have hb0 : Below w.heap.size w w0 := (Below.refl _ _).grown hgr0 (Nat.le_refl _) (by simp)
  have hlt0 : w.heap.size < w0.heap.size := (owns_lt hown0).2
  clear hgr0 hi hz0 hz1 hz2
  go_loopw [4] (fun i wr => ∃ k : Nat, k ≤ l.length ∧ i = .int .i64 k ∧ wr.ownsRow w.heap.size 49 2 (.slice (some ⟨w.heap.size, 0, none⟩) l.length l.length) l.length (flP (partP l k)) ∧ Below w.heap.size w wr ∧ w.heap.size < wr.heap.size) (fun i _ => l.length - (intOf i).toNat)
  case atStart => exact ⟨0, Nat.zero_le _, rfl, hown0, hb0, hlt0⟩
  case round =>
    obtain ⟨k, hk, rfl, hown, hb, hlt1⟩ := hrel
    clear hown0 hb0 hlt0
    by_cases hlt : k < l.length
    · obtain ⟨b, off, rfl, hbl, hcell⟩ := hc (by intro e; simp [e] at hlt)
      obtain ⟨s, hse⟩ : ∃ s, s = l[k] := ⟨_, rfl⟩
      have hc0 := (hb.cell (p := ⟨b, off + k * 2, none⟩) hbl).trans (hcell k hlt).1
      have hc1 := (hb.cell (p := ⟨b, off + k * 2 + 1, none⟩) hbl).trans (hcell k hlt).2
      have HS : Hid ((partP l k).set k s = partP l (k + 1)) := by rw [hse]; exact partP_set l k hlt
      rw [← hse] at hc0 hc1
      clear hcell hse hc
      have hz := hb.size
      obtain ⟨sk, sv⟩ := s
      dsimp only at hc0 hc1
      go_wp2_with fail
      refine (toPair_any _ _ _).mono ?_
      rintro e w1 ⟨rfl, hb1⟩
      have hown1 := owns_below hown hb1
      obtain ⟨⟨u0, d0⟩, f0⟩ := ownsK_at hown1 k hlt 0 (by omega)
      obtain ⟨⟨u1, d1⟩, f1⟩ := ownsK_at hown1 k hlt 1 (by omega)
      rw [Nat.add_zero] at d0 f0
      have hz1 := hb1.size
      have HO : Hid _ := ((hown1.stored (k * 2) (.string sk)).1.stored (k * 2 + 1) (.string sv)).1
      clear hown hown1
      go_wp2
      go_roundw
      case rel =>
        refine ⟨k + 1, by omega, by go_num, ?_, ?_, ?_⟩
        · have := HO.out
          rw [flP_set (partP l k) k ⟨sk, sv⟩, HS.out] at this
          exact this
        · exact (((hb.trans (hb1.mono hz)).setCell (by simp) _).setCell (by simp) _)
        · simp; omega
      case measure => simp [intOf]; omega
    · go_wp2
      go_ret
      have : k = l.length := by omega
      subst this
      rw [partP_all] at hown
      exact ⟨rfl, hown, hb⟩
set_option maxHeartbeats 4000000 in
theorem eqPairS_same (u v : Value) (l : List Pr) (w : World) (hu : PR w u l) (hv : PR w v l) (hn : l.length ≤ 1048576) :
    Calls Try.prog 24 #[u, v] w fun e w' => e = .returned (.bool true) ∧ Below w.heap.size w w' := by
  obtain ⟨a, cap, rfl, hc⟩ := hu
  obtain ⟨a', cap', rfl, hc'⟩ := hv
  go_enter Try.func24, Try.ntmps24
  go_wp2
  go_loopw [5] (fun i wr => ∃ k : Nat, k ≤ l.length ∧ i = .int .i64 k ∧ Below w.heap.size w wr) (fun i _ => l.length - (intOf i).toNat)
  case atStart => exact ⟨0, Nat.zero_le _, rfl, Below.refl _ _⟩
  case round =>
    obtain ⟨k, hk, rfl, hb⟩ := hrel
    by_cases hlt : k < l.length
    · obtain ⟨b, off, rfl, hbl, hcell⟩ := hc (by intro e; simp [e] at hlt)
      obtain ⟨b', off', rfl, hbl', hcell'⟩ := hc' (by intro e; simp [e] at hlt)
      obtain ⟨s, hse⟩ : ∃ s, s = l[k] := ⟨_, rfl⟩
      have hc0 := (hb.cell (p := ⟨b, off + k * 2, none⟩) hbl).trans (hcell k hlt).1
      have hc1 := (hb.cell (p := ⟨b, off + k * 2 + 1, none⟩) hbl).trans (hcell k hlt).2
      have hd0 := (hb.cell (p := ⟨b', off' + k * 2, none⟩) hbl').trans (hcell' k hlt).1
      have hd1 := (hb.cell (p := ⟨b', off' + k * 2 + 1, none⟩) hbl').trans (hcell' k hlt).2
      rw [← hse] at hc0 hc1 hd0 hd1
      clear hcell hse hc hcell' hc'
      have hz := hb.size
      obtain ⟨sk, sv⟩ := s
      dsimp only at hc0 hc1 hd0 hd1
      go_wp2_with fail
      go_region_held3 (fun w' => (w'.cell? ⟨b, off + k * 2, none⟩ = some (.string sk) ∧ w'.cell? ⟨b, off + k * 2 + 1, none⟩ = some (.string sv)) ∧ w'.cell? ⟨b', off' + k * 2, none⟩ = some (.string sk) ∧ w'.cell? ⟨b', off' + k * 2 + 1, none⟩ = some (.string sv)) (go_keep)
        (first | (go_at_call 38; refine (eqPair_same _ _ _).mono ?_; rintro e w1 ⟨rfl, hb1'⟩; have hb1 := below_undrew hb1'; have hbl2 : b < wr.heap.size := (by omega); have hbl3 : b' < wr.heap.size := (by omega); replace hc0 := (hb1.cell (p := ⟨b, off + k * 2, none⟩) hbl2).trans hc0; replace hc1 := (hb1.cell (p := ⟨b, off + k * 2 + 1, none⟩) hbl2).trans hc1; replace hd0 := (hb1.cell (p := ⟨b', off' + k * 2, none⟩) hbl3).trans hd0; replace hd1 := (hb1.cell (p := ⟨b', off' + k * 2 + 1, none⟩) hbl3).trans hd1))
      go_wp2
      go_roundw
      case rel => exact ⟨k + 1, by omega, by go_num, hb.trans (hb1.mono hz)⟩
      case measure => simp [intOf]; omega
    · clear hc hc'
      go_wp2
      go_ret
      exact ⟨rfl, hb⟩
end Go.Proofs.Ythlllegedfjhlaa
