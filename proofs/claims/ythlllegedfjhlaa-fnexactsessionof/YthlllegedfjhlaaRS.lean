/-
  Sessions in a row: rows of four cells; szSessionS, toSessionS, eqSessionS.
-/
import Derived.Test.YthlllegedfjhlaaRP
namespace Go.Proofs.Ythlllegedfjhlaa
open Go.RowKit
set_option linter.unusedVariables false
set_option maxRecDepth 100000

/-- A session: n its Id, d its Last, c and v its reply. -/
structure Ss where
  n : Int
  d : Int
  c : Int
  v : ByteArray
def Ss.zero : Ss := ⟨0, 0, 0, ⟨#[]⟩⟩
instance : Inhabited Ss := ⟨Ss.zero⟩
def flS : List Ss → List Value
  | [] => []
  | s :: r => .int .i64 s.n :: .int .i64 s.d :: .int .i64 s.c :: .string s.v :: flS r
theorem flS_length (l : List Ss) : (flS l).length = l.length * 4 := by
  induction l with
  | nil => rfl
  | cons x r ih => simp only [flS, List.length_cons, ih]; omega
theorem flS_append (l m : List Ss) : flS (l ++ m) = flS l ++ flS m := by
  induction l with
  | nil => rfl
  | cons x r ih => simp only [List.cons_append, flS, ih]
theorem flS_get (l : List Ss) (i : Nat) (h : i < l.length) : (flS l)[i * 4]? = some (.int .i64 l[i].n) ∧ (flS l)[i * 4 + 1]? = some (.int .i64 l[i].d) ∧ (flS l)[i * 4 + 2]? = some (.int .i64 l[i].c) ∧ (flS l)[i * 4 + 3]? = some (.string l[i].v) := by
  induction l generalizing i with
  | nil => simp at h
  | cons x r ih =>
    cases i with
    | zero => exact ⟨rfl, rfl, rfl, rfl⟩
    | succ i =>
      have := ih i (by simpa using h)
      rw [show (i + 1) * 4 = i * 4 + 1 + 1 + 1 + 1 from by omega, show i * 4 + 1 + 1 + 1 + 1 + 1 = (i * 4 + 1) + 1 + 1 + 1 + 1 from by omega, show i * 4 + 1 + 1 + 1 + 1 + 2 = (i * 4 + 2) + 1 + 1 + 1 + 1 from by omega, show i * 4 + 1 + 1 + 1 + 1 + 3 = (i * 4 + 3) + 1 + 1 + 1 + 1 from by omega]
      simp only [flS, List.getElem?_cons_succ, List.getElem_cons_succ]
      exact this
theorem flS_set (l : List Ss) (i : Nat) (s : Ss) : ((((flS l).set (i * 4) (.int .i64 s.n)).set (i * 4 + 1) (.int .i64 s.d)).set (i * 4 + 2) (.int .i64 s.c)).set (i * 4 + 3) (.string s.v) = flS (l.set i s) := by
  induction l generalizing i with
  | nil => simp [flS]
  | cons x r ih =>
    cases i with
    | zero => simp [flS]
    | succ i =>
      rw [show (i + 1) * 4 = i * 4 + 1 + 1 + 1 + 1 from by omega, show i * 4 + 1 + 1 + 1 + 1 + 1 = (i * 4 + 1) + 1 + 1 + 1 + 1 from by omega, show i * 4 + 1 + 1 + 1 + 1 + 2 = (i * 4 + 2) + 1 + 1 + 1 + 1 from by omega, show i * 4 + 1 + 1 + 1 + 1 + 3 = (i * 4 + 3) + 1 + 1 + 1 + 1 from by omega]
      simp only [flS, List.set_cons_succ]
      rw [ih i]
theorem flS_zeros (n : Nat) : (madeCells (Value.agg #[.int .i64 0, .int .i64 0, .int .i64 0, .string ⟨#[]⟩]).cells (n * 4)).toList = flS (List.replicate n Ss.zero) := by
  have hcs : (Value.agg #[.int .i64 0, .int .i64 0, .int .i64 0, .string ⟨#[]⟩]).cells = #[.int .i64 0, .int .i64 0, .int .i64 0, .string ⟨#[]⟩] := rfl
  rw [hcs]
  apply List.ext_getElem?
  intro i
  by_cases hi : i < n * 4
  · obtain ⟨j, m, hm, rfl⟩ : ∃ j m, m < 4 ∧ i = j * 4 + m := ⟨i / 4, i % 4, by omega, by omega⟩
    have hj : j < (List.replicate n Ss.zero).length := by simp; omega
    obtain ⟨g0, g1, g2, g3⟩ := flS_get _ j hj
    obtain rfl | rfl | rfl | rfl : m = 0 ∨ m = 1 ∨ m = 2 ∨ m = 3 := by omega
    · rw [Nat.add_zero] at hi ⊢; rw [g0]; simp [madeCells, hi, Ss.zero]
    · rw [g1]; simp [madeCells, hi, Ss.zero]
    · rw [g2]; simp [madeCells, hi, Ss.zero]
    · rw [g3]; simp [madeCells, hi, Ss.zero]
  · rw [List.getElem?_eq_none (by simp [madeCells]; omega), List.getElem?_eq_none (by rw [flS_length]; simp; omega)]
/-- The value v is a slice of the list l. -/
def SR (w : World) (v : Value) (l : List Ss) : Prop :=
  ∃ a cap, v = .slice a l.length cap ∧ (l ≠ [] → ∃ b off, a = some ⟨b, off, none⟩ ∧ b < w.heap.size ∧
    ∀ i (h : i < l.length), w.cell? ⟨b, off + i * 4, none⟩ = some (.int .i64 l[i].n) ∧ w.cell? ⟨b, off + i * 4 + 1, none⟩ = some (.int .i64 l[i].d) ∧ w.cell? ⟨b, off + i * 4 + 2, none⟩ = some (.int .i64 l[i].c) ∧ w.cell? ⟨b, off + i * 4 + 3, none⟩ = some (.string l[i].v))
theorem SR.below {w w' : World} {v : Value} {l : List Ss} (h : SR w v l) (hb : Below w.heap.size w w') : SR w' v l := by
  obtain ⟨a, cap, hv, hc⟩ := h
  refine ⟨a, cap, hv, fun hl => ?_⟩
  obtain ⟨b, off, ha, hbl, hcell⟩ := hc hl
  refine ⟨b, off, ha, Nat.lt_of_lt_of_le hbl hb.size, fun i hi => ?_⟩
  obtain ⟨c0, c1, c2, c3⟩ := hcell i hi
  exact ⟨(hb.cell (p := ⟨b, off + i * 4, none⟩) hbl).trans c0, (hb.cell (p := ⟨b, off + i * 4 + 1, none⟩) hbl).trans c1, (hb.cell (p := ⟨b, off + i * 4 + 2, none⟩) hbl).trans c2, (hb.cell (p := ⟨b, off + i * 4 + 3, none⟩) hbl).trans c3⟩
theorem SR_nil (w : World) : SR w (.slice none 0 0) [] := ⟨none, 0, rfl, fun h => absurd rfl h⟩
theorem SR.size {w : World} {v : Value} {l : List Ss} (h : SR w v l) : ∃ a cap, v = .slice a l.length cap := by obtain ⟨a, c, h, _⟩ := h; exact ⟨a, c, h⟩
theorem SR_of_owns {w : World} {base n : Nat} {e : TypeId} {v : Value} {l : List Ss} (h : w.ownsRow base e 4 v n (flS l)) (hn : n = l.length) : SR w v l := by
  subst hn
  have h' := h
  obtain ⟨hl, h⟩ := h
  rcases h with ⟨rfl, h0⟩ | ⟨g, cap, cur, rfl, hbg, hh, hcap, hm, hsz, htk⟩
  · exact ⟨none, 0, by rw [h0], fun hne => absurd (List.length_eq_zero_iff.1 h0) hne⟩
  · refine ⟨_, cap, rfl, fun _ => ⟨g, 0, rfl, (Array.getElem?_eq_some_iff.1 hh).1, fun i hi => ?_⟩⟩
    obtain ⟨g0, g1, g2, g3⟩ := flS_get l i hi
    rw [Nat.zero_add]
    exact ⟨by rw [h'.cellAt (i * 4) (by omega), g0], by rw [h'.cellAt (i * 4 + 1) (by omega), g1], by rw [h'.cellAt (i * 4 + 2) (by omega), g2], by rw [h'.cellAt (i * 4 + 3) (by omega), g3]⟩
def partS (l : List Ss) (k : Nat) : List Ss := l.take k ++ List.replicate (l.length - k) Ss.zero
theorem partS_zero (l : List Ss) : partS l 0 = List.replicate l.length Ss.zero := by simp [partS]
theorem partS_all (l : List Ss) : partS l l.length = l := by simp [partS]
theorem partS_set (l : List Ss) (k : Nat) (h : k < l.length) : (partS l k).set k l[k] = partS l (k + 1) := by
  unfold partS
  have h1 : (l.take k).length = k := by simp; omega
  obtain ⟨m, hm⟩ : ∃ m, l.length - k = m + 1 := ⟨l.length - k - 1, by omega⟩
  rw [List.set_append_right _ _ (by omega), h1, Nat.sub_self, hm, List.replicate_succ, List.set_cons_zero, List.take_succ_eq_append_getElem h, List.append_assoc, show l.length - (k + 1) = m from by omega]
  rfl
def totS : List Ss → Nat
  | [] => 0
  | s :: r => s.v.size + totS r
theorem totS_take (l : List Ss) (k : Nat) (h : k < l.length) : totS (l.take (k + 1)) = totS (l.take k) + l[k].v.size := by
  induction l generalizing k with
  | nil => simp at h
  | cons x r ih =>
    cases k with
    | zero => simp [totS]
    | succ k =>
      simp only [List.take_succ_cons, totS, List.getElem_cons_succ]
      rw [ih k (by simpa using h)]; omega
theorem totS_mem (l : List Ss) (k : Nat) (h : k < l.length) : l[k].v.size ≤ totS l := by
  induction l generalizing k with
  | nil => simp at h
  | cons x r ih =>
    cases k with
    | zero => simp [totS]
    | succ k => have := ih k (by simpa using h); simp only [totS, List.getElem_cons_succ]; omega
theorem toReply_any (c : Int) (v : ByteArray) (w : World) :
    Calls Try.prog 46 #[.agg #[.int .i64 c, .string v]] w fun e w' => e = .returned (.agg #[.int .i64 c, .string v]) ∧ Below w.heap.size w w' := by
  go_enter Try.func46, Try.ntmps46
  go_wp2
  exact bodyPost_ret (v := .agg #[.int .i64 c, .string v]) (by simp [results, Try.results46, go_sem]) rfl ⟨rfl, below3 _ _ _ _⟩
set_option maxHeartbeats 2000000 in
theorem toSession_any (n d c : Int) (v : ByteArray) (w : World) :
    Calls Try.prog 34 #[.agg #[.int .i64 n, .int .i64 d, .int .i64 c, .string v]] w fun e w' => e = .returned (.agg #[.int .i64 n, .int .i64 d, .int .i64 c, .string v]) ∧ Below w.heap.size w w' := by
  have Y1 := (Box.new (w.alloc (.cells #[.int .i64 n, .int .i64 d, .int .i64 c, .string v] 69)) #[.int .i64 0, .int .i64 0, .int .i64 0, .string ⟨#[]⟩] 38).alloc (.cells #[.int .i64 n, .int .i64 d, .int .i64 0, .string ⟨#[]⟩] 38)
  have Z1 := Box.new ((w.alloc (.cells #[.int .i64 n, .int .i64 d, .int .i64 c, .string v] 69)).alloc (.cells #[.int .i64 0, .int .i64 0, .int .i64 0, .string ⟨#[]⟩] 38)) #[.int .i64 n, .int .i64 d, .int .i64 0, .string ⟨#[]⟩] 38
  have B1 := below3 w (.cells #[.int .i64 n, .int .i64 d, .int .i64 c, .string v] 69) (.cells #[.int .i64 0, .int .i64 0, .int .i64 0, .string ⟨#[]⟩] 38) (.cells #[.int .i64 n, .int .i64 d, .int .i64 0, .string ⟨#[]⟩] 38)
  simp only [World.size_alloc] at Y1 Z1
  go_enter Try.func34, Try.ntmps34
  go_wp2_with fail
  refine (toReply_any _ _ _).mono ?_
  rintro e w1 ⟨rfl, hb1⟩
  replace Y1 := Y1.below hb1
  replace Z1 := Z1.below hb1
  have B2 := below_then B1 hb1
  clear hb1 B1
  obtain ⟨_, q0, q1, q2, q3⟩ := Z1.c4
  obtain ⟨_, y0, y1, y2, y3⟩ := Y1.c4
  have qf := Z1.2.2
  have yf := Y1.2.2
  have hs1 := Z1.1
  have B3 := (((((B2.setCell (p := ⟨w.heap.size + 1 + 1, 2, none⟩) (by simp <;> omega) (.int .i64 c)).setCell (p := ⟨w.heap.size + 1 + 1, 3, none⟩) (by simp <;> omega) (.string v)).setCell (p := ⟨w.heap.size + 1, 0, none⟩) (by simp <;> omega) (.int .i64 n)).setCell (p := ⟨w.heap.size + 1, 1, none⟩) (by simp <;> omega) (.int .i64 d)).setCell (p := ⟨w.heap.size + 1, 2, none⟩) (by simp <;> omega) (.int .i64 c)).setCell (p := ⟨w.heap.size + 1, 3, none⟩) (by simp <;> omega) (.string v)
  clear B2 Z1
  go_wp2
  refine bodyPost_ret (v := .agg #[.int .i64 n, .int .i64 d, .int .i64 c, .string v]) ?_ rfl ⟨rfl, B3⟩
  simp [results, Try.results34, go_sem, y0, y1, y2, y3]
theorem szReply_any (c : Int) (v : ByteArray) (left : Int) (w : World) (h0 : 0 ≤ left) (h1 : left ≤ 1048576) (hv : v.size ≤ maxLen) :
    Calls Try.prog 45 #[.agg #[.int .i64 c, .string v], .int .i64 left] w fun e w' => e = .returned (.int .i64 (if (v.size : Int) ≤ left then left - v.size else -1)) ∧ Below w.heap.size w w' := by
  unfold maxLen at hv
  by_cases h : (v.size : Int) ≤ left
  · go_enter Try.func45, Try.ntmps45
    go_wp2
    go_ret
    exact ⟨by simp, below_alloc _ _⟩
  · go_enter Try.func45, Try.ntmps45
    go_wp2
    go_ret
    exact ⟨by simp, below_alloc _ _⟩
theorem szSession_any (n d c : Int) (v : ByteArray) (left : Int) (w : World) (h0 : 0 ≤ left) (h1 : left ≤ 1048576) (hv : v.size ≤ maxLen) :
    Calls Try.prog 32 #[.agg #[.int .i64 n, .int .i64 d, .int .i64 c, .string v], .int .i64 left] w fun e w' => e = .returned (.int .i64 (if (v.size : Int) ≤ left then left - v.size else -1)) ∧ Below w.heap.size w w' := by
  have KR := fun W => szReply_any c v left W h0 h1 hv
  have B0 := below_alloc w (.cells #[.int .i64 n, .int .i64 d, .int .i64 c, .string v] 69)
  unfold maxLen at hv
  by_cases h : (v.size : Int) ≤ left
  · rw [if_pos h] at KR ⊢
    go_enter Try.func32, Try.ntmps32
    go_wp2_with fail
    refine (KR _).mono ?_
    rintro e w1 ⟨rfl, hb1⟩
    have B1 := below_then B0 hb1
    clear hb1 B0 KR
    go_wp2
    go_ret
    exact ⟨rfl, B1⟩
  · rw [if_neg h] at KR ⊢
    go_enter Try.func32, Try.ntmps32
    go_wp2_with fail
    refine (KR _).mono ?_
    rintro e w1 ⟨rfl, hb1⟩
    have B1 := below_then B0 hb1
    clear hb1 B0 KR
    go_wp2
    go_ret
    exact ⟨rfl, B1⟩
theorem eqReply_same (c : Int) (v : ByteArray) (w : World) :
    Calls Try.prog 28 #[.agg #[.int .i64 c, .string v], .agg #[.int .i64 c, .string v]] w fun e w' => e = .returned (.bool true) ∧ Below w.heap.size w w' := by
  go_enter Try.func28, Try.ntmps28
  go_wp2
  go_ret
  exact ⟨rfl, below2 _ _ _⟩
set_option maxHeartbeats 2000000 in
theorem eqSession_same (n d c : Int) (v : ByteArray) (w : World) :
    Calls Try.prog 13 #[.agg #[.int .i64 n, .int .i64 d, .int .i64 c, .string v], .agg #[.int .i64 n, .int .i64 d, .int .i64 c, .string v]] w fun e w' => e = .returned (.bool true) ∧ Below w.heap.size w w' := by
  have B0 := below2 w (.cells #[.int .i64 n, .int .i64 d, .int .i64 c, .string v] 38) (.cells #[.int .i64 n, .int .i64 d, .int .i64 c, .string v] 38)
  go_enter Try.func13, Try.ntmps13
  go_wp2_with fail
  refine (eqReply_same _ _ _).mono ?_
  rintro e w1 ⟨rfl, hb1⟩
  have B1 := below_then B0 hb1
  clear hb1 B0
  go_wp2
  go_ret
  exact ⟨rfl, B1⟩
theorem Try.info38 : (Try.prog.info? 38).map (fun i => (i.zero, i.size, i.bytes)) = some (some (.agg #[.int .i64 0, .int .i64 0, .int .i64 0, .string ⟨#[]⟩]), 4, 40) := by kernel_rfl
set_option maxHeartbeats 2000000 in
theorem szSessionS_any (v : Value) (l : List Ss) (left : Int) (w : World) (hv : SR w v l) (h0 : 0 ≤ left) (h1 : left ≤ 1048576) (hn : l.length ≤ maxLen) (hs : ∀ i (h : i < l.length), l[i].v.size ≤ maxLen) :
    Calls Try.prog 17 #[v, .int .i64 left] w fun e w' => (∃ r : Int, e = .returned (.int .i64 r) ∧ (r = -1 ∨ (0 ≤ r ∧ (totS l : Int) + l.length + r = left))) ∧ Below w.heap.size w w' := by
  obtain ⟨a, cap, rfl, hc⟩ := hv
  unfold maxLen at hn
  by_cases hl : l.length ≤ left
  · go_enter Try.func17, Try.ntmps17
    go_wp2
    go_loopw [1, 5] (fun t i wr => ∃ k : Nat, k ≤ l.length ∧ i = .int .i64 k ∧ (totS (l.take k) : Int) ≤ left - l.length ∧ t = .int .i64 (left - l.length - totS (l.take k)) ∧ Below w.heap.size w wr) (fun _ i _ => l.length - (intOf i).toNat)
    case atStart => exact ⟨0, Nat.zero_le _, rfl, by simp [totS]; omega, by simp [totS], Below.refl _ _⟩
    case round =>
      obtain ⟨k, hk, rfl, ht, rfl, hb⟩ := hrel
      by_cases hlt : k < l.length
      · obtain ⟨b, off, rfl, hbl, hcell⟩ := hc (by intro e; simp [e] at hlt)
        obtain ⟨s, hse⟩ : ∃ s, s = l[k] := ⟨_, rfl⟩
        have hc0 := (hb.cell (p := ⟨b, off + k * 4, none⟩) hbl).trans (hcell k hlt).1
        have hc1 := (hb.cell (p := ⟨b, off + k * 4 + 1, none⟩) hbl).trans (hcell k hlt).2.1
        have hc2 := (hb.cell (p := ⟨b, off + k * 4 + 2, none⟩) hbl).trans (hcell k hlt).2.2.1
        have hc3 := (hb.cell (p := ⟨b, off + k * 4 + 3, none⟩) hbl).trans (hcell k hlt).2.2.2
        have hss := hs k hlt
        have HT : Hid (totS (l.take (k + 1)) = totS (l.take k) + s.v.size) := by rw [hse]; exact totS_take l k hlt
        rw [← hse] at hc0 hc1 hc2 hc3 hss
        clear hcell hs hse hc
        have hz := hb.size
        have KS := fun w => szSession_any s.n s.d s.c s.v (left - l.length - totS (l.take k)) w (by omega) (by omega) hss
        obtain ⟨sn, sd, sc, sv⟩ := s
        dsimp only at *
        by_cases hle : (sv.size : Int) ≤ left - l.length - totS (l.take k)
        · rw [if_pos hle] at KS
          go_wp2_with fail
          refine (KS _).mono ?_
          rintro e w1 ⟨rfl, hb1⟩
          go_wp2_with fail
          go_roundw
          case rel => exact ⟨k + 1, by omega, by go_num, by rw [HT.out]; omega, by rw [HT.out]; go_num, hb.trans (hb1.mono hz)⟩
          case measure => simp [intOf]; omega
        · rw [if_neg hle] at KS
          go_wp2_with fail
          refine (KS _).mono ?_
          rintro e w1 ⟨rfl, hb1⟩
          go_wp2_with fail
          go_ret
          exact ⟨⟨-1, rfl, .inl rfl⟩, hb.trans (hb1.mono hz)⟩
      · go_wp2
        go_ret
        have : k = l.length := by omega
        subst this
        exact ⟨⟨_, rfl, .inr (by rw [List.take_length] at *; omega)⟩, hb⟩
  · go_enter Try.func17, Try.ntmps17
    go_wp2
    go_ret
    exact ⟨⟨-1, rfl, .inl rfl⟩, Below.refl _ _⟩
set_option maxHeartbeats 2000000 in
theorem toSessionS_any (v : Value) (l : List Ss) (w : World) (hv : SR w v l) (hn : l.length ≤ 1048576) :
    Calls Try.prog 21 #[v] w fun e w' => e = .returned (.slice (some ⟨w.heap.size, 0, none⟩) l.length l.length) ∧ w'.ownsRow w.heap.size 38 4 (.slice (some ⟨w.heap.size, 0, none⟩) l.length l.length) l.length (flS l) ∧ Below w.heap.size w w' := by
  obtain ⟨a, cap, rfl, hc⟩ := hv
  obtain ⟨i0, hi, hz0, hz1, hz2⟩ := info_parts Try.info38
  go_enter Try.func21, Try.ntmps21
  go_wp2_with (at_make; refine wpList_make_full _ rfl _ _ 29 rfl w.heap.size 38 i0 _ 4 Try.underlying29 hi hz0 hz1 .i64 .i64 _ _ l.length rfl rfl rfl rfl (by rw [hz2]; omega) (by unfold maxLen; omega) (Nat.le_refl _) ?_; intro w0 hown0 hgr0)
  rw [flS_zeros, ← partS_zero] at hown0
  have hb0 : Below w.heap.size w w0 := (Below.refl _ _).grown hgr0 (Nat.le_refl _) (by simp)
  have hlt0 : w.heap.size < w0.heap.size := (owns_lt hown0).2
  clear hgr0 hi hz0 hz1 hz2
  go_loopw [4] (fun i wr => ∃ k : Nat, k ≤ l.length ∧ i = .int .i64 k ∧ wr.ownsRow w.heap.size 38 4 (.slice (some ⟨w.heap.size, 0, none⟩) l.length l.length) l.length (flS (partS l k)) ∧ Below w.heap.size w wr ∧ w.heap.size < wr.heap.size) (fun i _ => l.length - (intOf i).toNat)
  case atStart => exact ⟨0, Nat.zero_le _, rfl, hown0, hb0, hlt0⟩
  case round =>
    obtain ⟨k, hk, rfl, hown, hb, hlt1⟩ := hrel
    clear hown0 hb0 hlt0
    by_cases hlt : k < l.length
    · obtain ⟨b, off, rfl, hbl, hcell⟩ := hc (by intro e; simp [e] at hlt)
      obtain ⟨s, hse⟩ : ∃ s, s = l[k] := ⟨_, rfl⟩
      have hc0 := (hb.cell (p := ⟨b, off + k * 4, none⟩) hbl).trans (hcell k hlt).1
      have hc1 := (hb.cell (p := ⟨b, off + k * 4 + 1, none⟩) hbl).trans (hcell k hlt).2.1
      have hc2 := (hb.cell (p := ⟨b, off + k * 4 + 2, none⟩) hbl).trans (hcell k hlt).2.2.1
      have hc3 := (hb.cell (p := ⟨b, off + k * 4 + 3, none⟩) hbl).trans (hcell k hlt).2.2.2
      have HS : Hid ((partS l k).set k s = partS l (k + 1)) := by rw [hse]; exact partS_set l k hlt
      rw [← hse] at hc0 hc1 hc2 hc3
      clear hcell hse hc
      have hz := hb.size
      obtain ⟨sn, sd, sc, sv⟩ := s
      dsimp only at hc0 hc1 hc2 hc3
      go_wp2_with fail
      refine (toSession_any _ _ _ _ _).mono ?_
      rintro e w1 ⟨rfl, hb1⟩
      have hown1 := owns_below hown hb1
      obtain ⟨⟨u0, d0⟩, f0⟩ := ownsK_at hown1 k hlt 0 (by omega)
      obtain ⟨⟨u1, d1⟩, f1⟩ := ownsK_at hown1 k hlt 1 (by omega)
      obtain ⟨⟨u2, d2⟩, f2⟩ := ownsK_at hown1 k hlt 2 (by omega)
      obtain ⟨⟨u3, d3⟩, f3⟩ := ownsK_at hown1 k hlt 3 (by omega)
      rw [Nat.add_zero] at d0 f0
      have hz1 := hb1.size
      have HO : Hid _ := ((((hown1.stored (k * 4) (.int .i64 sn)).1.stored (k * 4 + 1) (.int .i64 sd)).1.stored (k * 4 + 2) (.int .i64 sc)).1.stored (k * 4 + 3) (.string sv)).1
      clear hown hown1
      go_wp2
      go_roundw
      case rel =>
        refine ⟨k + 1, by omega, by go_num, ?_, ?_, ?_⟩
        · have := HO.out
          rw [flS_set (partS l k) k ⟨sn, sd, sc, sv⟩, HS.out] at this
          exact this
        · exact (((((hb.trans (hb1.mono hz)).setCell (by simp) _).setCell (by simp) _).setCell (by simp) _).setCell (by simp) _)
        · simp; omega
      case measure => simp [intOf]; omega
    · go_wp2
      go_ret
      have : k = l.length := by omega
      subst this
      rw [partS_all] at hown
      exact ⟨rfl, hown, hb⟩
set_option maxHeartbeats 4000000 in
theorem eqSessionS_same (u v : Value) (l : List Ss) (w : World) (hu : SR w u l) (hv : SR w v l) (hn : l.length ≤ 1048576) :
    Calls Try.prog 25 #[u, v] w fun e w' => e = .returned (.bool true) ∧ Below w.heap.size w w' := by
  obtain ⟨a, cap, rfl, hc⟩ := hu
  obtain ⟨a', cap', rfl, hc'⟩ := hv
  go_enter Try.func25, Try.ntmps25
  go_wp2
  go_loopw [5] (fun i wr => ∃ k : Nat, k ≤ l.length ∧ i = .int .i64 k ∧ Below w.heap.size w wr) (fun i _ => l.length - (intOf i).toNat)
  case atStart => exact ⟨0, Nat.zero_le _, rfl, Below.refl _ _⟩
  case round =>
    obtain ⟨k, hk, rfl, hb⟩ := hrel
    by_cases hlt : k < l.length
    · obtain ⟨b, off, rfl, hbl, hcell⟩ := hc (by intro e; simp [e] at hlt)
      obtain ⟨b', off', rfl, hbl', hcell'⟩ := hc' (by intro e; simp [e] at hlt)
      obtain ⟨s, hse⟩ : ∃ s, s = l[k] := ⟨_, rfl⟩
      have hc0 := (hb.cell (p := ⟨b, off + k * 4, none⟩) hbl).trans (hcell k hlt).1
      have hc1 := (hb.cell (p := ⟨b, off + k * 4 + 1, none⟩) hbl).trans (hcell k hlt).2.1
      have hc2 := (hb.cell (p := ⟨b, off + k * 4 + 2, none⟩) hbl).trans (hcell k hlt).2.2.1
      have hc3 := (hb.cell (p := ⟨b, off + k * 4 + 3, none⟩) hbl).trans (hcell k hlt).2.2.2
      have hd0 := (hb.cell (p := ⟨b', off' + k * 4, none⟩) hbl').trans (hcell' k hlt).1
      have hd1 := (hb.cell (p := ⟨b', off' + k * 4 + 1, none⟩) hbl').trans (hcell' k hlt).2.1
      have hd2 := (hb.cell (p := ⟨b', off' + k * 4 + 2, none⟩) hbl').trans (hcell' k hlt).2.2.1
      have hd3 := (hb.cell (p := ⟨b', off' + k * 4 + 3, none⟩) hbl').trans (hcell' k hlt).2.2.2
      rw [← hse] at hc0 hc1 hc2 hc3 hd0 hd1 hd2 hd3
      clear hcell hse hc hcell' hc'
      have hz := hb.size
      obtain ⟨sn, sd, sc, sv⟩ := s
      dsimp only at hc0 hc1 hc2 hc3 hd0 hd1 hd2 hd3
      go_wp2_with fail
      go_region_held3 (fun w' => (w'.cell? ⟨b, off + k * 4, none⟩ = some (.int .i64 sn) ∧ w'.cell? ⟨b, off + k * 4 + 1, none⟩ = some (.int .i64 sd) ∧ w'.cell? ⟨b, off + k * 4 + 2, none⟩ = some (.int .i64 sc) ∧ w'.cell? ⟨b, off + k * 4 + 3, none⟩ = some (.string sv)) ∧ w'.cell? ⟨b', off' + k * 4, none⟩ = some (.int .i64 sn) ∧ w'.cell? ⟨b', off' + k * 4 + 1, none⟩ = some (.int .i64 sd) ∧ w'.cell? ⟨b', off' + k * 4 + 2, none⟩ = some (.int .i64 sc) ∧ w'.cell? ⟨b', off' + k * 4 + 3, none⟩ = some (.string sv)) (go_keep)
        (first | (go_at_call 13; refine (eqSession_same _ _ _ _ _).mono ?_; rintro e w1 ⟨rfl, hb1'⟩; have hb1 := below_undrew hb1'; have hbl2 : b < wr.heap.size := (by omega); have hbl3 : b' < wr.heap.size := (by omega); replace hc0 := (hb1.cell (p := ⟨b, off + k * 4, none⟩) hbl2).trans hc0; replace hc1 := (hb1.cell (p := ⟨b, off + k * 4 + 1, none⟩) hbl2).trans hc1; replace hc2 := (hb1.cell (p := ⟨b, off + k * 4 + 2, none⟩) hbl2).trans hc2; replace hc3 := (hb1.cell (p := ⟨b, off + k * 4 + 3, none⟩) hbl2).trans hc3; replace hd0 := (hb1.cell (p := ⟨b', off' + k * 4, none⟩) hbl3).trans hd0; replace hd1 := (hb1.cell (p := ⟨b', off' + k * 4 + 1, none⟩) hbl3).trans hd1; replace hd2 := (hb1.cell (p := ⟨b', off' + k * 4 + 2, none⟩) hbl3).trans hd2; replace hd3 := (hb1.cell (p := ⟨b', off' + k * 4 + 3, none⟩) hbl3).trans hd3))
      go_wp2
      go_roundw
      case rel => exact ⟨k + 1, by omega, by go_num, hb.trans (hb1.mono hz)⟩
      case measure => simp [intOf]; omega
    · clear hc hc'
      go_wp2
      go_ret
      exact ⟨rfl, hb⟩
end Go.Proofs.Ythlllegedfjhlaa
