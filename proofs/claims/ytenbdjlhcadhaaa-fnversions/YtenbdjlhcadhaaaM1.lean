/-
  Metas in a row: rows of four cells; szMetaS, toMetaS, eqMetaS.
-/
import Derived.Test.YtenbdjlhcadhaaaM0
import Derived.Test.YtenbdjlhcadhaaaK2
import Derived.Test.YtenbdjlhcadhaaaH1ToG1
import Derived.OwnWalk
import Derived.Deep.RegionHeld3
import Derived.Deep.QuietTactic
import Derived.BigQuiet
namespace Go.Proofs.Ytenbdjlhcadhaaa
open Go.RowKit
set_option linter.unusedVariables false
set_option maxRecDepth 100000

def flat4 : List Mt → List Value
  | [] => []
  | s :: r => .int .i64 s.n :: .int .i64 s.d :: .string s.k :: .string s.v :: flat4 r
theorem flat4_length (l : List Mt) : (flat4 l).length = l.length * 4 := by
  induction l with
  | nil => rfl
  | cons x r ih => simp only [flat4, List.length_cons, ih]; omega
theorem flat4_append (l m : List Mt) : flat4 (l ++ m) = flat4 l ++ flat4 m := by
  induction l with
  | nil => rfl
  | cons x r ih => simp only [List.cons_append, flat4, ih]
theorem flat4_get (l : List Mt) (i : Nat) (h : i < l.length) : (flat4 l)[i * 4]? = some (.int .i64 l[i].n) ∧ (flat4 l)[i * 4 + 1]? = some (.int .i64 l[i].d) ∧ (flat4 l)[i * 4 + 2]? = some (.string l[i].k) ∧ (flat4 l)[i * 4 + 3]? = some (.string l[i].v) := by
  induction l generalizing i with
  | nil => simp at h
  | cons x r ih =>
    cases i with
    | zero => exact ⟨rfl, rfl, rfl, rfl⟩
    | succ i =>
      have := ih i (by simpa using h)
      rw [show (i + 1) * 4 = i * 4 + 1 + 1 + 1 + 1 from by omega, show i * 4 + 1 + 1 + 1 + 1 + 1 = (i * 4 + 1) + 1 + 1 + 1 + 1 from by omega, show i * 4 + 1 + 1 + 1 + 1 + 2 = (i * 4 + 2) + 1 + 1 + 1 + 1 from by omega, show i * 4 + 1 + 1 + 1 + 1 + 3 = (i * 4 + 3) + 1 + 1 + 1 + 1 from by omega]
      simp only [flat4, List.getElem?_cons_succ, List.getElem_cons_succ]
      exact this
theorem flat4_set (l : List Mt) (i : Nat) (s : Mt) : ((((flat4 l).set (i * 4) (.int .i64 s.n)).set (i * 4 + 1) (.int .i64 s.d)).set (i * 4 + 2) (.string s.k)).set (i * 4 + 3) (.string s.v) = flat4 (l.set i s) := by
  induction l generalizing i with
  | nil => simp [flat4]
  | cons x r ih =>
    cases i with
    | zero => simp [flat4]
    | succ i =>
      rw [show (i + 1) * 4 = i * 4 + 1 + 1 + 1 + 1 from by omega, show i * 4 + 1 + 1 + 1 + 1 + 1 = (i * 4 + 1) + 1 + 1 + 1 + 1 from by omega, show i * 4 + 1 + 1 + 1 + 1 + 2 = (i * 4 + 2) + 1 + 1 + 1 + 1 from by omega, show i * 4 + 1 + 1 + 1 + 1 + 3 = (i * 4 + 3) + 1 + 1 + 1 + 1 from by omega]
      simp only [flat4, List.set_cons_succ]
      rw [ih i]
theorem flat4_zeros (n : Nat) : (madeCells (Value.agg #[.int .i64 0, .int .i64 0, .string ⟨#[]⟩, .string ⟨#[]⟩]).cells (n * 4)).toList = flat4 (List.replicate n Mt.zero) := by
  have hcs : (Value.agg #[.int .i64 0, .int .i64 0, .string ⟨#[]⟩, .string ⟨#[]⟩]).cells = #[.int .i64 0, .int .i64 0, .string ⟨#[]⟩, .string ⟨#[]⟩] := rfl
  rw [hcs]
  apply List.ext_getElem?
  intro i
  by_cases hi : i < n * 4
  · obtain ⟨j, m, hm, rfl⟩ : ∃ j m, m < 4 ∧ i = j * 4 + m := ⟨i / 4, i % 4, by omega, by omega⟩
    have hj : j < (List.replicate n Mt.zero).length := by simp; omega
    obtain ⟨g0, g1, g2, g3⟩ := flat4_get _ j hj
    obtain rfl | rfl | rfl | rfl : m = 0 ∨ m = 1 ∨ m = 2 ∨ m = 3 := by omega
    · rw [Nat.add_zero] at hi ⊢; rw [g0]; simp [madeCells, hi, Mt.zero]
    · rw [g1]; simp [madeCells, hi, Mt.zero]
    · rw [g2]; simp [madeCells, hi, Mt.zero]
    · rw [g3]; simp [madeCells, hi, Mt.zero]
  · rw [List.getElem?_eq_none (by simp [madeCells]; omega), List.getElem?_eq_none (by rw [flat4_length]; simp; omega)]
/-- The value v is a slice of the items l. -/
def IR (w : World) (v : Value) (l : List Mt) : Prop :=
  ∃ a cap, v = .slice a l.length cap ∧ (l ≠ [] → ∃ b off, a = some ⟨b, off, none⟩ ∧ b < w.heap.size ∧
    ∀ i (h : i < l.length), w.cell? ⟨b, off + i * 4, none⟩ = some (.int .i64 l[i].n) ∧ w.cell? ⟨b, off + i * 4 + 1, none⟩ = some (.int .i64 l[i].d) ∧ w.cell? ⟨b, off + i * 4 + 2, none⟩ = some (.string l[i].k) ∧ w.cell? ⟨b, off + i * 4 + 3, none⟩ = some (.string l[i].v))
theorem IR.below {w w' : World} {v : Value} {l : List Mt} (h : IR w v l) (hb : Below w.heap.size w w') : IR w' v l := by
  obtain ⟨a, cap, hv, hc⟩ := h
  refine ⟨a, cap, hv, fun hl => ?_⟩
  obtain ⟨b, off, ha, hbl, hcell⟩ := hc hl
  refine ⟨b, off, ha, Nat.lt_of_lt_of_le hbl hb.size, fun i hi => ?_⟩
  obtain ⟨c0, c1, c2, c3⟩ := hcell i hi
  exact ⟨(hb.cell (p := ⟨b, off + i * 4, none⟩) hbl).trans c0, (hb.cell (p := ⟨b, off + i * 4 + 1, none⟩) hbl).trans c1, (hb.cell (p := ⟨b, off + i * 4 + 2, none⟩) hbl).trans c2, (hb.cell (p := ⟨b, off + i * 4 + 3, none⟩) hbl).trans c3⟩
theorem IR_nil (w : World) : IR w (.slice none 0 0) [] := ⟨none, 0, rfl, fun h => absurd rfl h⟩
theorem IR_of_owns {w : World} {base n : Nat} {e : TypeId} {v : Value} {l : List Mt} (h : w.ownsRow base e 4 v n (flat4 l)) (hn : n = l.length) : IR w v l := by
  subst hn
  have h' := h
  obtain ⟨hl, h⟩ := h
  rcases h with ⟨rfl, h0⟩ | ⟨g, cap, cur, rfl, hbg, hh, hcap, hm, hsz, htk⟩
  · exact ⟨none, 0, by rw [h0], fun hne => absurd (List.length_eq_zero_iff.1 h0) hne⟩
  · refine ⟨_, cap, rfl, fun _ => ⟨g, 0, rfl, (Array.getElem?_eq_some_iff.1 hh).1, fun i hi => ?_⟩⟩
    obtain ⟨g0, g1, g2, g3⟩ := flat4_get l i hi
    rw [Nat.zero_add]
    exact ⟨by rw [h'.cellAt (i * 4) (by omega), g0], by rw [h'.cellAt (i * 4 + 1) (by omega), g1], by rw [h'.cellAt (i * 4 + 2) (by omega), g2], by rw [h'.cellAt (i * 4 + 3) (by omega), g3]⟩
def part4 (l : List Mt) (k : Nat) : List Mt := l.take k ++ List.replicate (l.length - k) Mt.zero
theorem part4_zero (l : List Mt) : part4 l 0 = List.replicate l.length Mt.zero := by simp [part4]
theorem part4_all (l : List Mt) : part4 l l.length = l := by simp [part4]
theorem part4_set (l : List Mt) (k : Nat) (h : k < l.length) : (part4 l k).set k l[k] = part4 l (k + 1) := by
  unfold part4
  have h1 : (l.take k).length = k := by simp; omega
  obtain ⟨m, hm⟩ : ∃ m, l.length - k = m + 1 := ⟨l.length - k - 1, by omega⟩
  rw [List.set_append_right _ _ (by omega), h1, Nat.sub_self, hm, List.replicate_succ, List.set_cons_zero, List.take_succ_eq_append_getElem h, List.append_assoc, show l.length - (k + 1) = m from by omega]
  rfl
theorem owns4_at {w : World} {base : Nat} {e : TypeId} {g cap n : Nat} {xs : List Value} (h : w.ownsRow base e 4 (.slice (some ⟨g, 0, none⟩) n cap) n xs) (i : Nat) (hi : i < n) (j : Nat) (hj : j < 4) :
    (∃ u, w.cell? ⟨g, i * 4 + j, none⟩ = some u) ∧ w.frozen? ⟨g, i * 4 + j, none⟩ = false := by
  have hl := h.1
  refine ⟨?_, h.frozenAt _⟩
  rw [h.cellAt (i * 4 + j) (by omega)]
  exact ⟨_, List.getElem?_eq_getElem (by omega)⟩
def tot4 : List Mt → Nat
  | [] => 0
  | s :: r => s.k.size + s.v.size + tot4 r
theorem tot4_take (l : List Mt) (k : Nat) (h : k < l.length) : tot4 (l.take (k + 1)) = tot4 (l.take k) + (l[k].k.size + l[k].v.size) := by
  induction l generalizing k with
  | nil => simp at h
  | cons x r ih =>
    cases k with
    | zero => simp [tot4]
    | succ k =>
      simp only [List.take_succ_cons, tot4, List.getElem_cons_succ]
      rw [ih k (by simpa using h)]; omega
theorem tot4_mem (l : List Mt) (k : Nat) (h : k < l.length) : l[k].k.size + l[k].v.size ≤ tot4 l := by
  induction l generalizing k with
  | nil => simp at h
  | cons x r ih =>
    cases k with
    | zero => simp [tot4]
    | succ k => have := ih k (by simpa using h); simp only [tot4, List.getElem_cons_succ]; omega

theorem toMeta_any (k v : ByteArray) (n d : Int) (w : World) :
    Calls Try.prog 107 #[.agg #[.int .i64 n, .int .i64 d, .string k, .string v]] w fun e w' => e = .returned (.agg #[.int .i64 n, .int .i64 d, .string k, .string v]) ∧ Below w.heap.size w w' := by
  go_enter Try.func107, Try.ntmps107
  go_wp2
  exact bodyPost_ret (v := .agg #[.int .i64 n, .int .i64 d, .string k, .string v]) (by simp [results, Try.results107, go_sem]) rfl ⟨rfl, below3 _ _ _ _⟩

theorem szMeta_any (k v : ByteArray) (n d left : Int) (w : World) (h0 : 0 ≤ left) (h1 : left ≤ 1048576) (hk : k.size ≤ maxLen) (hv : v.size ≤ maxLen) :
    Calls Try.prog 105 #[.agg #[.int .i64 n, .int .i64 d, .string k, .string v], .int .i64 left] w fun e w' => e = .returned (.int .i64 (if (k.size : Int) + v.size ≤ left then left - k.size - v.size else -1)) ∧ Below w.heap.size w w' := by
  unfold maxLen at hk hv
  by_cases h : (k.size : Int) ≤ left
  · by_cases h' : (k.size : Int) + v.size ≤ left
    · go_enter Try.func105, Try.ntmps105
      go_wp2
      go_ret
      exact ⟨by simp, below_alloc _ _⟩
    · go_enter Try.func105, Try.ntmps105
      go_wp2
      go_ret
      exact ⟨by simp, below_alloc _ _⟩
  · have h' : ¬ (k.size : Int) + v.size ≤ left := by omega
    go_enter Try.func105, Try.ntmps105
    go_wp2
    go_ret
    exact ⟨by simp, below_alloc _ _⟩

theorem Try.info82 : (Try.prog.info? 82).map (fun i => (i.zero, i.size, i.bytes)) = some (some (.agg #[.int .i64 0, .int .i64 0, .string ⟨#[]⟩, .string ⟨#[]⟩]), 4, 48) := by kernel_rfl

set_option maxHeartbeats 2000000 in
theorem szMetaS_any (v : Value) (l : List Mt) (left : Int) (w : World) (hv : IR w v l) (h0 : 0 ≤ left) (h1 : left ≤ 1048576) (hn : l.length ≤ maxLen) (hs : ∀ i (h : i < l.length), l[i].k.size ≤ maxLen ∧ l[i].v.size ≤ maxLen) :
    Calls Try.prog 72 #[v, .int .i64 left] w fun e w' => (∃ r : Int, e = .returned (.int .i64 r) ∧ (r = -1 ∨ (0 ≤ r ∧ (tot4 l : Int) + l.length + r = left))) ∧ Below w.heap.size w w' := by
  obtain ⟨a, cap, rfl, hc⟩ := hv
  unfold maxLen at hn
  by_cases hl : l.length ≤ left
  · go_enter Try.func72, Try.ntmps72
    go_wp2
    go_loopw [1, 5] (fun t i wr => ∃ k : Nat, k ≤ l.length ∧ i = .int .i64 k ∧ (tot4 (l.take k) : Int) ≤ left - l.length ∧ t = .int .i64 (left - l.length - tot4 (l.take k)) ∧ Below w.heap.size w wr) (fun _ i _ => l.length - (intOf i).toNat)
    case atStart => exact ⟨0, Nat.zero_le _, rfl, by simp [tot4]; omega, by simp [tot4], Below.refl _ _⟩
    case round =>
      obtain ⟨k, hk, rfl, ht, rfl, hb⟩ := hrel
      by_cases hlt : k < l.length
      · obtain ⟨b, off, rfl, hbl, hcell⟩ := hc (by intro e; simp [e] at hlt)
        obtain ⟨s, hse⟩ : ∃ s, s = l[k] := ⟨_, rfl⟩
        have hc0 := (hb.cell (p := ⟨b, off + k * 4, none⟩) hbl).trans (hcell k hlt).1
        have hc1 := (hb.cell (p := ⟨b, off + k * 4 + 1, none⟩) hbl).trans (hcell k hlt).2.1
        have hc2 := (hb.cell (p := ⟨b, off + k * 4 + 2, none⟩) hbl).trans (hcell k hlt).2.2.1
        have hc3 := (hb.cell (p := ⟨b, off + k * 4 + 3, none⟩) hbl).trans (hcell k hlt).2.2.2
        have hss := hs k hlt
        have HT : Hid (tot4 (l.take (k + 1)) = tot4 (l.take k) + (s.k.size + s.v.size)) := by rw [hse]; exact tot4_take l k hlt
        rw [← hse] at hc0 hc1 hc2 hc3 hss
        clear hcell hs hse hc
        have hz := hb.size
        have KS := fun w => szMeta_any s.k s.v s.n s.d (left - l.length - tot4 (l.take k)) w (by omega) (by omega) hss.1 hss.2
        obtain ⟨sn, sd, sk, sv⟩ := s
        dsimp only at *
        by_cases hle : (sk.size : Int) + sv.size ≤ left - l.length - tot4 (l.take k)
        · rw [if_pos hle] at KS
          go_wp2_with fail
          refine (KS _).mono ?_
          rintro e w1 ⟨rfl, hb1⟩
          go_wp2_with fail
          go_roundw
          case rel => exact ⟨k + 1, by omega, by go_num, by rw [HT.out]; omega, by rw [HT.out]; go_num, hb.trans (hb1.mono hz)⟩
          case measure => simp [intOf]; omega
        · rw [if_neg hle] at KS
          go_wp2_with fail
          refine (KS _).mono ?_
          rintro e w1 ⟨rfl, hb1⟩
          go_wp2_with fail
          go_ret
          exact ⟨⟨-1, rfl, .inl rfl⟩, hb.trans (hb1.mono hz)⟩
      · go_wp2
        go_ret
        have : k = l.length := by omega
        subst this
        exact ⟨⟨_, rfl, .inr (by rw [List.take_length] at *; omega)⟩, hb⟩
  · go_enter Try.func72, Try.ntmps72
    go_wp2
    go_ret
    exact ⟨⟨-1, rfl, .inl rfl⟩, Below.refl _ _⟩

set_option maxHeartbeats 2000000 in
theorem toMetaS_any (v : Value) (l : List Mt) (w : World) (hv : IR w v l) (hn : l.length ≤ 1048576) :
    Calls Try.prog 75 #[v] w fun e w' => e = .returned (.slice (some ⟨w.heap.size, 0, none⟩) l.length l.length) ∧ w'.ownsRow w.heap.size 82 4 (.slice (some ⟨w.heap.size, 0, none⟩) l.length l.length) l.length (flat4 l) ∧ Below w.heap.size w w' := by
  obtain ⟨a, cap, rfl, hc⟩ := hv
  obtain ⟨i0, hi, hz0, hz1, hz2⟩ := info_parts Try.info82
  go_enter Try.func75, Try.ntmps75
  go_wp2_with (at_make; refine wpList_make_full _ rfl _ _ 23 rfl w.heap.size 82 i0 _ 4 Try.underlying23 hi hz0 hz1 .i64 .i64 _ _ l.length rfl rfl rfl rfl (by rw [hz2]; omega) (by unfold maxLen; omega) (Nat.le_refl _) ?_; intro w0 hown0 hgr0)
  rw [flat4_zeros, ← part4_zero] at hown0
  have hb0 : Below w.heap.size w w0 := (Below.refl _ _).grown hgr0 (Nat.le_refl _) (by simp)
  have hlt0 : w.heap.size < w0.heap.size := (owns_lt hown0).2
  clear hgr0 hi hz0 hz1 hz2
  go_loopw [4] (fun i wr => ∃ k : Nat, k ≤ l.length ∧ i = .int .i64 k ∧ wr.ownsRow w.heap.size 82 4 (.slice (some ⟨w.heap.size, 0, none⟩) l.length l.length) l.length (flat4 (part4 l k)) ∧ Below w.heap.size w wr ∧ w.heap.size < wr.heap.size) (fun i _ => l.length - (intOf i).toNat)
  case atStart => exact ⟨0, Nat.zero_le _, rfl, hown0, hb0, hlt0⟩
  case round =>
    obtain ⟨k, hk, rfl, hown, hb, hlt1⟩ := hrel
    clear hown0 hb0 hlt0
    by_cases hlt : k < l.length
    · obtain ⟨b, off, rfl, hbl, hcell⟩ := hc (by intro e; simp [e] at hlt)
      obtain ⟨s, hse⟩ : ∃ s, s = l[k] := ⟨_, rfl⟩
      have hc0 := (hb.cell (p := ⟨b, off + k * 4, none⟩) hbl).trans (hcell k hlt).1
      have hc1 := (hb.cell (p := ⟨b, off + k * 4 + 1, none⟩) hbl).trans (hcell k hlt).2.1
      have hc2 := (hb.cell (p := ⟨b, off + k * 4 + 2, none⟩) hbl).trans (hcell k hlt).2.2.1
      have hc3 := (hb.cell (p := ⟨b, off + k * 4 + 3, none⟩) hbl).trans (hcell k hlt).2.2.2
      have HS : Hid ((part4 l k).set k s = part4 l (k + 1)) := by rw [hse]; exact part4_set l k hlt
      rw [← hse] at hc0 hc1 hc2 hc3
      clear hcell hse hc
      have hz := hb.size
      obtain ⟨sn, sd, sk, sv⟩ := s
      dsimp only at hc0 hc1 hc2 hc3
      go_wp2_with fail
      refine (toMeta_any _ _ _ _ _).mono ?_
      rintro e w1 ⟨rfl, hb1⟩
      have hown1 := owns_below hown hb1
      obtain ⟨⟨u0, d0⟩, f0⟩ := owns4_at hown1 k hlt 0 (by omega)
      obtain ⟨⟨u1, d1⟩, f1⟩ := owns4_at hown1 k hlt 1 (by omega)
      obtain ⟨⟨u2, d2⟩, f2⟩ := owns4_at hown1 k hlt 2 (by omega)
      obtain ⟨⟨u3, d3⟩, f3⟩ := owns4_at hown1 k hlt 3 (by omega)
      rw [Nat.add_zero] at d0 f0
      have hz1 := hb1.size
      have HO : Hid _ := ((((hown1.stored (k * 4) (.int .i64 sn)).1.stored (k * 4 + 1) (.int .i64 sd)).1.stored (k * 4 + 2) (.string sk)).1.stored (k * 4 + 3) (.string sv)).1
      clear hown hown1
      go_wp2
      go_roundw
      case rel =>
        refine ⟨k + 1, by omega, by go_num, ?_, ?_, ?_⟩
        · have := HO.out
          rw [flat4_set (part4 l k) k ⟨sn, sd, sk, sv⟩, HS.out] at this
          exact this
        · exact ((((hb.trans (hb1.mono hz)).setCell (by simp) _).setCell (by simp) _).setCell (by simp) _).setCell (by simp) _
        · simp; omega
      case measure => simp [intOf]; omega
    · go_wp2
      go_ret
      have : k = l.length := by omega
      subst this
      rw [part4_all] at hown
      exact ⟨rfl, hown, hb⟩

theorem below_undrew {w w' : World} (h : Below w.drew.heap.size w.drew w') : Below w.heap.size w w' := (Below.refl _ _).drew.trans h
theorem eqMeta_same (k v : ByteArray) (n d : Int) (w : World) :
    Calls Try.prog 103 #[.agg #[.int .i64 n, .int .i64 d, .string k, .string v], .agg #[.int .i64 n, .int .i64 d, .string k, .string v]] w fun e w' => e = .returned (.bool true) ∧ Below w.heap.size w w' := by
  go_enter Try.func103, Try.ntmps103
  go_wp2
  go_ret
  exact ⟨rfl, below2 _ _ _⟩

set_option maxHeartbeats 2000000 in
theorem eqMetaS_same (u v : Value) (l : List Mt) (w : World) (hu : IR w u l) (hv : IR w v l) (hn : l.length ≤ 1048576) :
    Calls Try.prog 69 #[u, v] w fun e w' => e = .returned (.bool true) ∧ Below w.heap.size w w' := by
  obtain ⟨a, cap, rfl, hc⟩ := hu
  obtain ⟨a', cap', rfl, hc'⟩ := hv
  go_enter Try.func69, Try.ntmps69
  go_wp2
  go_loopw [5] (fun i wr => ∃ k : Nat, k ≤ l.length ∧ i = .int .i64 k ∧ Below w.heap.size w wr) (fun i _ => l.length - (intOf i).toNat)
  case atStart => exact ⟨0, Nat.zero_le _, rfl, Below.refl _ _⟩
  case round =>
    obtain ⟨k, hk, rfl, hb⟩ := hrel
    by_cases hlt : k < l.length
    · obtain ⟨b, off, rfl, hbl, hcell⟩ := hc (by intro e; simp [e] at hlt)
      obtain ⟨b', off', rfl, hbl', hcell'⟩ := hc' (by intro e; simp [e] at hlt)
      obtain ⟨s, hse⟩ : ∃ s, s = l[k] := ⟨_, rfl⟩
      have hc0 := (hb.cell (p := ⟨b, off + k * 4, none⟩) hbl).trans (hcell k hlt).1
      have hc1 := (hb.cell (p := ⟨b, off + k * 4 + 1, none⟩) hbl).trans (hcell k hlt).2.1
      have hc2 := (hb.cell (p := ⟨b, off + k * 4 + 2, none⟩) hbl).trans (hcell k hlt).2.2.1
      have hc3 := (hb.cell (p := ⟨b, off + k * 4 + 3, none⟩) hbl).trans (hcell k hlt).2.2.2
      have hd0 := (hb.cell (p := ⟨b', off' + k * 4, none⟩) hbl').trans (hcell' k hlt).1
      have hd1 := (hb.cell (p := ⟨b', off' + k * 4 + 1, none⟩) hbl').trans (hcell' k hlt).2.1
      have hd2 := (hb.cell (p := ⟨b', off' + k * 4 + 2, none⟩) hbl').trans (hcell' k hlt).2.2.1
      have hd3 := (hb.cell (p := ⟨b', off' + k * 4 + 3, none⟩) hbl').trans (hcell' k hlt).2.2.2
      rw [← hse] at hc0 hc1 hc2 hc3 hd0 hd1 hd2 hd3
      clear hcell hse hc hcell' hc'
      have hz := hb.size
      obtain ⟨sn, sd, sk, sv⟩ := s
      dsimp only at hc0 hc1 hc2 hc3 hd0 hd1 hd2 hd3
      go_wp2_with fail
      go_region_held3 (fun w' => (w'.cell? ⟨b, off + k * 4, none⟩ = some (.int .i64 sn) ∧ w'.cell? ⟨b, off + k * 4 + 1, none⟩ = some (.int .i64 sd) ∧ w'.cell? ⟨b, off + k * 4 + 2, none⟩ = some (.string sk) ∧ w'.cell? ⟨b, off + k * 4 + 3, none⟩ = some (.string sv)) ∧ w'.cell? ⟨b', off' + k * 4, none⟩ = some (.int .i64 sn) ∧ w'.cell? ⟨b', off' + k * 4 + 1, none⟩ = some (.int .i64 sd) ∧ w'.cell? ⟨b', off' + k * 4 + 2, none⟩ = some (.string sk) ∧ w'.cell? ⟨b', off' + k * 4 + 3, none⟩ = some (.string sv)) (go_keep)
        (first | (go_at_call 103; refine (eqMeta_same _ _ _ _ _).mono ?_; rintro e w1 ⟨rfl, hb1'⟩; have hb1 := below_undrew hb1'; have hbl2 : b < wr.heap.size := (by omega); have hbl3 : b' < wr.heap.size := (by omega); replace hc0 := (hb1.cell (p := ⟨b, off + k * 4, none⟩) hbl2).trans hc0; replace hc1 := (hb1.cell (p := ⟨b, off + k * 4 + 1, none⟩) hbl2).trans hc1; replace hc2 := (hb1.cell (p := ⟨b, off + k * 4 + 2, none⟩) hbl2).trans hc2; replace hc3 := (hb1.cell (p := ⟨b, off + k * 4 + 3, none⟩) hbl2).trans hc3; replace hd0 := (hb1.cell (p := ⟨b', off' + k * 4, none⟩) hbl3).trans hd0; replace hd1 := (hb1.cell (p := ⟨b', off' + k * 4 + 1, none⟩) hbl3).trans hd1; replace hd2 := (hb1.cell (p := ⟨b', off' + k * 4 + 2, none⟩) hbl3).trans hd2; replace hd3 := (hb1.cell (p := ⟨b', off' + k * 4 + 3, none⟩) hbl3).trans hd3))
      go_wp2
      go_roundw
      case rel => exact ⟨k + 1, by omega, by go_num, hb.trans (hb1.mono hz)⟩
      case measure => simp [intOf]; omega
    · clear hc hc'
      go_wp2
      go_ret
      exact ⟨rfl, hb⟩
end Go.Proofs.Ytenbdjlhcadhaaa
