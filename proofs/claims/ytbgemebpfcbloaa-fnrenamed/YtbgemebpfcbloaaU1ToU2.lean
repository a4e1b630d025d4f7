/-
  Steps in a row: rows of five cells; szDiskStepS, toDiskStepS, eqDiskStepS, markDiskStepS.
  Drawn steps in a row: the cursor's diskSteps.
  Slices of steps: szDiskStepS, toDiskStepS, eqDiskStepS, markDiskStepS.
-/
import Derived.Test.YtbgemebpfcbloaaV1
import Derived.OwnWalk
import Derived.Deep.RegionHeld3
import Derived.Test.YtbgemebpfcbloaaxX2
namespace Go.Proofs.Ytbgemebpfcbloaa
open Go.RowKit Go.Maps
set_option linter.unusedVariables false
set_option maxRecDepth 100000

/-- A step of a disk. -/
structure St where
  k : Int
  nm : ByteArray
  ot : ByteArray
  da : ByteArray
  kp : Int
def St.zero : St := ⟨0, ⟨#[]⟩, ⟨#[]⟩, ⟨#[]⟩, 0⟩
def St.cells (s : St) : List Value := [.int .i64 s.k, .string s.nm, .string s.ot, .string s.da, .int .i64 s.kp]
def flat5 : List St → List Value
  | [] => []
  | s :: r => .int .i64 s.k :: .string s.nm :: .string s.ot :: .string s.da :: .int .i64 s.kp :: flat5 r
theorem flat5_length (l : List St) : (flat5 l).length = l.length * 5 := by
  induction l with
  | nil => rfl
  | cons x r ih => simp only [flat5, List.length_cons, ih]; omega
theorem flat5_get (l : List St) (i : Nat) (h : i < l.length) : (flat5 l)[i * 5]? = some (.int .i64 l[i].k) ∧ (flat5 l)[i * 5 + 1]? = some (.string l[i].nm) ∧ (flat5 l)[i * 5 + 2]? = some (.string l[i].ot) ∧ (flat5 l)[i * 5 + 3]? = some (.string l[i].da) ∧ (flat5 l)[i * 5 + 4]? = some (.int .i64 l[i].kp) := by
  induction l generalizing i with
  | nil => simp at h
  | cons x r ih =>
    cases i with
    | zero => exact ⟨rfl, rfl, rfl, rfl, rfl⟩
    | succ i =>
      have := ih i (by simpa using h)
      rw [show (i + 1) * 5 = i * 5 + 1 + 1 + 1 + 1 + 1 from by omega, show i * 5 + 1 + 1 + 1 + 1 + 1 + 1 = (i * 5 + 1) + 1 + 1 + 1 + 1 + 1 from by omega, show i * 5 + 1 + 1 + 1 + 1 + 1 + 2 = (i * 5 + 2) + 1 + 1 + 1 + 1 + 1 from by omega, show i * 5 + 1 + 1 + 1 + 1 + 1 + 3 = (i * 5 + 3) + 1 + 1 + 1 + 1 + 1 from by omega, show i * 5 + 1 + 1 + 1 + 1 + 1 + 4 = (i * 5 + 4) + 1 + 1 + 1 + 1 + 1 from by omega]
      simp only [flat5, List.getElem?_cons_succ, List.getElem_cons_succ]
      exact this
theorem flat5_set (l : List St) (i : Nat) (s : St) : (((((flat5 l).set (i * 5) (.int .i64 s.k)).set (i * 5 + 1) (.string s.nm)).set (i * 5 + 2) (.string s.ot)).set (i * 5 + 3) (.string s.da)).set (i * 5 + 4) (.int .i64 s.kp) = flat5 (l.set i s) := by
  induction l generalizing i with
  | nil => simp [flat5]
  | cons x r ih =>
    cases i with
    | zero => simp [flat5]
    | succ i =>
      rw [show (i + 1) * 5 = i * 5 + 1 + 1 + 1 + 1 + 1 from by omega, show i * 5 + 1 + 1 + 1 + 1 + 1 + 1 = (i * 5 + 1) + 1 + 1 + 1 + 1 + 1 from by omega, show i * 5 + 1 + 1 + 1 + 1 + 1 + 2 = (i * 5 + 2) + 1 + 1 + 1 + 1 + 1 from by omega, show i * 5 + 1 + 1 + 1 + 1 + 1 + 3 = (i * 5 + 3) + 1 + 1 + 1 + 1 + 1 from by omega, show i * 5 + 1 + 1 + 1 + 1 + 1 + 4 = (i * 5 + 4) + 1 + 1 + 1 + 1 + 1 from by omega]
      simp only [flat5, List.set_cons_succ]
      rw [ih i]
theorem flat5_zeros (n : Nat) : (madeCells (Value.agg #[.int .i64 0, .string ⟨#[]⟩, .string ⟨#[]⟩, .string ⟨#[]⟩, .int .i64 0]).cells (n * 5)).toList = flat5 (List.replicate n St.zero) := by
  have hcs : (Value.agg #[.int .i64 0, .string ⟨#[]⟩, .string ⟨#[]⟩, .string ⟨#[]⟩, .int .i64 0]).cells = #[.int .i64 0, .string ⟨#[]⟩, .string ⟨#[]⟩, .string ⟨#[]⟩, .int .i64 0] := rfl
  rw [hcs]
  apply List.ext_getElem?
  intro i
  by_cases hi : i < n * 5
  · obtain ⟨j, m, hm, rfl⟩ : ∃ j m, m < 5 ∧ i = j * 5 + m := ⟨i / 5, i % 5, by omega, by omega⟩
    have hj : j < (List.replicate n St.zero).length := by simp; omega
    obtain ⟨g0, g1, g2, g3, g4⟩ := flat5_get _ j hj
    obtain rfl | rfl | rfl | rfl | rfl : m = 0 ∨ m = 1 ∨ m = 2 ∨ m = 3 ∨ m = 4 := by omega
    · rw [Nat.add_zero] at hi ⊢; rw [g0]; simp [madeCells, hi, St.zero]
    · rw [g1]; simp [madeCells, hi, St.zero]
    · rw [g2]; simp [madeCells, hi, St.zero]
    · rw [g3]; simp [madeCells, hi, St.zero]
    · rw [g4]; simp [madeCells, hi, St.zero]
  · rw [List.getElem?_eq_none (by simp [madeCells]; omega), List.getElem?_eq_none (by rw [flat5_length]; simp; omega)]
end Go.Proofs.Ytbgemebpfcbloaa

namespace Go.Proofs.Ytbgemebpfcbloaa
open Go.RowKit
set_option linter.unusedVariables false
set_option maxRecDepth 100000

theorem Try.info28x : (Try.prog.info? 28).map (fun i => (i.zero, i.size, i.bytes)) = some (some (.agg #[.int .i64 0, .string ⟨#[]⟩, .string ⟨#[]⟩, .string ⟨#[]⟩, .int .i64 0]), 5, 64) := by kernel_rfl
def allSt (L : List St) : Prop := ∀ s ∈ L, okSt s.k s.nm s.ot s.da s.kp
theorem allSt_snoc {L : List St} {s : St} (h : allSt L) (hs : okSt s.k s.nm s.ot s.da s.kp) : allSt (L ++ [s]) := by
  intro x hx
  rcases List.mem_append.1 hx with h1 | h1
  · exact h x h1
  · rw [List.mem_singleton.1 h1]; exact hs
theorem cells_new5 (W : World) (x : St) : ∀ j u, (flat5 [x])[j]? = some u → (W.alloc (.cells #[.int .i64 x.k, .string x.nm, .string x.ot, .string x.da, .int .i64 x.kp] 28)).cell? ((⟨W.heap.size, 0, none⟩ : Addr).add j) = some u := by
  intro j u hj
  have hb := Box.new W #[.int .i64 x.k, .string x.nm, .string x.ot, .string x.da, .int .i64 x.kp] 28
  rw [show (⟨W.heap.size, 0, none⟩ : Addr).add j = ⟨W.heap.size, j, none⟩ from by simp [Addr.add]; omega]
  exact hb.2.1 j u hj
theorem one5 (x : St) : ∀ u ∈ flat5 [x], u.oneCell' = true := by
  intro u hu
  simp only [flat5, List.mem_cons, List.not_mem_nil, or_false] at hu
  rcases hu with rfl | rfl | rfl | rfl | rfl <;> rfl
theorem flat5_append (l m : List St) : flat5 (l ++ m) = flat5 l ++ flat5 m := by
  induction l with
  | nil => rfl
  | cons x r ih => simp [flat5, ih]
def SsPost (b : Nat) (l : List UInt8) (K : Nat) (w : World) (e : Ending) (w' : World) : Prop :=
  ∃ v L, e = .returned v ∧ w'.ownsRow w.heap.size 28 5 v L.length (flat5 L) ∧ L.length ≤ 101 ∧ allSt L ∧ Cur w' b l K ∧ Chg (· = b) w w'
set_option maxHeartbeats 4000000 in
theorem diskSteps_any (b : Nat) (l : List UInt8) (c : Nat) (w : World) (h : Cur w b l c) (hl : l.length ≤ 9223372036854775807) (hc : c ≤ 100000) :
    Calls Try.prog 93 #[.pointer (some ⟨b, 0, none⟩)] w (SsPost b l (c + 7000) w) := by
  obtain ⟨i0, hi, hz0, hzs, hzb⟩ := info_parts Try.info28x
  have hbw := h.lt
  go_enter Try.func93, Try.ntmps93
  go_wp2_with fail
  refine (pick_any b l c 24 _ h hl (by omega) (by omega)).mono ?_
  rintro e w1 ⟨⟨x, rfl, hx⟩, hc1, hch1⟩
  go_wp2_with fail
  refine (one_any b l (c + 2) 12 _ hc1 hl (by omega) (by omega)).mono ?_
  rintro e w2 ⟨⟨y, rfl⟩, hc2, hch2⟩
  have hch := hch1.trans hch2
  clear hc1 hch1 hch2 h
  cases y with
  | true =>
    go_wp2_with fail
    refine (pick_any b l (c + 2 + 2) 22 _ hc2 hl (by omega) (by omega)).mono ?_
    rintro e w3 ⟨⟨z, rfl, hz⟩, hc3, hch3⟩
    have hcc := hch.trans hch3
    clear hc2 hch hch3
    go_wp2_with fail
    go_loopw [3, 4] (fun v i wr => ∃ (j : Nat) (L : List St), L.length + j ≤ 101 ∧ allSt L ∧ i = .int .i64 j ∧ wr.ownsRow w.heap.size 28 5 v L.length (flat5 L) ∧ Cur wr b l (c + 8 + 60 * L.length) ∧ Chg (· = b) w wr) (fun _ i _ => (intOf i).toNat)
    case atStart => exact ⟨(80 + z), [], by simp; omega, by intro s hs; simp at hs, by go_num, World.ownsRow_nil _ _ _ _, hc3.mono (by simp), hcc⟩
    case round =>
      obtain ⟨j, L, hL, hsz, rfl, hown, hC, hcg⟩ := hrel
      have HS : Hid (allSt L) := hsz
      clear hsz hc3 hcc
      by_cases hj : 0 < j
      · have gj : (0 : Int) < (j : Int) := by omega
        go_wp2_with fail
        refine (diskStep_any b l _ _ hC hl (by omega)).mono ?_
        rintro e w5 ⟨k, nm, ot, da, kp, rfl, hok, hc5, hch5⟩
        have hcg5 := hcg.trans hch5
        have hown5 := hch5.owns hown (fun g hg h => by have := owns_ge hown g hg; omega)
        have hz5 := hcg5.size
        have HC : Hid (Cur w5 b l (c + 8 + 60 * (L.length + 1))) := hc5.mono (by omega)
        have HN : Hid (allSt (L ++ [(⟨k, nm, ot, da, kp⟩ : St)])) := allSt_snoc HS.out hok
        clear hC hc5 hown hcg hch5 HS hok
        go_wp2_with (at_builtin; refine wpList_append_own _ rfl _ _ 69 rfl w.heap.size 28 i0 (.agg #[.int .i64 0, .string ⟨#[]⟩, .string ⟨#[]⟩, .string ⟨#[]⟩, .int .i64 0]) 5 64 Try.underlying69 hi hz0 hzs hzb rfl (by decide) _ L.length (flat5 L) rfl (owns_below hown5 (below_alloc _ _)) ⟨w5.heap.size, 0, none⟩ 1 1 (flat5 [(⟨k, nm, ot, da, kp⟩ : St)]) rfl rfl (cells_new5 w5 (⟨k, nm, ot, da, kp⟩ : St)) (one5 _) (by unfold maxLen; omega) (by omega) (by simp; omega) ?_; intro v' w6 hown6 hgrow6 _)
        have hb6 := ((Below.refl w.heap.size w5).alloc hz5 _).grown hgrow6 (by simp; omega) (owns_ge hown5)
        go_roundw
        case rel => exact ⟨j - 1, L ++ [(⟨k, nm, ot, da, kp⟩ : St)], by simp; omega, HN.out, by go_num, by rw [List.length_append, flat5_append]; exact hown6, by rw [List.length_append]; exact cur_low HC.out hbw hb6, chg_below hcg5 hb6⟩
        case measure => simp [intOf]; omega
      · have gj : (j : Int) ≤ 0 := by omega
        go_wp2
        go_ret
        exact ⟨_, L, rfl, hown, by omega, HS.out, hC.mono (by omega), hcg⟩
  | false =>
    go_wp2_with fail
    go_loopw [3, 4] (fun v i wr => ∃ (j : Nat) (L : List St), L.length + j ≤ 101 ∧ allSt L ∧ i = .int .i64 j ∧ wr.ownsRow w.heap.size 28 5 v L.length (flat5 L) ∧ Cur wr b l (c + 8 + 60 * L.length) ∧ Chg (· = b) w wr) (fun _ i _ => (intOf i).toNat)
    case atStart => exact ⟨x, [], by simp; omega, by intro s hs; simp at hs, by go_num, World.ownsRow_nil _ _ _ _, hc2.mono (by simp), hch⟩
    case round =>
      obtain ⟨j, L, hL, hsz, rfl, hown, hC, hcg⟩ := hrel
      have HS : Hid (allSt L) := hsz
      clear hsz hc2 hch
      by_cases hj : 0 < j
      · have gj : (0 : Int) < (j : Int) := by omega
        go_wp2_with fail
        refine (diskStep_any b l _ _ hC hl (by omega)).mono ?_
        rintro e w5 ⟨k, nm, ot, da, kp, rfl, hok, hc5, hch5⟩
        have hcg5 := hcg.trans hch5
        have hown5 := hch5.owns hown (fun g hg h => by have := owns_ge hown g hg; omega)
        have hz5 := hcg5.size
        have HC : Hid (Cur w5 b l (c + 8 + 60 * (L.length + 1))) := hc5.mono (by omega)
        have HN : Hid (allSt (L ++ [(⟨k, nm, ot, da, kp⟩ : St)])) := allSt_snoc HS.out hok
        clear hC hc5 hown hcg hch5 HS hok
        go_wp2_with (at_builtin; refine wpList_append_own _ rfl _ _ 69 rfl w.heap.size 28 i0 (.agg #[.int .i64 0, .string ⟨#[]⟩, .string ⟨#[]⟩, .string ⟨#[]⟩, .int .i64 0]) 5 64 Try.underlying69 hi hz0 hzs hzb rfl (by decide) _ L.length (flat5 L) rfl (owns_below hown5 (below_alloc _ _)) ⟨w5.heap.size, 0, none⟩ 1 1 (flat5 [(⟨k, nm, ot, da, kp⟩ : St)]) rfl rfl (cells_new5 w5 (⟨k, nm, ot, da, kp⟩ : St)) (one5 _) (by unfold maxLen; omega) (by omega) (by simp; omega) ?_; intro v' w6 hown6 hgrow6 _)
        have hb6 := ((Below.refl w.heap.size w5).alloc hz5 _).grown hgrow6 (by simp; omega) (owns_ge hown5)
        go_roundw
        case rel => exact ⟨j - 1, L ++ [(⟨k, nm, ot, da, kp⟩ : St)], by simp; omega, HN.out, by go_num, by rw [List.length_append, flat5_append]; exact hown6, by rw [List.length_append]; exact cur_low HC.out hbw hb6, chg_below hcg5 hb6⟩
        case measure => simp [intOf]; omega
      · have gj : (j : Int) ≤ 0 := by omega
        go_wp2
        go_ret
        exact ⟨_, L, rfl, hown, by omega, HS.out, hC.mono (by omega), hcg⟩
end Go.Proofs.Ytbgemebpfcbloaa

namespace Go.Proofs.Ytbgemebpfcbloaa
open Go.RowKit Go.Maps
set_option linter.unusedVariables false
set_option maxRecDepth 100000

/-- The value v is a slice of the steps l. -/
def FL (w : World) (v : Value) (l : List St) : Prop :=
  ∃ a cap, v = .slice a l.length cap ∧ (l ≠ [] → ∃ b off, a = some ⟨b, off, none⟩ ∧ b < w.heap.size ∧
    ∀ i (h : i < l.length), w.cell? ⟨b, off + i * 5, none⟩ = some (.int .i64 l[i].k) ∧ w.cell? ⟨b, off + i * 5 + 1, none⟩ = some (.string l[i].nm) ∧ w.cell? ⟨b, off + i * 5 + 2, none⟩ = some (.string l[i].ot) ∧ w.cell? ⟨b, off + i * 5 + 3, none⟩ = some (.string l[i].da) ∧ w.cell? ⟨b, off + i * 5 + 4, none⟩ = some (.int .i64 l[i].kp))
theorem FL.below {w w' : World} {v : Value} {l : List St} (h : FL w v l) (hb : Below w.heap.size w w') : FL w' v l := by
  obtain ⟨a, cap, hv, hc⟩ := h
  refine ⟨a, cap, hv, fun hl => ?_⟩
  obtain ⟨b, off, ha, hbl, hcell⟩ := hc hl
  refine ⟨b, off, ha, Nat.lt_of_lt_of_le hbl hb.size, fun i hi => ?_⟩
  obtain ⟨c0, c1, c2, c3, c4⟩ := hcell i hi
  exact ⟨(hb.cell (p := ⟨b, off + i * 5, none⟩) hbl).trans c0, (hb.cell (p := ⟨b, off + i * 5 + 1, none⟩) hbl).trans c1, (hb.cell (p := ⟨b, off + i * 5 + 2, none⟩) hbl).trans c2, (hb.cell (p := ⟨b, off + i * 5 + 3, none⟩) hbl).trans c3, (hb.cell (p := ⟨b, off + i * 5 + 4, none⟩) hbl).trans c4⟩
theorem FL_of_owns {w : World} {base : Nat} {e : TypeId} {v : Value} {l : List St} (h : w.ownsRow base e 5 v l.length (flat5 l)) : FL w v l := by
  have h' := h
  obtain ⟨hl, h⟩ := h
  rcases h with ⟨rfl, h0⟩ | ⟨g, cap, cur, rfl, hbg, hh, hcap, hm, hsz, htk⟩
  · exact ⟨none, 0, by rw [h0], fun hne => absurd (List.length_eq_zero_iff.1 h0) hne⟩
  · refine ⟨_, cap, rfl, fun _ => ⟨g, 0, rfl, (Array.getElem?_eq_some_iff.1 hh).1, fun i hi => ?_⟩⟩
    obtain ⟨g0, g1, g2, g3, g4⟩ := flat5_get l i hi
    rw [Nat.zero_add]
    exact ⟨by rw [h'.cellAt (i * 5) (by omega), g0], by rw [h'.cellAt (i * 5 + 1) (by omega), g1], by rw [h'.cellAt (i * 5 + 2) (by omega), g2], by rw [h'.cellAt (i * 5 + 3) (by omega), g3], by rw [h'.cellAt (i * 5 + 4) (by omega), g4]⟩
def part5 (l : List St) (k : Nat) : List St := l.take k ++ List.replicate (l.length - k) St.zero
theorem part5_length (l : List St) (k : Nat) (h : k ≤ l.length) : (part5 l k).length = l.length := by simp [part5]; omega
theorem part5_zero (l : List St) : part5 l 0 = List.replicate l.length St.zero := by simp [part5]
theorem part5_all (l : List St) : part5 l l.length = l := by simp [part5]
theorem part5_set (l : List St) (k : Nat) (h : k < l.length) : (part5 l k).set k l[k] = part5 l (k + 1) := by
  unfold part5
  have h1 : (l.take k).length = k := by simp; omega
  obtain ⟨m, hm⟩ : ∃ m, l.length - k = m + 1 := ⟨l.length - k - 1, by omega⟩
  rw [List.set_append_right _ _ (by omega), h1, Nat.sub_self, hm, List.replicate_succ, List.set_cons_zero, List.take_succ_eq_append_getElem h, List.append_assoc, show l.length - (k + 1) = m from by omega]
  rfl
theorem owns5_at {w : World} {base : Nat} {e : TypeId} {g cap n : Nat} {xs : List Value} (h : w.ownsRow base e 5 (.slice (some ⟨g, 0, none⟩) n cap) n xs) (i : Nat) (hi : i < n) (j : Nat) (hj : j < 5) :
    (∃ u, w.cell? ⟨g, i * 5 + j, none⟩ = some u) ∧ w.frozen? ⟨g, i * 5 + j, none⟩ = false := by
  have hl := h.1
  refine ⟨?_, h.frozenAt _⟩
  rw [h.cellAt (i * 5 + j) (by omega)]
  exact ⟨_, List.getElem?_eq_getElem (by omega)⟩

def tot5 : List St → Nat
  | [] => 0
  | s :: r => s.nm.size + s.ot.size + s.da.size + tot5 r
theorem tot5_take (l : List St) (k : Nat) (h : k < l.length) : tot5 (l.take (k + 1)) = tot5 (l.take k) + (l[k].nm.size + l[k].ot.size + l[k].da.size) := by
  induction l generalizing k with
  | nil => simp at h
  | cons x r ih =>
    cases k with
    | zero => simp [tot5]
    | succ k =>
      simp only [List.take_succ_cons, tot5, List.getElem_cons_succ]
      rw [ih k (by simpa using h)]; omega
theorem tot5_mem (l : List St) (k : Nat) (h : k < l.length) : l[k].nm.size + l[k].ot.size + l[k].da.size ≤ tot5 l := by
  induction l generalizing k with
  | nil => simp at h
  | cons x r ih =>
    cases k with
    | zero => simp [tot5]
    | succ k => have := ih k (by simpa using h); simp only [tot5, List.getElem_cons_succ]; omega

theorem Try.info28 : (Try.prog.info? 28).map (fun i => (i.zero, i.size, i.bytes)) = some (some (.agg #[.int .i64 0, .string ⟨#[]⟩, .string ⟨#[]⟩, .string ⟨#[]⟩, .int .i64 0]), 5, 64) := by kernel_rfl

set_option maxHeartbeats 2000000 in
theorem szDiskStepS_any (v : Value) (l : List St) (left : Int) (w : World) (hv : FL w v l) (h0 : 0 ≤ left) (h1 : left ≤ 1048576) (hn : l.length ≤ maxLen) (hs : ∀ i (h : i < l.length), l[i].nm.size ≤ maxLen ∧ l[i].ot.size ≤ maxLen ∧ l[i].da.size ≤ maxLen) :
    Calls Try.prog 34 #[v, .int .i64 left] w fun e w' => (∃ r : Int, e = .returned (.int .i64 r) ∧ (r = -1 ∨ (0 ≤ r ∧ (tot5 l : Int) + l.length + r = left))) ∧ Below w.heap.size w w' := by
  obtain ⟨a, cap, rfl, hc⟩ := hv
  unfold maxLen at hn
  by_cases hl : l.length ≤ left
  · go_enter Try.func34, Try.ntmps34
    go_wp2
    go_loopw [1, 5] (fun t i wr => ∃ k : Nat, k ≤ l.length ∧ i = .int .i64 k ∧ (tot5 (l.take k) : Int) ≤ left - l.length ∧ t = .int .i64 (left - l.length - tot5 (l.take k)) ∧ Below w.heap.size w wr) (fun _ i _ => l.length - (intOf i).toNat)
    case atStart => exact ⟨0, Nat.zero_le _, rfl, by simp [tot5]; omega, by simp [tot5], Below.refl _ _⟩
    case round =>
      obtain ⟨k, hk, rfl, ht, rfl, hb⟩ := hrel
      by_cases hlt : k < l.length
      · obtain ⟨b, off, rfl, hbl, hcell⟩ := hc (by intro e; simp [e] at hlt)
        obtain ⟨s, hse⟩ : ∃ s, s = l[k] := ⟨_, rfl⟩
        have hc0 := (hb.cell (p := ⟨b, off + k * 5, none⟩) hbl).trans (hcell k hlt).1
        have hc1 := (hb.cell (p := ⟨b, off + k * 5 + 1, none⟩) hbl).trans (hcell k hlt).2.1
        have hc2 := (hb.cell (p := ⟨b, off + k * 5 + 2, none⟩) hbl).trans (hcell k hlt).2.2.1
        have hc3 := (hb.cell (p := ⟨b, off + k * 5 + 3, none⟩) hbl).trans (hcell k hlt).2.2.2.1
        have hc4 := (hb.cell (p := ⟨b, off + k * 5 + 4, none⟩) hbl).trans (hcell k hlt).2.2.2.2
        have hss := hs k hlt
        have HT : Hid (tot5 (l.take (k + 1)) = tot5 (l.take k) + (s.nm.size + s.ot.size + s.da.size)) := by rw [hse]; exact tot5_take l k hlt
        rw [← hse] at hc0 hc1 hc2 hc3 hc4 hss
        clear hcell hs hse hc
        have hz := hb.size
        have KS := fun w => szDiskStep_any s.k s.kp s.nm s.ot s.da (left - l.length - tot5 (l.take k)) w (by omega) (by omega) hss.1 hss.2.1 hss.2.2
        obtain ⟨sk, sn, so, sd, sp⟩ := s
        dsimp only at *
        by_cases hle : (sn.size : Int) + so.size + sd.size ≤ left - l.length - tot5 (l.take k)
        · rw [if_pos hle] at KS
          go_wp2_with fail
          refine (KS _).mono ?_
          rintro e w1 ⟨rfl, hb1⟩
          go_wp2_with fail
          go_roundw
          case rel => exact ⟨k + 1, by omega, by go_num, by rw [HT.out]; omega, by rw [HT.out]; go_num, hb.trans (hb1.mono hz)⟩
          case measure => simp [intOf]; omega
        · rw [if_neg hle] at KS
          go_wp2_with fail
          refine (KS _).mono ?_
          rintro e w1 ⟨rfl, hb1⟩
          go_wp2_with fail
          go_ret
          exact ⟨⟨-1, rfl, .inl rfl⟩, hb.trans (hb1.mono hz)⟩
      · go_wp2
        go_ret
        have : k = l.length := by omega
        subst this
        exact ⟨⟨_, rfl, .inr (by rw [List.take_length] at *; omega)⟩, hb⟩
  · go_enter Try.func34, Try.ntmps34
    go_wp2
    go_ret
    exact ⟨⟨-1, rfl, .inl rfl⟩, Below.refl _ _⟩
end Go.Proofs.Ytbgemebpfcbloaa
