/-
  spec: l4Next; what GoodSkip counts, plainly.
-/
import Derived.Test.YtdaldkcildbcmaaDoorH2
namespace Go.Proofs.YtdaldkcildbcmaaDoor
open Go.RowKit
set_option linter.unusedVariables false
set_option maxRecDepth 100000

/-- The link behind a tower, or behind the heads. -/
def NX (hs : List Int) (ts : List Tw) (a : Int) (lv : Nat) : Int := if a < 0 then hs.getD lv 0 else nx ts a lv
theorem NX_head (hs : List Int) (ts : List Tw) (lv : Nat) : NX hs ts (-1) lv = hs.getD lv 0 := rfl
theorem NX_at (hs : List Int) (ts : List Tw) (i lv : Nat) : NX hs ts (i : Int) lv = nx ts (i : Int) lv := by unfold NX; rw [if_neg (by omega)]

set_option maxHeartbeats 2000000 in
theorem l4Next_any (x y : Value) (hs : List Int) (ts : List Tw) (a : Int) (lv : Nat) (w : World) (hx : IL w x hs) (hy : TW w y ts) (h5 : hs.length = 5) (hl : lv < 5) (hn : ts.length ≤ 60) (ha : a = -1 ∨ okAt ts lv a) :
    Calls Tryd.prog 64 #[.agg #[x, y], .int .i64 a, .int .i64 lv] w fun e w' => e = .returned (.int .i64 (NX hs ts a lv)) ∧ Below w.heap.size w w' := by
  rcases ha with rfl | ⟨a0, a1, a2⟩
  · rw [NX_head]
    obtain ⟨ax, cx, rfl, hcx⟩ := hx
    obtain ⟨bx, ox, rfl, hbx, hcell⟩ := hcx (by intro e; simp [e] at h5)
    have c0 := hcell lv (by omega)
    rw [show hs[lv] = hs.getD lv 0 from by simp [List.getD, h5, hl]] at c0
    clear hcell hcx
    rw [h5]
    generalize hs.getD lv 0 = h at *
    replace c0 := ((below_alloc w (.cells #[.slice (some ⟨bx, ox, none⟩) 5 cx, y] 26)).cell (p := ⟨bx, ox + lv, none⟩) hbx).trans c0
    go_enter Tryd.func64, Tryd.ntmps64
    go_wp2
    go_ret
    exact ⟨rfl, below_alloc _ _⟩
  · obtain ⟨i, rfl⟩ := Int.eq_ofNat_of_zero_le a0
    rw [NX_at]
    have hit : i < ts.length := by omega
    have hB := below_alloc w (.cells #[x, y] 26)
    obtain ⟨b, off, cap, u, rfl, hbl, ⟨z0, z1, z2, z3, z4⟩, hu⟩ := (hy.below hB).cells i hit
    have HNX : Hid (nx ts (i : Int) lv = (tw ts (i : Int)).next.getD lv 0) := rfl
    generalize nx ts (i : Int) lv = nn at *
    generalize tw ts (i : Int) = s at *
    obtain ⟨sk, sn, sd, sv, sx⟩ := s
    dsimp only at z0 z1 z2 z3 hu a2 HNX
    obtain ⟨a', cap', rfl, hcu⟩ := hu
    obtain ⟨bu, ou, rfl, hbu, hcu⟩ := hcu (by intro e; simp [e] at a2)
    have cu := hcu lv a2
    rw [show sx[lv] = nn from by rw [HNX.out]; simp [List.getD, a2]] at cu
    have k2i : (lv : Int) < sx.length := by omega
    clear hcu HNX
    go_enter Tryd.func64, Tryd.ntmps64
    go_wp2
    go_ret
    exact ⟨rfl, hB⟩

/-- The counts when towers below k are counted, and of the next its levels below m. -/
def midN (ts : List Tw) (k m : Nat) : List Int := (List.range 5).map fun j => (reach (ts.take (if j < m then k + 1 else k)) j : Int)
def mkN (ts : List Tw) (k : Nat) : List Int := (List.range 5).map fun j => (reach (ts.take k) j : Int)
theorem midN_zero (ts : List Tw) (k : Nat) : midN ts k 0 = mkN ts k := by simp [midN, mkN]
theorem midN_len (ts : List Tw) (k m : Nat) : (midN ts k m).length = 5 := by simp [midN]
theorem mkN_zero (ts : List Tw) : mkN ts 0 = List.replicate 5 0 := by simp [mkN, reach, List.range_succ]
theorem mkN_all (ts : List Tw) (lv : Nat) (h : lv < 5) : (mkN ts ts.length)[lv]? = some (reach ts lv : Int) := by
  simp [mkN, h]
theorem midN_all (ts : List Tw) (k : Nat) (h : k < ts.length) (m : Nat) (hm : m = ts[k].next.length) : midN ts k m = mkN ts (k + 1) := by
  unfold midN mkN
  apply List.map_congr_left
  intro j _
  split
  · rfl
  · rw [reach_take ts j k h, if_neg (by omega)]
    simp
theorem midN_at (ts : List Tw) (k m : Nat) (h : m < 5) : (midN ts k m)[m]? = some (reach (ts.take k) m : Int) := by
  simp [midN, h]
theorem midN_set (ts : List Tw) (k : Nat) (h : k < ts.length) (m : Nat) (hm : m < ts[k].next.length) : (midN ts k m).set m ((reach (ts.take k) m : Int) + 1) = midN ts k (m + 1) := by
  apply List.ext_getElem?
  intro j
  by_cases hj : j < 5
  · by_cases e : m = j
    · subst e
      rw [List.getElem?_set_self (by rw [midN_len]; exact hj)]
      simp only [midN, List.getElem?_map, List.getElem?_range hj, Option.map_some]
      rw [if_pos (by omega), reach_take ts m k h, if_pos hm]
      simp
    · rw [List.getElem?_set_ne e]
      simp only [midN, List.getElem?_map, List.getElem?_range hj, Option.map_some]
      by_cases e2 : j < m
      · rw [if_pos e2, if_pos (by omega)]
      · rw [if_neg e2, if_neg (by omega)]
  · rw [List.getElem?_eq_none (by rw [List.length_set, midN_len]; omega), List.getElem?_eq_none (by rw [midN_len]; omega)]
/-- A tower is good among those ahead of it. -/
def TwG (ts : List Tw) (i : Nat) : Prop := okTw (tw ts i) = true ∧ (∀ j : Nat, j < i → cT (tw ts j) (tw ts i) ≠ 0) ∧ ∀ k, k < (tw ts i).next.length → -1 ≤ nx ts i k ∧ nx ts i k ≤ (ts.length : Int) - 1
def LvG (hs : List Int) (ts : List Tw) (lv : Nat) : Prop := (-1 ≤ hs.getD lv 0 ∧ hs.getD lv 0 ≤ (ts.length : Int) - 1) ∧ stp ts lv (reach ts lv) (-1) (hs.getD lv 0) = true
theorem goodS_iff (hs : List Int) (ts : List Tw) : GoodS hs ts ↔ hs.length = 5 ∧ ts.length ≤ 60 ∧ (∀ i : Nat, i < ts.length → TwG ts i) ∧ ∀ lv, lv < 5 → LvG hs ts lv := Iff.rfl
theorem TL.under {w w' : World} {gt B : Nat} (h : TL w (.slice (some ⟨gt, 0, none⟩) 256 256)) (hb : Below B w w') (hlt : gt < B) : TL w' (.slice (some ⟨gt, 0, none⟩) 256 256) := by
  obtain ⟨g, he, hg, hc⟩ := h
  simp only [Value.slice.injEq, Option.some.injEq, Addr.mk.injEq, and_true] at he
  subst he
  exact ⟨gt, rfl, Nat.lt_of_lt_of_le hg hb.size, fun i hi => (hb.cell (p := ⟨gt, i, none⟩) hlt).trans (hc i hi)⟩
/-- Where the next is none, or is not so high, or is not behind: the steps end. -/
theorem stp_bad {hs : List Int} {ts : List Tw} {lv n : Nat} {a x : Int} (h : x < 0 ∨ ¬ lv < (tw ts x).next.length ∨ (0 ≤ a ∧ ¬ cT (tw ts a) (tw ts x) < 0)) : stp ts lv (n + 1) a x = false := by
  simp only [stp]
  rcases h with h | h | ⟨h0, h⟩
  · rw [decide_eq_false (by omega)]; simp
  · rw [decide_eq_false h]; simp
  · rw [decide_eq_false h, decide_eq_false (show ¬ a < 0 by omega)]; simp
theorem stp_good {ts : List Tw} {lv n : Nat} {a x : Int} (h0 : 0 ≤ x) (h1 : lv < (tw ts x).next.length) (h2 : a < 0 ∨ cT (tw ts a) (tw ts x) < 0) : stp ts lv (n + 1) a x = stp ts lv n x (nx ts x lv) := by
  simp only [stp]
  rw [decide_eq_true h0, decide_eq_true h1]
  rcases h2 with h2 | h2
  · rw [decide_eq_true h2]; simp
  · rw [decide_eq_true h2]; simp
end Go.Proofs.YtdaldkcildbcmaaDoor
