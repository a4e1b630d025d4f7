/-
  PickLevel, both.
-/
import Derived.Test.YtenbdjlhcadhaaaE9
namespace Go.Proofs.Ytenbdjlhcadhaaa
open Go.RowKit
set_option linter.unusedVariables false
set_option maxRecDepth 100000

/-- How many of the first k metas lie on the level. -/
def cntD (l : List Mt) (lev : Int) : Nat → Int
  | 0 => 0
  | k + 1 => cntD l lev k + if (l.getD k default).d = lev then 1 else 0
theorem cntD_step (l : List Mt) (lev : Int) (k : Nat) (h : k < l.length) : cntD l lev (k + 1) = cntD l lev k + if l[k].d = lev then 1 else 0 := by
  simp only [cntD, getD_at l k h]
theorem cntD_le (l : List Mt) (lev : Int) (k : Nat) : 0 ≤ cntD l lev k ∧ cntD l lev k ≤ k := by
  induction k with
  | zero => simp [cntD]
  | succ k ih => simp only [cntD]; split <;> omega
def moreOn (l : List Mt) (i : Nat) : Int := cntD l i l.length - (2 + 2 * i)
def pk (l : List Mt) : Nat → Int × Int
  | 0 => (0, 0)
  | i + 1 => if (pk l i).2 < moreOn l i then ((i : Int), moreOn l i) else pk l i
theorem pk_ge (l : List Mt) (i : Nat) : 0 ≤ (pk l i).2 ∧ ((pk l i).2 = 0 → (pk l i).1 = 0) := by
  induction i with
  | zero => simp [pk]
  | succ i ih =>
    simp only [pk]
    split
    · exact ⟨by show 0 ≤ moreOn l i; omega, fun h => by have : moreOn l i = 0 := h; omega⟩
    · exact ih
theorem pk_le (l : List Mt) (i : Nat) : (pk l i).2 ≤ l.length := by
  induction i with
  | zero => simp [pk]
  | succ i ih =>
    simp only [pk]
    split
    · have := (cntD_le l i l.length).2; show moreOn l i ≤ _; unfold moreOn; omega
    · exact ih
def pickV (nx sq : Int) (l : List Mt) : Int := if goodV nx sq l then (pk l 3).1 else 0
def pickB (nx sq : Int) (l : List Mt) : Bool := goodV nx sq l && decide (0 < (pk l 3).2)

set_option maxHeartbeats 2000000 in
theorem metasOn_any (nx sq lev : Int) (v : Value) (l : List Mt) (w : World) (hv : IR w v l) (hn : l.length ≤ 1048576) :
    Calls Try.prog 66 #[.agg #[.int .i64 nx, .int .i64 sq, v], .int .i64 lev] w fun e w' => e = .returned (.int .i64 (cntD l lev l.length)) ∧ Below w.heap.size w w' := by
  obtain ⟨a, cap, rfl, hc⟩ := hv
  go_enter Try.func66, Try.ntmps66
  go_wp2
  go_loopw [5, 11] (fun t i wr => ∃ k : Nat, k ≤ l.length ∧ i = .int .i64 k ∧ t = .int .i64 (cntD l lev k) ∧ Below w.heap.size w wr) (fun _ i _ => l.length - (intOf i).toNat)
  case atStart => exact ⟨0, Nat.zero_le _, rfl, rfl, below_alloc _ _⟩
  case round =>
    obtain ⟨k, hk, rfl, rfl, hb⟩ := hrel
    have hz := hb.size
    by_cases hlt : k < l.length
    · obtain ⟨b, off, rfl, hbl, hcell⟩ := hc (by intro e; simp [e] at hlt)
      have hc0 := (hb.cell (p := ⟨b, off + k * 4, none⟩) hbl).trans (hcell k hlt).1
      have hc1 := (hb.cell (p := ⟨b, off + k * 4 + 1, none⟩) hbl).trans (hcell k hlt).2.1
      have hc2 := (hb.cell (p := ⟨b, off + k * 4 + 2, none⟩) hbl).trans (hcell k hlt).2.2.1
      have hc3 := (hb.cell (p := ⟨b, off + k * 4 + 3, none⟩) hbl).trans (hcell k hlt).2.2.2
      have hbl2 : b < wr.heap.size := by omega
      have HX : Hid (cntD l lev (k + 1) = cntD l lev k + if l[k].d = lev then 1 else 0) := cntD_step l lev k hlt
      have hcl := cntD_le l lev k
      clear hcell hc
      generalize cntD l lev k = t at *
      generalize l[k] = s at *
      obtain ⟨sn, sd, sk, sv⟩ := s
      dsimp only at *
      by_cases hd : sd = lev
      · have HX2 : Hid (cntD l lev (k + 1) = t + 1) := by show _ = _; rw [HX.out, if_pos hd]
        clear HX
        go_wp2
        go_roundw
        case rel => exact ⟨k + 1, by omega, by go_num, by rw [HX2.out], hb.alloc hz _⟩
        case measure => simp [intOf]; omega
      · have HX2 : Hid (cntD l lev (k + 1) = t) := by show _ = _; rw [HX.out, if_neg hd]; omega
        clear HX
        go_wp2
        go_roundw
        case rel => exact ⟨k + 1, by omega, by go_num, by rw [HX2.out], hb.alloc hz _⟩
        case measure => simp [intOf]; omega
    · obtain rfl : k = l.length := by omega
      clear hc
      go_wp2
      go_ret
      exact ⟨rfl, hb⟩
theorem mayHaveOn_any (i : Nat) (w : World) (h : i ≤ 10) : Calls Try.prog 67 #[.int .i64 i] w fun e w' => e = .returned (.int .i64 (2 + 2 * i)) ∧ w' = w := by
  go_enter Try.func67, Try.ntmps67
  go_wp2
  go_ret
  exact ⟨rfl, rfl⟩

set_option maxHeartbeats 2000000 in
theorem implPick_any (nx sq : Int) (v : Value) (l : List Mt) (w : World) (HV : IX w v l) (hn : l.length ≤ 1048576) (hs : ∀ i (h : i < l.length), l[i].k.size ≤ 1048576 ∧ l[i].v.size ≤ 1048576) :
    Calls Try.prog 23 #[.agg #[.int .i64 nx, .int .i64 sq, v]] w fun e w' => e = .returned (.tuple #[.int .i64 (pickV nx sq l), .bool (pickB nx sq l)]) ∧ Below w.heap.size w w' := by
  have hB0 := below_alloc w (.cells #[.int .i64 nx, .int .i64 sq, v] 25)
  have X0 := Box.new w #[.int .i64 nx, .int .i64 sq, v] 25
  have K := implGoodV_any nx sq v l _ (HV.below hB0) hn hs
  have HP : Hid (pickV nx sq l = (if goodV nx sq l then (pk l 3).1 else 0) ∧ pickB nx sq l = (goodV nx sq l && decide (0 < (pk l 3).2))) := ⟨rfl, rfl⟩
  generalize goodV nx sq l = g at *
  generalize pickV nx sq l = PV at *
  generalize pickB nx sq l = PB at *
  obtain ⟨hv, a', cap', hve, hcap⟩ := HV
  have hv' := hv
  obtain ⟨a, cap, rfl, hc⟩ := hv
  clear hs hc hve hcap
  go_enter Try.func23, Try.ntmps23
  go_wp2_with fail
  refine K.mono ?_
  rintro e w1 ⟨rfl, hb1⟩
  have hB1 := below_then hB0 hb1
  have X1 := X0.below hb1
  clear K hB0 hb1 X0
  cases g
  · have HF : Hid (PV = 0 ∧ PB = false) := ⟨by rw [HP.out.1]; rfl, by rw [HP.out.2]; rfl⟩
    clear HP
    go_wp2
    exact bodyPost_ret (v := .tuple #[.int .i64 0, .bool false]) (by simp [results, Try.results23, go_sem]) rfl ⟨by rw [HF.out.1, HF.out.2], hB1⟩
  have HT : Hid (PV = (pk l 3).1 ∧ PB = decide (0 < (pk l 3).2)) := ⟨by rw [HP.out.1]; rfl, by rw [HP.out.2]; rfl⟩
  clear HP
  go_wp2
  go_loopw [4, 5, 11] (fun p m i wr => ∃ k : Nat, k ≤ 3 ∧ i = .int .i64 k ∧ p = .int .i64 (pk l k).1 ∧ m = .int .i64 (pk l k).2 ∧ Below w1.heap.size w1 wr) (fun _ _ i _ => 3 - (intOf i).toNat)
  case atStart => exact ⟨0, by omega, rfl, rfl, rfl, Below.refl _ _⟩
  case round =>
    obtain ⟨k, hk, rfl, rfl, rfl, hb⟩ := hrel
    have hz := hb.size
    have hBr := hB1.trans (hb.mono hB1.size)
    by_cases hlt : k < 3
    · have Xr := X1.below hb
      obtain ⟨hxl, x0, x1, x2⟩ : w.heap.size < wr.heap.size ∧ wr.cell? ⟨w.heap.size, 0, none⟩ = some (.int .i64 nx) ∧ wr.cell? ⟨w.heap.size, 1, none⟩ = some (.int .i64 sq) ∧ wr.cell? ⟨w.heap.size, 2, none⟩ = some (.slice a l.length cap) := ⟨Xr.1, Xr.2.1 0 _ rfl, Xr.2.1 1 _ rfl, Xr.2.1 2 _ rfl⟩
      have KM := metasOn_any nx sq (k : Int) _ l wr (hv'.below hBr) hn
      have HX : Hid (pk l (k + 1) = if (pk l k).2 < cntD l k l.length - (2 + 2 * k) then ((k : Int), cntD l k l.length - (2 + 2 * k)) else pk l k) := rfl
      have hcl := cntD_le l k l.length
      have hp1 := (pk_ge l k).1
      have hp2 := pk_le l k
      have HK : (k : Int) ≤ 2 := by omega
      generalize cntD l k l.length = c at *
      generalize pk l k = P at *
      obtain ⟨P1, P2⟩ := P
      dsimp only at *
      clear Xr hBr
      go_wp2_with fail
      refine KM.mono ?_
      rintro e w2 ⟨rfl, hb2⟩
      have hB2 := hb.trans (hb2.mono hz)
      clear KM hb hb2 x0 x1 x2
      go_wp2_with fail
      refine (mayHaveOn_any k _ (by omega)).mono ?_
      rintro e w3 ⟨rfl, rfl⟩
      by_cases hgt : P2 < c - (2 + 2 * (k : Int))
      · have HX2 : Hid (pk l (k + 1) = ((k : Int), c - (2 + 2 * k))) := by show _ = _; rw [HX.out, if_pos hgt]
        clear HX
        go_wp2
        go_roundw
        case rel => exact ⟨k + 1, by omega, by go_num, by rw [HX2.out], by rw [HX2.out], hB2⟩
        case measure => simp [intOf]; omega
      · have HX2 : Hid (pk l (k + 1) = (P1, P2)) := by show _ = _; rw [HX.out, if_neg hgt]
        clear HX
        go_wp2
        go_roundw
        case rel => exact ⟨k + 1, by omega, by go_num, by rw [HX2.out], by rw [HX2.out], hB2⟩
        case measure => simp [intOf]; omega
    · obtain rfl : k = 3 := by omega
      clear hv'
      generalize pk l 3 = P at *
      obtain ⟨P1, P2⟩ := P
      dsimp only at *
      go_wp2
      exact bodyPost_ret (v := .tuple #[.int .i64 P1, .bool (decide (0 < P2))]) (by simp [results, Try.results23, go_sem]) rfl ⟨by rw [HT.out.1, HT.out.2], hBr⟩

set_option maxHeartbeats 2000000 in
theorem l9Pick_any (nx sq : Int) (v : Value) (l : List Mt) (w : World) (hv : IR w v l) (hn : l.length ≤ 1048576) :
    Calls Try.prog 68 #[.agg #[.int .i64 nx, .int .i64 sq, v]] w fun e w' => e = .returned (.tuple #[.int .i64 (pk l 3).1, .bool (decide (0 < (pk l 3).2))]) ∧ Below w.heap.size w w' := by
  have hB0 := below_alloc w (.cells #[.int .i64 nx, .int .i64 sq, v] 25)
  have X0 := Box.new w #[.int .i64 nx, .int .i64 sq, v] 25
  obtain ⟨a, cap, rfl, hc⟩ := hv
  obtain ⟨W0, hW0⟩ : ∃ W0, W0 = w.alloc (.cells #[.int .i64 nx, .int .i64 sq, .slice a l.length cap] 25) := ⟨_, rfl⟩
  rw [← hW0] at hB0 X0
  go_enter Try.func68, Try.ntmps68
  go_wp2
  rw [← hW0]
  clear hW0
  go_loopw [4, 5, 6] (fun p m i wr => ∃ k : Nat, k ≤ 3 ∧ i = .int .i64 k ∧ p = .int .i64 (pk l k).1 ∧ m = .int .i64 (pk l k).2 ∧ Below W0.heap.size W0 wr) (fun _ _ i _ => 3 - (intOf i).toNat)
  case atStart => exact ⟨0, by omega, rfl, rfl, rfl, Below.refl _ _⟩
  case round =>
    obtain ⟨k, hk, rfl, rfl, rfl, hb⟩ := hrel
    have hz := hb.size
    have hBr := hB0.trans (hb.mono hB0.size)
    by_cases hlt : k < 3
    · have Xr := X0.below hb
      obtain ⟨hxl, x0, x1, x2⟩ : w.heap.size < wr.heap.size ∧ wr.cell? ⟨w.heap.size, 0, none⟩ = some (.int .i64 nx) ∧ wr.cell? ⟨w.heap.size, 1, none⟩ = some (.int .i64 sq) ∧ wr.cell? ⟨w.heap.size, 2, none⟩ = some (.slice a l.length cap) := ⟨Xr.1, Xr.2.1 0 _ rfl, Xr.2.1 1 _ rfl, Xr.2.1 2 _ rfl⟩
      have HX : Hid (pk l (k + 1) = if (pk l k).2 < cntD l k l.length - (2 + 2 * k) then ((k : Int), cntD l k l.length - (2 + 2 * k)) else pk l k) := rfl
      have hcl := cntD_le l k l.length
      have hp1 := (pk_ge l k).1
      have hp2 := pk_le l k
      have HK : (k : Int) ≤ 2 := by omega
      generalize pk l k = P at *
      obtain ⟨P1, P2⟩ := P
      dsimp only at *
      clear Xr
      go_wp2
      clear x0 x1 x2
      go_loopw [7, 20] (fun t i w2 => ∃ j : Nat, j ≤ l.length ∧ i = .int .i64 j ∧ t = .int .i64 (cntD l k j - (2 + 2 * k)) ∧ Below W0.heap.size W0 w2) (fun _ i _ => l.length - (intOf i).toNat)
      case atStart => exact ⟨0, Nat.zero_le _, rfl, congrArg (Value.int .i64) (by simp only [cntD]; omega), hb⟩
      case round =>
        obtain ⟨j, hj, rfl, rfl, hbj⟩ := hrel
        have hzj := hbj.size
        have hBj := hB0.trans (hbj.mono hB0.size)
        by_cases hjl : j < l.length
        · obtain ⟨b, off, rfl, hbl, hcell⟩ := hc (by intro e; simp [e] at hjl)
          have hc0 := (hBj.cell (p := ⟨b, off + j * 4, none⟩) hbl).trans (hcell j hjl).1
          have hc1 := (hBj.cell (p := ⟨b, off + j * 4 + 1, none⟩) hbl).trans (hcell j hjl).2.1
          have hc2 := (hBj.cell (p := ⟨b, off + j * 4 + 2, none⟩) hbl).trans (hcell j hjl).2.2.1
          have hc3 := (hBj.cell (p := ⟨b, off + j * 4 + 3, none⟩) hbl).trans (hcell j hjl).2.2.2
          have hbl2 : b < wr.heap.size := by have := hB0.size; omega
          have HX : Hid (cntD l k (j + 1) = cntD l k j + if l[j].d = k then 1 else 0) := cntD_step l k j hjl
          have hcl := cntD_le l k j
          clear hcell hc
          generalize cntD l k j = t at *
          generalize l[j] = s at *
          obtain ⟨sn, sd, sk, sv⟩ := s
          dsimp only at *
          by_cases hd : sd = (k : Int)
          · have HX2 : Hid (cntD l k (j + 1) = t + 1) := by show _ = _; rw [HX.out, if_pos hd]
            clear HX
            go_wp2
            go_roundw
            case rel => exact ⟨j + 1, by omega, by go_num, by rw [HX2.out]; go_num, hbj.alloc hzj _⟩
            case measure => simp [intOf]; omega
          · have HX2 : Hid (cntD l k (j + 1) = t) := by show _ = _; rw [HX.out, if_neg hd]; omega
            clear HX
            go_wp2
            go_roundw
            case rel => exact ⟨j + 1, by omega, by go_num, by rw [HX2.out], hbj.alloc hzj _⟩
            case measure => simp [intOf]; omega
        · obtain rfl : j = l.length := by omega
          clear hc
          generalize cntD l k l.length = c at *
          by_cases hgt : P2 < c - (2 + 2 * (k : Int))
          · have HX2 : Hid (pk l (k + 1) = ((k : Int), c - (2 + 2 * k))) := by show _ = _; rw [HX.out, if_pos hgt]
            clear HX
            go_wp2
            go_roundw
            case rel => exact ⟨k + 1, by omega, by go_num, by rw [HX2.out], by rw [HX2.out], hbj⟩
            case measure => simp [intOf]; omega
          · have HX2 : Hid (pk l (k + 1) = (P1, P2)) := by show _ = _; rw [HX.out, if_neg hgt]
            clear HX
            go_wp2
            go_roundw
            case rel => exact ⟨k + 1, by omega, by go_num, by rw [HX2.out], by rw [HX2.out], hbj⟩
            case measure => simp [intOf]; omega
    · obtain rfl : k = 3 := by omega
      clear hc
      go_wp2
      exact bodyPost_ret (v := .tuple #[.int .i64 (pk l 3).1, .bool (decide (0 < (pk l 3).2))]) (by simp [results, Try.results68, go_sem]) rfl ⟨rfl, hBr⟩

set_option maxHeartbeats 2000000 in
theorem specPick_any (nx sq : Int) (v : Value) (l : List Mt) (w : World) (HV : IX w v l) (hn : l.length ≤ 1048576) (hs : ∀ i (h : i < l.length), l[i].k.size ≤ 1048576 ∧ l[i].v.size ≤ 1048576) :
    Calls Try.prog 24 #[.agg #[.int .i64 nx, .int .i64 sq, v]] w fun e w' => e = .returned (.tuple #[.int .i64 (pickV nx sq l), .bool (pickB nx sq l)]) ∧ Below w.heap.size w w' := by
  have hB0 := below_alloc w (.cells #[.int .i64 nx, .int .i64 sq, v] 25)
  have X0 := Box.new w #[.int .i64 nx, .int .i64 sq, v] 25
  have K := specGoodV_any nx sq v l _ (HV.below hB0) hn hs
  have HP : Hid (pickV nx sq l = (if goodV nx sq l then (pk l 3).1 else 0) ∧ pickB nx sq l = (goodV nx sq l && decide (0 < (pk l 3).2))) := ⟨rfl, rfl⟩
  have HQ := pk_ge l 3
  have KP := fun w h => l9Pick_any nx sq v l w h hn
  generalize goodV nx sq l = g at *
  generalize pickV nx sq l = PV at *
  generalize pickB nx sq l = PB at *
  generalize pk l 3 = P at *
  obtain ⟨P1, P2⟩ := P
  obtain ⟨hv, a', cap', hve, hcap⟩ := HV
  have hv' := hv
  obtain ⟨a, cap, rfl, hc⟩ := hv
  clear hs hc hve hcap
  dsimp only at *
  go_enter Try.func24, Try.ntmps24
  go_wp2_with fail
  refine K.mono ?_
  rintro e w1 ⟨rfl, hb1⟩
  have hB1 := below_then hB0 hb1
  have X1 := X0.below hb1
  clear K hB0 hb1 X0
  cases g
  · have HF : Hid (PV = 0 ∧ PB = false) := ⟨by rw [HP.out.1]; rfl, by rw [HP.out.2]; rfl⟩
    clear HP HQ
    go_wp2
    exact bodyPost_ret (v := .tuple #[.int .i64 0, .bool false]) (by simp [results, Try.results24, go_sem]) rfl ⟨by rw [HF.out.1, HF.out.2], hB1⟩
  have HT : Hid (PV = P1 ∧ PB = decide (0 < P2)) := ⟨by rw [HP.out.1]; rfl, by rw [HP.out.2]; rfl⟩
  obtain ⟨hxl, x0, x1, x2⟩ : w.heap.size < w1.heap.size ∧ w1.cell? ⟨w.heap.size, 0, none⟩ = some (.int .i64 nx) ∧ w1.cell? ⟨w.heap.size, 1, none⟩ = some (.int .i64 sq) ∧ w1.cell? ⟨w.heap.size, 2, none⟩ = some (.slice a l.length cap) := ⟨X1.1, X1.2.1 0 _ rfl, X1.2.1 1 _ rfl, X1.2.1 2 _ rfl⟩
  clear HP
  have KP2 := KP _ (hv'.below hB1)
  clear KP hv'
  go_wp2_with fail
  refine KP2.mono ?_
  rintro e w2 ⟨rfl, hb2⟩
  have hB2 := below_then hB1 hb2
  clear KP2 hb2 hB1 x0 x1 x2 X1
  cases h0 : decide (0 < P2) with
  | true =>
    have HT2 : Hid (PV = P1 ∧ PB = true) := ⟨HT.out.1, by rw [HT.out.2, h0]⟩
    clear HT HQ
    go_wp2
    exact bodyPost_ret (v := .tuple #[.int .i64 P1, .bool true]) (by simp [results, Try.results24, go_sem]) rfl ⟨by rw [HT2.out.1, HT2.out.2], hB2⟩
  | false =>
    have HT2 : Hid (PV = 0 ∧ PB = false) := ⟨by rw [HT.out.1]; exact HQ.2 (by have := of_decide_eq_false h0; omega), by rw [HT.out.2, h0]⟩
    clear HT HQ
    go_wp2
    exact bodyPost_ret (v := .tuple #[.int .i64 0, .bool false]) (by simp [results, Try.results24, go_sem]) rfl ⟨by rw [HT2.out.1, HT2.out.2], hB2⟩
end Go.Proofs.Ytenbdjlhcadhaaa
