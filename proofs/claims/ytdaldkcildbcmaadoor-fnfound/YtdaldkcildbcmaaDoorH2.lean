/-
  impl: linked, GoodSkip.
-/
import Derived.Test.YtdaldkcildbcmaaDoorH1
namespace Go.Proofs.YtdaldkcildbcmaaDoor
open Go.RowKit
set_option linter.unusedVariables false
set_option maxRecDepth 100000

theorem owns_shape {w : World} {base n : Nat} {e : TypeId} {v : Value} {xs : List Value} (h : w.ownsRow base e 1 v n xs) : ∃ a c, v = .slice a n c := by
  obtain ⟨hl, h⟩ := h
  rcases h with ⟨rfl, h0⟩ | ⟨g, cap, cur, rfl, _⟩
  · exact ⟨_, _, by rw [h0]⟩
  · exact ⟨_, _, rfl⟩
theorem tw_at (ts : List Tw) (i : Nat) (h : i < ts.length) : tw ts (i : Int) = ts[i] := by simp [tw, List.getD, h]
/-- On a level are just the towers that are so high. -/
def LinkAt (hs : List Int) (ts : List Tw) (lv : Nat) : Prop := ∃ l, lev ts lv (ts.length + 1) (-1) (hs.getD lv 0) = some l ∧ l.length = reach ts lv
def LinkI (hs : List Int) (ts : List Tw) : Prop := ∀ lv, lv < 5 → LinkAt hs ts lv

set_option maxHeartbeats 4000000 in
theorem linked_any (x y : Value) (hs : List Int) (ts : List Tw) (w : World) (hx : IL w x hs) (hy : TW w y ts) (h5 : hs.length = 5) (hn : ts.length ≤ 60) (hf : ∀ i : Nat, i < ts.length → (tw ts i).next.length ≤ 1048576) :
    Calls Tryd.prog 49 #[.agg #[x, y]] w fun e w' => (∃ b, e = .returned (.bool b) ∧ (b = true ↔ LinkI hs ts)) ∧ Below w.heap.size w w' := by
  obtain ⟨ax, cx, hxe, _⟩ := id hx
  rw [h5] at hxe
  subst hxe
  have KL := fun lv w hx hy hl => level_any (.slice ax 5 cx) y hs ts lv w hx hy h5 hl hn hf
  have KR := fun lv w hy hl => reaching_any (.slice ax 5 cx) y ts lv w hy (by omega) hl (fun i h => by have := hf i h; rwa [tw_at ts i h] at this)
  clear hf
  go_enter Tryd.func49, Tryd.ntmps49
  go_wp2
  go_loopw [9] (fun i wr => ∃ k : Nat, k ≤ 5 ∧ i = .int .i64 k ∧ (∀ lv, lv < k → LinkAt hs ts lv) ∧ Box wr w.heap.size [.slice ax 5 cx, y] ∧ Below w.heap.size w wr) (fun i _ => 5 - (intOf i).toNat)
  case atStart => exact ⟨0, by omega, rfl, fun lv h => by omega, Box.new w #[.slice ax 5 cx, y] 74, below_alloc _ _⟩
  case round =>
    obtain ⟨k, hk, rfl, hal, X, hb⟩ := hrel
    by_cases hlt : k < 5
    · obtain ⟨hxl, x0, x1⟩ := X.c2
      have HA : Hid (∀ lv, lv < k → LinkAt hs ts lv) := hal
      have hlti : (k : Int) < 5 := by omega
      clear hal
      go_wp2_with fail
      refine (KL k _ (hx.below hb) (hy.below hb) hlt).mono ?_
      rintro e w1 ⟨⟨v, b, rfl, hA⟩, hb1⟩
      have hB1 := below_then hb hb1
      have X1 := X.below hb1
      clear hb1 X x0 x1 hb
      obtain ⟨hxl, x0, x1⟩ := X1.c2
      rcases hA with ⟨ho, rfl, rfl⟩ | ⟨l, ho, rfl, hown⟩
      · have HN : Hid (¬ LinkAt hs ts k) := by rintro ⟨l, hl, _⟩; rw [ho] at hl; cases hl
        clear ho
        go_wp2
        go_ret
        exact ⟨⟨false, rfl, by simp; exact fun h => HN.out (h k hlt)⟩, hB1⟩
      · obtain ⟨va, vc, rfl⟩ := owns_shape hown
        have HO : Hid (lev ts k (ts.length + 1) (-1) (hs.getD k 0) = some l) := ho
        have hl60 : l.length ≤ 1048576 := by
          obtain ⟨_, f2, f3, _⟩ := lev_facts _ _ _ _ _ _ ho
          have := rising_short f3 (fun z hz => (f2 z hz).1)
          omega
        clear ho hown
        go_wp2_with fail
        refine (KR k _ (hy.below hB1) (by omega)).mono ?_
        rintro e w2 ⟨rfl, hb2⟩
        have hB2 := below_then hB1 hb2
        have X2 := X1.below hb2
        clear hb2 X1 x0 x1 hB1
        have hrl := reach_le ts k
        by_cases hE : l.length = reach ts k
        · have HL : Hid (LinkAt hs ts k) := ⟨l, HO.out, hE⟩
          have hEi : (l.length : Int) = (reach ts k : Int) := by omega
          clear HO hE
          generalize reach ts k = R at *
          go_wp2
          go_roundw
          case rel =>
            refine ⟨k + 1, by omega, by go_num, fun lv h => ?_, X2, hB2⟩
            by_cases e : lv < k
            · exact HA.out lv e
            · obtain rfl : lv = k := by omega
              exact HL.out
          case measure => simp [intOf]; omega
        · have HN : Hid (¬ LinkAt hs ts k) := by
            rintro ⟨l', hl', h⟩
            rw [HO.out] at hl'
            cases hl'
            exact hE h
          have hEi : ¬ (l.length : Int) = (reach ts k : Int) := by omega
          clear HO hE
          generalize reach ts k = R at *
          go_wp2
          go_ret
          exact ⟨⟨false, rfl, by simp; exact fun h => HN.out (h k hlt)⟩, hB2⟩
    · obtain rfl : k = 5 := by omega
      have HA : Hid (∀ lv, lv < 5 → LinkAt hs ts lv) := hal
      clear hal
      go_wp2
      go_ret
      exact ⟨⟨true, rfl, by simp; exact HA.out⟩, hb⟩

theorem goodI_iff (hs : List Int) (ts : List Tw) : GoodI hs ts ↔ hs.length = 5 ∧ ts.length ≤ 60 ∧ (∀ i : Nat, i < ts.length → okTw (tw ts i) = true) ∧ LinkI hs ts := by
  unfold GoodI LinkI LinkAt
  refine ⟨fun ⟨a, b, c, d⟩ => ⟨a, b, fun i hi => c _ (tw_mem hi), d⟩, fun ⟨a, b, c, d⟩ => ⟨a, b, fun t ht => ?_, d⟩⟩
  obtain ⟨i, hi, rfl⟩ := List.getElem_of_mem ht
  have := c i hi
  rwa [tw_at ts i hi] at this

set_option maxHeartbeats 4000000 in
theorem implGoodSkip_any (x y : Value) (hs : List Int) (ts : List Tw) (w : World) (hx : IL w x hs) (hy : TW w y ts) (hn : hs.length ≤ 1048576) (hm : ts.length ≤ 1048576) (ht : Tabs w)
    (hf : ∀ i : Nat, i < ts.length → (tw ts i).next.length ≤ 1048576 ∧ (tw ts i).key.size ≤ 1048576 ∧ (tw ts i).val.size ≤ 1048576) :
    Calls Tryd.prog 15 #[.agg #[x, y]] w fun e w' => (∃ b, e = .returned (.bool b) ∧ (b = true ↔ GoodI hs ts)) ∧ Below w.heap.size w w' := by
  rw [goodI_iff]
  obtain ⟨ax, cx, hxe, _⟩ := id hx
  subst hxe
  obtain ⟨ay, cy, hye, _⟩ := id hy
  subst hye
  by_cases h5 : hs.length = 5
  · by_cases h60 : ts.length ≤ 60
    · have KL := fun w hx hy => linked_any (.slice ax 5 cx) (.slice ay ts.length cy) hs ts w hx hy h5 h60 (fun i h => (hf i h).1)
      rw [h5] at hx ⊢
      have h60' : ¬ (60 : Int) < ts.length := by omega
      go_enter Tryd.func15, Tryd.ntmps15
      go_wp2
      go_loopw [20] (fun i wr => ∃ k : Nat, k ≤ ts.length ∧ i = .int .i64 k ∧ (∀ j : Nat, j < k → okTw (tw ts j) = true) ∧ Box wr w.heap.size [.slice ax 5 cx, .slice ay ts.length cy] ∧ Below w.heap.size w wr) (fun i _ => ts.length - (intOf i).toNat)
      case atStart => exact ⟨0, by omega, rfl, fun lv h => by omega, Box.new w #[.slice ax 5 cx, .slice ay ts.length cy] 26, below_alloc _ _⟩
      case round =>
        obtain ⟨k, hk, rfl, hal, X, hb⟩ := hrel
        have HA : Hid (∀ j : Nat, j < k → okTw (tw ts j) = true) := hal
        clear hal
        by_cases hlt : k < ts.length
        · obtain ⟨b, off, cap, u, hv, hbl, ⟨z0, z1, z2, z3, z4⟩, hu⟩ := (hy.below hb).cells k hlt
          simp only [Value.slice.injEq, true_and] at hv
          obtain ⟨rfl, rfl⟩ := hv
          obtain ⟨f1, f2, f3⟩ := hf k hlt
          have HK : Hid (okTw (tw ts (k : Int)) = (okItem (tw ts (k : Int)).key (tw ts (k : Int)).seq (tw ts (k : Int)).kind (tw ts (k : Int)).val && ((tw ts (k : Int)).next.length : Int) == toN (tw ts (k : Int)).key (tw ts (k : Int)).seq)) := rfl
          clear hf
          have HW : Hid (okTw (tw ts (k : Int)) = false → ¬ ∀ i : Nat, i < ts.length → okTw (tw ts i) = true) := fun h h' => by rw [h' k hlt] at h; cases h
          have HS : Hid (okTw (tw ts (k : Int)) = true → ∀ j : Nat, j < k + 1 → okTw (tw ts j) = true) := fun h j hj => by
            by_cases e : j < k
            · exact HA.out j e
            · obtain rfl : j = k := by omega
              exact h
          generalize okTw (tw ts (k : Int)) = O at *
          generalize tw ts (k : Int) = s at *
          obtain ⟨sk, sn, sd, sv, sx⟩ := s
          dsimp only at z0 z1 z2 z3 hu HK f1 f2 f3
          obtain ⟨a', cap', rfl, hcu⟩ := hu
          clear hcu
          have KT := fun w h => implTower_any sk sn w f2 h
          have KG := fun w => implGood_any sk sv sn sd w f2 f3
          generalize toN sk sn = N at *
          generalize okItem sk sn sd sv = G at *
          have hz := hb.size
          go_wp2_with fail
          refine (KT _ (ht.below (hb.alloc hz _))).mono ?_
          rintro e w1 ⟨rfl, hb1⟩
          have hB1 := below_then (hb.alloc hz _) hb1
          have T1 := (Box.new wr #[.string sk, .int .i64 sn, .int .i64 sd, .string sv, .slice a' sx.length cap'] 73).below hb1
          have X1 := (X.alloc (.cells #[.string sk, .int .i64 sn, .int .i64 sd, .string sv, .slice a' sx.length cap'] 73)).below hb1
          clear hb1 X KT z0 z1 z2 z3 z4
          obtain ⟨_, t0, t1, t2, t3, t4⟩ := T1.c5
          go_wp2_with fail
          refine (KG _).mono ?_
          rintro e w2 ⟨rfl, hb2⟩
          have hB2 := below_then hB1 hb2
          have T2 := T1.below hb2
          have X2 := X1.below hb2
          clear hb2 X1 T1 t0 t1 t2 t3 t4 KG hB1
          obtain ⟨_, t0, t1, t2, t3, t4⟩ := T2.c5
          cases G with
          | false =>
            have HN : Hid (¬ ∀ i : Nat, i < ts.length → okTw (tw ts i) = true) := HW.out (by rw [HK.out]; rfl)
            clear HK HW HS
            go_wp2
            go_ret
            exact ⟨⟨false, rfl, by simp only [Bool.false_eq_true, false_iff]; exact fun h => HN.out h.2.2.1⟩, hB2⟩
          | true =>
            by_cases hE : (sx.length : Int) = N
            · have HO : Hid (∀ j : Nat, j < k + 1 → okTw (tw ts j) = true) := HS.out (by rw [HK.out, hE]; simp)
              clear HK HW HS
              go_wp2
              go_roundw
              case rel => exact ⟨k + 1, by omega, by go_num, HO.out, X2, hB2⟩
              case measure => simp [intOf]; omega
            · have HN : Hid (¬ ∀ i : Nat, i < ts.length → okTw (tw ts i) = true) := HW.out (by rw [HK.out]; simp [hE])
              clear HK HW HS
              go_wp2
              go_ret
              exact ⟨⟨false, rfl, by simp only [Bool.false_eq_true, false_iff]; exact fun h => HN.out h.2.2.1⟩, hB2⟩
        · obtain rfl : k = ts.length := by omega
          clear hf
          obtain ⟨hxl, x0, x1⟩ := X.c2
          go_wp2_with fail
          refine (KL _ (h5 ▸ hx.below hb) (hy.below hb)).mono ?_
          rintro e w1 ⟨⟨v, rfl, hv⟩, hb1⟩
          have hB1 := below_then hb hb1
          clear hb1 x0 x1
          go_wp2
          go_ret
          exact ⟨⟨v, rfl, hv.trans ⟨fun h => ⟨by simp, h60, HA.out, h⟩, fun h => h.2.2.2⟩⟩, hB1⟩
    · have h60' : (60 : Int) < ts.length := by omega
      rw [h5]
      clear hf
      go_enter Tryd.func15, Tryd.ntmps15
      go_wp2
      go_ret
      exact ⟨⟨false, rfl, by simp; omega⟩, below_alloc _ _⟩
  · have h5' : ¬ (hs.length : Int) = 5 := by omega
    clear hf
    go_enter Tryd.func15, Tryd.ntmps15
    go_wp2
    go_ret
    exact ⟨⟨false, rfl, by simp [h5]⟩, below_alloc _ _⟩
end Go.Proofs.YtdaldkcildbcmaaDoor
