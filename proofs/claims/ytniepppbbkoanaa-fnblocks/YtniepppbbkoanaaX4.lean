/-
  Drawn runs: the cursor's run and block.
-/
import Derived.Test.YtniepppbbkoanaaX3
namespace Go.Proofs.Ytniepppbbkoanaa
open Go.RowKit
set_option linter.unusedVariables false
set_option maxRecDepth 100000

/-- A drawn run: a row of its own, nil where there is none. -/
def Drawn (w : World) (base : Nat) (v : Value) (L : List It) : Prop := w.ownsRow base 35 4 v L.length (flat4 L) ∧ (L = [] → v = .slice none 0 0) ∧ small L
theorem Drawn.chg {w w' : World} {base b : Nat} {v : Value} {L : List It} (h : Drawn w base v L) (hc : Chg (· = b) w w') (hb : b < base) : Drawn w' base v L :=
  ⟨hc.owns h.1 (fun g hg e => by have := owns_ge h.1 g hg; omega), h.2.1, h.2.2⟩
theorem Drawn.below {w w' : World} {base : Nat} {v : Value} {L : List It} (h : Drawn w base v L) (hb : Below w.heap.size w w') : Drawn w' base v L := ⟨owns_below h.1 hb, h.2.1, h.2.2⟩
theorem small_big {L : List It} (h : small L) : ∀ i (hi : i < L.length), L[i].k.size ≤ 1048576 ∧ L[i].v.size ≤ 1048576 := fun i hi => by have := h i hi; omega
def RunPost (b : Nat) (l : List UInt8) (K m : Nat) (w : World) (e : Ending) (w' : World) : Prop := ∃ v L, e = .returned v ∧ Drawn w' w.heap.size v L ∧ L.length ≤ m ∧ Cur w' b l K ∧ Chg (· = b) w w'
theorem RunPost.mk {b : Nat} {l : List UInt8} {K m : Nat} {w w' : World} {v : Value} {L : List It} (h1 : Drawn w' w.heap.size v L) (h2 : L.length ≤ m) (h3 : Cur w' b l K) (h4 : Chg (· = b) w w') : RunPost b l K m w (.returned v) w' := ⟨v, L, rfl, h1, h2, h3, h4⟩

set_option maxHeartbeats 4000000 in
theorem run_any (b : Nat) (l : List UInt8) (K n : Nat) (w : World) (h : Cur w b l K) (hl : l.length ≤ 9223372036854775807) (hK : K ≤ 100000) (hn : n ≤ 70) :
    Calls Try.prog 76 #[.pointer (some ⟨b, 0, none⟩), .int .i64 n] w fun e w' => RunPost b l (K + 40 * n) n w e w' := by
  have hbw := h.lt
  go_enter Try.func76, Try.ntmps76
  go_wp2
  go_loopw [1, 5] (fun i v wr => ∃ (j : Nat) (L : List It), j ≤ n ∧ i = .int .i64 ((n - j : Nat) : Int) ∧ Drawn wr w.heap.size v L ∧ L.length ≤ j ∧ Cur wr b l (K + 40 * j) ∧ Chg (· = b) w wr) (fun i _ _ => (intOf i).toNat)
  case atStart => exact ⟨0, [], by omega, by simp, ⟨World.ownsRow_nil _ _ _ _, fun _ => rfl, fun i hi => by simp at hi⟩, by simp, by simpa using h, Chg.refl _ _⟩
  case round =>
    clear h
    obtain ⟨j, L, hj, rfl, hD, hLj, C, G⟩ := hrel
    obtain ⟨m, hm⟩ : ∃ m, m = n - j := ⟨_, rfl⟩
    rw [← hm]
    have hz := G.size
    by_cases hm0 : 0 < m
    · have hm1 : (0 : Int) < (m : Int) := by omega
      go_wp2_with fail
      refine (item_any b l (K + 40 * j) _ C hl (by omega)).mono ?_
      rintro e w1 ⟨⟨x, rfl, hx1, hx2⟩, C1, G1⟩
      replace hD := hD.chg G1 hbw
      replace G := G.trans G1
      have hz1 := G1.size
      obtain ⟨xk, xn, xd, xv⟩ := x
      dsimp only at hx1 hx2
      have X := Box.new w1 #[.string xk, .int .i64 xn, .int .i64 xd, .string xv] 35
      have b1 := below_alloc w1 (.cells #[.string xk, .int .i64 xn, .int .i64 xd, .string xv] 35)
      replace hD := hD.below b1
      have C2 := C1.chg b1
      replace G := G.trans (Chg.of_below (S := (· = b)) b1)
      have KG := fun w => specGood_any xk xv xn xd w (by omega) (by omega)
      clear C C1 G1
      obtain ⟨W2, hW2⟩ : ∃ W2, W2 = w1.alloc (.cells #[.string xk, .int .i64 xn, .int .i64 xd, .string xv] 35) := ⟨_, rfl⟩
      rw [← hW2] at X hD C2 G b1
      have hz2 : w.heap.size ≤ W2.heap.size := by have := b1.size; omega
      cases hok : okItem xk xn xd xv with
      | false =>
        rw [hok] at KG
        go_wp2_with fail
        rw [← hW2]; clear hW2 b1 hz1 hok
        refine (KG _).mono ?_
        rintro e w3 ⟨rfl, hb3⟩
        replace hD := hD.below hb3
        have C3 := C2.chg hb3
        replace G := G.trans (Chg.of_below (S := (· = b)) hb3)
        clear KG X C2
        go_wp2
        go_roundw
        case rel => exact ⟨j + 1, L, by omega, by rw [show n - (j + 1) = m - 1 from by omega]; go_num, hD, by omega, C3.mono (by omega), G⟩
        case measure => simp [intOf]; omega
      | true =>
        rw [hok] at KG
        go_wp2_with fail
        rw [← hW2]; clear hW2 b1 hz1 hok
        refine (KG _).mono ?_
        rintro e w3 ⟨rfl, hb3⟩
        replace hD := hD.below hb3
        have C3 := C2.chg hb3
        replace X := X.below hb3
        replace G := G.trans (Chg.of_below (S := (· = b)) hb3)
        have hz3 : w.heap.size ≤ w3.heap.size := by have := hb3.size; omega
        obtain ⟨_, x0, x1, x2, x3⟩ := X.c4
        clear KG C2 hb3
        have KP : Calls Try.prog 89 #[u5, .agg #[.string xk, .int .i64 xn, .int .i64 xd, .string xv]] w3 fun e w' => PutPost L w3 w.heap.size e w' := by
          by_cases hL : L = []
          · subst hL
            rw [hD.2.1 rfl]
            exact l6Put_nil ⟨xk, xn, xd, xv⟩ w3 w.heap.size hz3 ⟨hx1, hx2⟩
          · rcases hD.1.2 with ⟨_, h0⟩ | ⟨g, cap, cur, hv, _⟩
            · exact absurd (List.length_eq_zero_iff.1 h0) hL
            · have h1 := hD.1
              rw [hv] at h1 ⊢
              exact l6Put_some ⟨xk, xn, xd, xv⟩ L g cap w3 w.heap.size hz3 ⟨hx1, hx2⟩ hL (by omega) hD.2.2 h1
        clear hD
        go_wp2_with fail
        refine KP.mono ?_
        rintro e w4 ⟨v', L', rfl, o4, hne4, hlen4, hs4, hb4⟩
        have C4 := C3.chg hb4
        replace G := G.trans (Chg.of_below (S := (· = b)) hb4)
        clear KP C3 hb4 x0 x1 x2 x3 X
        go_wp2
        go_roundw
        case rel => exact ⟨j + 1, L', by omega, by rw [show n - (j + 1) = m - 1 from by omega]; go_num, ⟨o4, fun e => absurd e hne4, hs4⟩, by omega, C4.mono (by omega), G⟩
        case measure => simp [intOf]; omega
    · obtain rfl : j = n := by omega
      have hm1 : ¬ (0 : Int) < (m : Int) := by omega
      clear hm
      go_wp2
      go_ret
      exact RunPost.mk hD hLj C G

theorem owned_shape {w : World} {base n : Nat} {v : Value} {xs : List Value} (h : w.ownsRow base 35 4 v n xs) : ∃ a c, v = .slice a n c := by
  rcases h.2 with ⟨rfl, h0⟩ | ⟨g, cap, cur, hv, _⟩
  · exact ⟨none, 0, by rw [h0]⟩
  · exact ⟨_, _, hv⟩
set_option maxHeartbeats 4000000 in
theorem block_any (b : Nat) (l : List UInt8) (K : Nat) (w : World) (h : Cur w b l K) (hl : l.length ≤ 9223372036854775807) (hK : K ≤ 10000) :
    Calls Try.prog 48 #[.pointer (some ⟨b, 0, none⟩)] w fun e w' => RunPost b l (K + 3000) 70 w e w' := by
  have hbw := h.lt
  go_enter Try.func48, Try.ntmps48
  go_wp2_with fail
  refine (pick_any b l K 10 _ h hl (by omega) (by omega)).mono ?_
  rintro e w1 ⟨⟨x, rfl, hx⟩, C1, G1⟩
  clear h
  go_wp2_with fail
  refine (one_any b l (K + 2) 12 _ C1 hl (by omega) (by omega)).mono ?_
  rintro e w2 ⟨⟨y, rfl⟩, C2, G2⟩
  have G := G1.trans G2
  have hz := G.size
  clear C1 G1 G2
  obtain ⟨nn, hnn, hn70⟩ : ∃ nn : Nat, nn = (if y then 70 else x) ∧ nn ≤ 70 := ⟨_, rfl, by split <;> omega⟩
  have KR := run_any b l (K + 4) nn w2 C2 hl (by omega) hn70
  have HREST : ∀ (v : Value) (w3 : World), RunPost b l (K + 4 + 40 * nn) nn w2 (.returned v) w3 → ∃ L : List It, Drawn w3 w.heap.size v L ∧ L.length ≤ 70 ∧ Cur w3 b l (K + 2900) ∧ Chg (· = b) w w3 := by
    rintro v w3 ⟨v', L, he, hD, hle, C3, G3⟩
    cases he
    exact ⟨L, ⟨owns_mono hD.1 hz, hD.2.1, hD.2.2⟩, by omega, C3.mono (by omega), G.trans G3⟩
  have HS : ∀ e w3, RunPost b l (K + 4 + 40 * nn) nn w2 e w3 → ∃ v, e = .returned v := by rintro e w3 ⟨v', L, he, _⟩; exact ⟨v', he⟩
  clear hx
  cases y with
  | true =>
    obtain rfl : nn = 70 := hnn
    clear hn70
    rw [show ((70 : Nat) : Int) = 70 from rfl] at KR
    go_wp2_with fail
    refine KR.mono ?_
    intro e w3 hR
    obtain ⟨v, rfl⟩ := HS _ _ hR
    obtain ⟨L, hD, hle, C3, G3⟩ := HREST _ _ hR
    clear KR HREST HS hR C2 G
    obtain ⟨a, c, rfl⟩ := owned_shape hD.1
    have hz3 := G3.size
    by_cases hL1 : 1 < L.length
    · have hL1i : (1 : Int) < (L.length : Int) := by omega
      go_wp2_with fail
      refine (one_any b l (K + 2900) 30 _ C3 hl (by omega) (by omega)).mono ?_
      rintro e w4 ⟨⟨z, rfl⟩, C4, G4⟩
      replace hD := hD.chg G4 hbw
      have G5 := G3.trans G4
      have hz4 := G5.size
      clear C3 G3 G4
      cases z with
      | false =>
        go_wp2
        go_ret
        exact RunPost.mk hD hle (C4.mono (by omega)) G5
      | true =>
        obtain ⟨g, rfl⟩ : ∃ g, a = some ⟨g, 0, none⟩ := by
          rcases hD.1.2 with ⟨h, h0⟩ | ⟨g, cap, cur, hv, _⟩
          · omega
          · simp only [Value.slice.injEq] at hv; exact ⟨g, hv.1⟩
        have hg := owns_ge hD.1 g rfl
        have o4 := hD.1
        obtain ⟨a', c', hv', hc⟩ := IR_of_owns o4 rfl
        simp only [Value.slice.injEq, true_and] at hv'
        obtain ⟨rfl, rfl⟩ := hv'
        obtain ⟨b', off, hb', hbl, hcell⟩ := hc (by intro e; simp [e] at hL1)
        simp only [Option.some.injEq, Addr.mk.injEq, and_true] at hb'
        obtain ⟨rfl, rfl⟩ := hb'
        obtain ⟨c0, c1, c2, c3⟩ := hcell 1 hL1
        simp only [Nat.one_mul, Nat.zero_add] at c0 c1 c2 c3
        obtain ⟨⟨v0, d0⟩, f0⟩ := owns4_at o4 0 (by omega) 0 (by omega)
        obtain ⟨⟨v1, d1⟩, f1⟩ := owns4_at o4 0 (by omega) 1 (by omega)
        obtain ⟨⟨v2, d2⟩, f2⟩ := owns4_at o4 0 (by omega) 2 (by omega)
        obtain ⟨⟨v3, d3⟩, f3⟩ := owns4_at o4 0 (by omega) 3 (by omega)
        simp only [Nat.zero_mul, Nat.zero_add] at d0 f0 d1 f1 d2 f2 d3 f3
        have hsm : small (L.set 0 L[1]) := small_of (fun y hy => by
          rcases List.mem_or_eq_of_mem_set hy with h | h
          · exact small_mem hD.2.2 y h
          · rw [h]; exact hD.2.2 1 hL1)
        have HFS := flat4_set L 0 L[1]
        have hln : (L.set 0 L[1]).length = L.length := List.length_set
        obtain ⟨s, hse⟩ : ∃ s, s = L[1] := ⟨_, rfl⟩
        rw [← hse] at c0 c1 c2 c3 hsm HFS hln
        obtain ⟨sk, sn, sd, sv⟩ := s
        dsimp only at c0 c1 c2 c3 HFS
        have HO : Hid (((((w4.setCell ⟨g, 0, none⟩ (.string sk)).setCell ⟨g, 1, none⟩ (.int .i64 sn)).setCell ⟨g, 2, none⟩ (.int .i64 sd)).setCell ⟨g, 3, none⟩ (.string sv)).ownsRow w.heap.size 35 4 (.slice (some ⟨g, 0, none⟩) L.length c) L.length (((((flat4 L).set 0 (.string sk)).set 1 (.int .i64 sn)).set 2 (.int .i64 sd)).set 3 (.string sv))) := ((((o4.stored 0 (.string sk)).1.stored 1 (.int .i64 sn)).1.stored 2 (.int .i64 sd)).1.stored 3 (.string sv)).1
        have HC : Hid (Cur ((((w4.setCell ⟨g, 0, none⟩ (.string sk)).setCell ⟨g, 1, none⟩ (.int .i64 sn)).setCell ⟨g, 2, none⟩ (.int .i64 sd)).setCell ⟨g, 3, none⟩ (.string sv)) b l (K + 3000)) := cur_put4 (C4.mono (by omega)) (by omega) _ _ _ _
        have HG : Hid (Chg (· = b) w ((((w4.setCell ⟨g, 0, none⟩ (.string sk)).setCell ⟨g, 1, none⟩ (.int .i64 sn)).setCell ⟨g, 2, none⟩ (.int .i64 sd)).setCell ⟨g, 3, none⟩ (.string sv))) := chg_put4 G5 hg _ _ _ _
        have HFS2 : Hid (((((flat4 L).set 0 (.string sk)).set 1 (.int .i64 sn)).set 2 (.int .i64 sd)).set 3 (.string sv) = flat4 (L.set 0 ⟨sk, sn, sd, sv⟩)) := HFS
        have hgw := (owns_lt o4).2
        have hl0 : 0 < L.length := by omega
        have hl0i : (0 : Int) < (L.length : Int) := by omega
        clear HFS hse hc hcell C4 G5 o4 hD
        go_wp2
        go_ret
        exact RunPost.mk (L := L.set 0 ⟨sk, sn, sd, sv⟩) ⟨by rw [hln, ← HFS2.out]; exact HO.out, fun e => by have h9 := congrArg List.length e; rw [hln, List.length_nil] at h9; omega, hsm⟩ (by rw [hln]; exact hle) HC.out HG.out
    · have hL1i : ¬ (1 : Int) < (L.length : Int) := by omega
      go_wp2
      go_ret
      exact RunPost.mk hD hle (C3.mono (by omega)) G3
  | false =>
    obtain rfl : nn = x := hnn
    clear hn70
    go_wp2_with fail
    refine KR.mono ?_
    intro e w3 hR
    obtain ⟨v, rfl⟩ := HS _ _ hR
    obtain ⟨L, hD, hle, C3, G3⟩ := HREST _ _ hR
    clear KR HREST HS hR C2 G
    obtain ⟨a, c, rfl⟩ := owned_shape hD.1
    have hz3 := G3.size
    by_cases hL1 : 1 < L.length
    · have hL1i : (1 : Int) < (L.length : Int) := by omega
      go_wp2_with fail
      refine (one_any b l (K + 2900) 30 _ C3 hl (by omega) (by omega)).mono ?_
      rintro e w4 ⟨⟨z, rfl⟩, C4, G4⟩
      replace hD := hD.chg G4 hbw
      have G5 := G3.trans G4
      have hz4 := G5.size
      clear C3 G3 G4
      cases z with
      | false =>
        go_wp2
        go_ret
        exact RunPost.mk hD hle (C4.mono (by omega)) G5
      | true =>
        obtain ⟨g, rfl⟩ : ∃ g, a = some ⟨g, 0, none⟩ := by
          rcases hD.1.2 with ⟨h, h0⟩ | ⟨g, cap, cur, hv, _⟩
          · omega
          · simp only [Value.slice.injEq] at hv; exact ⟨g, hv.1⟩
        have hg := owns_ge hD.1 g rfl
        have o4 := hD.1
        obtain ⟨a', c', hv', hc⟩ := IR_of_owns o4 rfl
        simp only [Value.slice.injEq, true_and] at hv'
        obtain ⟨rfl, rfl⟩ := hv'
        obtain ⟨b', off, hb', hbl, hcell⟩ := hc (by intro e; simp [e] at hL1)
        simp only [Option.some.injEq, Addr.mk.injEq, and_true] at hb'
        obtain ⟨rfl, rfl⟩ := hb'
        obtain ⟨c0, c1, c2, c3⟩ := hcell 1 hL1
        simp only [Nat.one_mul, Nat.zero_add] at c0 c1 c2 c3
        obtain ⟨⟨v0, d0⟩, f0⟩ := owns4_at o4 0 (by omega) 0 (by omega)
        obtain ⟨⟨v1, d1⟩, f1⟩ := owns4_at o4 0 (by omega) 1 (by omega)
        obtain ⟨⟨v2, d2⟩, f2⟩ := owns4_at o4 0 (by omega) 2 (by omega)
        obtain ⟨⟨v3, d3⟩, f3⟩ := owns4_at o4 0 (by omega) 3 (by omega)
        simp only [Nat.zero_mul, Nat.zero_add] at d0 f0 d1 f1 d2 f2 d3 f3
        have hsm : small (L.set 0 L[1]) := small_of (fun y hy => by
          rcases List.mem_or_eq_of_mem_set hy with h | h
          · exact small_mem hD.2.2 y h
          · rw [h]; exact hD.2.2 1 hL1)
        have HFS := flat4_set L 0 L[1]
        have hln : (L.set 0 L[1]).length = L.length := List.length_set
        obtain ⟨s, hse⟩ : ∃ s, s = L[1] := ⟨_, rfl⟩
        rw [← hse] at c0 c1 c2 c3 hsm HFS hln
        obtain ⟨sk, sn, sd, sv⟩ := s
        dsimp only at c0 c1 c2 c3 HFS
        have HO : Hid (((((w4.setCell ⟨g, 0, none⟩ (.string sk)).setCell ⟨g, 1, none⟩ (.int .i64 sn)).setCell ⟨g, 2, none⟩ (.int .i64 sd)).setCell ⟨g, 3, none⟩ (.string sv)).ownsRow w.heap.size 35 4 (.slice (some ⟨g, 0, none⟩) L.length c) L.length (((((flat4 L).set 0 (.string sk)).set 1 (.int .i64 sn)).set 2 (.int .i64 sd)).set 3 (.string sv))) := ((((o4.stored 0 (.string sk)).1.stored 1 (.int .i64 sn)).1.stored 2 (.int .i64 sd)).1.stored 3 (.string sv)).1
        have HC : Hid (Cur ((((w4.setCell ⟨g, 0, none⟩ (.string sk)).setCell ⟨g, 1, none⟩ (.int .i64 sn)).setCell ⟨g, 2, none⟩ (.int .i64 sd)).setCell ⟨g, 3, none⟩ (.string sv)) b l (K + 3000)) := cur_put4 (C4.mono (by omega)) (by omega) _ _ _ _
        have HG : Hid (Chg (· = b) w ((((w4.setCell ⟨g, 0, none⟩ (.string sk)).setCell ⟨g, 1, none⟩ (.int .i64 sn)).setCell ⟨g, 2, none⟩ (.int .i64 sd)).setCell ⟨g, 3, none⟩ (.string sv))) := chg_put4 G5 hg _ _ _ _
        have HFS2 : Hid (((((flat4 L).set 0 (.string sk)).set 1 (.int .i64 sn)).set 2 (.int .i64 sd)).set 3 (.string sv) = flat4 (L.set 0 ⟨sk, sn, sd, sv⟩)) := HFS
        have hgw := (owns_lt o4).2
        have hl0 : 0 < L.length := by omega
        have hl0i : (0 : Int) < (L.length : Int) := by omega
        clear HFS hse hc hcell C4 G5 o4 hD
        go_wp2
        go_ret
        exact RunPost.mk (L := L.set 0 ⟨sk, sn, sd, sv⟩) ⟨by rw [hln, ← HFS2.out]; exact HO.out, fun e => by have h9 := congrArg List.length e; rw [hln, List.length_nil] at h9; omega, hsm⟩ (by rw [hln]; exact hle) HC.out HG.out
    · have hL1i : ¬ (1 : Int) < (L.length : Int) := by omega
      go_wp2
      go_ret
      exact RunPost.mk hD hle (C3.mono (by omega)) G3

set_option maxHeartbeats 1000000 in
theorem drawSeek_any (v : Value) (l : List UInt8) (w : World) (hv : YL w v l) (hl : l.length ≤ maxLen) :
    Calls Try.prog 19 #[v] w fun e w' => ∃ (u : Value) (L : List It) (key : ByteArray) (q : Nat), e = .returned (.tuple #[u, .string key, .int .i64 q]) ∧ IR w' u L ∧ L.length ≤ 70 ∧ small L ∧ key.size ≤ 17 ∧ q ≤ 24 ∧ Below w.heap.size w w' := by
  unfold maxLen at hl
  have hc0 := cur_new hv
  have hv0 := hv
  obtain ⟨av, cv, rfl, _⟩ := hv0
  have hb0 := below_alloc w (.cells #[.slice av l.length cv, .int .i64 0, .int .u64 0] 72)
  have hz : w.heap.size < (w.alloc (.cells #[.slice av l.length cv, .int .i64 0, .int .u64 0] 72)).heap.size := by simp
  clear hv
  go_enter Try.func19, Try.ntmps19
  go_wp2_with fail
  refine (block_any w.heap.size l 0 _ hc0 (by omega) (by omega)).mono ?_
  rintro e w1 ⟨u, L, rfl, hD, hle, C1, G1⟩
  clear hc0
  go_wp2_with fail
  refine (key_any w.heap.size l (0 + 3000) _ C1 (by omega) (by omega)).mono ?_
  rintro e w2 ⟨⟨key, rfl, hk⟩, C2, G2⟩
  replace hD := hD.chg G2 hz
  clear C1
  go_wp2_with fail
  refine (pick_any w.heap.size l (0 + 3000 + 4) 24 _ C2 (by omega) (by omega) (by omega)).mono ?_
  rintro e w3 ⟨⟨q, rfl, hq⟩, C3, G3⟩
  replace hD := hD.chg G3 hz
  have hq24 : q ≤ 24 := by omega
  have hB3 := below_cur hb0 ((G1.trans G2).trans G3)
  have hir := IR_of_owns hD.1 rfl
  clear C2 C3 G1 G2 G3 hq
  go_wp2
  refine bodyPost_ret (v := .tuple #[u, .string key, .int .i64 (q : Int)]) ?_ rfl ⟨u, L, key, q, rfl, hir, hle, hD.2.2, hk, hq24, hB3⟩
  simp [results, Try.results19, go_sem]

set_option maxHeartbeats 1000000 in
theorem drawCommon_any (v : Value) (l : List UInt8) (w : World) (hv : YL w v l) (hl : l.length ≤ maxLen) :
    Calls Try.prog 23 #[v] w fun e w' => ∃ (a c : ByteArray), e = .returned (.tuple #[.string a, .string c]) ∧ a.size ≤ 17 ∧ c.size ≤ 34 ∧ Below w.heap.size w w' := by
  unfold maxLen at hl
  have hc0 := cur_new hv
  have hv0 := hv
  obtain ⟨av, cv, rfl, _⟩ := hv0
  have hb0 := below_alloc w (.cells #[.slice av l.length cv, .int .i64 0, .int .u64 0] 72)
  clear hv
  go_enter Try.func23, Try.ntmps23
  go_wp2_with fail
  refine (key_any w.heap.size l 0 _ hc0 (by omega) (by omega)).mono ?_
  rintro e w1 ⟨⟨k1, rfl, h1⟩, C1, G1⟩
  clear hc0
  go_wp2_with fail
  refine (key_any w.heap.size l (0 + 4) _ C1 (by omega) (by omega)).mono ?_
  rintro e w2 ⟨⟨k2, rfl, h2⟩, C2, G2⟩
  clear C1
  go_wp2_with fail
  refine (key_any w.heap.size l (0 + 4 + 4) _ C2 (by omega) (by omega)).mono ?_
  rintro e w3 ⟨⟨k3, rfl, h3⟩, C3, G3⟩
  have hB3 := below_cur hb0 ((G1.trans G2).trans G3)
  have h23 : (k2 ++ k3).size ≤ 34 := by rw [ByteArray.size_append]; omega
  clear C2 C3 G1 G2 G3
  go_wp2
  refine bodyPost_ret (v := .tuple #[.string k1, .string (k2 ++ k3)]) ?_ rfl ⟨k1, k2 ++ k3, rfl, h1, h23, hB3⟩
  simp [results, Try.results23, go_sem]
end Go.Proofs.Ytniepppbbkoanaa
