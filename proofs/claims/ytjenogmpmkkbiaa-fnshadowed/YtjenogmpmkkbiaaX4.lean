/-
  Drawn runs: the cursor's run and block.
-/
import Derived.Test.YtjenogmpmkkbiaaX3
namespace Go.Proofs.Ytjenogmpmkkbiaa
open Go.RowKit
set_option linter.unusedVariables false
set_option maxRecDepth 100000

/-- A drawn run: a row of its own, nil where there is none. -/
def Drawn (w : World) (base : Nat) (v : Value) (L : List It) : Prop := w.ownsRow base 83 4 v L.length (flat4 L) ∧ (L = [] → v = .slice none 0 0) ∧ small L
theorem Drawn.chg {w w' : World} {base b : Nat} {v : Value} {L : List It} (h : Drawn w base v L) (hc : Chg (· = b) w w') (hb : b < base) : Drawn w' base v L :=
  ⟨hc.owns h.1 (fun g hg e => by have := owns_ge h.1 g hg; omega), h.2.1, h.2.2⟩
theorem Drawn.below {w w' : World} {base : Nat} {v : Value} {L : List It} (h : Drawn w base v L) (hb : Below w.heap.size w w') : Drawn w' base v L := ⟨owns_below h.1 hb, h.2.1, h.2.2⟩
theorem small_big {L : List It} (h : small L) : ∀ i (hi : i < L.length), L[i].k.size ≤ 1048576 ∧ L[i].v.size ≤ 1048576 := fun i hi => by have := h i hi; omega
def RunPost (b : Nat) (l : List UInt8) (K m : Nat) (w : World) (e : Ending) (w' : World) : Prop := ∃ v L, e = .returned v ∧ Drawn w' w.heap.size v L ∧ L.length ≤ m ∧ Cur w' b l K ∧ Chg (· = b) w w'
theorem RunPost.mk {b : Nat} {l : List UInt8} {K m : Nat} {w w' : World} {v : Value} {L : List It} (h1 : Drawn w' w.heap.size v L) (h2 : L.length ≤ m) (h3 : Cur w' b l K) (h4 : Chg (· = b) w w') : RunPost b l K m w (.returned v) w' := ⟨v, L, rfl, h1, h2, h3, h4⟩

set_option maxHeartbeats 4000000 in
theorem run_any (b : Nat) (l : List UInt8) (K n : Nat) (w : World) (h : Cur w b l K) (hl : l.length ≤ 9223372036854775807) (hK : K ≤ 100000) (hn : n ≤ 70) :
    Calls Try.prog 80 #[.pointer (some ⟨b, 0, none⟩), .int .i64 n] w fun e w' => RunPost b l (K + 40 * n) n w e w' := by
  have hbw := h.lt
  go_enter Try.func80, Try.ntmps80
  go_wp2
  go_loopw [1, 5] (fun i v wr => ∃ (j : Nat) (L : List It), j ≤ n ∧ i = .int .i64 ((n - j : Nat) : Int) ∧ Drawn wr w.heap.size v L ∧ L.length ≤ j ∧ Cur wr b l (K + 40 * j) ∧ Chg (· = b) w wr) (fun i _ _ => (intOf i).toNat)
  case atStart => exact ⟨0, [], by omega, by simp, ⟨World.ownsRow_nil _ _ _ _, fun _ => rfl, fun i hi => by simp at hi⟩, by simp, by simpa using h, Chg.refl _ _⟩
  case round =>
    clear h
    obtain ⟨j, L, hj, rfl, hD, hLj, C, G⟩ := hrel
    obtain ⟨m, hm⟩ : ∃ m, m = n - j := ⟨_, rfl⟩
    rw [← hm]
    have hz := G.size
    by_cases hm0 : 0 < m
    · have hm1 : (0 : Int) < (m : Int) := by omega
      go_wp2_with fail
      refine (item_any b l (K + 40 * j) _ C hl (by omega)).mono ?_
      rintro e w1 ⟨⟨x, rfl, hx1, hx2⟩, C1, G1⟩
      replace hD := hD.chg G1 hbw
      replace G := G.trans G1
      have hz1 := G1.size
      obtain ⟨xk, xn, xd, xv⟩ := x
      dsimp only at hx1 hx2
      have X := Box.new w1 #[.string xk, .int .i64 xn, .int .i64 xd, .string xv] 83
      have b1 := below_alloc w1 (.cells #[.string xk, .int .i64 xn, .int .i64 xd, .string xv] 83)
      replace hD := hD.below b1
      have C2 := C1.chg b1
      replace G := G.trans (Chg.of_below (S := (· = b)) b1)
      have KG := fun w => specGood_any xk xv xn xd w (by omega) (by omega)
      clear C C1 G1
      obtain ⟨W2, hW2⟩ : ∃ W2, W2 = w1.alloc (.cells #[.string xk, .int .i64 xn, .int .i64 xd, .string xv] 83) := ⟨_, rfl⟩
      rw [← hW2] at X hD C2 G b1
      have hz2 : w.heap.size ≤ W2.heap.size := by have := b1.size; omega
      cases hok : okItem xk xn xd xv with
      | false =>
        rw [hok] at KG
        go_wp2_with fail
        rw [← hW2]; clear hW2 b1 hz1 hok
        refine (KG _).mono ?_
        rintro e w3 ⟨rfl, hb3⟩
        replace hD := hD.below hb3
        have C3 := C2.chg hb3
        replace G := G.trans (Chg.of_below (S := (· = b)) hb3)
        clear KG X C2
        go_wp2
        go_roundw
        case rel => exact ⟨j + 1, L, by omega, by rw [show n - (j + 1) = m - 1 from by omega]; go_num, hD, by omega, C3.mono (by omega), G⟩
        case measure => simp [intOf]; omega
      | true =>
        rw [hok] at KG
        go_wp2_with fail
        rw [← hW2]; clear hW2 b1 hz1 hok
        refine (KG _).mono ?_
        rintro e w3 ⟨rfl, hb3⟩
        replace hD := hD.below hb3
        have C3 := C2.chg hb3
        replace X := X.below hb3
        replace G := G.trans (Chg.of_below (S := (· = b)) hb3)
        have hz3 : w.heap.size ≤ w3.heap.size := by have := hb3.size; omega
        obtain ⟨_, x0, x1, x2, x3⟩ := X.c4
        clear KG C2 hb3
        have KP : Calls Try.prog 101 #[u5, .agg #[.string xk, .int .i64 xn, .int .i64 xd, .string xv]] w3 fun e w' => PutPost L w3 w.heap.size e w' := by
          by_cases hL : L = []
          · subst hL
            rw [hD.2.1 rfl]
            exact l6Put_nil ⟨xk, xn, xd, xv⟩ w3 w.heap.size hz3 ⟨hx1, hx2⟩
          · rcases hD.1.2 with ⟨_, h0⟩ | ⟨g, cap, cur, hv, _⟩
            · exact absurd (List.length_eq_zero_iff.1 h0) hL
            · have h1 := hD.1
              rw [hv] at h1 ⊢
              exact l6Put_some ⟨xk, xn, xd, xv⟩ L g cap w3 w.heap.size hz3 ⟨hx1, hx2⟩ hL (by omega) hD.2.2 h1
        clear hD
        go_wp2_with fail
        refine KP.mono ?_
        rintro e w4 ⟨v', L', rfl, o4, hne4, hlen4, hs4, hb4⟩
        have C4 := C3.chg hb4
        replace G := G.trans (Chg.of_below (S := (· = b)) hb4)
        clear KP C3 hb4 x0 x1 x2 x3 X
        go_wp2
        go_roundw
        case rel => exact ⟨j + 1, L', by omega, by rw [show n - (j + 1) = m - 1 from by omega]; go_num, ⟨o4, fun e => absurd e hne4, hs4⟩, by omega, C4.mono (by omega), G⟩
        case measure => simp [intOf]; omega
    · obtain rfl : j = n := by omega
      have hm1 : ¬ (0 : Int) < (m : Int) := by omega
      clear hm
      go_wp2
      go_ret
      exact RunPost.mk hD hLj C G

theorem owned_shape {w : World} {base n : Nat} {v : Value} {xs : List Value} (h : w.ownsRow base 83 4 v n xs) : ∃ a c, v = .slice a n c := by
  rcases h.2 with ⟨rfl, h0⟩ | ⟨g, cap, cur, hv, _⟩
  · exact ⟨none, 0, by rw [h0]⟩
  · exact ⟨_, _, hv⟩
end Go.Proofs.Ytjenogmpmkkbiaa
