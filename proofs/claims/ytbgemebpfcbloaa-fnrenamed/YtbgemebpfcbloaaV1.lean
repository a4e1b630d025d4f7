/-
  The law laws.FnExactDoDisk: szDiskStep, toDiskStep, heldDisk; what is got by a call and stored in a box.
-/
import Derived.Test.YtbgemebpfcbloaaZ16
import Derived.Test.YtbgemebpfcbloaaM2
import Derived.Test.YtbgemebpfcbloaaG12ToM1
namespace Go.Proofs.Ytbgemebpfcbloaa
open Go.RowKit Go.Maps
set_option linter.unusedVariables false
set_option maxRecDepth 100000

set_option maxHeartbeats 1000000 in
theorem szDiskStep_any (k kp : Int) (nm ot da : ByteArray) (left : Int) (w : World) (h0 : 0 ≤ left) (h1 : left ≤ 1048576) (hs1 : nm.size ≤ maxLen) (hs2 : ot.size ≤ maxLen) (hs3 : da.size ≤ maxLen) :
    Calls Try.prog 28 #[.agg #[.int .i64 k, .string nm, .string ot, .string da, .int .i64 kp], .int .i64 left] w fun e w' => e = .returned (.int .i64 (if (nm.size : Int) + ot.size + da.size ≤ left then left - nm.size - ot.size - da.size else -1)) ∧ Below w.heap.size w w' := by
  unfold maxLen at hs1 hs2 hs3
  by_cases c1 : (nm.size : Int) ≤ left
  · by_cases c2 : (nm.size : Int) + ot.size ≤ left
    · by_cases c3 : (nm.size : Int) + ot.size + da.size ≤ left
      · go_enter Try.func28, Try.ntmps28
        go_wp2
        go_ret
        exact ⟨by simp, below_alloc _ _⟩
      · go_enter Try.func28, Try.ntmps28
        go_wp2
        go_ret
        exact ⟨by simp, below_alloc _ _⟩
    · have c3 : ¬ (nm.size : Int) + ot.size + da.size ≤ left := by omega
      go_enter Try.func28, Try.ntmps28
      go_wp2
      go_ret
      exact ⟨by simp, below_alloc _ _⟩
  · have c3 : ¬ (nm.size : Int) + ot.size + da.size ≤ left := by omega
    go_enter Try.func28, Try.ntmps28
    go_wp2
    go_ret
    exact ⟨by simp, below_alloc _ _⟩

theorem toDiskStep_any (k kp : Int) (nm ot da : ByteArray) (w : World) :
    Calls Try.prog 30 #[.agg #[.int .i64 k, .string nm, .string ot, .string da, .int .i64 kp]] w fun e w' => e = .returned (.agg #[.int .i64 k, .string nm, .string ot, .string da, .int .i64 kp]) ∧ Below w.heap.size w w' := by
  go_enter Try.func30, Try.ntmps30
  go_wp2
  exact bodyPost_ret (v := .agg #[.int .i64 k, .string nm, .string ot, .string da, .int .i64 kp]) (by simp [results, Try.results30, go_sem]) rfl ⟨rfl, below3 _ _ _ _⟩

set_option maxHeartbeats 1000000 in
theorem heldDisk_any (v1 v2 v3 : Value) (n1 n2 n3 : Nat) (r k : Int) (w : World) (p1 : PL w v1 (mkAll k n1)) (p2 : PL w v2 (mkAll (k + 2 * n1) n2)) (p3 : PL w v3 (mkAll (k + 2 * n1 + 2 * n2) n3))
    (hn1 : n1 ≤ 1000) (hn2 : n2 ≤ 1000) (hn3 : n3 ≤ 1000) (h1 : 1 ≤ k) (h2 : k ≤ 1000) :
    Calls Try.prog 33 #[.agg #[v1, v2, v3, .int .i64 r], .int .i64 k] w fun e w' => e = .returned (.int .i64 (k + 2 * n1 + 2 * n2 + 2 * n3)) ∧ Below w.heap.size w w' := by
  go_enter Try.func33, Try.ntmps33
  go_wp2_with fail
  refine (heldBlobS_any _ n1 _ _ (p1.alloc _) (by omega) h1 (by omega)).mono ?_
  rintro e w1 ⟨rfl, hb1⟩
  have X1 := (Box.new w #[v1, v2, v3, .int .i64 r] 26).below hb1
  have hB1 := below_then (below_alloc _ _) hb1
  clear hb1
  obtain ⟨_, x0, x1, x2, x3⟩ := X1.c4
  have e1 : (0 : Int) ≤ k + 2 * n1 := by omega
  go_wp2_with fail
  refine (heldNameS_any _ n2 _ _ (p2.below hB1) (by omega) (by omega) (by omega)).mono ?_
  rintro e w2 ⟨rfl, hb2⟩
  have X2 := X1.below hb2
  have hB2 := below_then hB1 hb2
  clear hb2 X1 x0 x1 x2 x3
  obtain ⟨_, x0, x1, x2, x3⟩ := X2.c4
  have e2 : (0 : Int) ≤ k + 2 * n1 + 2 * n2 := by omega
  go_wp2_with fail
  refine (heldNameS_any _ n3 _ _ (p3.below hB2) (by omega) (by omega) (by omega)).mono ?_
  rintro e w3 ⟨rfl, hb3⟩
  have hB3 := below_then hB2 hb3
  have e3 : (0 : Int) ≤ k + 2 * n1 + 2 * n2 + 2 * n3 := by omega
  go_wp2
  go_ret
  exact ⟨rfl, hB3⟩

/-- A struct of three lists and a number, in a box of its own, its rows elsewhere. -/
structure Got (B : Nat) (W : World) (b : Nat) (y1 y2 y3 : Value) (r : Int) (bl lv sf : List (ByteArray × Int)) : Prop where
  box : Box W b [y1, y2, y3, .int .i64 r]
  made : Made B W y1 y2 y3 bl lv sf
  low : B ≤ b
  apart : ∀ g, y1.ownBlock = some g ∨ y2.ownBlock = some g ∨ y3.ownBlock = some g → g ≠ b
theorem owns_hi {w : World} {base e s n : Nat} {v : Value} {xs : List Value} (h : w.ownsRow base e s v n xs) : ∀ g, v.ownBlock = some g → g < w.heap.size := by
  intro b hb
  rcases h.2 with ⟨rfl, h0⟩ | ⟨g, cap, cur, rfl, _, hh, _⟩
  · cases hb
  · simp only [Value.ownBlock, Option.some.injEq] at hb
    subst hb
    exact (Array.getElem?_eq_some_iff.1 hh).1
theorem got_new {B B' : Nat} {w : World} {y1 y2 y3 : Value} {r : Int} {bl lv sf : List (ByteArray × Int)} (hM : Made B' w y1 y2 y3 bl lv sf) (h1 : B ≤ B') (h2 : B' ≤ w.heap.size) :
    Got B (w.alloc (.cells #[y1, y2, y3, .int .i64 r] 26)) w.heap.size y1 y2 y3 r bl lv sf :=
  ⟨Box.new w _ _, (hM.wk h1).below (below_alloc _ _), by omega, fun g h => by
    rcases h with h | h | h
    · have := owns_hi hM.1 g h; omega
    · have := owns_hi hM.2.1 g h; omega
    · have := owns_hi hM.2.2.1 g h; omega⟩
theorem got_put {B B' b : Nat} {w : World} {y1 y2 y3 u1 u2 u3 u4 : Value} {r : Int} {bl lv sf : List (ByteArray × Int)} (hM : Made B' w y1 y2 y3 bl lv sf) (hE : Box w b [u1, u2, u3, u4]) (h1 : B ≤ b) (h2 : b < B') :
    Got B (put4 w b y1 y2 y3 (.int .i64 r)) b y1 y2 y3 r bl lv sf :=
  ⟨put4_box hE _ _ _ _, (hM.chg (put4_chg _ _ _ _ _ _) (fun g h h' => by omega)).wk (by omega), h1, fun g h => by
    rcases h with h | h | h
    · have := owns_ge hM.1 g h; omega
    · have := owns_ge hM.2.1 g h; omega
    · have := owns_ge hM.2.2.1 g h; omega⟩
theorem Got.below {B b : Nat} {W W' : World} {y1 y2 y3 : Value} {r : Int} {bl lv sf : List (ByteArray × Int)} (h : Got B W b y1 y2 y3 r bl lv sf) (hb : Below W.heap.size W W') : Got B W' b y1 y2 y3 r bl lv sf :=
  ⟨h.box.below hb, h.made.below hb, h.low, h.apart⟩
theorem Got.chg {S : Nat → Prop} {B b : Nat} {W W' : World} {y1 y2 y3 : Value} {r : Int} {bl lv sf : List (ByteArray × Int)} (h : Got B W b y1 y2 y3 r bl lv sf) (hc : Chg S W W') (hs : ∀ g, B ≤ g → ¬ S g) : Got B W' b y1 y2 y3 r bl lv sf :=
  ⟨hc.box h.box (hs b h.low), h.made.chg hc hs, h.low, h.apart⟩

theorem Got.chgAt {S : Nat → Prop} {B b : Nat} {W W' : World} {y1 y2 y3 : Value} {r : Int} {bl lv sf : List (ByteArray × Int)} (h : Got B W b y1 y2 y3 r bl lv sf) (hc : Chg S W W') (hs : ∀ g, y1.ownBlock = some g ∨ y2.ownBlock = some g ∨ y3.ownBlock = some g ∨ g = b → ¬ S g) : Got B W' b y1 y2 y3 r bl lv sf :=
  ⟨hc.box h.box (hs b (.inr (.inr (.inr rfl)))), ⟨hc.owns h.made.1 (fun g hg => hs g (.inl hg)), hc.owns h.made.2.1 (fun g hg => hs g (.inr (.inl hg))), hc.owns h.made.2.2.1 (fun g hg => hs g (.inr (.inr (.inl hg)))), h.made.2.2.2⟩, h.low, h.apart⟩

theorem do_len (k : Int) (nm ot da : ByteArray) (kp : Int) (bl lv sf : List (ByteArray × Int)) (r : Int) : (doB k nm ot da kp bl lv sf r).length ≤ 1000 ∧ (doL k nm ot da kp bl lv sf r).length ≤ 1000 ∧ (doS k nm ot da kp bl lv sf r).length ≤ 1000 := by
  cases hg : goodD bl lv sf r with
  | false => simp [doB, doL, doS, hg]
  | true =>
    obtain ⟨G1, G2, G3, G4, G5, G6⟩ := (goodD_iff _ _ _ _).1 hg
    have k3 := (okNs_iff _ _).1 G3
    have k4 := (okNs_iff _ _).1 G4
    have b3 := k3.2.2
    have b4 := k4.2.2
    have wl := fun nm => wout_length_le lv k3.1 nm
    by_cases h0 : refuse k nm ot da kp bl lv sf r = 0
    · simp only [doB, doL, doS, hg, h0, if_true]
      refine ⟨?_, ?_, ?_⟩
      · unfold nB
        split
        · simp; omega
        · split
          · simp; omega
          · split
            · simp; omega
            · split
              · simp; omega
              · omega
      · unfold nL
        split
        · rw [put_length]; have := wl nm; omega
        · split
          · rw [put_length]; have := wl nm; have := wout_length_le (woutL lv nm) (ris_wout k3.1 nm) ot; omega
          · split
            · rw [put_length]; have := wl ot; omega
            · split
              · have := wl nm; omega
              · split <;> omega
      · unfold nS
        split <;> omega
    · simp only [doB, doL, doS, hg, h0, if_true, if_false]
      exact ⟨by omega, by omega, by omega⟩
end Go.Proofs.Ytbgemebpfcbloaa
