/-
  Drawn frames: DrawFramesBytes, DrawReadFrames; laws.sameTexts.
-/
import Derived.Test.YtbgemebpfcbloaaxW1
import Derived.Test.YtbgemebpfcbloaaxN2
import Derived.Test.YtbgemebpfcbloaaxD4
import Derived.Test.YtbgemebpfcbloaaxT1
namespace Go.Proofs.Ytbgemebpfcbloaa
open Go.RowKit
set_option linter.unusedVariables false
set_option maxRecDepth 100000

def small12 (L : List ByteArray) : Prop := L.length ≤ 61 ∧ ∀ i (h : i < L.length), L[i].size ≤ 12
set_option maxHeartbeats 1000000 in
theorem drawFrames_any (v : Value) (l : List UInt8) (w : World) (hv : YL w v l) (hl : l.length ≤ maxLen) :
    Calls Try.prog 20 #[v] w fun e w' => ∃ (a : Option Addr) (c : Nat) (L : List ByteArray), e = .returned (.slice a L.length c) ∧ SL w' (.slice a L.length c) L ∧ L.length ≤ c ∧ small12 L ∧ Below w.heap.size w w' := by
  unfold maxLen at hl
  have hc0 := cur_new hv
  have hv0 := hv
  obtain ⟨av, cv, rfl, _⟩ := hv0
  have hb0 := below_alloc w (.cells #[.slice av l.length cv, .int .i64 0, .int .u64 0] 90)
  clear hv
  go_enter Try.func20, Try.ntmps20
  go_wp2_with fail
  refine (texts_any w.heap.size l 0 _ hc0 (by omega) (by omega)).mono ?_
  rintro e w1 ⟨⟨u, L, rfl, hL, hs, ho⟩, C1, G1⟩
  have hB3 := below_cur hb0 G1
  have hsl := SL_of_owns ho
  obtain ⟨a, c, rfl, hac⟩ : ∃ a c, u = .slice a L.length c ∧ L.length ≤ c := by
    rcases ho.2 with ⟨rfl, h0⟩ | ⟨g, cap, cur, hv, _, _, hle, _⟩
    · exact ⟨none, 0, by rw [h0], by omega⟩
    · exact ⟨_, _, hv, hle⟩
  clear hc0 C1 G1 ho
  go_wp2
  go_ret
  exact ⟨a, c, L, rfl, hsl, hac, ⟨hL, hs⟩, hB3⟩
set_option maxHeartbeats 1000000 in
theorem drawRF_any (v : Value) (l : List UInt8) (w : World) (hv : YL w v l) (hl : l.length ≤ maxLen) :
    Calls Try.prog 25 #[v] w fun e w' => ∃ (T : ByteArray), e = .returned (.string T) ∧ T.size ≤ 90000 ∧ Below w.heap.size w w' := by
  unfold maxLen at hl
  have hc0 := cur_new hv
  have hv0 := hv
  obtain ⟨av, cv, rfl, _⟩ := hv0
  have hb0 := below_alloc w (.cells #[.slice av l.length cv, .int .i64 0, .int .u64 0] 90)
  clear hv
  go_enter Try.func25, Try.ntmps25
  go_wp2_with fail
  refine (texts_any w.heap.size l 0 _ hc0 (by omega) (by omega)).mono ?_
  rintro e w1 ⟨⟨u, L, rfl, hL, hs, ho⟩, C1, G1⟩
  have hsl := SL_of_owns ho
  have KF := specFrames_any u L w1 hsl (by omega) (fun i h => by have := hs i h; omega)
  have hz := fs_size hL hs
  obtain ⟨a, c, rfl⟩ := owns_shape ho
  clear hc0 ho hsl hs
  generalize fsT L = T at *
  generalize fsOk L = ok at *
  go_wp2_with fail
  refine KF.mono ?_
  rintro e w2 ⟨rfl, hb2⟩
  have C2 := C1.chg hb2
  have G2 := G1.trans (Chg.of_below (S := (· = w.heap.size)) hb2)
  clear KF C1 G1 hb2
  go_wp2_with fail
  refine (torn_any w.heap.size l (0 + 10000) T _ C2 (by omega) (by omega) (by omega)).mono ?_
  rintro e w3 ⟨⟨U, rfl, hU⟩, C3, G3⟩
  have hB3 := below_cur hb0 (G2.trans G3)
  clear C2 C3 G2 G3
  go_wp2
  go_ret
  exact ⟨U, rfl, by omega, hB3⟩
theorem SL_take {w : World} {a : Option Addr} {c p : Nat} {L : List ByteArray} (h : SL w (.slice a L.length c) L) (hp : p ≤ L.length) : SL w (.slice a p c) (L.take p) := by
  obtain ⟨a', c', he, hc⟩ := h
  injection he with e1 e2 e3
  subst e1
  refine ⟨a, c, by rw [List.length_take, Nat.min_eq_left hp], fun hne => ?_⟩
  obtain ⟨b, off, ha, hb, hcell⟩ := hc (by intro e; rw [e] at hne; simp at hne)
  refine ⟨b, off, ha, hb, fun i hi => ?_⟩
  rw [List.getElem_take]
  exact hcell i (by rw [List.length_take] at hi; omega)
set_option maxHeartbeats 2000000 in
theorem sameTexts_same (u v : Value) (l : List ByteArray) (w : World) (hu : SL w u l) (hv : SL w v l) (hn : l.length ≤ 1048576) :
    Calls Try.prog 19 #[u, v] w fun e w' => e = .returned (.bool true) ∧ Below w.heap.size w w' := by
  obtain ⟨a, cap, rfl, hc⟩ := hu
  obtain ⟨a', cap', rfl, hc'⟩ := hv
  go_enter Try.func19, Try.ntmps19
  go_wp2
  go_loopw [13] (fun i wr => ∃ k : Nat, k ≤ l.length ∧ i = .int .i64 k ∧ Below w.heap.size w wr) (fun i _ => l.length - (intOf i).toNat)
  case atStart => exact ⟨0, Nat.zero_le _, rfl, Below.refl _ _⟩
  case round =>
    obtain ⟨k, hk, rfl, hb⟩ := hrel
    by_cases hlt : k < l.length
    · obtain ⟨b, off, rfl, hbl, hcell⟩ := hc (by intro e; simp [e] at hlt)
      obtain ⟨b', off', rfl, hbl', hcell'⟩ := hc' (by intro e; simp [e] at hlt)
      obtain ⟨s, hse⟩ : ∃ s, s = l[k] := ⟨_, rfl⟩
      have hc0 := (hb.cell (p := ⟨b, off + k, none⟩) hbl).trans (hcell k hlt)
      have hd0 := (hb.cell (p := ⟨b', off' + k, none⟩) hbl').trans (hcell' k hlt)
      rw [← hse] at hc0 hd0
      clear hcell hse hc hcell' hc'
      have hz := hb.size
      go_wp2_with fail
      go_quiet (fail)
      go_wp2
      go_roundw
      case rel => exact ⟨k + 1, by omega, by go_num, below_drewN hb _⟩
      case measure => simp [intOf]; omega
    · clear hc hc'
      go_wp2
      go_ret
      exact ⟨rfl, hb⟩
end Go.Proofs.Ytbgemebpfcbloaa
