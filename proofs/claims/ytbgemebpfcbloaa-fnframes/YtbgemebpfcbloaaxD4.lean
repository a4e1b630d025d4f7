/-
  The cursor's one and texts; spec.DrawFramesBytes; laws.sameTexts.
-/
import Derived.Test.YtbgemebpfcbloaaxD2
import Derived.Test.YtbgemebpfcbloaaxF3
import Derived.Test.YtbgemebpfcbloaaxH1
namespace Go.Proofs.Ytbgemebpfcbloaa
open Go.RowKit
set_option linter.unusedVariables false

set_option maxRecDepth 100000 in
set_option maxHeartbeats 1000000 in
theorem one_any (b : Nat) (l : List UInt8) (K n : Nat) (w : World) (h : Cur w b l K) (hl : l.length ≤ 9223372036854775807) (hK : K ≤ 100000000) (hn : n ≤ 1000000) :
    Calls Try.prog 98 #[.pointer (some ⟨b, 0, none⟩), .int .i64 n] w fun e w' => (∃ x : Bool, e = .returned (.bool x)) ∧ Cur w' b l (K + 2) ∧ Chg (· = b) w w' := by
  go_enter Try.func98, Try.ntmps98
  go_wp2_with fail
  refine (pick_any b l K n _ h hl hK hn).mono ?_
  rintro e w1 ⟨⟨x, rfl, hx⟩, hc1, hch1⟩
  go_wp2
  go_ret
  exact ⟨⟨_, rfl⟩, hc1, hch1⟩

theorem sizes_snoc {L : List ByteArray} {t : ByteArray} (h : ∀ i (h : i < L.length), L[i].size ≤ 12) (ht : t.size ≤ 12) : ∀ i (h : i < (L ++ [t]).length), (L ++ [t])[i].size ≤ 12 := by
  intro i hi
  by_cases hl : i < L.length
  · rw [List.getElem_append_left hl]; exact h i hl
  · rw [List.getElem_append_right (by omega)]; simpa using ht
/-- What is left below B, with the cursor below B. -/
theorem cur_low {w w' : World} {b B : Nat} {l : List UInt8} {K : Nat} (h : Cur w b l K) (hB : b < B) (hb : Below B w w') : Cur w' b l K := by
  obtain ⟨v, k, sd, X, h1, h2, a, cap, rfl, hc⟩ := h
  refine ⟨_, k, sd, ⟨Nat.lt_of_lt_of_le X.1 hb.size, fun j u hu => (hb.cell (p := ⟨b, j, none⟩) hB).trans (X.2.1 j u hu), fun j => (hb.frozen (p := ⟨b, j, none⟩) hB).trans (X.2.2 j)⟩, h1, h2, a, cap, rfl, fun hl => ?_⟩
  obtain ⟨cb, off, ha, hcb, hne, hcell⟩ := hc hl
  exact ⟨cb, off, ha, Nat.lt_of_lt_of_le hcb hb.size, hne, fun i hi => (hb.cell (p := ⟨cb, off + i, none⟩) (show cb < B by omega)).trans (hcell i hi)⟩

theorem chg_below {S : Nat → Prop} {w w1 w2 : World} (h : Chg S w w1) (hb : Below w.heap.size w1 w2) : Chg S w w2 :=
  ⟨hb.os.trans h.os, hb.tape.trans h.tape, hb.output.trans h.output, Nat.le_trans h.size hb.size, fun k hk hs => (hb.block k hk).trans (h.block k hk hs)⟩

set_option maxRecDepth 100000 in
set_option maxHeartbeats 2000000 in
theorem texts_any (b : Nat) (l : List UInt8) (K : Nat) (w : World) (h : Cur w b l K) (hl : l.length ≤ 9223372036854775807) (hK : K ≤ 1000000) :
    Calls Try.prog 67 #[.pointer (some ⟨b, 0, none⟩)] w fun e w' => (∃ (v : Value) (L : List ByteArray), e = .returned v ∧ L.length ≤ 61 ∧ (∀ i (h : i < L.length), L[i].size ≤ 12) ∧ w'.ownsRow w.heap.size 9 1 v L.length (L.map Value.string)) ∧ Cur w' b l (K + 10000) ∧ Chg (· = b) w w' := by
  obtain ⟨i0, hi, hz0, hzs, hzb⟩ := info_parts Try.info9
  have hbw := h.lt
  go_enter Try.func67, Try.ntmps67
  go_wp2_with fail
  refine (pick_any b l K 6 _ h hl (by omega) (by omega)).mono ?_
  rintro e w1 ⟨⟨x, rfl, hx⟩, hc1, hch1⟩
  go_wp2_with fail
  refine (one_any b l (K + 2) 30 _ hc1 hl (by omega) (by omega)).mono ?_
  rintro e w2 ⟨⟨y, rfl⟩, hc2, hch2⟩
  have hch := hch1.trans hch2
  clear hc1 hch1 hch2 h
  cases y with
  | true =>
    go_wp2_with fail
    refine (pick_any b l (K + 2 + 2) 2 _ hc2 hl (by omega) (by omega)).mono ?_
    rintro e w3 ⟨⟨z, rfl, hz⟩, hc3, hch3⟩
    have hcc := hch.trans hch3
    clear hc2 hch hch3
    go_wp2_with fail
    go_loopw [3, 4] (fun v i wr => ∃ (j : Nat) (L : List ByteArray), L.length + j ≤ 61 ∧ (∀ i (h : i < L.length), L[i].size ≤ 12) ∧ i = .int .i64 j ∧ wr.ownsRow w.heap.size 9 1 v L.length (L.map Value.string) ∧ Cur wr b l (K + 6 + 30 * L.length) ∧ Chg (· = b) w wr) (fun _ i _ => (intOf i).toNat)
    case atStart => exact ⟨(60 + z), [], by simp; omega, by simp, by go_num, World.ownsRow_nil _ _ _ _, hc3.mono (by simp), hcc⟩
    case round =>
      obtain ⟨j, L, hL, hsz, rfl, hown, hc, hcg⟩ := hrel
      have HS : Hid (∀ i (h : i < L.length), L[i].size ≤ 12) := hsz
      clear hsz hc3 hcc
      by_cases hj : 0 < j
      · have gj : (0 : Int) < (j : Int) := by omega
        go_wp2_with fail
        refine (pick_any b l _ 12 _ hc hl (by omega) (by omega)).mono ?_
        rintro e w4 ⟨⟨q, rfl, hq⟩, hc4, hch4⟩
        go_wp2_with fail
        refine (text_any b l _ q _ hc4 hl (by omega) (by omega)).mono ?_
        rintro e w5 ⟨⟨t, rfl, ht⟩, hc5, hch5⟩
        have hcg5 := (hcg.trans hch4).trans hch5
        have hown5 := (hch4.trans hch5).owns hown (fun g hg h => by have := owns_ge hown g hg; omega)
        have hz5 := hcg5.size
        have HC : Hid (Cur w5 b l (K + 6 + 30 * (L.length + 1))) := hc5.mono (by omega)
        have HN : Hid (∀ i (h : i < (L ++ [t]).length), (L ++ [t])[i].size ≤ 12) := sizes_snoc HS.out (by omega)
        clear hc hc4 hc5 hown hcg hch4 hch5 HS
        go_wp2_with (at_builtin; refine wpList_append_own _ rfl _ _ 35 rfl w.heap.size 9 i0 (.string ⟨#[]⟩) 1 16 Try.underlying35 hi hz0 hzs hzb rfl (by decide) _ L.length (L.map Value.string) rfl (owns_below hown5 (below_alloc _ _)) ⟨w5.heap.size, 0, none⟩ 1 1 [.string t] rfl rfl (by intro j u hj; match j, hj with | 0, hj => simp at hj; subst hj; simp [Addr.add]) (by intro u hu; simp at hu; subst hu; rfl) (by unfold maxLen; omega) (by omega) (by simp; omega) ?_; intro v' w6 hown6 hgrow6 _)
        have hb6 := ((Below.refl w.heap.size w5).alloc hz5 _).grown hgrow6 (by simp; omega) (owns_ge hown5)
        go_roundw
        case rel => exact ⟨j - 1, L ++ [t], by simp; omega, HN.out, by go_num, by rw [List.length_append, List.map_append]; exact hown6, by rw [List.length_append]; exact cur_low HC.out hbw hb6, chg_below hcg5 hb6⟩
        case measure => simp [intOf]; omega
      · have gj : (j : Int) ≤ 0 := by omega
        go_wp2
        go_ret
        exact ⟨⟨_, L, rfl, by omega, HS.out, hown⟩, hc.mono (by omega), hcg⟩
  | false =>
    go_wp2_with fail
    go_loopw [3, 4] (fun v i wr => ∃ (j : Nat) (L : List ByteArray), L.length + j ≤ 61 ∧ (∀ i (h : i < L.length), L[i].size ≤ 12) ∧ i = .int .i64 j ∧ wr.ownsRow w.heap.size 9 1 v L.length (L.map Value.string) ∧ Cur wr b l (K + 6 + 30 * L.length) ∧ Chg (· = b) w wr) (fun _ i _ => (intOf i).toNat)
    case atStart => exact ⟨x, [], by simp; omega, by simp, by go_num, World.ownsRow_nil _ _ _ _, hc2.mono (by simp), hch⟩
    case round =>
      obtain ⟨j, L, hL, hsz, rfl, hown, hc, hcg⟩ := hrel
      have HS : Hid (∀ i (h : i < L.length), L[i].size ≤ 12) := hsz
      clear hsz hc2 hch
      by_cases hj : 0 < j
      · have gj : (0 : Int) < (j : Int) := by omega
        go_wp2_with fail
        refine (pick_any b l _ 12 _ hc hl (by omega) (by omega)).mono ?_
        rintro e w4 ⟨⟨q, rfl, hq⟩, hc4, hch4⟩
        go_wp2_with fail
        refine (text_any b l _ q _ hc4 hl (by omega) (by omega)).mono ?_
        rintro e w5 ⟨⟨t, rfl, ht⟩, hc5, hch5⟩
        have hcg5 := (hcg.trans hch4).trans hch5
        have hown5 := (hch4.trans hch5).owns hown (fun g hg h => by have := owns_ge hown g hg; omega)
        have hz5 := hcg5.size
        have HC : Hid (Cur w5 b l (K + 6 + 30 * (L.length + 1))) := hc5.mono (by omega)
        have HN : Hid (∀ i (h : i < (L ++ [t]).length), (L ++ [t])[i].size ≤ 12) := sizes_snoc HS.out (by omega)
        clear hc hc4 hc5 hown hcg hch4 hch5 HS
        go_wp2_with (at_builtin; refine wpList_append_own _ rfl _ _ 35 rfl w.heap.size 9 i0 (.string ⟨#[]⟩) 1 16 Try.underlying35 hi hz0 hzs hzb rfl (by decide) _ L.length (L.map Value.string) rfl (owns_below hown5 (below_alloc _ _)) ⟨w5.heap.size, 0, none⟩ 1 1 [.string t] rfl rfl (by intro j u hj; match j, hj with | 0, hj => simp at hj; subst hj; simp [Addr.add]) (by intro u hu; simp at hu; subst hu; rfl) (by unfold maxLen; omega) (by omega) (by simp; omega) ?_; intro v' w6 hown6 hgrow6 _)
        have hb6 := ((Below.refl w.heap.size w5).alloc hz5 _).grown hgrow6 (by simp; omega) (owns_ge hown5)
        go_roundw
        case rel => exact ⟨j - 1, L ++ [t], by simp; omega, HN.out, by go_num, by rw [List.length_append, List.map_append]; exact hown6, by rw [List.length_append]; exact cur_low HC.out hbw hb6, chg_below hcg5 hb6⟩
        case measure => simp [intOf]; omega
      · have gj : (j : Int) ≤ 0 := by omega
        go_wp2
        go_ret
        exact ⟨⟨_, L, rfl, by omega, HS.out, hown⟩, hc.mono (by omega), hcg⟩
end Go.Proofs.Ytbgemebpfcbloaa
