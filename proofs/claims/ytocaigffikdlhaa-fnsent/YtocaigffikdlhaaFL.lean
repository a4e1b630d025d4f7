/-
  Drawn files: the cursor's files.
-/
import Derived.Test.YtocaigffikdlhaaG1ToD5
import Derived.Test.YtocaigffikdlhaaD2ToD3
import Derived.Test.YtocaigffikdlhaaCL
namespace Go.Proofs.Ytocaigffikdlhaa
open Go.RowKit
set_option linter.unusedVariables false
set_option maxRecDepth 100000

theorem big_snoc {L : List ByteArray} {t : ByteArray} (h : ∀ i (h : i < L.length), L[i].size ≤ 4001) (ht : t.size ≤ 4001) : ∀ i (h : i < (L ++ [t]).length), (L ++ [t])[i].size ≤ 4001 := by
  intro i hi
  by_cases hl : i < L.length
  · rw [List.getElem_append_left hl]; exact h i hl
  · rw [List.getElem_append_right (by omega)]; simpa using ht
theorem Try.info5f : (Try.prog.info? 5).map (fun i => (i.zero, i.size, i.bytes)) = some (some (.int .u8 0), 1, 1) := by kernel_rfl
theorem Try.info9f : (Try.prog.info? 9).map (fun i => (i.zero, i.size, i.bytes)) = some (some (.string ⟨#[]⟩), 1, 16) := by kernel_rfl
theorem among7 {x : Int} (h : x ∈ ([0, 1, 30, 64, 65, 130, 200] : List Int)) : ∃ n : Nat, x = (n : Int) ∧ n ≤ 200 := by
  refine ⟨x.toNat, ?_⟩
  simp only [List.mem_cons, List.not_mem_nil, or_false] at h
  omega
set_option maxHeartbeats 4000000 in
theorem files_any (b : Nat) (l : List UInt8) (K : Nat) (w : World) (h : Cur w b l K) (hl : l.length ≤ 9223372036854775807) (hK : K ≤ 1000000) :
    Calls Try.prog 60 #[.pointer (some ⟨b, 0, none⟩)] w fun e w' => (∃ (v : Value) (L : List ByteArray), e = .returned v ∧ L.length ≤ 14 ∧ (∀ i (h : i < L.length), L[i].size ≤ 4001) ∧ w'.ownsRow w.heap.size 9 1 v L.length (L.map Value.string)) ∧ Cur w' b l (K + 10000) ∧ Chg (· = b) w w' := by
  obtain ⟨i0, hi, hz0, hzs, hzb⟩ := info_parts Try.info9f
  obtain ⟨j0, hj, hy0, hy1, hy2⟩ := info_parts Try.info5f
  have hbw := h.lt
  go_enter Try.func60, Try.ntmps60
  go_wp2_with fail
  refine (pick_any b l K 4 _ h hl (by omega) (by omega)).mono ?_
  rintro e w1 ⟨⟨x, rfl, hx⟩, hc1, hch1⟩
  go_wp2_with fail
  refine (one_any b l (K + 2) 30 _ hc1 hl (by omega) (by omega)).mono ?_
  rintro e w2 ⟨⟨y, rfl⟩, hc2, hch2⟩
  have hch := hch1.trans hch2
  clear hc1 hch1 hch2 h
  cases y with
  | true =>
    go_wp2_with fail
    refine (pick_any b l (K + 2 + 2) 2 _ hc2 hl (by omega) (by omega)).mono ?_
    rintro e w3 ⟨⟨z, rfl, hz⟩, hc3, hch3⟩
    have hcc := hch.trans hch3
    clear hc2 hch hch3
    go_wp2_with fail
    go_loopw [3, 4] (fun v i wr => ∃ (j : Nat) (L : List ByteArray), L.length + j ≤ 13 ∧ (∀ i (h : i < L.length), L[i].size ≤ 4001) ∧ i = .int .i64 j ∧ wr.ownsRow w.heap.size 9 1 v L.length (L.map Value.string) ∧ Cur wr b l (K + 6 + 410 * L.length) ∧ Chg (· = b) w wr) (fun _ i _ => (intOf i).toNat)
    case atStart => exact ⟨12 + z, [], by simp; omega, by simp, by go_num, World.ownsRow_nil _ _ _ _, hc3.mono (by simp), hcc⟩
    case round =>
      obtain ⟨j, L, hL, hsz, rfl, hown, hc, hcg⟩ := hrel
      have HS : Hid (∀ i (h : i < L.length), L[i].size ≤ 4001) := hsz
      clear hsz hc3 hcc
      obtain ⟨va, vc, rfl⟩ := owns_shape hown
      by_cases hj0 : 0 < j
      · have gj : (0 : Int) < (j : Int) := by omega
        have hx7 : Box (wr.alloc (.cells #[.int .i64 0, .int .i64 1, .int .i64 30, .int .i64 64, .int .i64 65, .int .i64 130, .int .i64 200] 3)) wr.heap.size (([0, 1, 30, 64, 65, 130, 200] : List Int).map (Value.int .i64)) := Box.new wr #[.int .i64 0, .int .i64 1, .int .i64 30, .int .i64 64, .int .i64 65, .int .i64 130, .int .i64 200] 3
        have hB7 := below_alloc wr (.cells #[.int .i64 0, .int .i64 1, .int .i64 30, .int .i64 64, .int .i64 65, .int .i64 130, .int .i64 200] 3)
        have hc7 := hc.chg hB7
        have hown7 := owns_below hown hB7
        have hcg7 := hcg.trans (Chg.of_below (S := (· = b)) hB7)
        have hbl := hc.lt
        clear hc hown hcg hB7
        go_wp2_with fail
        refine (among_any b l _ wr.heap.size [0, 1, 30, 64, 65, 130, 200] _ hc7 hl (by omega) hx7 (by omega) (by decide) (by decide)).mono ?_
        rintro e w4 ⟨⟨q, rfl, hq⟩, hc4, hch4⟩
        obtain ⟨q, rfl, hq2⟩ := among7 hq
        clear hq
        go_wp2_with fail
        refine (text_any b l _ q _ hc4 hl (by omega) (by omega)).mono ?_
        rintro e w5 ⟨⟨t, rfl, ht⟩, hc5, hch5⟩
        have hcg5 := (hcg7.trans hch4).trans hch5
        have hown5 := (hch4.trans hch5).owns hown7 (fun g hg h => by have := owns_ge hown7 g hg; omega)
        have hz5 := hcg5.size
        have HC : Hid (Cur w5 b l (K + 6 + 410 * (L.length + 1))) := hc5.mono (by omega)
        have HN : Hid (∀ i (h : i < (L ++ [t]).length), (L ++ [t])[i].size ≤ 4001) := big_snoc HS.out (by omega)
        clear hc7 hc4 hc5 hown7 hcg7 hch4 hch5 HS hx7
        go_wp2_with (at_builtin; refine wpList_append_own _ rfl _ _ 23 rfl w.heap.size 9 i0 (.string ⟨#[]⟩) 1 16 Try.underlying23 hi hz0 hzs hzb rfl (by decide) _ L.length (L.map Value.string) rfl (owns_below hown5 (below_alloc _ _)) ⟨w5.heap.size, 0, none⟩ 1 1 [.string t] rfl rfl (by intro j u hj; match j, hj with | 0, hj => simp at hj; subst hj; simp [Addr.add]) (by intro u hu; simp at hu; subst hu; rfl) (by unfold maxLen; omega) (by omega) (by simp; omega) ?_; intro v' w9 hown9 hgrow9 _; refine StopA.go ?_)
        have hb6 := ((Below.refl w.heap.size w5).alloc hz5 _).grown hgrow9 (by simp; omega) (owns_ge hown5)
        obtain ⟨ua, uc, rfl⟩ := owns_shape hown9
        clear hgrow9 hown5
        unfold StopA
        go_wp2
        go_roundw
        case rel => exact ⟨j - 1, L ++ [t], by simp; omega, HN.out, by go_num, by rw [List.length_append, List.map_append]; exact hown9, by rw [List.length_append]; exact cur_low HC.out hbw hb6, chg_below hcg5 hb6⟩
        case measure => simp [intOf]; omega
      · have gj : (j : Int) ≤ 0 := by omega
        go_wp2_with fail
        refine (one_any b l _ 40 _ hc hl (by omega) (by omega)).mono ?_
        rintro e w4 ⟨⟨y4, rfl⟩, hc4, hch4⟩
        have hown4 := hch4.owns hown (fun g hg h => by have := owns_ge hown g hg; omega)
        have hcg4 := hcg.trans hch4
        clear hc hown hcg hch4
        cases y4 with
        | false =>
          go_wp2
          go_ret
          exact ⟨⟨_, L, rfl, by omega, HS.out, hown4⟩, hc4.mono (by omega), hcg4⟩
        | true =>
          go_wp2_with fail
          refine (pick_any b l _ 2 _ hc4 hl (by omega) (by omega)).mono ?_
          rintro e w5 ⟨⟨q, rfl, hq⟩, hc5, hch5⟩
          have hown5 := hch5.owns hown4 (fun g hg h => by have := owns_ge hown4 g hg; omega)
          have hcg5 := hcg4.trans hch5
          have hz5 := hcg5.size
          clear hc4 hown4 hcg4 hch5
          obtain ⟨nn, hnn⟩ : ∃ nn, nn = 4000 + q := ⟨_, rfl⟩
          have En : (4000 : Int) + (q : Int) = (nn : Int) := by omega
          have hn1 : nn ≤ 4001 := by omega
          clear hnn hq
          go_wp2_with (at_make; refine wpList_make_full _ rfl _ _ 22 rfl w5.heap.size 5 j0 _ 1 Try.underlying22 hj hy0 hy1 .i64 .i64 _ _ nn rfl rfl rfl rfl (by rw [hy2]; omega) (by unfold maxLen; omega) (Nat.le_refl _) ?_; intro w8 hown8 hgr8; refine StopA.go ?_)
          rw [madeB] at hown8
          have hb8 : Below w5.heap.size w5 w8 := (Below.refl _ _).grown hgr8 (Nat.le_refl _) (by simp)
          have hcv := conv_back (l := List.replicate nn 0) (by simpa using hown8)
          simp only [List.length_replicate] at hcv
          have hts : (⟨(List.replicate nn (0 : UInt8)).toArray⟩ : ByteArray).size ≤ 4001 := by show (List.replicate nn (0 : UInt8)).toArray.size ≤ 4001; simp; exact hn1
          generalize (⟨(List.replicate nn (0 : UInt8)).toArray⟩ : ByteArray) = t at *
          have hcg8 := hcg5.trans (Chg.of_below (S := (· = b)) hb8)
          have HC : Hid (Cur w8 b l (K + 10000)) := (hc5.chg hb8).mono (by omega)
          have hown88 := owns_below hown5 hb8
          have hz8 := hcg8.size
          have HN : Hid (∀ i (h : i < (L ++ [t]).length), (L ++ [t])[i].size ≤ 4001) := big_snoc HS.out hts
          clear hcg5 hc5 hown5 hown8 hgr8 hb8 HS
          unfold StopA
          go_wp2_with (at_builtin; refine wpList_append_own _ rfl _ _ 23 rfl w.heap.size 9 i0 (.string ⟨#[]⟩) 1 16 Try.underlying23 hi hz0 hzs hzb rfl (by decide) _ L.length (L.map Value.string) rfl (owns_below hown88 (below_alloc _ _)) ⟨w8.heap.size, 0, none⟩ 1 1 [.string t] rfl rfl (by intro j u hj; match j, hj with | 0, hj => simp at hj; subst hj; simp [Addr.add]) (by intro u hu; simp at hu; subst hu; rfl) (by unfold maxLen; omega) (by omega) (by simp; omega) ?_; intro v' w9 hown9 hgrow9 _; refine StopA.go ?_)
          have hb9 := ((Below.refl w.heap.size w8).alloc hz8 _).grown hgrow9 (by simp; omega) (owns_ge hown88)
          obtain ⟨ua, uc, rfl⟩ := owns_shape hown9
          clear hgrow9 hown88
          unfold StopA
          go_wp2
          go_ret
          exact ⟨⟨_, L ++ [t], rfl, by simp; omega, HN.out, by rw [List.length_append, List.map_append]; exact hown9⟩, cur_low HC.out hbw hb9, chg_below hcg8 hb9⟩
  | false =>
    go_wp2_with fail
    go_loopw [3, 4] (fun v i wr => ∃ (j : Nat) (L : List ByteArray), L.length + j ≤ 13 ∧ (∀ i (h : i < L.length), L[i].size ≤ 4001) ∧ i = .int .i64 j ∧ wr.ownsRow w.heap.size 9 1 v L.length (L.map Value.string) ∧ Cur wr b l (K + 6 + 410 * L.length) ∧ Chg (· = b) w wr) (fun _ i _ => (intOf i).toNat)
    case atStart => exact ⟨x, [], by simp; omega, by simp, by go_num, World.ownsRow_nil _ _ _ _, hc2.mono (by simp), hch⟩
    case round =>
      obtain ⟨j, L, hL, hsz, rfl, hown, hc, hcg⟩ := hrel
      have HS : Hid (∀ i (h : i < L.length), L[i].size ≤ 4001) := hsz
      clear hsz hc2 hch
      obtain ⟨va, vc, rfl⟩ := owns_shape hown
      by_cases hj0 : 0 < j
      · have gj : (0 : Int) < (j : Int) := by omega
        have hx7 : Box (wr.alloc (.cells #[.int .i64 0, .int .i64 1, .int .i64 30, .int .i64 64, .int .i64 65, .int .i64 130, .int .i64 200] 3)) wr.heap.size (([0, 1, 30, 64, 65, 130, 200] : List Int).map (Value.int .i64)) := Box.new wr #[.int .i64 0, .int .i64 1, .int .i64 30, .int .i64 64, .int .i64 65, .int .i64 130, .int .i64 200] 3
        have hB7 := below_alloc wr (.cells #[.int .i64 0, .int .i64 1, .int .i64 30, .int .i64 64, .int .i64 65, .int .i64 130, .int .i64 200] 3)
        have hc7 := hc.chg hB7
        have hown7 := owns_below hown hB7
        have hcg7 := hcg.trans (Chg.of_below (S := (· = b)) hB7)
        have hbl := hc.lt
        clear hc hown hcg hB7
        go_wp2_with fail
        refine (among_any b l _ wr.heap.size [0, 1, 30, 64, 65, 130, 200] _ hc7 hl (by omega) hx7 (by omega) (by decide) (by decide)).mono ?_
        rintro e w4 ⟨⟨q, rfl, hq⟩, hc4, hch4⟩
        obtain ⟨q, rfl, hq2⟩ := among7 hq
        clear hq
        go_wp2_with fail
        refine (text_any b l _ q _ hc4 hl (by omega) (by omega)).mono ?_
        rintro e w5 ⟨⟨t, rfl, ht⟩, hc5, hch5⟩
        have hcg5 := (hcg7.trans hch4).trans hch5
        have hown5 := (hch4.trans hch5).owns hown7 (fun g hg h => by have := owns_ge hown7 g hg; omega)
        have hz5 := hcg5.size
        have HC : Hid (Cur w5 b l (K + 6 + 410 * (L.length + 1))) := hc5.mono (by omega)
        have HN : Hid (∀ i (h : i < (L ++ [t]).length), (L ++ [t])[i].size ≤ 4001) := big_snoc HS.out (by omega)
        clear hc7 hc4 hc5 hown7 hcg7 hch4 hch5 HS hx7
        go_wp2_with (at_builtin; refine wpList_append_own _ rfl _ _ 23 rfl w.heap.size 9 i0 (.string ⟨#[]⟩) 1 16 Try.underlying23 hi hz0 hzs hzb rfl (by decide) _ L.length (L.map Value.string) rfl (owns_below hown5 (below_alloc _ _)) ⟨w5.heap.size, 0, none⟩ 1 1 [.string t] rfl rfl (by intro j u hj; match j, hj with | 0, hj => simp at hj; subst hj; simp [Addr.add]) (by intro u hu; simp at hu; subst hu; rfl) (by unfold maxLen; omega) (by omega) (by simp; omega) ?_; intro v' w9 hown9 hgrow9 _; refine StopA.go ?_)
        have hb6 := ((Below.refl w.heap.size w5).alloc hz5 _).grown hgrow9 (by simp; omega) (owns_ge hown5)
        obtain ⟨ua, uc, rfl⟩ := owns_shape hown9
        clear hgrow9 hown5
        unfold StopA
        go_wp2
        go_roundw
        case rel => exact ⟨j - 1, L ++ [t], by simp; omega, HN.out, by go_num, by rw [List.length_append, List.map_append]; exact hown9, by rw [List.length_append]; exact cur_low HC.out hbw hb6, chg_below hcg5 hb6⟩
        case measure => simp [intOf]; omega
      · have gj : (j : Int) ≤ 0 := by omega
        go_wp2_with fail
        refine (one_any b l _ 40 _ hc hl (by omega) (by omega)).mono ?_
        rintro e w4 ⟨⟨y4, rfl⟩, hc4, hch4⟩
        have hown4 := hch4.owns hown (fun g hg h => by have := owns_ge hown g hg; omega)
        have hcg4 := hcg.trans hch4
        clear hc hown hcg hch4
        cases y4 with
        | false =>
          go_wp2
          go_ret
          exact ⟨⟨_, L, rfl, by omega, HS.out, hown4⟩, hc4.mono (by omega), hcg4⟩
        | true =>
          go_wp2_with fail
          refine (pick_any b l _ 2 _ hc4 hl (by omega) (by omega)).mono ?_
          rintro e w5 ⟨⟨q, rfl, hq⟩, hc5, hch5⟩
          have hown5 := hch5.owns hown4 (fun g hg h => by have := owns_ge hown4 g hg; omega)
          have hcg5 := hcg4.trans hch5
          have hz5 := hcg5.size
          clear hc4 hown4 hcg4 hch5
          obtain ⟨nn, hnn⟩ : ∃ nn, nn = 4000 + q := ⟨_, rfl⟩
          have En : (4000 : Int) + (q : Int) = (nn : Int) := by omega
          have hn1 : nn ≤ 4001 := by omega
          clear hnn hq
          go_wp2_with (at_make; refine wpList_make_full _ rfl _ _ 22 rfl w5.heap.size 5 j0 _ 1 Try.underlying22 hj hy0 hy1 .i64 .i64 _ _ nn rfl rfl rfl rfl (by rw [hy2]; omega) (by unfold maxLen; omega) (Nat.le_refl _) ?_; intro w8 hown8 hgr8; refine StopA.go ?_)
          rw [madeB] at hown8
          have hb8 : Below w5.heap.size w5 w8 := (Below.refl _ _).grown hgr8 (Nat.le_refl _) (by simp)
          have hcv := conv_back (l := List.replicate nn 0) (by simpa using hown8)
          simp only [List.length_replicate] at hcv
          have hts : (⟨(List.replicate nn (0 : UInt8)).toArray⟩ : ByteArray).size ≤ 4001 := by show (List.replicate nn (0 : UInt8)).toArray.size ≤ 4001; simp; exact hn1
          generalize (⟨(List.replicate nn (0 : UInt8)).toArray⟩ : ByteArray) = t at *
          have hcg8 := hcg5.trans (Chg.of_below (S := (· = b)) hb8)
          have HC : Hid (Cur w8 b l (K + 10000)) := (hc5.chg hb8).mono (by omega)
          have hown88 := owns_below hown5 hb8
          have hz8 := hcg8.size
          have HN : Hid (∀ i (h : i < (L ++ [t]).length), (L ++ [t])[i].size ≤ 4001) := big_snoc HS.out hts
          clear hcg5 hc5 hown5 hown8 hgr8 hb8 HS
          unfold StopA
          go_wp2_with (at_builtin; refine wpList_append_own _ rfl _ _ 23 rfl w.heap.size 9 i0 (.string ⟨#[]⟩) 1 16 Try.underlying23 hi hz0 hzs hzb rfl (by decide) _ L.length (L.map Value.string) rfl (owns_below hown88 (below_alloc _ _)) ⟨w8.heap.size, 0, none⟩ 1 1 [.string t] rfl rfl (by intro j u hj; match j, hj with | 0, hj => simp at hj; subst hj; simp [Addr.add]) (by intro u hu; simp at hu; subst hu; rfl) (by unfold maxLen; omega) (by omega) (by simp; omega) ?_; intro v' w9 hown9 hgrow9 _; refine StopA.go ?_)
          have hb9 := ((Below.refl w.heap.size w8).alloc hz8 _).grown hgrow9 (by simp; omega) (owns_ge hown88)
          obtain ⟨ua, uc, rfl⟩ := owns_shape hown9
          clear hgrow9 hown88
          unfold StopA
          go_wp2
          go_ret
          exact ⟨⟨_, L ++ [t], rfl, by simp; omega, HN.out, by rw [List.length_append, List.map_append]; exact hown9⟩, cur_low HC.out hbw hb9, chg_below hcg8 hb9⟩
end Go.Proofs.Ytocaigffikdlhaa
