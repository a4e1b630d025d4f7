/-
  The cursor's one, key, keys.
-/
import Derived.Test.YtdcglghmhjbkkaaD3
import Derived.Test.YtdcglghmhjbkkaaG1
import Derived.Deep.Cut
namespace Go.Proofs.Ytdcglghmhjbkkaa
open Go.RowKit
set_option linter.unusedVariables false

set_option maxRecDepth 100000 in
set_option maxHeartbeats 1000000 in
theorem one_any (b : Nat) (l : List UInt8) (K n : Nat) (w : World) (h : Cur w b l K) (hl : l.length ≤ 9223372036854775807) (hK : K ≤ 100000000) (hn : n ≤ 1000000) :
    Calls Try.prog 62 #[.pointer (some ⟨b, 0, none⟩), .int .i64 n] w fun e w' => (∃ x : Bool, e = .returned (.bool x)) ∧ Cur w' b l (K + 2) ∧ Chg (· = b) w w' := by
  go_enter Try.func62, Try.ntmps62
  go_wp2_with fail
  refine (pick_any b l K n _ h hl hK hn).mono ?_
  rintro e w1 ⟨⟨x, rfl, hx⟩, hc1, hch1⟩
  go_wp2
  go_ret
  exact ⟨⟨_, rfl⟩, hc1, hch1⟩

theorem sizes_snoc {L : List ByteArray} {t : ByteArray} (h : ∀ i (h : i < L.length), L[i].size ≤ 17) (ht : t.size ≤ 17) : ∀ i (h : i < (L ++ [t]).length), (L ++ [t])[i].size ≤ 17 := by
  intro i hi
  by_cases hl : i < L.length
  · rw [List.getElem_append_left hl]; exact h i hl
  · rw [List.getElem_append_right (by omega)]; simpa using ht
/-- What is left below B, with the cursor below B. -/
theorem cur_low {w w' : World} {b B : Nat} {l : List UInt8} {K : Nat} (h : Cur w b l K) (hB : b < B) (hb : Below B w w') : Cur w' b l K := by
  obtain ⟨v, k, sd, X, h1, h2, a, cap, rfl, hc⟩ := h
  refine ⟨_, k, sd, ⟨Nat.lt_of_lt_of_le X.1 hb.size, fun j u hu => (hb.cell (p := ⟨b, j, none⟩) hB).trans (X.2.1 j u hu), fun j => (hb.frozen (p := ⟨b, j, none⟩) hB).trans (X.2.2 j)⟩, h1, h2, a, cap, rfl, fun hl => ?_⟩
  obtain ⟨cb, off, ha, hcb, hne, hcell⟩ := hc hl
  exact ⟨cb, off, ha, Nat.lt_of_lt_of_le hcb hb.size, hne, fun i hi => (hb.cell (p := ⟨cb, off + i, none⟩) (show cb < B by omega)).trans (hcell i hi)⟩

theorem chg_below {S : Nat → Prop} {w w1 w2 : World} (h : Chg S w w1) (hb : Below w.heap.size w1 w2) : Chg S w w2 :=
  ⟨hb.os.trans h.os, hb.tape.trans h.tape, hb.output.trans h.output, Nat.le_trans h.size hb.size, fun k hk hs => (hb.block k hk).trans (h.block k hk hs)⟩


theorem two_bytes (p q : Nat) (w : World) (hp : p < 100) (hq : q < 100) : ∃ t : ByteArray, t.size ≤ 17 ∧ (convert 22 9 (.slice (some ⟨w.heap.size, 0, none⟩) 2 2)).run Try.prog (w.alloc (.cells #[.int .u8 (97 + (p : Int)), .int .u8 (97 + (q : Int))] 5)) = .ok (.string t) (w.alloc (.cells #[.int .u8 (97 + (p : Int)), .int .u8 (97 + (q : Int))] 5)) := by
  have hb := Box.new w #[.int .u8 (97 + (p : Int)), .int .u8 (97 + (q : Int))] 5
  have e1 : (97 + (p : Int)) = ((UInt8.ofNat (97 + p)).toNat : Int) := by rw [UInt8.toNat_ofNat']; omega
  have e2 : (97 + (q : Int)) = ((UInt8.ofNat (97 + q)).toNat : Int) := by rw [UInt8.toNat_ofNat']; omega
  have hw : Wr (w.alloc (.cells #[.int .u8 (97 + (p : Int)), .int .u8 (97 + (q : Int))] 5)) w.heap.size [UInt8.ofNat (97 + p), UInt8.ofNat (97 + q)] := by
    refine ⟨hb.1, fun j hj => ⟨?_, hb.2.2 j⟩⟩
    match j, hj with
    | 0, _ => rw [hb.2.1 0 _ rfl, e1]; rfl
    | 1, _ => rw [hb.2.1 1 _ rfl, e2]; rfl
  exact ⟨_, by show [UInt8.ofNat (97 + p), UInt8.ofNat (97 + q)].toArray.size ≤ 17; simp, conv_wr (cap := 2) (n := 2) hw rfl⟩
def keysB : List ByteArray := [⟨#[]⟩, ⟨#[49, 50, 51, 52, 53, 54, 55, 56, 57, 48, 49, 50, 51, 52, 53, 54, 55]⟩]
def keysA : List ByteArray := [⟨#[97]⟩, ⟨#[98]⟩, ⟨#[98, 97]⟩, ⟨#[99]⟩, ⟨#[99, 97, 114]⟩, ⟨#[100]⟩, ⟨#[101]⟩]
theorem keysB_le (x : ByteArray) (h : x ∈ keysB) : x.size ≤ 17 := by
  simp [keysB] at h
  rcases h with rfl | rfl <;> decide
theorem keysA_le (x : ByteArray) (h : x ∈ keysA) : x.size ≤ 17 := by
  simp [keysA] at h
  rcases h with rfl | rfl | rfl | rfl | rfl | rfl | rfl <;> decide
set_option maxRecDepth 100000 in
set_option maxHeartbeats 1000000 in
theorem key_any (b : Nat) (l : List UInt8) (K : Nat) (w : World) (h : Cur w b l K) (hl : l.length ≤ 9223372036854775807) (hK : K ≤ 1000000) :
    Calls Try.prog 43 #[.pointer (some ⟨b, 0, none⟩)] w fun e w' => (∃ t : ByteArray, e = .returned (.string t) ∧ t.size ≤ 17) ∧ Cur w' b l (K + 4) ∧ Chg (· = b) w w' := by
  have hbw := h.lt
  go_enter Try.func43, Try.ntmps43
  go_wp2_with fail
  refine (one_any b l K 60 _ h hl (by omega) (by omega)).mono ?_
  rintro e w1 ⟨⟨y, rfl⟩, hc1, hch1⟩
  have hb1 := hc1.lt
  cases y with
  | true =>
    go_wp2_with fail
    refine (of_any b l (K + 2) w1.heap.size keysB _ (hc1.chg (below_alloc _ _)) hl (by omega) (Box.new w1 #[.string ⟨#[]⟩, .string ⟨#[49, 50, 51, 52, 53, 54, 55, 56, 57, 48, 49, 50, 51, 52, 53, 54, 55]⟩] 9) (by omega) (by decide) (by decide)).mono ?_
    rintro e w2 ⟨⟨x, rfl, hx⟩, hc2, hch2⟩
    have hsz : Hid (x.size ≤ 17) := keysB_le x hx
    have hC := hch1.trans ((Chg.of_below (S := (· = b)) (below_alloc _ _)).trans hch2)
    clear hx
    go_wp2
    go_ret
    exact ⟨⟨_, rfl, hsz.out⟩, hc2, hC⟩
  | false =>
    go_wp2_with fail
    refine (of_any b l (K + 2) w1.heap.size keysA _ (hc1.chg (below_alloc _ _)) hl (by omega) (Box.new w1 #[.string ⟨#[97]⟩, .string ⟨#[98]⟩, .string ⟨#[98, 97]⟩, .string ⟨#[99]⟩, .string ⟨#[99, 97, 114]⟩, .string ⟨#[100]⟩, .string ⟨#[101]⟩] 9) (by omega) (by decide) (by decide)).mono ?_
    rintro e w2 ⟨⟨x, rfl, hx⟩, hc2, hch2⟩
    have hsz : Hid (x.size ≤ 17) := keysA_le x hx
    have hC := hch1.trans ((Chg.of_below (S := (· = b)) (below_alloc _ _)).trans hch2)
    clear hx
    go_wp2
    go_ret
    exact ⟨⟨_, rfl, hsz.out⟩, hc2, hC⟩

set_option maxRecDepth 100000 in
set_option maxHeartbeats 4000000 in
theorem keys_any (b : Nat) (l : List UInt8) (K : Nat) (w : World) (h : Cur w b l K) (hl : l.length ≤ 9223372036854775807) (hK : K ≤ 100000) :
    Calls Try.prog 50 #[.pointer (some ⟨b, 0, none⟩)] w fun e w' => (∃ (v : Value) (L : List ByteArray), e = .returned v ∧ L.length ≤ 201 ∧ (∀ i (h : i < L.length), L[i].size ≤ 17) ∧ w'.ownsRow w.heap.size 9 1 v L.length (L.map Value.string)) ∧ Cur w' b l (K + 10000) ∧ Chg (· = b) w w' := by
  obtain ⟨i0, hi, hz0, hzs, hzb⟩ := info_parts Try.info9g
  have hbw := h.lt
  go_enter Try.func50, Try.ntmps50
  go_wp2_with fail
  refine (pick_any b l K 8 _ h hl (by omega) (by omega)).mono ?_
  rintro e w1 ⟨⟨x, rfl, hx⟩, hc1, hch1⟩
  go_wp2_with fail
  refine (one_any b l (K + 2) 30 _ hc1 hl (by omega) (by omega)).mono ?_
  rintro e w2 ⟨⟨y, rfl⟩, hc2, hch2⟩
  have hch := hch1.trans hch2
  clear hc1 hch1 hch2 h
  cases y with
  | true =>
    go_wp2_with fail
    refine (pick_any b l (K + 2 + 2) 2 _ hc2 hl (by omega) (by omega)).mono ?_
    rintro e w3 ⟨⟨z, rfl, hz⟩, hc3, hch3⟩
    have hcc := hch.trans hch3
    clear hc2 hch hch3
    go_wp2_with fail
    go_loopw [3, 4] (fun v i wr => ∃ (j : Nat) (L : List ByteArray), L.length + j ≤ 201 ∧ (∀ i (h : i < L.length), L[i].size ≤ 17) ∧ i = .int .i64 j ∧ wr.ownsRow w.heap.size 9 1 v L.length (L.map Value.string) ∧ Cur wr b l (K + 6 + 10 * L.length) ∧ Chg (· = b) w wr) (fun _ i _ => (intOf i).toNat)
    case atStart => exact ⟨200 + z, [], by simp; omega, by simp, by go_num, World.ownsRow_nil _ _ _ _, hc3.mono (by simp), hcc⟩
    case round =>
      obtain ⟨j, L, hL, hsz, rfl, hown, hc, hcg⟩ := hrel
      have HS : Hid (∀ i (h : i < L.length), L[i].size ≤ 17) := hsz
      clear hsz hc3 hcc
      by_cases hj : 0 < j
      · have gj : (0 : Int) < (j : Int) := by omega
        go_wp2_with fail
        refine (key_any b l _ _ hc hl (by omega)).mono ?_
        rintro e w4 ⟨⟨q, rfl, hq⟩, hc4, hch4⟩
        go_wp2_with fail
        refine (one_any b l _ 2 _ hc4 hl (by omega) (by omega)).mono ?_
        rintro e w5 ⟨⟨y2, rfl⟩, hc5, hch5⟩
        have hcg5 := (hcg.trans hch4).trans hch5
        have hown5 := (hch4.trans hch5).owns hown (fun g hg h => by have := owns_ge hown g hg; omega)
        clear hc hc4 hown hcg hch4 hch5
        cases y2 with
        | true =>
          go_wp2_with fail
          refine (pick_any b l _ 26 _ hc5 hl (by omega) (by omega)).mono ?_
          rintro e w6 ⟨⟨p1, rfl, hp1⟩, hc6, hch6⟩
          go_wp2_with fail
          refine (pick_any b l _ 26 _ hc6 hl (by omega) (by omega)).mono ?_
          rintro e w7 ⟨⟨p2, rfl, hp2⟩, hc7, hch7⟩
          have hcg7 := (hcg5.trans hch6).trans hch7
          have hown7 := (hch6.trans hch7).owns hown5 (fun g hg h => by have := owns_ge hown5 g hg; omega)
          have hz7 := hcg7.size
          obtain ⟨t, ht, hcv⟩ := two_bytes p1 p2 w7 (by omega) (by omega)
          have hA7 := below_alloc w7 (.cells #[.int .u8 (97 + (p1 : Int)), .int .u8 (97 + (p2 : Int))] 5)
          have HC : Hid (Cur (w7.alloc (.cells #[.int .u8 (97 + (p1 : Int)), .int .u8 (97 + (p2 : Int))] 5)) b l (K + 6 + 10 * (L.length + 1))) := (hc7.mono (by omega)).chg hA7
          have HN : Hid (∀ i (h : i < (L ++ [t]).length), (L ++ [t])[i].size ≤ 17) := sizes_snoc HS.out ht
          have hown8 := owns_below hown7 hA7
          have hcg8 := hcg7.trans (Chg.of_below (S := (· = b)) hA7)
          clear hc5 hc6 hown5 hcg5 hch6 hch7 hc7 HS hown7 hcg7 hA7
          have hz8 := hcg8.size
          go_wp2_with (at_builtin; refine wpList_append_own _ rfl _ _ 33 rfl w.heap.size 9 i0 (.string ⟨#[]⟩) 1 16 Try.underlying33 hi hz0 hzs hzb rfl (by decide) _ L.length (L.map Value.string) rfl (owns_below hown8 (below_alloc _ _)) ⟨w7.heap.size + 1, 0, none⟩ 1 1 [.string t] rfl rfl (by intro j u hj; match j, hj with | 0, hj => simp at hj; subst hj; simp [Addr.add]) (by intro u hu; simp at hu; subst hu; rfl) (by unfold maxLen; omega) (by omega) (by simp; omega) ?_; intro v' w6 hown6 hgrow6 _)
          have hb6 := ((Below.refl w.heap.size _).alloc hz8 _).grown hgrow6 (by simp; omega) (owns_ge hown8)
          go_roundw
          case rel => exact ⟨j - 1, L ++ [t], by simp; omega, HN.out, by go_num, by rw [List.length_append, List.map_append]; exact hown6, by rw [List.length_append]; exact cur_low HC.out hbw hb6, chg_below hcg8 hb6⟩
          case measure => simp [intOf]; omega
        | false =>
          have hz5 := hcg5.size
          have HC : Hid (Cur w5 b l (K + 6 + 10 * (L.length + 1))) := hc5.mono (by omega)
          have HN : Hid (∀ i (h : i < (L ++ [q]).length), (L ++ [q])[i].size ≤ 17) := sizes_snoc HS.out hq
          clear hc5 HS
          go_wp2_with (at_builtin; refine wpList_append_own _ rfl _ _ 33 rfl w.heap.size 9 i0 (.string ⟨#[]⟩) 1 16 Try.underlying33 hi hz0 hzs hzb rfl (by decide) _ L.length (L.map Value.string) rfl (owns_below hown5 (below_alloc _ _)) ⟨w5.heap.size, 0, none⟩ 1 1 [.string q] rfl rfl (by intro j u hj; match j, hj with | 0, hj => simp at hj; subst hj; simp [Addr.add]) (by intro u hu; simp at hu; subst hu; rfl) (by unfold maxLen; omega) (by omega) (by simp; omega) ?_; intro v' w6 hown6 hgrow6 _)
          have hb6 := ((Below.refl w.heap.size w5).alloc hz5 _).grown hgrow6 (by simp; omega) (owns_ge hown5)
          go_roundw
          case rel => exact ⟨j - 1, L ++ [q], by simp; omega, HN.out, by go_num, by rw [List.length_append, List.map_append]; exact hown6, by rw [List.length_append]; exact cur_low HC.out hbw hb6, chg_below hcg5 hb6⟩
          case measure => simp [intOf]; omega
      · have gj : (j : Int) ≤ 0 := by omega
        go_wp2
        go_ret
        exact ⟨⟨_, L, rfl, by omega, HS.out, hown⟩, hc.mono (by omega), hcg⟩
  | false =>
    have hc3 := hc2.mono (show K + 2 + 2 ≤ K + 6 by omega)
    have hcc := hch
    clear hc2 hch
    go_wp2_with fail
    go_loopw [3, 4] (fun v i wr => ∃ (j : Nat) (L : List ByteArray), L.length + j ≤ 201 ∧ (∀ i (h : i < L.length), L[i].size ≤ 17) ∧ i = .int .i64 j ∧ wr.ownsRow w.heap.size 9 1 v L.length (L.map Value.string) ∧ Cur wr b l (K + 6 + 10 * L.length) ∧ Chg (· = b) w wr) (fun _ i _ => (intOf i).toNat)
    case atStart => exact ⟨x, [], by simp; omega, by simp, rfl, World.ownsRow_nil _ _ _ _, hc3.mono (by simp), hcc⟩
    case round =>
      obtain ⟨j, L, hL, hsz, rfl, hown, hc, hcg⟩ := hrel
      have HS : Hid (∀ i (h : i < L.length), L[i].size ≤ 17) := hsz
      clear hsz hc3 hcc
      by_cases hj : 0 < j
      · have gj : (0 : Int) < (j : Int) := by omega
        go_wp2_with fail
        refine (key_any b l _ _ hc hl (by omega)).mono ?_
        rintro e w4 ⟨⟨q, rfl, hq⟩, hc4, hch4⟩
        go_wp2_with fail
        refine (one_any b l _ 2 _ hc4 hl (by omega) (by omega)).mono ?_
        rintro e w5 ⟨⟨y2, rfl⟩, hc5, hch5⟩
        have hcg5 := (hcg.trans hch4).trans hch5
        have hown5 := (hch4.trans hch5).owns hown (fun g hg h => by have := owns_ge hown g hg; omega)
        clear hc hc4 hown hcg hch4 hch5
        cases y2 with
        | true =>
          go_wp2_with fail
          refine (pick_any b l _ 26 _ hc5 hl (by omega) (by omega)).mono ?_
          rintro e w6 ⟨⟨p1, rfl, hp1⟩, hc6, hch6⟩
          go_wp2_with fail
          refine (pick_any b l _ 26 _ hc6 hl (by omega) (by omega)).mono ?_
          rintro e w7 ⟨⟨p2, rfl, hp2⟩, hc7, hch7⟩
          have hcg7 := (hcg5.trans hch6).trans hch7
          have hown7 := (hch6.trans hch7).owns hown5 (fun g hg h => by have := owns_ge hown5 g hg; omega)
          have hz7 := hcg7.size
          obtain ⟨t, ht, hcv⟩ := two_bytes p1 p2 w7 (by omega) (by omega)
          have hA7 := below_alloc w7 (.cells #[.int .u8 (97 + (p1 : Int)), .int .u8 (97 + (p2 : Int))] 5)
          have HC : Hid (Cur (w7.alloc (.cells #[.int .u8 (97 + (p1 : Int)), .int .u8 (97 + (p2 : Int))] 5)) b l (K + 6 + 10 * (L.length + 1))) := (hc7.mono (by omega)).chg hA7
          have HN : Hid (∀ i (h : i < (L ++ [t]).length), (L ++ [t])[i].size ≤ 17) := sizes_snoc HS.out ht
          have hown8 := owns_below hown7 hA7
          have hcg8 := hcg7.trans (Chg.of_below (S := (· = b)) hA7)
          clear hc5 hc6 hown5 hcg5 hch6 hch7 hc7 HS hown7 hcg7 hA7
          have hz8 := hcg8.size
          go_wp2_with (at_builtin; refine wpList_append_own _ rfl _ _ 33 rfl w.heap.size 9 i0 (.string ⟨#[]⟩) 1 16 Try.underlying33 hi hz0 hzs hzb rfl (by decide) _ L.length (L.map Value.string) rfl (owns_below hown8 (below_alloc _ _)) ⟨w7.heap.size + 1, 0, none⟩ 1 1 [.string t] rfl rfl (by intro j u hj; match j, hj with | 0, hj => simp at hj; subst hj; simp [Addr.add]) (by intro u hu; simp at hu; subst hu; rfl) (by unfold maxLen; omega) (by omega) (by simp; omega) ?_; intro v' w6 hown6 hgrow6 _)
          have hb6 := ((Below.refl w.heap.size _).alloc hz8 _).grown hgrow6 (by simp; omega) (owns_ge hown8)
          go_roundw
          case rel => exact ⟨j - 1, L ++ [t], by simp; omega, HN.out, by go_num, by rw [List.length_append, List.map_append]; exact hown6, by rw [List.length_append]; exact cur_low HC.out hbw hb6, chg_below hcg8 hb6⟩
          case measure => simp [intOf]; omega
        | false =>
          have hz5 := hcg5.size
          have HC : Hid (Cur w5 b l (K + 6 + 10 * (L.length + 1))) := hc5.mono (by omega)
          have HN : Hid (∀ i (h : i < (L ++ [q]).length), (L ++ [q])[i].size ≤ 17) := sizes_snoc HS.out hq
          clear hc5 HS
          go_wp2_with (at_builtin; refine wpList_append_own _ rfl _ _ 33 rfl w.heap.size 9 i0 (.string ⟨#[]⟩) 1 16 Try.underlying33 hi hz0 hzs hzb rfl (by decide) _ L.length (L.map Value.string) rfl (owns_below hown5 (below_alloc _ _)) ⟨w5.heap.size, 0, none⟩ 1 1 [.string q] rfl rfl (by intro j u hj; match j, hj with | 0, hj => simp at hj; subst hj; simp [Addr.add]) (by intro u hu; simp at hu; subst hu; rfl) (by unfold maxLen; omega) (by omega) (by simp; omega) ?_; intro v' w6 hown6 hgrow6 _)
          have hb6 := ((Below.refl w.heap.size w5).alloc hz5 _).grown hgrow6 (by simp; omega) (owns_ge hown5)
          go_roundw
          case rel => exact ⟨j - 1, L ++ [q], by simp; omega, HN.out, by go_num, by rw [List.length_append, List.map_append]; exact hown6, by rw [List.length_append]; exact cur_low HC.out hbw hb6, chg_below hcg5 hb6⟩
          case measure => simp [intOf]; omega
      · have gj : (j : Int) ≤ 0 := by omega
        go_wp2
        go_ret
        exact ⟨⟨_, L, rfl, by omega, HS.out, hown⟩, hc.mono (by omega), hcg⟩
end Go.Proofs.Ytdcglghmhjbkkaa
