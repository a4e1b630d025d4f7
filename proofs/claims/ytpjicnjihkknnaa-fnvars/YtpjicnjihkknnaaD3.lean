/-
  The cursor's among and of; spec.DrawVarBytes, spec.DrawTakeVar.
-/
import Derived.Test.YtpjicnjihkknnaaD2
import Derived.Test.YtpjicnjihkknnaaV2
namespace Go.Proofs.Ytpjicnjihkknnaa
open Go.RowKit
set_option linter.unusedVariables false

set_option maxRecDepth 100000 in
set_option maxHeartbeats 1000000 in
theorem among_any (b : Nat) (l : List UInt8) (K g : Nat) (xs : List Int) (w : World) (h : Cur w b l K) (hl : l.length ≤ 9223372036854775807) (hK : K ≤ 10000000) (hx : Box w g (xs.map (Value.int .i64))) (hg : g ≠ b) (h0 : 0 < xs.length) (h1 : xs.length ≤ 1000) :
    Calls Try.prog 47 #[.pointer (some ⟨b, 0, none⟩), .slice (some ⟨g, 0, none⟩) xs.length xs.length] w fun e w' => (∃ x, e = .returned (.int .i64 x) ∧ x ∈ xs) ∧ Cur w' b l (K + 2) ∧ Chg (· = b) w w' := by
  go_enter Try.func47, Try.ntmps47
  go_wp2_with fail
  refine (pick_any b l K xs.length _ h hl (by omega) (by omega)).mono ?_
  rintro e w1 ⟨⟨x, rfl, hxl⟩, hc1, hch1⟩
  have hlt : x < xs.length := by omega
  have hx1 := hch1.box hx hg
  have d0 := hx1.2.1 x (.int .i64 xs[x]) (by simp [hlt])
  have hgl := hx1.1
  obtain ⟨y, hy⟩ : ∃ y, y = xs[x] := ⟨_, rfl⟩
  have hmem : Hid (y ∈ xs) := by rw [hy]; exact List.getElem_mem _
  rw [← hy] at d0
  clear hy hx hx1
  go_wp2
  go_ret
  exact ⟨⟨y, rfl, hmem.out⟩, hc1, hch1⟩

set_option maxRecDepth 100000 in
set_option maxHeartbeats 1000000 in
theorem of_any (b : Nat) (l : List UInt8) (K g : Nat) (xs : List ByteArray) (w : World) (h : Cur w b l K) (hl : l.length ≤ 9223372036854775807) (hK : K ≤ 10000000) (hx : Box w g (xs.map Value.string)) (hg : g ≠ b) (h0 : 0 < xs.length) (h1 : xs.length ≤ 1000) :
    Calls Try.prog 50 #[.pointer (some ⟨b, 0, none⟩), .slice (some ⟨g, 0, none⟩) xs.length xs.length] w fun e w' => (∃ x, e = .returned (.string x) ∧ x ∈ xs) ∧ Cur w' b l (K + 2) ∧ Chg (· = b) w w' := by
  go_enter Try.func50, Try.ntmps50
  go_wp2_with fail
  refine (pick_any b l K xs.length _ h hl (by omega) (by omega)).mono ?_
  rintro e w1 ⟨⟨x, rfl, hxl⟩, hc1, hch1⟩
  have hlt : x < xs.length := by omega
  have hx1 := hch1.box hx hg
  have d0 := hx1.2.1 x (.string xs[x]) (by simp [hlt])
  have hgl := hx1.1
  obtain ⟨y, hy⟩ : ∃ y, y = xs[x] := ⟨_, rfl⟩
  have hmem : Hid (y ∈ xs) := by rw [hy]; exact List.getElem_mem _
  rw [← hy] at d0
  clear hy hx hx1
  go_wp2
  go_ret
  exact ⟨⟨y, rfl, hmem.out⟩, hc1, hch1⟩

set_option maxRecDepth 100000 in
set_option maxHeartbeats 1000000 in
theorem drawVar_any (v : Value) (l : List UInt8) (w : World) (h : YL w v l) (hl : l.length ≤ 9223372036854775807) :
    Calls Try.prog 15 #[v] w fun e w' => (∃ n : Int, e = .returned (.int .i64 n) ∧ -9223372036854775808 ≤ n ∧ n ≤ 9223372036854775807) ∧ Below w.heap.size w w' := by
  have hc := cur_new h
  have hb := below_alloc w (.cells #[v, .int .i64 0, .int .u64 0] 58)
  obtain ⟨a, cap, rfl, _⟩ := h
  go_enter Try.func15, Try.ntmps15
  go_wp2_with fail
  refine (pick_any _ l 0 4 _ hc hl (by omega) (by omega)).mono ?_
  rintro e w1 ⟨⟨x, rfl, hx⟩, hc1, hch1⟩
  have hz1 := hch1.size
  have hblt := hc1.lt
  by_cases x0 : x = 0
  · subst x0
    go_wp2_with fail
    refine (among_any w.heap.size l 2 w1.heap.size [-1, 0, 127, 128, 16383, 16384, 9223372036854775807] _ (hc1.chg (below_alloc _ _)) hl (by omega) (Box.new w1 #[.int .i64 (-1), .int .i64 0, .int .i64 127, .int .i64 128, .int .i64 16383, .int .i64 16384, .int .i64 9223372036854775807] 3) (by omega) (by simp) (by simp)).mono ?_
    rintro e w2 ⟨⟨y, rfl, hy⟩, hc2, hch2⟩
    have hB := below_cur hb (hch1.trans ((Chg.of_below (below_alloc _ _)).trans hch2))
    go_wp2
    go_ret
    refine ⟨⟨y, rfl, ?_⟩, hB⟩
    simp at hy
    omega
  · by_cases x1 : x = 1
    · subst x1
      go_wp2_with fail
      refine (wide_any _ l 2 _ hc1 hl (by omega)).mono ?_
      rintro e w2 ⟨⟨y, rfl, hy⟩, hc2, hch2⟩
      go_wp2
      go_ret
      exact ⟨⟨_, rfl, bits_i64 _ _ _⟩, below_cur hb (hch1.trans hch2)⟩
    · have g0 : ((x : Int) == 0) = false := by rw [beq_eq_false_iff_ne]; omega
      have g1 : ((x : Int) == 1) = false := by rw [beq_eq_false_iff_ne]; omega
      go_wp2_with fail
      refine (pick_any _ l 2 1000 _ hc1 hl (by omega) (by omega)).mono ?_
      rintro e w2 ⟨⟨y, rfl, hy⟩, hc2, hch2⟩
      go_wp2
      go_ret
      exact ⟨⟨y, rfl, by omega, by omega⟩, below_cur hb (hch1.trans hch2)⟩

theorem varT_le (n : Int) (h : n ≤ 9223372036854775807) : (varT n).size ≤ 9 := by
  by_cases h0 : 0 ≤ n
  · obtain ⟨k, rfl⟩ := Int.eq_ofNat_of_zero_le h0
    rw [varT_nat]
    have := varL_len 8 k (by simpa using (show k < 9223372036854775808 from by omega))
    show (varL k).toArray.size ≤ 9
    simpa using this
  · rw [varT_neg n (by omega)]; exact Nat.zero_le _

set_option maxRecDepth 100000 in
set_option maxHeartbeats 1000000 in
theorem drawTake_any (v : Value) (l : List UInt8) (w : World) (h : YL w v l) (hl : l.length ≤ 9223372036854775807) :
    Calls Try.prog 19 #[v] w fun e w' => (∃ s : ByteArray, e = .returned (.string s) ∧ s.size ≤ 20) ∧ Below w.heap.size w w' := by
  have hc := cur_new h
  have hy := h.below (below_alloc w (.cells #[v, .int .i64 0, .int .u64 0] 58))
  have hb := below_alloc w (.cells #[v, .int .i64 0, .int .u64 0] 58)
  obtain ⟨a, cap, rfl, _⟩ := h
  go_enter Try.func19, Try.ntmps19
  go_wp2_with fail
  refine (drawVar_any _ l _ hy hl).mono ?_
  rintro e w1 ⟨⟨n, rfl, hn1, hn2⟩, hb1⟩
  have hc1 := hc.chg hb1
  have hB1 := below_then hb hb1
  clear hc hy hb hb1
  go_wp2_with fail
  refine (specVar_any n _ hn1 hn2).mono ?_
  rintro e w2 ⟨rfl, hb2⟩
  have hc2 := hc1.chg hb2
  have hB2 := below_then hB1 hb2
  have hT := varT_le n hn2
  clear hc1 hB1 hb2
  go_wp2_with fail
  refine (pick_any _ l 0 4 _ hc2 hl (by omega) (by omega)).mono ?_
  rintro e w3 ⟨⟨x, rfl, hx⟩, hc3, hch3⟩
  have hblt := hc3.lt
  generalize varT n = T at *
  by_cases x0 : x = 0
  · subst x0
    go_wp2_with fail
    refine (of_any w.heap.size l 2 w3.heap.size [⟨#[]⟩, ⟨#[128]⟩, ⟨#[128, 0]⟩, ⟨#[255, 255, 255, 255, 255, 255, 255, 255, 255, 1]⟩, ⟨#[255, 255, 255, 255, 255, 255, 255, 255, 127]⟩] _ (hc3.chg (below_alloc _ _)) hl (by omega) (Box.new w3 #[.string ⟨#[]⟩, .string ⟨#[128]⟩, .string ⟨#[128, 0]⟩, .string ⟨#[255, 255, 255, 255, 255, 255, 255, 255, 255, 1]⟩, .string ⟨#[255, 255, 255, 255, 255, 255, 255, 255, 127]⟩] 9) (by omega) (by simp) (by simp)).mono ?_
    rintro e w4 ⟨⟨y, rfl, hy⟩, hc4, hch4⟩
    have hB := below_cur hB2 (hch3.trans ((Chg.of_below (below_alloc _ _)).trans hch4))
    have hys : y.size ≤ 20 := by
      simp only [List.mem_cons, List.not_mem_nil, or_false] at hy
      rcases hy with rfl | rfl | rfl | rfl | rfl <;> decide
    clear hy
    go_wp2
    go_ret
    exact ⟨⟨y, rfl, hys⟩, hB⟩
  · by_cases x1 : x = 1
    · subst x1
      go_wp2_with fail
      refine (text_any _ l 2 3 _ hc3 hl (by omega) (by omega)).mono ?_
      rintro e w4 ⟨⟨s, rfl, hs⟩, hc4, hch4⟩
      go_wp2
      go_ret
      exact ⟨⟨_, rfl, by rw [ByteArray.size_append]; omega⟩, below_cur hB2 (hch3.trans hch4)⟩
    · have g0 : ((x : Int) == 0) = false := by rw [beq_eq_false_iff_ne]; omega
      have g1 : ((x : Int) == 1) = false := by rw [beq_eq_false_iff_ne]; omega
      go_wp2
      go_ret
      exact ⟨⟨T, rfl, by omega⟩, below_cur hB2 hch3⟩
end Go.Proofs.Ytpjicnjihkknnaa
