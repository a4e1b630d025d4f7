/-
  Filters: the specification's small functions; the law's own helpers.
-/
import Derived.Test.YtdcglghmhjbkkaaF1
namespace Go.Proofs.Ytdcglghmhjbkkaa
open Go.RowKit
set_option linter.unusedVariables false
set_option maxRecDepth 100000

/-- The walk stands here. -/
def Stop (p : Prop) : Prop := p
theorem Stop.go {p : Prop} (h : Stop p) : p := h
/-- What NewFilter answers. -/
def newF (n : Int) : Int × ByteArray × Int × Bool := if goodH n then (n, zerS, 0, true) else (0, ⟨#[]⟩, 0, false)
theorem implNew (n : Int) (w : World) : Calls Try.prog 27 #[.int .i64 n] w fun e w' =>
    e = .returned (.tuple #[.agg #[.int .i64 (newF n).1, .string (newF n).2.1, .int .i64 (newF n).2.2.1], .bool (newF n).2.2.2]) ∧ Below w.heap.size w w' := by
  refine (implNew_any n w).mono ?_
  rintro e w' ⟨rfl, hb⟩
  refine ⟨?_, hb⟩
  unfold newF
  cases goodH n <;> rfl

theorem l1In_any (x a b : Int) (w : World) : Calls Try.prog 58 #[.int .i64 x, .int .i64 a, .int .i64 b] w fun e w' => e = .returned (.bool (decide (a ≤ x) && decide (x ≤ b))) ∧ w' = w := by
  by_cases h1 : a ≤ x <;> by_cases h2 : x ≤ b
  all_goals
    go_enter Try.func58, Try.ntmps58
    go_wp2
    go_ret
    simp [h1, h2]
theorem l5Hashes_any (n : Int) (w : World) : Calls Try.prog 56 #[.int .i64 n] w fun e w' => e = .returned (.bool (goodH n)) ∧ w' = w := by
  go_enter Try.func56, Try.ntmps56
  go_wp2_with fail
  refine (l1In_any n 1 8 _).mono ?_
  rintro e w1 ⟨rfl, rfl⟩
  go_wp2
  go_ret
  exact ⟨rfl, rfl⟩
def goodK (s : ByteArray) : Bool := decide ((1 : Int) ≤ s.size) && decide ((s.size : Int) ≤ 16)
theorem l4Key_any (s : ByteArray) (w : World) : Calls Try.prog 47 #[.string s] w fun e w' => e = .returned (.bool (goodK s)) ∧ w' = w := by
  go_enter Try.func47, Try.ntmps47
  go_wp2_with fail
  refine (l1In_any (s.size : Int) 1 16 _).mono ?_
  rintro e w1 ⟨rfl, rfl⟩
  go_wp2
  go_ret
  exact ⟨rfl, rfl⟩
theorem goodKey_any (s : ByteArray) (w : World) : Calls Try.prog 52 #[.string s] w fun e w' => e = .returned (.bool (goodK s)) ∧ w' = w := by
  have HG : Hid (goodK s = (decide ((1 : Int) ≤ s.size) && decide ((s.size : Int) ≤ 16))) := rfl
  generalize goodK s = r at *
  cases h1 : decide ((1 : Int) ≤ s.size) <;> cases h2 : decide ((s.size : Int) ≤ 16)
  all_goals
    rw [h1, h2] at HG
    obtain rfl := HG.out
    clear HG
    go_enter Try.func52, Try.ntmps52
    go_wp2
    go_ret
    exact ⟨rfl, rfl⟩

theorem Try.info5b : (Try.prog.info? 5).map (fun i => (i.zero, i.size, i.bytes)) = some (some (.int .u8 0), 1, 1) := by kernel_rfl
set_option maxHeartbeats 1000000 in
theorem specNew (n : Int) (w : World) : Calls Try.prog 26 #[.int .i64 n] w fun e w' =>
    e = .returned (.tuple #[.agg #[.int .i64 (newF n).1, .string (newF n).2.1, .int .i64 (newF n).2.2.1], .bool (newF n).2.2.2]) ∧ Below w.heap.size w w' := by
  have HN : Hid (newF n = if goodH n then (n, zerS, 0, true) else (0, ⟨#[]⟩, 0, false)) := rfl
  generalize newF n = R at *
  cases hg : goodH n
  · rw [hg] at HN
    obtain rfl := HN.out
    clear HN
    go_enter Try.func26, Try.ntmps26
    go_wp2_with fail
    refine (l5Hashes_any n _).mono ?_
    rintro e w1 ⟨rfl, rfl⟩
    rw [hg]
    go_wp2
    exact bodyPost_ret (v := .tuple #[.agg #[.int .i64 0, .string ⟨#[]⟩, .int .i64 0], .bool false]) (by simp [results, Try.results26, go_sem]) rfl ⟨rfl, below_alloc _ _⟩
  · rw [hg] at HN
    obtain rfl := HN.out
    clear HN
    obtain ⟨i0, hi, hz0, hz1, hz2⟩ := info_parts Try.info5b
    go_enter Try.func26, Try.ntmps26
    go_wp2_with fail
    refine (l5Hashes_any n _).mono ?_
    rintro e w1 ⟨rfl, rfl⟩
    rw [hg]
    have hbx := Box.new w #[.int .i64 0, .string ⟨#[]⟩, .int .i64 0] 24
    have hb := below_alloc w (.cells #[.int .i64 0, .string ⟨#[]⟩, .int .i64 0] 24)
    obtain ⟨W, hW⟩ : ∃ W, W = w.alloc (.cells #[.int .i64 0, .string ⟨#[]⟩, .int .i64 0] 24) := ⟨_, rfl⟩
    rw [← hW] at hbx hb
    go_wp2_with (at_make; rw [← hW]; clear hW; refine wpList_make_full _ rfl _ _ 22 rfl W.heap.size 5 i0 _ 1 Try.underlying22 hi hz0 hz1 .i64 .i64 _ _ 32 rfl rfl rfl rfl (by rw [hz2]; omega) (by unfold maxLen; omega) (Nat.le_refl _) ?_; intro w0 hown0 hgr0; refine Stop.go ?_)
    rw [made_one _ rfl] at hown0
    have hcv := conv_back (l := zer32) hown0
    have hb0 : Below W.heap.size W w0 := (Below.refl _ _).grown hgr0 (Nat.le_refl _) (by simp)
    have bx := hbx.below hb0
    obtain ⟨⟨f0, f1, f2⟩, c0, c1, c2, c3⟩ := bx.f3
    obtain ⟨⟨t0, t1, t2⟩, hB⟩ := put3_ok (below_then hb hb0) (Nat.le_refl _) bx (.int .i64 n) (.string zerS) (.int .i64 0)
    clear hown0 hgr0 hi hz0 hz1 hz2 hb0 bx hbx
    have hcv' : (convert 22 9 (.slice (some ⟨W.heap.size, 0, none⟩) 32 32)).run Try.prog w0 = .ok (.string zerS) w0 := hcv
    clear hcv
    unfold Stop
    go_wp2
    change bodyPost _ _ _ _ _ (put3 w0 w.heap.size (.int .i64 n) (.string zerS) (.int .i64 0))
    generalize put3 w0 w.heap.size (.int .i64 n) (.string zerS) (.int .i64 0) = W' at *
    exact bodyPost_ret (v := .tuple #[.agg #[.int .i64 n, .string zerS, .int .i64 0], .bool true]) (by simp [results, Try.results26, go_sem, t0, t1, t2]) rfl ⟨rfl, hB⟩

set_option maxHeartbeats 1000000 in
theorem specGood_any (n : Int) (s : ByteArray) (m : Int) (w : World) : Calls Try.prog 30 #[.agg #[.int .i64 n, .string s, .int .i64 m]] w fun e w' =>
    e = .returned (.bool (goodF n s m)) ∧ Below w.heap.size w w' := by
  have HG : Hid (goodF n s m = (goodH n && decide (s.size = 32) && (decide (0 ≤ m) && decide (m ≤ 1000000)))) := by show _ = _; unfold goodF; rw [Bool.and_assoc]
  generalize goodF n s m = r at *
  have e1 : decide (s.size = 32) = ((s.size : Int) == 32) := by rw [Bool.eq_iff_iff]; simp; omega
  rw [e1] at HG; clear e1
  cases hg : goodH n <;> cases h1 : ((s.size : Int) == 32) <;> cases h2 : (decide (0 ≤ m) && decide (m ≤ 1000000))
  all_goals
    rw [hg, h1, h2] at HG
    obtain rfl := HG.out
    clear HG
    go_enter Try.func30, Try.ntmps30
    go_wp2_with fail
    refine (l5Hashes_any n _).mono ?_
    rintro e w1 ⟨rfl, rfl⟩
    rw [hg]
    go_wp2_with (go_at_call 58; refine (l1In_any m 0 1000000 _).mono ?_; rintro e w2 ⟨rfl, rfl⟩; rw [h2])
    go_ret
    exact ⟨rfl, below_alloc _ _⟩

set_option maxHeartbeats 1000000 in
theorem eqFilter_same (n : Int) (s : ByteArray) (m : Int) (w : World) : Calls Try.prog 28 #[.agg #[.int .i64 n, .string s, .int .i64 m], .agg #[.int .i64 n, .string s, .int .i64 m]] w fun e w' =>
    e = .returned (.bool true) ∧ Below w.heap.size w w' := by
  go_enter Try.func28, Try.ntmps28
  go_wp2
  go_ret
  exact ⟨rfl, below2 _ _ _⟩
def szL (s : ByteArray) (left : Int) : Int := if left - s.size < 0 then -1 else left - s.size
set_option maxHeartbeats 1000000 in
theorem szFilter_any (n : Int) (s : ByteArray) (m left : Int) (hs : (s.size : Int) ≤ 9223372036854775807) (hl : 0 ≤ left ∧ left ≤ 1048576) (w : World) : Calls Try.prog 29 #[.agg #[.int .i64 n, .string s, .int .i64 m], .int .i64 left] w fun e w' =>
    e = .returned (.int .i64 (szL s left)) ∧ Below w.heap.size w w' := by
  have HG : Hid (szL s left = if left - s.size < 0 then -1 else left - s.size) := rfl
  generalize szL s left = r at *
  by_cases h : left - s.size < 0
  · rw [if_pos h] at HG
    obtain rfl := HG.out
    clear HG
    go_enter Try.func29, Try.ntmps29
    go_wp2
    go_ret
    exact ⟨rfl, below_alloc _ _⟩
  · rw [if_neg h] at HG
    obtain rfl := HG.out
    clear HG
    go_enter Try.func29, Try.ntmps29
    go_wp2
    go_ret
    exact ⟨rfl, below_alloc _ _⟩
set_option maxHeartbeats 1000000 in
theorem toFilter_any (n : Int) (s : ByteArray) (m : Int) (w : World) : Calls Try.prog 31 #[.agg #[.int .i64 n, .string s, .int .i64 m]] w fun e w' =>
    e = .returned (.agg #[.int .i64 n, .string s, .int .i64 m]) ∧ Below w.heap.size w w' := by
  go_enter Try.func31, Try.ntmps31
  go_wp2
  exact bodyPost_ret (v := .agg #[.int .i64 n, .string s, .int .i64 m]) (by simp [results, Try.results31, go_sem]) rfl ⟨rfl, below3 _ _ _ _⟩
end Go.Proofs.Ytdcglghmhjbkkaa
