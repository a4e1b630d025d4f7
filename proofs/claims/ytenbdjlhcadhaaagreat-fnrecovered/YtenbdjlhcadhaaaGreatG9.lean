/-
  Which metas are good: both sides; which have a key in common.
-/
import Derived.Test.YtenbdjlhcadhaaaGreatM1
namespace Go.Proofs.YtenbdjlhcadhaaaGreat
open Go.RowKit
set_option linter.unusedVariables false
set_option maxRecDepth 100000

theorem l1In_any (n lo hi : Int) (w : World) :
    Calls Tryz.prog 58 #[.int .i64 n, .int .i64 lo, .int .i64 hi] w fun e w' => e = .returned (.bool (decide (lo ≤ n) && decide (n ≤ hi))) ∧ w' = w := by
  by_cases h1 : lo ≤ n <;> by_cases h2 : n ≤ hi
  all_goals
    go_enter Tryz.func58, Tryz.ntmps58
    go_wp2
    go_ret
    simp [h1, h2]
theorem l4Key_any (k : ByteArray) (w : World) (hk : k.size ≤ 1048576) :
    Calls Tryz.prog 80 #[.string k] w fun e w' => e = .returned (.bool (okKey k)) ∧ w' = w := by
  go_enter Tryz.func80, Tryz.ntmps80
  go_wp2_with fail
  refine (l1In_any _ _ _ _).mono ?_
  rintro e w1 ⟨rfl, rfl⟩
  go_wp2
  go_ret
  exact ⟨rfl, rfl⟩
theorem l4Seq_any (n : Int) (w : World) :
    Calls Tryz.prog 83 #[.int .i64 n] w fun e w' => e = .returned (.bool (okSeq n)) ∧ w' = w := by
  go_enter Tryz.func83, Tryz.ntmps83
  go_wp2_with fail
  refine (l1In_any _ _ _ _).mono ?_
  rintro e w1 ⟨rfl, rfl⟩
  go_wp2
  go_ret
  exact ⟨rfl, rfl⟩
theorem l9Counts_any (x y : Int) (w : World) :
    Calls Tryz.prog 59 #[.int .i64 x, .int .i64 y] w fun e w' => e = .returned (.bool (okNext x && okSeq y)) ∧ w' = w := by
  have A : ∀ w, Calls Tryz.prog 58 #[.int .i64 x, .int .i64 1, .int .i64 100001] w fun e w' => e = .returned (.bool (okNext x)) ∧ w' = w := fun w => l1In_any x 1 100001 w
  have B := fun w => l4Seq_any y w
  generalize okNext x = b1 at *
  generalize okSeq y = b2 at *
  go_enter Tryz.func59, Tryz.ntmps59
  go_wp2_with fail
  refine (A _).mono ?_
  rintro e w1 ⟨rfl, rfl⟩
  cases b1
  · go_wp2
    go_ret
    exact ⟨rfl, rfl⟩
  · go_wp2_with fail
    refine (B _).mono ?_
    rintro e w1 ⟨rfl, rfl⟩
    go_wp2
    go_ret
    exact ⟨rfl, rfl⟩
theorem goodKey_any (k : ByteArray) (w : World) (hk : k.size ≤ 1048576) :
    Calls Tryz.prog 93 #[.string k] w fun e w' => e = .returned (.bool (okKey k)) ∧ w' = w := by
  by_cases h1 : (1 : Int) ≤ k.size <;> by_cases h2 : (k.size : Int) ≤ 16
  all_goals
    go_enter Tryz.func93, Tryz.ntmps93
    go_wp2
    go_ret
    simp [okKey, h1, h2]
theorem goodSeq_any (n : Int) (w : World) :
    Calls Tryz.prog 41 #[.int .i64 n] w fun e w' => e = .returned (.bool (okSeq n)) ∧ w' = w := by
  by_cases h1 : 0 ≤ n <;> by_cases h2 : n ≤ 1000000000
  all_goals
    go_enter Tryz.func41, Tryz.ntmps41
    go_wp2
    go_ret
    simp [okSeq, h1, h2]
theorem goodNext_any (n : Int) (w : World) :
    Calls Tryz.prog 40 #[.int .i64 n] w fun e w' => e = .returned (.bool (okNext n)) ∧ w' = w := by
  by_cases h1 : 1 ≤ n <;> by_cases h2 : n ≤ 100001
  all_goals
    go_enter Tryz.func40, Tryz.ntmps40
    go_wp2
    go_ret
    simp [okNext, h1, h2]
theorem goodNumber_any (n : Int) (w : World) :
    Calls Tryz.prog 81 #[.int .i64 n] w fun e w' => e = .returned (.bool (okNum n)) ∧ w' = w := by
  by_cases h1 : 1 ≤ n <;> by_cases h2 : n ≤ 100000
  all_goals
    go_enter Tryz.func81, Tryz.ntmps81
    go_wp2
    go_ret
    simp [okNum, h1, h2]

set_option maxHeartbeats 1000000 in
theorem l9Meta_any (n d : Int) (k v : ByteArray) (w : World) (hk : k.size ≤ 1048576) (hv : v.size ≤ 1048576) :
    Calls Tryz.prog 50 #[.agg #[.int .i64 n, .int .i64 d, .string k, .string v]] w fun e w' => e = .returned (.bool (okMt ⟨n, d, k, v⟩)) ∧ Below w.heap.size w w' := by
  have A : ∀ w, Calls Tryz.prog 58 #[.int .i64 n, .int .i64 1, .int .i64 100000] w fun e w' => e = .returned (.bool (okNum n)) ∧ w' = w := fun w => l1In_any n 1 100000 w
  have B : ∀ w, Calls Tryz.prog 58 #[.int .i64 d, .int .i64 0, .int .i64 3] w fun e w' => e = .returned (.bool (okLev d)) ∧ w' = w := fun w => l1In_any d 0 3 w
  have C := fun w => l4Key_any k w hk
  have D := fun w => l4Key_any v w hv
  have HO : Hid (okMt ⟨n, d, k, v⟩ = (okNum n && (okLev d && okKey k && okKey v && leK k v))) := rfl
  have HL : Hid (leK k v = (Op.bytesLess k.toList v.toList || k.toList == v.toList)) := rfl
  generalize okMt ⟨n, d, k, v⟩ = R at *
  generalize okNum n = b1 at *
  generalize okLev d = b2 at *
  generalize okKey k = b3 at *
  generalize okKey v = b4 at *
  go_enter Tryz.func50, Tryz.ntmps50
  go_wp2_with fail
  refine (A _).mono ?_
  rintro e w1 ⟨rfl, rfl⟩
  cases b1
  · clear HL
    go_wp2
    go_ret
    exact ⟨by rw [HO.out]; rfl, below_alloc _ _⟩
  · go_wp2_with fail
    refine (B _).mono ?_
    rintro e w1 ⟨rfl, rfl⟩
    cases b2
    · clear HL
      go_wp2
      go_ret
      exact ⟨by rw [HO.out]; rfl, below_alloc _ _⟩
    · go_wp2_with fail
      refine (C _).mono ?_
      rintro e w1 ⟨rfl, rfl⟩
      cases b3
      · clear HL
        go_wp2
        go_ret
        exact ⟨by rw [HO.out]; rfl, below_alloc _ _⟩
      · go_wp2_with fail
        refine (D _).mono ?_
        rintro e w1 ⟨rfl, rfl⟩
        cases b4
        · clear HL
          go_wp2
          go_ret
          exact ⟨by rw [HO.out]; rfl, below_alloc _ _⟩
        · have HR : Hid (R = (Op.bytesLess k.toList v.toList || k.toList == v.toList)) := by show _ = _; rw [HO.out, HL.out]; simp
          clear HL HO
          go_wp2
          go_ret
          exact ⟨by rw [HR.out]; rfl, below_alloc _ _⟩

set_option maxHeartbeats 1000000 in
theorem goodRange_any (n d : Int) (k v : ByteArray) (w : World) (hk : k.size ≤ 1048576) (hv : v.size ≤ 1048576) :
    Calls Tryz.prog 88 #[.agg #[.int .i64 n, .int .i64 d, .string k, .string v]] w fun e w' => e = .returned (.bool (okRg d k v)) ∧ Below w.heap.size w w' := by
  have C := fun w => goodKey_any k w hk
  have D := fun w => goodKey_any v w hv
  have HO : Hid (okRg d k v = (okLev d && okKey k && okKey v && leK k v)) := rfl
  have HL : Hid (leK k v = (Op.bytesLess k.toList v.toList || k.toList == v.toList)) := rfl
  generalize okRg d k v = R at *
  generalize okKey k = b3 at *
  generalize okKey v = b4 at *
  by_cases h1 : 0 ≤ d
  · by_cases h2 : d ≤ 3
    · have HB : Hid (okLev d = true) := by show _ = _; simp [okLev, h1, h2]
      go_enter Tryz.func88, Tryz.ntmps88
      go_wp2_with fail
      refine (C _).mono ?_
      rintro e w1 ⟨rfl, rfl⟩
      cases b3
      · clear HL
        go_wp2
        go_ret
        exact ⟨by rw [HO.out, HB.out]; rfl, below_alloc _ _⟩
      · go_wp2_with fail
        refine (D _).mono ?_
        rintro e w1 ⟨rfl, rfl⟩
        cases b4
        · clear HL
          go_wp2
          go_ret
          exact ⟨by rw [HO.out, HB.out]; rfl, below_alloc _ _⟩
        · have HR : Hid (R = (Op.bytesLess k.toList v.toList || k.toList == v.toList)) := by show _ = _; rw [HO.out, HB.out, HL.out]; simp
          clear HL HO HB
          go_wp2
          go_ret
          exact ⟨by rw [HR.out]; rfl, below_alloc _ _⟩
    · have HR : Hid (R = false) := by show _ = _; rw [HO.out]; simp [okLev, h2]
      clear HL HO
      go_enter Tryz.func88, Tryz.ntmps88
      go_wp2
      go_ret
      exact ⟨by rw [HR.out]; rfl, below_alloc _ _⟩
  · have HR : Hid (R = false) := by show _ = _; rw [HO.out]; simp [okLev, h1]
    clear HL HO
    go_enter Tryz.func88, Tryz.ntmps88
    go_wp2
    go_ret
    exact ⟨by rw [HR.out]; rfl, below_alloc _ _⟩

set_option maxHeartbeats 1000000 in
theorem goodMeta_any (n d : Int) (k v : ByteArray) (w : World) (hk : k.size ≤ 1048576) (hv : v.size ≤ 1048576) :
    Calls Tryz.prog 73 #[.agg #[.int .i64 n, .int .i64 d, .string k, .string v]] w fun e w' => e = .returned (.bool (okMt ⟨n, d, k, v⟩)) ∧ Below w.heap.size w w' := by
  have A := fun w => goodNumber_any n w
  have B := fun w => goodRange_any n d k v w hk hv
  have HO : Hid (okMt ⟨n, d, k, v⟩ = (okNum n && okRg d k v)) := rfl
  generalize okMt ⟨n, d, k, v⟩ = R at *
  generalize okNum n = b1 at *
  generalize okRg d k v = b2 at *
  go_enter Tryz.func73, Tryz.ntmps73
  go_wp2_with fail
  refine (A _).mono ?_
  rintro e w1 ⟨rfl, rfl⟩
  cases b1
  · go_wp2
    go_ret
    exact ⟨by rw [HO.out]; rfl, below_alloc _ _⟩
  · go_wp2_with fail
    refine (B _).mono ?_
    rintro e w1 ⟨rfl, hb⟩
    have hB := below_then (below_alloc _ _) hb
    go_wp2
    go_ret
    exact ⟨by rw [HO.out]; rfl, hB⟩

theorem run_max_str {P : Program} (w : World) (x y : ByteArray) (ty : TypeId) : (Builtin.max_ #[9, 9] ty #[.string x, .string y]).run P w = .ok (.string (maxK x y)) w := by
  unfold maxK
  simp [Builtin.max_, Builtin.max2, Op.stringOp, go_sem]
theorem run_min_str {P : Program} (w : World) (x y : ByteArray) (ty : TypeId) : (Builtin.min_ #[9, 9] ty #[.string x, .string y]).run P w = .ok (.string (minK x y)) w := by
  unfold minK
  simp [Builtin.min_, Builtin.min2, Op.stringOp, go_sem]

set_option maxHeartbeats 1000000 in
theorem overlaps_any (n d : Int) (k v : ByteArray) (n' d' : Int) (k' v' : ByteArray) (w : World) :
    Calls Tryz.prog 75 #[.agg #[.int .i64 n, .int .i64 d, .string k, .string v], .agg #[.int .i64 n', .int .i64 d', .string k', .string v']] w fun e w' => e = .returned (.bool (ovI ⟨n, d, k, v⟩ ⟨n', d', k', v'⟩)) ∧ Below w.heap.size w w' := by
  have HO : Hid (ovI ⟨n, d, k, v⟩ ⟨n', d', k', v'⟩ = (decide (d = d') && (Op.bytesLess (maxK k k').toList (minK v v').toList || (maxK k k').toList == (minK v v').toList))) := rfl
  have R1 := fun w => run_max_str (P := Tryz.prog) w k k' 9
  have R2 := fun w => run_min_str (P := Tryz.prog) w v v' 9
  generalize ovI ⟨n, d, k, v⟩ ⟨n', d', k', v'⟩ = R at *
  generalize maxK k k' = a at *
  generalize minK v v' = b at *
  by_cases h : d = d'
  · have HR : Hid (R = (Op.bytesLess a.toList b.toList || a.toList == b.toList)) := by show _ = _; rw [HO.out]; simp [h]
    clear HO
    go_enter Tryz.func75, Tryz.ntmps75
    go_wp2
    go_ret
    exact ⟨by rw [HR.out]; rfl, below2 _ _ _⟩
  · have HR : Hid (R = false) := by show _ = _; rw [HO.out]; simp [h]
    clear HO
    go_enter Tryz.func75, Tryz.ntmps75
    go_wp2
    go_ret
    exact ⟨by rw [HR.out]; rfl, below2 _ _ _⟩
set_option maxHeartbeats 1000000 in
theorem clashes_any (n d : Int) (k v : ByteArray) (n' d' : Int) (k' v' : ByteArray) (w : World) :
    Calls Tryz.prog 44 #[.agg #[.int .i64 n, .int .i64 d, .string k, .string v], .agg #[.int .i64 n', .int .i64 d', .string k', .string v']] w fun e w' => e = .returned (.bool (decide (0 < d) && ovI ⟨n, d, k, v⟩ ⟨n', d', k', v'⟩)) ∧ Below w.heap.size w w' := by
  have K := overlaps_any n d k v n' d' k' v' (w := (w.alloc (.cells #[.int .i64 n, .int .i64 d, .string k, .string v] 71)).alloc (.cells #[.int .i64 n', .int .i64 d', .string k', .string v'] 71))
  have hB := below2 w (.cells #[.int .i64 n, .int .i64 d, .string k, .string v] 71) (.cells #[.int .i64 n', .int .i64 d', .string k', .string v'] 71)
  generalize ovI ⟨n, d, k, v⟩ ⟨n', d', k', v'⟩ = R at *
  by_cases h : 0 < d
  · go_enter Tryz.func44, Tryz.ntmps44
    go_wp2_with fail
    refine K.mono ?_
    rintro e w1 ⟨rfl, hb⟩
    have hB1 := below_then hB hb
    clear K hB hb
    go_wp2
    go_ret
    exact ⟨by rw [decide_eq_true h]; rfl, hB1⟩
  · go_enter Tryz.func44, Tryz.ntmps44
    go_wp2
    go_ret
    exact ⟨by rw [decide_eq_false (show ¬ 0 < d from by omega)]; rfl, hB⟩
end Go.Proofs.YtenbdjlhcadhaaaGreat
