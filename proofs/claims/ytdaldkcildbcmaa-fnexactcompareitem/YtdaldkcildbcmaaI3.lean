/-
  Both CompareItems and the law laws.FnExactCompareItem.
-/
import Derived.Test.YtdaldkcildbcmaaI2
import Derived.Test.YtdaldkcildbcmaaC
namespace Go.Proofs.Ytdaldkcildbcmaa
open Go.RowKit
set_option linter.unusedVariables false
set_option maxRecDepth 100000

set_option maxHeartbeats 2000000 in
theorem specCompare_any (k v k' v' : ByteArray) (n d n' d' : Int) (w : World) (hk : k.size ≤ 1048576) (hv : v.size ≤ 1048576) (hk' : k'.size ≤ 1048576) (hv' : v'.size ≤ 1048576) :
    Calls Try.prog 10 #[.agg #[.string k, .int .i64 n, .int .i64 d, .string v], .agg #[.string k', .int .i64 n', .int .i64 d', .string v']] w fun e w' => e = .returned (.tuple #[.int .i64 (if okItem k n d v && okItem k' n' d' v' then cIt k k' n n' else 0), .bool (okItem k n d v && okItem k' n' d' v')]) ∧ Below w.heap.size w w' := by
  have K1 := fun w => specGood_any k v n d w hk hv
  have K2 := fun w => specGood_any k' v' n' d' w hk' hv'
  have K3 := fun w => l4Compare_any k v k' v' n d n' d' w
  generalize okItem k n d v = p at *
  generalize okItem k' n' d' v' = q at *
  generalize cIt k k' n n' = c at *
  cases p with
  | false =>
    go_enter Try.func10, Try.ntmps10
    go_wp2_with fail
    refine (K1 _).mono ?_
    rintro e w1 ⟨rfl, hb1⟩
    have X1 := ((Box.new w #[.string k, .int .i64 n, .int .i64 d, .string v] 26).alloc (.cells #[.string k', .int .i64 n', .int .i64 d', .string v'] 26)).below hb1
    have Y1 : Box w1 (w.heap.size + 1) #[.string k', .int .i64 n', .int .i64 d', .string v'].toList := by have := (Box.new (w.alloc (.cells #[.string k, .int .i64 n, .int .i64 d, .string v] 26)) #[.string k', .int .i64 n', .int .i64 d', .string v'] 26).below hb1; simpa using this
    have hB1 := below_then (below2 _ _ _) hb1
    clear hb1
    obtain ⟨_, x0, x1, x2, x3⟩ := X1.c4
    obtain ⟨_, y0, y1, y2, y3⟩ := Y1.c4
    go_wp2_with fail
    exact bodyPost_ret (v := .tuple #[.int .i64 0, .bool false]) (by simp [results, Try.results10, go_sem]) rfl ⟨rfl, hB1⟩
  | true =>
    cases q with
    | false =>
      go_enter Try.func10, Try.ntmps10
      go_wp2_with fail
      refine (K1 _).mono ?_
      rintro e w1 ⟨rfl, hb1⟩
      have X1 := ((Box.new w #[.string k, .int .i64 n, .int .i64 d, .string v] 26).alloc (.cells #[.string k', .int .i64 n', .int .i64 d', .string v'] 26)).below hb1
      have Y1 : Box w1 (w.heap.size + 1) #[.string k', .int .i64 n', .int .i64 d', .string v'].toList := by have := (Box.new (w.alloc (.cells #[.string k, .int .i64 n, .int .i64 d, .string v] 26)) #[.string k', .int .i64 n', .int .i64 d', .string v'] 26).below hb1; simpa using this
      have hB1 := below_then (below2 _ _ _) hb1
      clear hb1
      obtain ⟨_, x0, x1, x2, x3⟩ := X1.c4
      obtain ⟨_, y0, y1, y2, y3⟩ := Y1.c4
      go_wp2_with fail
      refine (K2 _).mono ?_
      rintro e w2 ⟨rfl, hb2⟩
      have X2 := X1.below hb2
      have Y2 := Y1.below hb2
      have hB2 := below_then hB1 hb2
      clear x0 x1 x2 x3 y0 y1 y2 y3 X1 Y1 hB1
      clear hb2
      obtain ⟨_, x0, x1, x2, x3⟩ := X2.c4
      obtain ⟨_, y0, y1, y2, y3⟩ := Y2.c4
      go_wp2_with fail
      exact bodyPost_ret (v := .tuple #[.int .i64 0, .bool false]) (by simp [results, Try.results10, go_sem]) rfl ⟨rfl, hB2⟩
    | true =>
      go_enter Try.func10, Try.ntmps10
      go_wp2_with fail
      refine (K1 _).mono ?_
      rintro e w1 ⟨rfl, hb1⟩
      have X1 := ((Box.new w #[.string k, .int .i64 n, .int .i64 d, .string v] 26).alloc (.cells #[.string k', .int .i64 n', .int .i64 d', .string v'] 26)).below hb1
      have Y1 : Box w1 (w.heap.size + 1) #[.string k', .int .i64 n', .int .i64 d', .string v'].toList := by have := (Box.new (w.alloc (.cells #[.string k, .int .i64 n, .int .i64 d, .string v] 26)) #[.string k', .int .i64 n', .int .i64 d', .string v'] 26).below hb1; simpa using this
      have hB1 := below_then (below2 _ _ _) hb1
      clear hb1
      obtain ⟨_, x0, x1, x2, x3⟩ := X1.c4
      obtain ⟨_, y0, y1, y2, y3⟩ := Y1.c4
      go_wp2_with fail
      refine (K2 _).mono ?_
      rintro e w2 ⟨rfl, hb2⟩
      have X2 := X1.below hb2
      have Y2 := Y1.below hb2
      have hB2 := below_then hB1 hb2
      clear x0 x1 x2 x3 y0 y1 y2 y3 X1 Y1 hB1
      clear hb2
      obtain ⟨_, x0, x1, x2, x3⟩ := X2.c4
      obtain ⟨_, y0, y1, y2, y3⟩ := Y2.c4
      go_wp2_with fail
      refine (K3 _).mono ?_
      rintro e w3 ⟨rfl, hb3⟩
      have X3 := X2.below hb3
      have Y3 := Y2.below hb3
      have hB3 := below_then hB2 hb3
      clear x0 x1 x2 x3 y0 y1 y2 y3 X2 Y2 hB2
      clear hb3
      obtain ⟨_, x0, x1, x2, x3⟩ := X3.c4
      obtain ⟨_, y0, y1, y2, y3⟩ := Y3.c4
      go_wp2_with fail
      exact bodyPost_ret (v := .tuple #[.int .i64 c, .bool true]) (by simp [results, Try.results10, go_sem]) rfl ⟨rfl, hB3⟩

set_option maxHeartbeats 2000000 in
theorem implCompare_any (k v k' v' : ByteArray) (n d n' d' : Int) (w : World) (hk : k.size ≤ 1048576) (hv : v.size ≤ 1048576) (hk' : k'.size ≤ 1048576) (hv' : v'.size ≤ 1048576) :
    Calls Try.prog 11 #[.agg #[.string k, .int .i64 n, .int .i64 d, .string v], .agg #[.string k', .int .i64 n', .int .i64 d', .string v']] w fun e w' => e = .returned (.tuple #[.int .i64 (if okItem k n d v && okItem k' n' d' v' then cIt k k' n n' else 0), .bool (okItem k n d v && okItem k' n' d' v')]) ∧ Below w.heap.size w w' := by
  have K1 := fun w => implGood_any k v n d w hk hv
  have K2 := fun w => implGood_any k' v' n' d' w hk' hv'
  have K3 := fun w => orderOf_any k v k' v' n d n' d' w
  generalize okItem k n d v = p at *
  generalize okItem k' n' d' v' = q at *
  generalize cIt k k' n n' = c at *
  cases p with
  | false =>
    go_enter Try.func11, Try.ntmps11
    go_wp2_with fail
    refine (K1 _).mono ?_
    rintro e w1 ⟨rfl, hb1⟩
    have X1 := ((Box.new w #[.string k, .int .i64 n, .int .i64 d, .string v] 26).alloc (.cells #[.string k', .int .i64 n', .int .i64 d', .string v'] 26)).below hb1
    have Y1 : Box w1 (w.heap.size + 1) #[.string k', .int .i64 n', .int .i64 d', .string v'].toList := by have := (Box.new (w.alloc (.cells #[.string k, .int .i64 n, .int .i64 d, .string v] 26)) #[.string k', .int .i64 n', .int .i64 d', .string v'] 26).below hb1; simpa using this
    have hB1 := below_then (below2 _ _ _) hb1
    clear hb1
    obtain ⟨_, x0, x1, x2, x3⟩ := X1.c4
    obtain ⟨_, y0, y1, y2, y3⟩ := Y1.c4
    go_wp2_with fail
    exact bodyPost_ret (v := .tuple #[.int .i64 0, .bool false]) (by simp [results, Try.results11, go_sem]) rfl ⟨rfl, hB1⟩
  | true =>
    cases q with
    | false =>
      go_enter Try.func11, Try.ntmps11
      go_wp2_with fail
      refine (K1 _).mono ?_
      rintro e w1 ⟨rfl, hb1⟩
      have X1 := ((Box.new w #[.string k, .int .i64 n, .int .i64 d, .string v] 26).alloc (.cells #[.string k', .int .i64 n', .int .i64 d', .string v'] 26)).below hb1
      have Y1 : Box w1 (w.heap.size + 1) #[.string k', .int .i64 n', .int .i64 d', .string v'].toList := by have := (Box.new (w.alloc (.cells #[.string k, .int .i64 n, .int .i64 d, .string v] 26)) #[.string k', .int .i64 n', .int .i64 d', .string v'] 26).below hb1; simpa using this
      have hB1 := below_then (below2 _ _ _) hb1
      clear hb1
      obtain ⟨_, x0, x1, x2, x3⟩ := X1.c4
      obtain ⟨_, y0, y1, y2, y3⟩ := Y1.c4
      go_wp2_with fail
      refine (K2 _).mono ?_
      rintro e w2 ⟨rfl, hb2⟩
      have X2 := X1.below hb2
      have Y2 := Y1.below hb2
      have hB2 := below_then hB1 hb2
      clear x0 x1 x2 x3 y0 y1 y2 y3 X1 Y1 hB1
      clear hb2
      obtain ⟨_, x0, x1, x2, x3⟩ := X2.c4
      obtain ⟨_, y0, y1, y2, y3⟩ := Y2.c4
      go_wp2_with fail
      exact bodyPost_ret (v := .tuple #[.int .i64 0, .bool false]) (by simp [results, Try.results11, go_sem]) rfl ⟨rfl, hB2⟩
    | true =>
      go_enter Try.func11, Try.ntmps11
      go_wp2_with fail
      refine (K1 _).mono ?_
      rintro e w1 ⟨rfl, hb1⟩
      have X1 := ((Box.new w #[.string k, .int .i64 n, .int .i64 d, .string v] 26).alloc (.cells #[.string k', .int .i64 n', .int .i64 d', .string v'] 26)).below hb1
      have Y1 : Box w1 (w.heap.size + 1) #[.string k', .int .i64 n', .int .i64 d', .string v'].toList := by have := (Box.new (w.alloc (.cells #[.string k, .int .i64 n, .int .i64 d, .string v] 26)) #[.string k', .int .i64 n', .int .i64 d', .string v'] 26).below hb1; simpa using this
      have hB1 := below_then (below2 _ _ _) hb1
      clear hb1
      obtain ⟨_, x0, x1, x2, x3⟩ := X1.c4
      obtain ⟨_, y0, y1, y2, y3⟩ := Y1.c4
      go_wp2_with fail
      refine (K2 _).mono ?_
      rintro e w2 ⟨rfl, hb2⟩
      have X2 := X1.below hb2
      have Y2 := Y1.below hb2
      have hB2 := below_then hB1 hb2
      clear x0 x1 x2 x3 y0 y1 y2 y3 X1 Y1 hB1
      clear hb2
      obtain ⟨_, x0, x1, x2, x3⟩ := X2.c4
      obtain ⟨_, y0, y1, y2, y3⟩ := Y2.c4
      go_wp2_with fail
      refine (K3 _).mono ?_
      rintro e w3 ⟨rfl, hb3⟩
      have X3 := X2.below hb3
      have Y3 := Y2.below hb3
      have hB3 := below_then hB2 hb3
      clear x0 x1 x2 x3 y0 y1 y2 y3 X2 Y2 hB2
      clear hb3
      obtain ⟨_, x0, x1, x2, x3⟩ := X3.c4
      obtain ⟨_, y0, y1, y2, y3⟩ := Y3.c4
      go_wp2_with fail
      exact bodyPost_ret (v := .tuple #[.int .i64 c, .bool true]) (by simp [results, Try.results11, go_sem]) rfl ⟨rfl, hB3⟩

set_option maxHeartbeats 2000000 in
theorem lawCompare (k v k' v' : ByteArray) (n d n' d' : Int) (w : World) (hk : k.size ≤ maxLen) (hv : v.size ≤ maxLen) (hk' : k'.size ≤ maxLen) (hv' : v'.size ≤ maxLen) :
    Calls Try.prog 4 #[.agg #[.string k, .int .i64 n, .int .i64 d, .string v], .agg #[.string k', .int .i64 n', .int .i64 d', .string v']] w fun e w' => e = .returned (.bool true) ∧ Below w.heap.size w w' := by
  have SZ := fun w => szItem_any k v n d 1048576 w (by omega) (by omega) hk hv
  by_cases hs : (k.size : Int) + v.size ≤ 1048576
  · rw [if_pos hs] at SZ
    have hl : (0 : Int) ≤ 1048576 - k.size - v.size := by omega
    have hu : (1048576 : Int) - k.size - v.size ≤ 1048576 := by omega
    generalize (1048576 : Int) - k.size - v.size = left at *
    have SY := fun w => szItem_any k' v' n' d' left w hl hu hk' hv'
    by_cases hs' : (k'.size : Int) + v'.size ≤ left
    · rw [if_pos hs'] at SY
      have hl' : (0 : Int) ≤ left - k'.size - v'.size := by omega
      generalize left - (k'.size : Int) - v'.size = left' at *
      have S1 := fun w => specCompare_any k v k' v' n d n' d' w (by omega) (by omega) (by omega) (by omega)
      have I1 := fun w => implCompare_any k v k' v' n d n' d' w (by omega) (by omega) (by omega) (by omega)
      have T1 := fun w => toItem_any k v n d w
      have T2 := fun w => toItem_any k' v' n' d' w
      generalize (if okItem k n d v && okItem k' n' d' v' then cIt k k' n n' else 0) = c at *
      generalize (okItem k n d v && okItem k' n' d' v') = ok at *
      clear hs hs' hk hv hk' hv'
      go_enter Try.func4, Try.ntmps4
      go_wp2_with fail
      refine (SZ _).mono ?_
      rintro e w1 ⟨rfl, hb1⟩
      have X1 := ((Box.new w #[.string k, .int .i64 n, .int .i64 d, .string v] 23).alloc (.cells #[.string k', .int .i64 n', .int .i64 d', .string v'] 23)).below hb1
      have Y1 : Box w1 (w.heap.size + 1) #[.string k', .int .i64 n', .int .i64 d', .string v'].toList := by have := (Box.new (w.alloc (.cells #[.string k, .int .i64 n, .int .i64 d, .string v] 23)) #[.string k', .int .i64 n', .int .i64 d', .string v'] 23).below hb1; simpa using this
      have hB1 := below_then (below2 _ _ _) hb1
      clear hb1
      obtain ⟨_, x0, x1, x2, x3⟩ := X1.c4
      obtain ⟨_, y0, y1, y2, y3⟩ := Y1.c4
      go_wp2_with fail
      refine (SY _).mono ?_
      rintro e w2 ⟨rfl, hb2⟩
      have X2 := X1.below hb2
      have Y2 := Y1.below hb2
      have hB2 := below_then hB1 hb2
      clear x0 x1 x2 x3 y0 y1 y2 y3 X1 Y1 hB1
      clear hb2
      obtain ⟨_, x0, x1, x2, x3⟩ := X2.c4
      obtain ⟨_, y0, y1, y2, y3⟩ := Y2.c4
      go_wp2_with fail
      have p0 := fun x : WC w2.heap.size w2 => (X2.below x.ok).2.1 0 _ rfl
      have p1 := fun x : WC w2.heap.size w2 => (X2.below x.ok).2.1 1 _ rfl
      have p2 := fun x : WC w2.heap.size w2 => (X2.below x.ok).2.1 2 _ rfl
      have p3 := fun x : WC w2.heap.size w2 => (X2.below x.ok).2.1 3 _ rfl
      have q0 := fun x : WC w2.heap.size w2 => (Y2.below x.ok).2.1 0 _ rfl
      have q1 := fun x : WC w2.heap.size w2 => (Y2.below x.ok).2.1 1 _ rfl
      have q2 := fun x : WC w2.heap.size w2 => (Y2.below x.ok).2.1 2 _ rfl
      have q3 := fun x : WC w2.heap.size w2 => (Y2.below x.ok).2.1 3 _ rfl
      have hne : Nonempty (WC w2.heap.size w2) := ⟨⟨_, Below.refl _ _⟩⟩
      clear SZ SY x0 x1 x2 x3 y0 y1 y2 y3
      refine wp_region_calm (B := w2.heap.size) (W := w2) (by kernel_rfl) (by kernel_rfl) (Below.refl _ _) ?_
      repeat (go_big_quiet_step (first | (go_at_call 8; exact calm_of_below (Nat.le_refl _) (toItem_any _ _ _ _ _)) | (go_at_call 10; exact calm_of_below (Nat.le_refl _) (S1 _))))
      refine wpQuiet_nil ?_
      intro _ hw'
      obtain ⟨x, hx⟩ := hw'
      subst hx
      have X3 := X2.below x.ok
      have Y3 := Y2.below x.ok
      have hB3 := below_then hB2 x.ok
      clear p0 p1 p2 p3 q0 q1 q2 q3 hne X2 Y2 hB2
      generalize x.w = w3 at *
      clear x
      obtain ⟨_, x0, x1, x2, x3⟩ := X3.c4
      obtain ⟨_, y0, y1, y2, y3⟩ := Y3.c4
      go_wp2_with fail
      have p0 := fun x : WC w3.heap.size w3 => (X3.below x.ok).2.1 0 _ rfl
      have p1 := fun x : WC w3.heap.size w3 => (X3.below x.ok).2.1 1 _ rfl
      have p2 := fun x : WC w3.heap.size w3 => (X3.below x.ok).2.1 2 _ rfl
      have p3 := fun x : WC w3.heap.size w3 => (X3.below x.ok).2.1 3 _ rfl
      have q0 := fun x : WC w3.heap.size w3 => (Y3.below x.ok).2.1 0 _ rfl
      have q1 := fun x : WC w3.heap.size w3 => (Y3.below x.ok).2.1 1 _ rfl
      have q2 := fun x : WC w3.heap.size w3 => (Y3.below x.ok).2.1 2 _ rfl
      have q3 := fun x : WC w3.heap.size w3 => (Y3.below x.ok).2.1 3 _ rfl
      have hne : Nonempty (WC w3.heap.size w3) := ⟨⟨_, Below.refl _ _⟩⟩
      clear x0 x1 x2 x3 y0 y1 y2 y3
      refine wp_region_calm (B := w3.heap.size) (W := w3) (by kernel_rfl) (by kernel_rfl) (Below.refl _ _) ?_
      repeat (go_big_quiet_step (first | (go_at_call 8; exact calm_of_below (Nat.le_refl _) (toItem_any _ _ _ _ _)) | (go_at_call 11; exact calm_of_below (Nat.le_refl _) (I1 _))))
      refine wpQuiet_nil ?_
      intro _ hw'
      obtain ⟨x, hx⟩ := hw'
      subst hx
      have hB4 := below_then hB3 x.ok
      clear p0 p1 p2 p3 q0 q1 q2 q3 hne X3 Y3 hB3
      generalize x.w = w4 at *
      clear x
      cases ok
      · go_wp2
        go_ret
        exact ⟨rfl, hB4⟩
      · go_wp2
        go_ret
        exact ⟨rfl, hB4⟩
    · rw [if_neg hs'] at SY
      go_enter Try.func4, Try.ntmps4
      go_wp2_with fail
      refine (SZ _).mono ?_
      rintro e w1 ⟨rfl, hb1⟩
      have X1 := ((Box.new w #[.string k, .int .i64 n, .int .i64 d, .string v] 23).alloc (.cells #[.string k', .int .i64 n', .int .i64 d', .string v'] 23)).below hb1
      have Y1 : Box w1 (w.heap.size + 1) #[.string k', .int .i64 n', .int .i64 d', .string v'].toList := by have := (Box.new (w.alloc (.cells #[.string k, .int .i64 n, .int .i64 d, .string v] 23)) #[.string k', .int .i64 n', .int .i64 d', .string v'] 23).below hb1; simpa using this
      have hB1 := below_then (below2 _ _ _) hb1
      clear hb1
      obtain ⟨_, x0, x1, x2, x3⟩ := X1.c4
      obtain ⟨_, y0, y1, y2, y3⟩ := Y1.c4
      go_wp2_with fail
      refine (SY _).mono ?_
      rintro e w2 ⟨rfl, hb2⟩
      have X2 := X1.below hb2
      have Y2 := Y1.below hb2
      have hB2 := below_then hB1 hb2
      clear x0 x1 x2 x3 y0 y1 y2 y3 X1 Y1 hB1
      clear hb2
      obtain ⟨_, x0, x1, x2, x3⟩ := X2.c4
      obtain ⟨_, y0, y1, y2, y3⟩ := Y2.c4
      go_wp2
      go_ret
      exact ⟨rfl, hB2⟩
  · rw [if_neg hs] at SZ
    go_enter Try.func4, Try.ntmps4
    go_wp2_with fail
    refine (SZ _).mono ?_
    rintro e w1 ⟨rfl, hb1⟩
    have X1 := ((Box.new w #[.string k, .int .i64 n, .int .i64 d, .string v] 23).alloc (.cells #[.string k', .int .i64 n', .int .i64 d', .string v'] 23)).below hb1
    have Y1 : Box w1 (w.heap.size + 1) #[.string k', .int .i64 n', .int .i64 d', .string v'].toList := by have := (Box.new (w.alloc (.cells #[.string k, .int .i64 n, .int .i64 d, .string v] 23)) #[.string k', .int .i64 n', .int .i64 d', .string v'] 23).below hb1; simpa using this
    have hB1 := below_then (below2 _ _ _) hb1
    clear hb1
    obtain ⟨_, x0, x1, x2, x3⟩ := X1.c4
    obtain ⟨_, y0, y1, y2, y3⟩ := Y1.c4
    go_wp2
    go_ret
    exact ⟨rfl, hB1⟩
end Go.Proofs.Ytdaldkcildbcmaa
