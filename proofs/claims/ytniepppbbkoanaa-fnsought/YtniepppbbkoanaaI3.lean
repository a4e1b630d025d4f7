/-
  Both CompareItems and the law laws.FnExactCompareItem.
-/
import Derived.Test.YtniepppbbkoanaaI2
import Derived.Test.YtniepppbbkoanaaC
namespace Go.Proofs.Ytniepppbbkoanaa
open Go.RowKit
set_option linter.unusedVariables false
set_option maxRecDepth 100000

set_option maxHeartbeats 2000000 in
theorem specCompare_any (k v k' v' : ByteArray) (n d n' d' : Int) (w : World) (hk : k.size ≤ 1048576) (hv : v.size ≤ 1048576) (hk' : k'.size ≤ 1048576) (hv' : v'.size ≤ 1048576) :
    Calls Try.prog 22 #[.agg #[.string k, .int .i64 n, .int .i64 d, .string v], .agg #[.string k', .int .i64 n', .int .i64 d', .string v']] w fun e w' => e = .returned (.tuple #[.int .i64 (if okItem k n d v && okItem k' n' d' v' then cIt k k' n n' else 0), .bool (okItem k n d v && okItem k' n' d' v')]) ∧ Below w.heap.size w w' := by
  have K1 := fun w => specGood_any k v n d w hk hv
  have K2 := fun w => specGood_any k' v' n' d' w hk' hv'
  have K3 := fun w => l4Compare_any k v k' v' n d n' d' w
  generalize okItem k n d v = p at *
  generalize okItem k' n' d' v' = q at *
  generalize cIt k k' n n' = c at *
  cases p with
  | false =>
    go_enter Try.func22, Try.ntmps22
    go_wp2_with fail
    refine (K1 _).mono ?_
    rintro e w1 ⟨rfl, hb1⟩
    have X1 := ((Box.new w #[.string k, .int .i64 n, .int .i64 d, .string v] 35).alloc (.cells #[.string k', .int .i64 n', .int .i64 d', .string v'] 35)).below hb1
    have Y1 : Box w1 (w.heap.size + 1) #[.string k', .int .i64 n', .int .i64 d', .string v'].toList := by have := (Box.new (w.alloc (.cells #[.string k, .int .i64 n, .int .i64 d, .string v] 35)) #[.string k', .int .i64 n', .int .i64 d', .string v'] 35).below hb1; simpa using this
    have hB1 := below_then (below2 _ _ _) hb1
    clear hb1
    obtain ⟨_, x0, x1, x2, x3⟩ := X1.c4
    obtain ⟨_, y0, y1, y2, y3⟩ := Y1.c4
    go_wp2_with fail
    exact bodyPost_ret (v := .tuple #[.int .i64 0, .bool false]) (by simp [results, Try.results22, go_sem]) rfl ⟨rfl, hB1⟩
  | true =>
    cases q with
    | false =>
      go_enter Try.func22, Try.ntmps22
      go_wp2_with fail
      refine (K1 _).mono ?_
      rintro e w1 ⟨rfl, hb1⟩
      have X1 := ((Box.new w #[.string k, .int .i64 n, .int .i64 d, .string v] 35).alloc (.cells #[.string k', .int .i64 n', .int .i64 d', .string v'] 35)).below hb1
      have Y1 : Box w1 (w.heap.size + 1) #[.string k', .int .i64 n', .int .i64 d', .string v'].toList := by have := (Box.new (w.alloc (.cells #[.string k, .int .i64 n, .int .i64 d, .string v] 35)) #[.string k', .int .i64 n', .int .i64 d', .string v'] 35).below hb1; simpa using this
      have hB1 := below_then (below2 _ _ _) hb1
      clear hb1
      obtain ⟨_, x0, x1, x2, x3⟩ := X1.c4
      obtain ⟨_, y0, y1, y2, y3⟩ := Y1.c4
      go_wp2_with fail
      refine (K2 _).mono ?_
      rintro e w2 ⟨rfl, hb2⟩
      have X2 := X1.below hb2
      have Y2 := Y1.below hb2
      have hB2 := below_then hB1 hb2
      clear x0 x1 x2 x3 y0 y1 y2 y3 X1 Y1 hB1
      clear hb2
      obtain ⟨_, x0, x1, x2, x3⟩ := X2.c4
      obtain ⟨_, y0, y1, y2, y3⟩ := Y2.c4
      go_wp2_with fail
      exact bodyPost_ret (v := .tuple #[.int .i64 0, .bool false]) (by simp [results, Try.results22, go_sem]) rfl ⟨rfl, hB2⟩
    | true =>
      go_enter Try.func22, Try.ntmps22
      go_wp2_with fail
      refine (K1 _).mono ?_
      rintro e w1 ⟨rfl, hb1⟩
      have X1 := ((Box.new w #[.string k, .int .i64 n, .int .i64 d, .string v] 35).alloc (.cells #[.string k', .int .i64 n', .int .i64 d', .string v'] 35)).below hb1
      have Y1 : Box w1 (w.heap.size + 1) #[.string k', .int .i64 n', .int .i64 d', .string v'].toList := by have := (Box.new (w.alloc (.cells #[.string k, .int .i64 n, .int .i64 d, .string v] 35)) #[.string k', .int .i64 n', .int .i64 d', .string v'] 35).below hb1; simpa using this
      have hB1 := below_then (below2 _ _ _) hb1
      clear hb1
      obtain ⟨_, x0, x1, x2, x3⟩ := X1.c4
      obtain ⟨_, y0, y1, y2, y3⟩ := Y1.c4
      go_wp2_with fail
      refine (K2 _).mono ?_
      rintro e w2 ⟨rfl, hb2⟩
      have X2 := X1.below hb2
      have Y2 := Y1.below hb2
      have hB2 := below_then hB1 hb2
      clear x0 x1 x2 x3 y0 y1 y2 y3 X1 Y1 hB1
      clear hb2
      obtain ⟨_, x0, x1, x2, x3⟩ := X2.c4
      obtain ⟨_, y0, y1, y2, y3⟩ := Y2.c4
      go_wp2_with fail
      refine (K3 _).mono ?_
      rintro e w3 ⟨rfl, hb3⟩
      have X3 := X2.below hb3
      have Y3 := Y2.below hb3
      have hB3 := below_then hB2 hb3
      clear x0 x1 x2 x3 y0 y1 y2 y3 X2 Y2 hB2
      clear hb3
      obtain ⟨_, x0, x1, x2, x3⟩ := X3.c4
      obtain ⟨_, y0, y1, y2, y3⟩ := Y3.c4
      go_wp2_with fail
      exact bodyPost_ret (v := .tuple #[.int .i64 c, .bool true]) (by simp [results, Try.results22, go_sem]) rfl ⟨rfl, hB3⟩

end Go.Proofs.Ytniepppbbkoanaa
