/-
  The walk of laws.FnExactTowerOf.
-/
import Derived.Test.YtdaldkcildbcmaaDoorT3
namespace Go.Proofs.YtdaldkcildbcmaaDoor
open Go.RowKit Go.Shelf
set_option linter.unusedVariables false
set_option maxRecDepth 100000

set_option maxHeartbeats 2000000 in
theorem lawTower (k : ByteArray) (n : Int) (w : World) (hk : k.size ≤ maxLen) (ht : Tabs w) :
    Calls Tryd.prog 5 #[.string k, .int .i64 n] w fun e w' => e = .returned (.bool true) ∧ Below w.heap.size w w' := by
  unfold maxLen at hk
  by_cases hs : k.size ≤ 1048576
  · have S := fun w => specTower_any k n w hs
    have I := fun w h => implTower_any k n w hs h
    generalize toN k n = N at *
    generalize toOk k n = ok at *
    have hs' : ¬ (1048576 : Int) < k.size := by omega
    clear hk
    go_enter Tryd.func5, Tryd.ntmps5
    go_wp2_with fail
    refine (S _).mono ?_
    rintro e w1 ⟨rfl, hb1⟩
    have ht1 := ht.below hb1
    clear ht S
    go_wp2_with fail
    refine (I _ ht1).mono ?_
    rintro e w2 ⟨rfl, hb2⟩
    have hB := below_then hb1 hb2
    clear hb1 hb2 ht1 I
    cases ok <;>
    · go_wp2
      go_ret
      exact ⟨rfl, hB⟩
  · have hs' : (1048576 : Int) < k.size := by omega
    go_enter Tryd.func5, Tryd.ntmps5
    go_wp2
    go_ret
    exact ⟨rfl, Below.refl _ _⟩
end Go.Proofs.YtdaldkcildbcmaaDoor
