/-
  NewNode: both sides and the law's walk.
-/
import Derived.Test.YtapfhhmimkkhnaaN2ToA1
namespace Go.Proofs.Ytapfhhmimkkhnaa
open Go.RowKit
set_option linter.unusedVariables false
set_option maxRecDepth 100000

def sel (b : Bool) (x : Int) : Int := if b then x else 0
def newOk (id pe : Int) : Bool := inB pe 1 7 && inB id 0 (pe - 1)
theorem newOk_good (id pe : Int) : goodN id pe 0 (-1) 0 0 [] [] [] = newOk id pe := by
  rw [goodN_spec, goodRo_0]
  unfold newOk
  rw [Bool.eq_iff_iff]
  simp [inB, gE]
  omega
set_option maxHeartbeats 2000000 in
theorem implNew_any (id pe : Int) (w : World) :
    Calls Try.prog 89 #[.int .i64 id, .int .i64 pe] w fun e w' => e = .returned (.tuple #[.agg #[.int .i64 (sel (newOk id pe) id), .int .i64 (sel (newOk id pe) pe), .int .i64 0, .int .i64 (sel (newOk id pe) (-1)), .slice none 0 0, .int .i64 0, .int .i64 0, .slice none 0 0, .slice none 0 0], .bool (newOk id pe)]) ∧ Below w.heap.size w w' := by
  obtain ⟨W0, hW0⟩ : ∃ W0, W0 = (w.alloc (.cells #[.int .i64 0, .int .i64 0, .int .i64 0, .int .i64 0, .slice none 0 0, .int .i64 0, .int .i64 0, .slice none 0 0, .slice none 0 0] 26)).alloc (.cells #[.int .i64 id, .int .i64 pe, .int .i64 0, .int .i64 (-1), .slice none 0 0, .int .i64 0, .int .i64 0, .slice none 0 0, .slice none 0 0] 26) := ⟨_, rfl⟩
  have hB : Below w.heap.size w W0 := by rw [hW0]; exact below2 _ _ _
  have X : Box W0 w.heap.size [.int .i64 0, .int .i64 0, .int .i64 0, .int .i64 0, .slice none 0 0, .int .i64 0, .int .i64 0, .slice none 0 0, .slice none 0 0] := by rw [hW0]; exact (Box.new w #[.int .i64 0, .int .i64 0, .int .i64 0, .int .i64 0, .slice none 0 0, .int .i64 0, .int .i64 0, .slice none 0 0, .slice none 0 0] 26).alloc _
  have Y : Box W0 (w.heap.size + 1) [.int .i64 id, .int .i64 pe, .int .i64 0, .int .i64 (-1), .slice none 0 0, .int .i64 0, .int .i64 0, .slice none 0 0, .slice none 0 0] := by
    rw [hW0]
    have := Box.new (w.alloc (.cells #[.int .i64 0, .int .i64 0, .int .i64 0, .int .i64 0, .slice none 0 0, .int .i64 0, .int .i64 0, .slice none 0 0, .slice none 0 0] 26)) #[.int .i64 id, .int .i64 pe, .int .i64 0, .int .i64 (-1), .slice none 0 0, .int .i64 0, .int .i64 0, .slice none 0 0, .slice none 0 0] 26
    simpa using this
  have N0 : IL W0 (.slice none 0 0) [] := ⟨none, 0, rfl, fun h => absurd rfl h⟩
  have K := implGoodN_any id pe 0 (-1) 0 0 (.slice none 0 0) (.slice none 0 0) (.slice none 0 0) [] [] [] W0 (ER_nil _) N0 N0 (by simp) (by simp) (by simp) (by simp)
  rw [newOk_good] at K
  generalize newOk id pe = ok at *
  go_enter Try.func89, Try.ntmps89
  go_wp2_with fail
  rw [← hW0]; clear hW0
  refine K.mono ?_
  rintro e w1 ⟨rfl, hb⟩
  replace hB := below_then hB hb
  replace X := X.below hb
  replace Y := Y.below hb
  clear K hb N0
  have hz := hB.size
  obtain ⟨hxl, x0, x1, x2, x3, x4, x5, x6, x7, x8⟩ := X.e9
  obtain ⟨f0, f1, f2, f3, f4, f5, f6, f7, f8⟩ := X.f9
  obtain ⟨hyl, y0, y1, y2, y3, y4, y5, y6, y7, y8⟩ := Y.e9
  cases ok
  · have hC := put9_chg w1 w.heap.size (.int .i64 0) (.int .i64 0) (.int .i64 0) (.int .i64 0) (.slice none 0 0) (.int .i64 0) (.int .i64 0) (.slice none 0 0) (.slice none 0 0)
    have Z := put9_box X (.int .i64 0) (.int .i64 0) (.int .i64 0) (.int .i64 0) (.slice none 0 0) (.int .i64 0) (.int .i64 0) (.slice none 0 0) (.slice none 0 0)
    have hBE := hB.trans (hC.below (B := w.heap.size) hz (fun k hk => by omega))
    obtain ⟨hzl, t0, t1, t2, t3, t4, t5, t6, t7, t8⟩ := Z.e9
    clear Z hC hB X Y
    unfold put9 at *
    go_wp2
    exact bodyPost_ret (v := .tuple #[.agg #[.int .i64 0, .int .i64 0, .int .i64 0, .int .i64 0, .slice none 0 0, .int .i64 0, .int .i64 0, .slice none 0 0, .slice none 0 0], .bool false]) (by simp [results, Try.results89, go_sem, t0, t1, t2, t3, t4, t5, t6, t7, t8]) rfl ⟨by simp [sel], hBE⟩
  · have hC := put9_chg w1 w.heap.size (.int .i64 id) (.int .i64 pe) (.int .i64 0) (.int .i64 (-1)) (.slice none 0 0) (.int .i64 0) (.int .i64 0) (.slice none 0 0) (.slice none 0 0)
    have Z := put9_box X (.int .i64 id) (.int .i64 pe) (.int .i64 0) (.int .i64 (-1)) (.slice none 0 0) (.int .i64 0) (.int .i64 0) (.slice none 0 0) (.slice none 0 0)
    have hBE := hB.trans (hC.below (B := w.heap.size) hz (fun k hk => by omega))
    obtain ⟨hzl, t0, t1, t2, t3, t4, t5, t6, t7, t8⟩ := Z.e9
    clear Z hC hB X Y
    unfold put9 at *
    go_wp2
    exact bodyPost_ret (v := .tuple #[.agg #[.int .i64 id, .int .i64 pe, .int .i64 0, .int .i64 (-1), .slice none 0 0, .int .i64 0, .int .i64 0, .slice none 0 0, .slice none 0 0], .bool true]) (by simp [results, Try.results89, go_sem, t0, t1, t2, t3, t4, t5, t6, t7, t8]) rfl ⟨by simp [sel], hBE⟩
set_option maxHeartbeats 2000000 in
theorem specNew_any (id pe : Int) (w : World) :
    Calls Try.prog 88 #[.int .i64 id, .int .i64 pe] w fun e w' => e = .returned (.tuple #[.agg #[.int .i64 (sel (newOk id pe) id), .int .i64 (sel (newOk id pe) pe), .int .i64 0, .int .i64 (sel (newOk id pe) (-1)), .slice none 0 0, .int .i64 0, .int .i64 0, .slice none 0 0, .slice none 0 0], .bool (newOk id pe)]) ∧ Below w.heap.size w w' := by
  have hB := below_alloc w (.cells #[.int .i64 0, .int .i64 0, .int .i64 0, .int .i64 0, .slice none 0 0, .int .i64 0, .int .i64 0, .slice none 0 0, .slice none 0 0] 26)
  have KP := fun W => l11Peers_any pe W
  have K1 := fun W => l1In_any id 0 (pe - 1) W
  have HO : Hid (newOk id pe = (inB pe 1 7 && inB id 0 (pe - 1))) := rfl
  generalize newOk id pe = ok at *
  generalize hb1 : inB pe 1 7 = b1 at *
  generalize inB id 0 (pe - 1) = b2 at *
  go_enter Try.func88, Try.ntmps88
  go_wp2_with fail
  refine (KP _).mono ?_
  rintro e w1 ⟨rfl, hw⟩
  subst hw
  cases b1
  · go_wp2
    refine bodyPost_ret (v := .tuple #[.agg #[.int .i64 0, .int .i64 0, .int .i64 0, .int .i64 0, .slice none 0 0, .int .i64 0, .int .i64 0, .slice none 0 0, .slice none 0 0], .bool false]) (by simp [results, Try.results88, go_sem]) rfl ⟨by rw [HO.out]; simp [sel], ?_⟩
    exact below_alloc _ _
  have pB : 1 ≤ pe ∧ pe ≤ 7 := by simp [inB] at hb1; omega
  obtain ⟨p1, p7⟩ := pB
  clear hb1 KP
  go_wp2_with fail
  refine (K1 _).mono ?_
  rintro e w1 ⟨rfl, hw⟩
  subst hw
  clear K1
  cases b2
  · go_wp2
    refine bodyPost_ret (v := .tuple #[.agg #[.int .i64 0, .int .i64 0, .int .i64 0, .int .i64 0, .slice none 0 0, .int .i64 0, .int .i64 0, .slice none 0 0, .slice none 0 0], .bool false]) (by simp [results, Try.results88, go_sem]) rfl ⟨by rw [HO.out]; simp [sel], ?_⟩
    exact below_alloc _ _
  · go_wp2
    refine bodyPost_ret (v := .tuple #[.agg #[.int .i64 id, .int .i64 pe, .int .i64 0, .int .i64 (-1), .slice none 0 0, .int .i64 0, .int .i64 0, .slice none 0 0, .slice none 0 0], .bool true]) (by simp [results, Try.results88, go_sem]) rfl ⟨by rw [HO.out]; simp [sel], ?_⟩
    exact below_alloc _ _
end Go.Proofs.Ytapfhhmimkkhnaa
