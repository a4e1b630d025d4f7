/-
  NewNode: both sides and the law's walk.
-/
import Derived.Test.YtoaponagdfgfeaaLG
namespace Go.Proofs.Ytoaponagdfgfeaa
open Go.RowKit
set_option linter.unusedVariables false
set_option maxRecDepth 100000

def sel (b : Bool) (x : Int) : Int := if b then x else 0
def newOk (id pe : Int) : Bool := inB pe 1 7 && inB id 0 (pe - 1)
theorem newOk_good (id pe : Int) : goodN id pe 0 (-1) 0 0 [] [] [] = newOk id pe := by
  rw [goodN_spec, goodRo_0]
  unfold newOk
  rw [Bool.eq_iff_iff]
  simp [inB, gE]
  omega
set_option maxHeartbeats 2000000 in
theorem implNew_any (id pe : Int) (w : World) :
    Calls Try.prog 38 #[.int .i64 id, .int .i64 pe] w fun e w' => e = .returned (.tuple #[.agg #[.int .i64 (sel (newOk id pe) id), .int .i64 (sel (newOk id pe) pe), .int .i64 0, .int .i64 (sel (newOk id pe) (-1)), .slice none 0 0, .int .i64 0, .int .i64 0, .slice none 0 0, .slice none 0 0], .bool (newOk id pe)]) ∧ Below w.heap.size w w' := by
  obtain ⟨W0, hW0⟩ : ∃ W0, W0 = (w.alloc (.cells #[.int .i64 0, .int .i64 0, .int .i64 0, .int .i64 0, .slice none 0 0, .int .i64 0, .int .i64 0, .slice none 0 0, .slice none 0 0] 26)).alloc (.cells #[.int .i64 id, .int .i64 pe, .int .i64 0, .int .i64 (-1), .slice none 0 0, .int .i64 0, .int .i64 0, .slice none 0 0, .slice none 0 0] 26) := ⟨_, rfl⟩
  have hB : Below w.heap.size w W0 := by rw [hW0]; exact below2 _ _ _
  have X : Box W0 w.heap.size [.int .i64 0, .int .i64 0, .int .i64 0, .int .i64 0, .slice none 0 0, .int .i64 0, .int .i64 0, .slice none 0 0, .slice none 0 0] := by rw [hW0]; exact (Box.new w #[.int .i64 0, .int .i64 0, .int .i64 0, .int .i64 0, .slice none 0 0, .int .i64 0, .int .i64 0, .slice none 0 0, .slice none 0 0] 26).alloc _
  have Y : Box W0 (w.heap.size + 1) [.int .i64 id, .int .i64 pe, .int .i64 0, .int .i64 (-1), .slice none 0 0, .int .i64 0, .int .i64 0, .slice none 0 0, .slice none 0 0] := by
    rw [hW0]
    have := Box.new (w.alloc (.cells #[.int .i64 0, .int .i64 0, .int .i64 0, .int .i64 0, .slice none 0 0, .int .i64 0, .int .i64 0, .slice none 0 0, .slice none 0 0] 26)) #[.int .i64 id, .int .i64 pe, .int .i64 0, .int .i64 (-1), .slice none 0 0, .int .i64 0, .int .i64 0, .slice none 0 0, .slice none 0 0] 26
    simpa using this
  have N0 : IL W0 (.slice none 0 0) [] := ⟨none, 0, rfl, fun h => absurd rfl h⟩
  have K := implGoodN_any id pe 0 (-1) 0 0 (.slice none 0 0) (.slice none 0 0) (.slice none 0 0) [] [] [] W0 (ER_nil _) N0 N0 (by simp) (by simp) (by simp) (by simp)
  rw [newOk_good] at K
  generalize newOk id pe = ok at *
  go_enter Try.func38, Try.ntmps38
  go_wp2_with fail
  rw [← hW0]; clear hW0
  refine K.mono ?_
  rintro e w1 ⟨rfl, hb⟩
  replace hB := below_then hB hb
  replace X := X.below hb
  replace Y := Y.below hb
  clear K hb N0
  have hz := hB.size
  obtain ⟨hxl, x0, x1, x2, x3, x4, x5, x6, x7, x8⟩ := X.e9
  obtain ⟨f0, f1, f2, f3, f4, f5, f6, f7, f8⟩ := X.f9
  obtain ⟨hyl, y0, y1, y2, y3, y4, y5, y6, y7, y8⟩ := Y.e9
  cases ok
  · have hC := put9_chg w1 w.heap.size (.int .i64 0) (.int .i64 0) (.int .i64 0) (.int .i64 0) (.slice none 0 0) (.int .i64 0) (.int .i64 0) (.slice none 0 0) (.slice none 0 0)
    have Z := put9_box X (.int .i64 0) (.int .i64 0) (.int .i64 0) (.int .i64 0) (.slice none 0 0) (.int .i64 0) (.int .i64 0) (.slice none 0 0) (.slice none 0 0)
    have hBE := hB.trans (hC.below (B := w.heap.size) hz (fun k hk => by omega))
    obtain ⟨hzl, t0, t1, t2, t3, t4, t5, t6, t7, t8⟩ := Z.e9
    clear Z hC hB X Y
    unfold put9 at *
    go_wp2
    exact bodyPost_ret (v := .tuple #[.agg #[.int .i64 0, .int .i64 0, .int .i64 0, .int .i64 0, .slice none 0 0, .int .i64 0, .int .i64 0, .slice none 0 0, .slice none 0 0], .bool false]) (by simp [results, Try.results38, go_sem, t0, t1, t2, t3, t4, t5, t6, t7, t8]) rfl ⟨by simp [sel], hBE⟩
  · have hC := put9_chg w1 w.heap.size (.int .i64 id) (.int .i64 pe) (.int .i64 0) (.int .i64 (-1)) (.slice none 0 0) (.int .i64 0) (.int .i64 0) (.slice none 0 0) (.slice none 0 0)
    have Z := put9_box X (.int .i64 id) (.int .i64 pe) (.int .i64 0) (.int .i64 (-1)) (.slice none 0 0) (.int .i64 0) (.int .i64 0) (.slice none 0 0) (.slice none 0 0)
    have hBE := hB.trans (hC.below (B := w.heap.size) hz (fun k hk => by omega))
    obtain ⟨hzl, t0, t1, t2, t3, t4, t5, t6, t7, t8⟩ := Z.e9
    clear Z hC hB X Y
    unfold put9 at *
    go_wp2
    exact bodyPost_ret (v := .tuple #[.agg #[.int .i64 id, .int .i64 pe, .int .i64 0, .int .i64 (-1), .slice none 0 0, .int .i64 0, .int .i64 0, .slice none 0 0, .slice none 0 0], .bool true]) (by simp [results, Try.results38, go_sem, t0, t1, t2, t3, t4, t5, t6, t7, t8]) rfl ⟨by simp [sel], hBE⟩
set_option maxHeartbeats 2000000 in
theorem specNew_any (id pe : Int) (w : World) :
    Calls Try.prog 37 #[.int .i64 id, .int .i64 pe] w fun e w' => e = .returned (.tuple #[.agg #[.int .i64 (sel (newOk id pe) id), .int .i64 (sel (newOk id pe) pe), .int .i64 0, .int .i64 (sel (newOk id pe) (-1)), .slice none 0 0, .int .i64 0, .int .i64 0, .slice none 0 0, .slice none 0 0], .bool (newOk id pe)]) ∧ Below w.heap.size w w' := by
  have hB := below_alloc w (.cells #[.int .i64 0, .int .i64 0, .int .i64 0, .int .i64 0, .slice none 0 0, .int .i64 0, .int .i64 0, .slice none 0 0, .slice none 0 0] 26)
  have KP := fun W => l11Peers_any pe W
  have K1 := fun W => l1In_any id 0 (pe - 1) W
  have HO : Hid (newOk id pe = (inB pe 1 7 && inB id 0 (pe - 1))) := rfl
  generalize newOk id pe = ok at *
  generalize hb1 : inB pe 1 7 = b1 at *
  generalize inB id 0 (pe - 1) = b2 at *
  go_enter Try.func37, Try.ntmps37
  go_wp2_with fail
  refine (KP _).mono ?_
  rintro e w1 ⟨rfl, hw⟩
  subst hw
  cases b1
  · go_wp2
    refine bodyPost_ret (v := .tuple #[.agg #[.int .i64 0, .int .i64 0, .int .i64 0, .int .i64 0, .slice none 0 0, .int .i64 0, .int .i64 0, .slice none 0 0, .slice none 0 0], .bool false]) (by simp [results, Try.results37, go_sem]) rfl ⟨by rw [HO.out]; simp [sel], ?_⟩
    exact below_alloc _ _
  have pB : 1 ≤ pe ∧ pe ≤ 7 := by simp [inB] at hb1; omega
  obtain ⟨p1, p7⟩ := pB
  clear hb1 KP
  go_wp2_with fail
  refine (K1 _).mono ?_
  rintro e w1 ⟨rfl, hw⟩
  subst hw
  clear K1
  cases b2
  · go_wp2
    refine bodyPost_ret (v := .tuple #[.agg #[.int .i64 0, .int .i64 0, .int .i64 0, .int .i64 0, .slice none 0 0, .int .i64 0, .int .i64 0, .slice none 0 0, .slice none 0 0], .bool false]) (by simp [results, Try.results37, go_sem]) rfl ⟨by rw [HO.out]; simp [sel], ?_⟩
    exact below_alloc _ _
  · go_wp2
    refine bodyPost_ret (v := .tuple #[.agg #[.int .i64 id, .int .i64 pe, .int .i64 0, .int .i64 (-1), .slice none 0 0, .int .i64 0, .int .i64 0, .slice none 0 0, .slice none 0 0], .bool true]) (by simp [results, Try.results37, go_sem]) rfl ⟨by rw [HO.out]; simp [sel], ?_⟩
    exact below_alloc _ _
set_option maxHeartbeats 4000000 in
theorem lawNewNode (id pe : Int) (w : World) :
    Calls Try.prog 5 #[.int .i64 id, .int .i64 pe] w fun e w' => e = .returned (.bool true) ∧ Below w.heap.size w w' := by
  have S := specNew_any id pe w
  have I := fun W => implNew_any id pe W
  generalize newOk id pe = ok at *
  generalize sel ok id = ri at *
  generalize sel ok pe = rp at *
  generalize sel ok (-1) = rv at *
  have NB := fun W => run_neq_bool_same W ok
  have N0 : ∀ W : World, IL W (.slice none 0 0) [] := fun W => ⟨none, 0, rfl, fun h => absurd rfl h⟩
  have EQ := fun W : World => eqNode_same ri rp 0 rv 0 0 (.slice none 0 0) (.slice none 0 0) (.slice none 0 0) (.slice none 0 0) (.slice none 0 0) (.slice none 0 0) [] [] [] W (ER_nil _) (N0 _) (N0 _) (ER_nil _) (N0 _) (N0 _) (by simp) (by simp) (by simp)
  have MK := fun W : World => markNode_own ri rp 0 rv 0 0 (.slice none 0 0) (.slice none 0 0) (.slice none 0 0) [] [] [] 0 1 W (OwnN.nil _ _) (by simp) (by simp) (by simp) (by omega) (by omega)
  have HN : ∀ W : World, MkN W 0 (.slice none 0 0) (.slice none 0 0) (.slice none 0 0) 0 0 0 1 := fun W => ⟨World.ownsRow_nil _ _ _ _, World.ownsRow_nil _ _ _ _, World.ownsRow_nil _ _ _ _⟩
  have HD := fun W : World => heldNode_own ri rp 0 rv 0 0 (.slice none 0 0) (.slice none 0 0) (.slice none 0 0) 0 0 0 0 1 W (HN W) (by simp) (by simp) (by simp) (by omega) (by omega)
  clear HN N0
  simp only [List.length_nil, Int.ofNat_zero, Int.mul_zero, Int.add_zero] at MK HD
  go_enter Try.func5, Try.ntmps5
  go_wp2_with fail
  refine S.mono ?_
  rintro e w1 ⟨rfl, hB⟩
  clear S
  have P := Box.new w1 #[.int .i64 ri, .int .i64 rp, .int .i64 0, .int .i64 rv, .slice none 0 0, .int .i64 0, .int .i64 0, .slice none 0 0, .slice none 0 0] 26
  replace hB := below_then hB (below_alloc w1 (.cells #[.int .i64 ri, .int .i64 rp, .int .i64 0, .int .i64 rv, .slice none 0 0, .int .i64 0, .int .i64 0, .slice none 0 0, .slice none 0 0] 26))
  go_wp2_with fail
  refine (I _).mono ?_
  rintro e w2 ⟨rfl, hb⟩
  replace hB := below_then hB hb
  replace P := P.below hb
  clear hb
  have Q := Box.new w2 #[.int .i64 ri, .int .i64 rp, .int .i64 0, .int .i64 rv, .slice none 0 0, .int .i64 0, .int .i64 0, .slice none 0 0, .slice none 0 0] 26
  have BX := below_alloc w2 (.cells #[.int .i64 ri, .int .i64 rp, .int .i64 0, .int .i64 rv, .slice none 0 0, .int .i64 0, .int .i64 0, .slice none 0 0, .slice none 0 0] 26)
  replace hB := below_then hB BX
  replace P := P.below BX
  clear BX
  obtain ⟨hpl, p0, p1, p2, p3, p4, p5, p6, p7, p8⟩ := P.e9
  go_wp2_with fail
  refine (EQ _).mono ?_
  rintro e w3 ⟨rfl, hb⟩
  replace hB := below_then hB hb
  replace P := P.below hb
  replace Q := Q.below hb
  clear hb hpl p0 p1 p2 p3 p4 p5 p6 p7 p8
  obtain ⟨hql, q0, q1, q2, q3, q4, q5, q6, q7, q8⟩ := Q.e9
  go_wp2_with fail
  refine (MK _).mono ?_
  rintro e w4 ⟨rfl, _, hc⟩
  have hb : Below w3.heap.size w3 w4 := hc.below (Nat.le_refl _) (by
    intro k hk
    rcases hk with hk | hk
    · rcases hk with hk | hk | hk <;> simp [Value.ownBlock] at hk
    · exact hk)
  replace hB := below_then hB hb
  replace P := P.below hb
  replace Q := Q.below hb
  clear hb hc hql q0 q1 q2 q3 q4 q5 q6 q7 q8 MK
  obtain ⟨hql, q0, q1, q2, q3, q4, q5, q6, q7, q8⟩ := Q.e9
  go_wp2_with fail
  refine (HD _).mono ?_
  rintro e w5 ⟨rfl, hb⟩
  replace hB := below_then hB hb
  replace P := P.below hb
  replace Q := Q.below hb
  clear hb hql q0 q1 q2 q3 q4 q5 q6 q7 q8
  go_wp2_with fail
  refine (I _).mono ?_
  rintro e w6 ⟨rfl, hb⟩
  replace hB := below_then hB hb
  replace P := P.below hb
  replace Q := Q.below hb
  clear hb I
  have R := Box.new w6 #[.int .i64 ri, .int .i64 rp, .int .i64 0, .int .i64 rv, .slice none 0 0, .int .i64 0, .int .i64 0, .slice none 0 0, .slice none 0 0] 26
  have BX := below_alloc w6 (.cells #[.int .i64 ri, .int .i64 rp, .int .i64 0, .int .i64 rv, .slice none 0 0, .int .i64 0, .int .i64 0, .slice none 0 0, .slice none 0 0] 26)
  replace hB := below_then hB BX
  replace P := P.below BX
  replace Q := Q.below BX
  clear BX
  obtain ⟨hpl, p0, p1, p2, p3, p4, p5, p6, p7, p8⟩ := P.e9
  go_wp2_with fail
  refine (EQ _).mono ?_
  rintro e w7 ⟨rfl, hb⟩
  replace hB := below_then hB hb
  replace Q := Q.below hb
  clear hb hpl p0 p1 p2 p3 p4 p5 p6 p7 p8 EQ
  obtain ⟨hql, q0, q1, q2, q3, q4, q5, q6, q7, q8⟩ := Q.e9
  go_wp2_with fail
  refine (HD _).mono ?_
  rintro e w8 ⟨rfl, hb⟩
  replace hB := below_then hB hb
  clear hb hql q0 q1 q2 q3 q4 q5 q6 q7 q8 HD
  go_wp2
  go_ret
  exact ⟨rfl, hB⟩
end Go.Proofs.Ytoaponagdfgfeaa
