/-
  Filters: impl.AddKey.
-/
import Derived.Test.YtdcglghmhjbkkaaR2
namespace Go.Proofs.Ytdcglghmhjbkkaa
open Go.RowKit
set_option linter.unusedVariables false
set_option maxRecDepth 100000

/-- What AddKey answers of a good filter and a good key. -/
def addB (s : ByteArray) (n : Int) (k : ByteArray) : ByteArray := ⟨(setBs s.data.toList (plK k n.toNat)).toArray⟩
def addF (n : Int) (s : ByteArray) (m : Int) (k : ByteArray) : Int × ByteArray × Int × Bool :=
  if goodK k && goodF n s m then (n, addB s n k, cap6 (m + 1), true) else (0, ⟨#[]⟩, 0, false)
theorem goodF_parts {n : Int} {s : ByteArray} {m : Int} (h : goodF n s m = true) : goodH n = true ∧ s.size = 32 ∧ 0 ≤ m ∧ m ≤ 1000000 := by
  unfold goodF at h
  simp only [Bool.and_eq_true, decide_eq_true_eq] at h
  exact ⟨h.1.1.1, h.1.1.2, h.1.2, h.2⟩

set_option maxHeartbeats 4000000 in
theorem implAdd_good (nh : Nat) (s : ByteArray) (m : Int) (key : ByteArray) (w : World) (hk : goodK key = true) (hg : goodF (nh : Int) s m = true) :
    Calls Try.prog 14 #[.agg #[.int .i64 (nh : Int), .string s, .int .i64 m], .string key] w fun e w' =>
      e = .returned (.tuple #[.agg #[.int .i64 (nh : Int), .string (addB s nh key), .int .i64 (cap6 (m + 1))], .bool true]) ∧ Below w.heap.size w w' := by
    obtain ⟨gh, hs, hm0, hm1⟩ := goodF_parts hg
    obtain ⟨nh', e1, h1, h8⟩ := goodH_nat gh
    obtain rfl : nh = nh' := by omega
    clear e1
    have hl : s.data.toList.length = 32 := by simpa using hs
    have hl2 : (setBs s.data.toList (plK key nh)).length = 32 := by rw [setBs_length]; exact hl
    have P := fun w => implPlaces_good key nh w hk h1 h8
    have G := fun w => implGood_any (nh : Int) s m w
    rw [hg] at G
    have HB : Hid (addB s nh key = ⟨(setBs s.data.toList (plK key nh)).toArray⟩) := rfl
    generalize addB s nh key = B at *
    have hb2 := below2 w (.cells #[.int .i64 (nh : Int), .string s, .int .i64 m] 24) (.cells #[.int .i64 0, .string ⟨#[]⟩, .int .i64 0] 24)
    have X0 : Box ((w.alloc (.cells #[.int .i64 (nh : Int), .string s, .int .i64 m] 24)).alloc (.cells #[.int .i64 0, .string ⟨#[]⟩, .int .i64 0] 24)) w.heap.size [.int .i64 (nh : Int), .string s, .int .i64 m] := (Box.new w #[.int .i64 (nh : Int), .string s, .int .i64 m] 24).alloc _
    have Z0 : Box ((w.alloc (.cells #[.int .i64 (nh : Int), .string s, .int .i64 m] 24)).alloc (.cells #[.int .i64 0, .string ⟨#[]⟩, .int .i64 0] 24)) (w.heap.size + 1) [.int .i64 0, .string ⟨#[]⟩, .int .i64 0] := by simpa using Box.new (w.alloc (.cells #[.int .i64 (nh : Int), .string s, .int .i64 m] 24)) #[.int .i64 0, .string ⟨#[]⟩, .int .i64 0] 24
    go_enter Try.func14, Try.ntmps14
    go_wp2_with fail
    refine (P _).mono ?_
    rintro e w1 ⟨g, rfl, o1, hb1⟩
    have X1 := X0.below hb1
    have Z1 := Z0.below hb1
    have hB1 := below_then hb2 hb1
    clear X0 Z0 hb2 hb1 P
    obtain ⟨_, x0, x1, x2⟩ := X1.c3
    go_wp2_with fail
    refine (G _).mono ?_
    rintro e w2 ⟨rfl, hb2⟩
    have X2 := X1.below hb2
    have Z2 := Z1.below hb2
    have O2 := owns_below o1 hb2
    have hB2 := below_then hB1 hb2
    clear X1 Z1 hB1 o1 hb2 x0 x1 x2 G
    go_wp2_with fail
    have hD : Below w2.heap.size w2 w2.drew := (Below.refl _ _).drew
    have X3 := X2.below hD
    have Z3 := Z2.below hD
    have O3 := owns_below O2 hD
    have hB3 := below_then hB2 hD
    clear X2 Z2 O2 hB2 hD
    refine wp_region_held_drew (S := fun w' => Box w' w.heap.size [.int .i64 (nh : Int), .string s, .int .i64 m]) (by kernel_rfl) X3 (fun hHeld => ?_)
    generalize w2.drew = w3 at *
    refine wpAnyH_take (i := 0) (oi := { dst := some 23, op := Op.load 24 (Operand.tmp 2), type := 24, pos := "l5_filter.go:45", after := #[], guard := none }) (v := .agg #[.int .i64 (nh : Int), .string s, .int .i64 m]) rfl (by kernel_rfl) (by kernel_rfl) (by kernel_rfl) (fun _ _ _ h => h) (Or.inl ⟨by rfl, ?_⟩) (by assumption) ?_
    · intro wx hSw
      obtain ⟨hx, x0, x1, x2⟩ := Box.c3 hSw; clear hSw hHeld; go_simp
    simp only [Act.put, List.setIfInBounds_toArray, List.set_cons_zero, List.set_cons_succ]
    refine wpAnyH_take (i := 1) (oi := { dst := some 24, op := Op.load 24 (Operand.tmp 2), type := 24, pos := "l5_filter.go:45", after := #[], guard := none }) (v := .agg #[.int .i64 (nh : Int), .string s, .int .i64 m]) rfl (by kernel_rfl) (by kernel_rfl) (by kernel_rfl) (fun _ _ _ h => h) (Or.inl ⟨by rfl, ?_⟩) (by assumption) ?_
    · intro wx hSw
      obtain ⟨hx, x0, x1, x2⟩ := Box.c3 hSw; clear hSw hHeld; go_simp
    simp only [Act.put, List.setIfInBounds_toArray, List.set_cons_zero, List.set_cons_succ]
    refine wpAnyH_take (i := 3) (oi := { dst := some 26, op := Op.move (Operand.tmp 6), type := 37, pos := "l5_filter.go:45", after := #[], guard := none }) (v := .slice (some ⟨g, 0, none⟩) nh nh) rfl (by kernel_rfl) (by kernel_rfl) (by kernel_rfl) (fun _ _ _ h => h) (Or.inl ⟨by rfl, ?_⟩) (by assumption) ?_
    · intro wx hSw
      clear hSw hHeld; go_simp
    simp only [Act.put, List.setIfInBounds_toArray, List.set_cons_zero, List.set_cons_succ]
    refine wpAnyH_ready (rs := [2]) (by kernel_rfl) (by simp) ?_
    refine AllReadyH.cons (o := { dst := some 25, op := Op.call { callee := Callee.value (Operand.func 45), args := #[Operand.tmp 24], argTypes := #[24] }, type := 69, pos := "l5_filter.go:45", after := #[{ on := 1, ground := Ground.data }], guard := none }) rfl (fun K hK => ?_) AllReadyH.nil
    clear hHeld
    go_simp
    refine (rowOf_any (nh : Int) s m _ hs).mono ?_
    rintro e w4 ⟨rfl, hb4⟩
    have X4 := X3.below hb4
    have Z4 := Z3.below hb4
    have O4 := owns_below O3 hb4
    have hB4 := below_then hB3 hb4
    clear X3 Z3 O3 hB3 hb4
    refine hK.out _ _ X4 (fun hHeld => ?_)
    clear hK K
    refine wpAnyH_ready (rs := [4]) (by kernel_rfl) (by simp) ?_
    refine AllReadyH.cons (o := { dst := some 27, op := Op.call { callee := Callee.value (Operand.func 46), args := #[Operand.tmp 25, Operand.tmp 26], argTypes := #[69, 37] }, type := 69, pos := "l5_filter.go:45", after := #[{ on := 2, ground := Ground.data }, { on := 3, ground := Ground.data }, { on := 2, ground := Ground.chain }], guard := none }) rfl (fun K hK => ?_) AllReadyH.nil
    clear hHeld
    go_simp
    have il := IL_of_owns (zs := plZ key nh) O4 (plZ_length key nh).symm
    have IL4 : IL w4 (.slice (some ⟨g, 0, none⟩) nh nh) ((plK key nh).map Int.ofNat) := il
    refine (with_any s.data.toList _ (plK key nh) _ hl IL4 (plK_lt key nh) (by rw [plK_length]; exact h8)).mono ?_
    rintro e w5 ⟨rfl, hb5⟩
    have X5 := X4.below hb5
    have Z5 := Z4.below hb5
    have hB5 := below_then hB4 hb5
    clear X4 Z4 O4 hB4 hb5 il IL4
    refine hK.out _ _ X5 (fun hHeld => ?_)
    clear hK K
    refine wpAnyH_ready (rs := [5]) (by kernel_rfl) (by simp) ?_
    refine AllReadyH.cons (o := { dst := some 28, op := Op.call { callee := Callee.value (Operand.func 44), args := #[Operand.tmp 23, Operand.tmp 27, Operand.const (Value.int IntKind.i64 1)], argTypes := #[24, 69, 3] }, type := 24, pos := "l5_filter.go:45", after := #[{ on := 0, ground := Ground.data }, { on := 4, ground := Ground.data }, { on := 4, ground := Ground.chain }], guard := none }) rfl (fun K hK => ?_) AllReadyH.nil
    clear hHeld
    go_simp
    refine (grown_any (nh : Int) s m (setBs s.data.toList (plK key nh)) 1 _ hl2 ⟨hm0, hm1⟩ (by omega)).mono ?_
    rintro e w6 ⟨rfl, hb6⟩
    rw [← HB.out]
    clear HB
    have X6 := X5.below hb6
    have Z6 := Z5.below hb6
    have hB6 := below_then hB5 hb6
    clear X5 Z5 hB5 hb6
    refine hK.out _ _ X6 (fun hHeld => ?_)
    clear hK K
    refine wpAnyH_ready (rs := [6]) (by kernel_rfl) (by simp) ?_
    refine AllReadyH.cons (o := { dst := none, op := Op.store 24 (Operand.tmp 4) (Operand.tmp 28), type := 0, pos := "l5_filter.go:45", after := #[{ on := 5, ground := Ground.data }, { on := 5, ground := Ground.chain }, { on := 0, ground := Ground.phase }, { on := 1, ground := Ground.phase }, { on := 2, ground := Ground.phase }, { on := 3, ground := Ground.phase }, { on := 4, ground := Ground.phase }, { on := 5, ground := Ground.phase }], guard := none }) rfl (fun K hK => ?_) AllReadyH.nil
    clear hHeld
    obtain ⟨⟨f0, f1, f2⟩, zz, t0, t1, t2⟩ := Z6.f3
    have XX := (put3_chg w6 (w.heap.size + 1) (.int .i64 (nh : Int)) (.string B) (.int .i64 (cap6 (m + 1)))).box X6 (by omega)
    obtain ⟨⟨r0, r1, r2⟩, hB⟩ := put3_ok hB6 (by omega) Z6 (.int .i64 (nh : Int)) (.string B) (.int .i64 (cap6 (m + 1)))
    go_simp
    refine hK.out _ (put3 w6 (w.heap.size + 1) (.int .i64 (nh : Int)) (.string B) (.int .i64 (cap6 (m + 1)))) XX (fun hHeld => ?_)
    clear hK K t0 t1 t2 f0 f1 f2 X6 Z6
    generalize put3 w6 (w.heap.size + 1) (.int .i64 (nh : Int)) (.string B) (.int .i64 (cap6 (m + 1))) = W' at *
    refine wpAnyH_take (i := 7) (oi := { dst := some 5, op := Op.assign (Operand.const (Value.bool true)), type := 4, pos := "l5_filter.go:45", after := #[{ on := 6, ground := Ground.chain }, { on := 0, ground := Ground.phase }, { on := 1, ground := Ground.phase }, { on := 2, ground := Ground.phase }, { on := 3, ground := Ground.phase }, { on := 4, ground := Ground.phase }, { on := 5, ground := Ground.phase }, { on := 6, ground := Ground.phase }], guard := none }) (v := .bool true) rfl (by kernel_rfl) (by kernel_rfl) (by kernel_rfl) (fun _ _ _ h => h) (Or.inl ⟨by rfl, ?_⟩) (by assumption) ?_
    · intro wx hSw
      clear hSw; go_simp
    simp only [Act.put, List.setIfInBounds_toArray, List.set_cons_zero, List.set_cons_succ]
    clear hHeld
    refine wpAnyH_done (by kernel_rfl) ?_ _
    go_wp2
    exact bodyPost_ret (v := .tuple #[.agg #[.int .i64 (nh : Int), .string B, .int .i64 (cap6 (m + 1))], .bool true]) (by simp [results, Try.results14, go_sem, r0, r1, r2]) rfl ⟨rfl, hB⟩
end Go.Proofs.Ytdcglghmhjbkkaa
