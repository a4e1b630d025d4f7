/-
  Filters: joined, impl.JoinFilters.
-/
import Derived.Test.YtdcglghmhjbkkaaR3
namespace Go.Proofs.Ytdcglghmhjbkkaa
open Go.RowKit
set_option linter.unusedVariables false
set_option maxRecDepth 100000

/-- The first k bytes joined. -/
def orK (l r : List UInt8) : Nat → List UInt8
  | 0 => l
  | k + 1 => (orK l r k).set k (l.getD k 0 ||| r.getD k 0)
theorem orK_length (l r : List UInt8) (k : Nat) : (orK l r k).length = l.length := by
  induction k with
  | zero => rfl
  | succ k ih => simp [orK, ih]
theorem orK_at (l r : List UInt8) (k j : Nat) (h : k ≤ j) : (orK l r k).getD j 0 = l.getD j 0 := by
  induction k with
  | zero => rfl
  | succ k ih =>
    have := ih (by omega)
    simp only [orK, List.getD_eq_getElem?_getD] at *
    rw [List.getElem?_set_ne (by omega)]; exact this
theorem or_two (c d : UInt8) : bits BinOp.or IntKind.u8 (c.toNat : Int) (d.toNat : Int) = ((c ||| d).toNat : Int) := by
  rw [u8_or_nat _ _ c.toNat_lt d.toNat_lt, or_u8]
theorem set_row {w : World} {g : Nat} {r : List UInt8} {k : Nat} {c : UInt8} {x : Int} (hx : w.heap[g]? = some (.cells (rowA r) 69)) (hk : k < r.length) (hv : x = (c.toNat : Int)) :
    (w.setCell ⟨g, k, none⟩ (.int .u8 x)).heap[g]? = some (.cells (rowA (r.set k c)) 69) := by
  rw [heap_setCell_same _ _ _ _ _ _ hx]
  congr 2
  subst hv
  unfold rowA bcs
  simp [List.map_set]
theorem row_index (l : List UInt8) (k : Nat) (w : World) (hl : l.length = 32) (hk : k < 32) : (Instr.index 69 (.agg (rowA l)) (.int .i64 (k : Int))).run Try.prog w = .ok (.int .u8 ((l.getD k 0).toNat : Int)) w := by
  have hk2 : k < l.length := by omega
  have hp : (Go.part 5 (rowA l) k).run Try.prog w = .ok (.int .u8 ((l.getD k 0).toNat : Int)) w := by
    have e : l.getD k 0 = l[k] := by simp [hk2]
    rw [e]
    simp [Go.part, isAgg, run_underlying Try.underlying5, rowA_at l k hk2]
  simp [Instr.index, run_underlying Try.underlying69, asIntOf, hp]
  omega

set_option maxHeartbeats 4000000 in
theorem joined_any (l r : List UInt8) (w : World) (hl : l.length = 32) (hr : r.length = 32) :
    Calls Try.prog 55 #[.agg (rowA l), .agg (rowA r)] w fun e w' => e = .returned (.agg (rowA (orK l r 32))) ∧ Below w.heap.size w w' := by
  have h0 : (((w.alloc (.cells (rowA l) 69)).alloc (.cells (rowA r) 69)).alloc (.cells (rowA zer32) 69)).heap[w.heap.size]? = some (.cells (rowA l) 69) := (heap_alloc_old _ _ (by simp; omega)).trans (heap_alloc2_old _ _ _)
  have h1 : (((w.alloc (.cells (rowA l) 69)).alloc (.cells (rowA r) 69)).alloc (.cells (rowA zer32) 69)).heap[w.heap.size + 1]? = some (.cells (rowA r) 69) := (heap_alloc_old _ _ (by simp)).trans (heap_alloc2_new _ _ _)
  have h2 : (((w.alloc (.cells (rowA l) 69)).alloc (.cells (rowA r) 69)).alloc (.cells (rowA zer32) 69)).heap[w.heap.size + 1 + 1]? = some (.cells (rowA zer32) 69) := by
    have := heap_alloc_last ((w.alloc (.cells (rowA l) 69)).alloc (.cells (rowA r) 69)) (.cells (rowA zer32) 69)
    simpa using this
  have hb := below3 w (.cells (rowA l) 69) (.cells (rowA r) 69) (.cells (rowA zer32) 69)
  go_enter Try.func55, Try.ntmps55
  go_wp2_with (first | (refine wpList_allocTo rfl 69 rfl (rowA zer32) Try.zero69 ?_) | (refine wpList_load_row rfl 69 _ rfl (w.heap.size + 1) rfl 69 (rowA r) (0, 0) _ h1 Try.underlying69 rfl (Try.size69r _ hr) ?_) | fail)
  generalize ((w.alloc (.cells (rowA l) 69)).alloc (.cells (rowA r) 69)).alloc (.cells (rowA zer32) 69) = W at *
  go_loopw [8] (fun i wr => ∃ k : Nat, k ≤ 32 ∧ i = .int .i64 k ∧ wr.heap[w.heap.size]? = some (.cells (rowA (orK l r k)) 69) ∧ wr.heap[w.heap.size + 1 + 1]? = some (.cells (rowA zer32) 69) ∧ Below w.heap.size w wr) (fun i _ => 32 - (intOf i).toNat)
  case atStart => exact ⟨0, Nat.zero_le _, rfl, h0, h2, hb⟩
  case round =>
    obtain ⟨k, hk, rfl, hx, hy, hbb⟩ := hrel
    clear h0 h1 h2 hb
    by_cases hlt : k < 32
    · have hix := row_index r k wr hr hlt
      have hlk := orK_length l r k
      have hc1 : wr.cell? ⟨w.heap.size, k, none⟩ = some (.int .u8 ((l.getD k 0).toNat : Int)) := by
        rw [cell_of_row _ _ _ _ _ _ hx, rowA_at _ k (by omega), ← orK_at l r k k (Nat.le_refl _)]
        have : k < (orK l r k).length := by omega
        simp [this]
      have hf1 : wr.frozen? ⟨w.heap.size, k, none⟩ = false := frozen_of_row _ _ _ _ _ hx
      have HX : Hid ((wr.setCell ⟨w.heap.size, k, none⟩ (.int .u8 (bits BinOp.or IntKind.u8 ((l.getD k 0).toNat : Int) ((r.getD k 0).toNat : Int)))).heap[w.heap.size]? = some (.cells (rowA (orK l r (k + 1))) 69)) := set_row hx (by omega) (or_two _ _)
      have hcl := (l.getD k 0).toNat_lt
      have hdl := (r.getD k 0).toNat_lt
      clear hx
      generalize l.getD k 0 = c at *
      generalize r.getD k 0 = d at *
      go_wp2
      go_roundw
      case rel => exact ⟨k + 1, by omega, by go_num, HX.out, (heap_setCell_other _ _ _ _ (by simp; omega)).trans hy, hbb.setCell (p := ⟨w.heap.size, k, none⟩) (Nat.le_refl _) _⟩
      case measure => simp [intOf]; omega
    · obtain rfl : k = 32 := by omega
      have hlk := orK_length l r 32
      have hl2 : (orK l r 32).length = 32 := by omega
      have hBB := hbb.trans ((chg_setRow wr (w.heap.size + 1 + 1) (rowA (orK l r 32))).below hbb.size (fun k hk => by omega))
      have hhh := setRow_heap wr (w.heap.size + 1 + 1) (rowA zer32) (rowA (orK l r 32)) 69 (0, 0) hy
      obtain ⟨q, hq⟩ : ∃ q, q = orK l r 32 := ⟨_, rfl⟩
      rw [← hq] at hx hBB hhh hl2
      have HR : Hid (q = orK l r 32) := hq
      clear hq hlk
      go_wp2_with (first | (refine wpList_load_row rfl 69 _ rfl w.heap.size rfl 69 (rowA q) (0, 0) _ hx Try.underlying69 rfl (Try.size69r _ hl2) ?_) | (refine wpList_store_row rfl 69 _ _ rfl (w.heap.size + 1 + 1) (rowA q) rfl rfl 69 (rowA zer32) hy (Try.size69r _ hl2) (by rw [rowA_size, rowA_size, hl2]; rfl) (rowA_one _) ?_) | fail)
      exact bodyPost_ret (v := .agg (rowA q)) (results_cell_row rfl _ _ (w.heap.size + 1 + 1) 69 _ (0, 0) _ rfl hhh Try.underlying69 rfl (Try.size69r _ hl2)) rfl ⟨by rw [HR.out], hBB⟩

/-- What JoinFilters answers. -/
def joinB (s s2 : ByteArray) : ByteArray := ⟨(orK s.data.toList s2.data.toList 32).toArray⟩
def joinF (n : Int) (s : ByteArray) (m : Int) (n2 : Int) (s2 : ByteArray) (m2 : Int) : Int × ByteArray × Int × Bool :=
  if goodF n s m && goodF n2 s2 m2 && decide (n = n2) then (n, joinB s s2, cap6 (m + m2), true) else (0, ⟨#[]⟩, 0, false)
theorem three_boxes (w : World) (a b c d e f g h i : Value) : Box (((w.alloc (.cells #[a, b, c] 24)).alloc (.cells #[d, e, f] 24)).alloc (.cells #[g, h, i] 24)) w.heap.size [a, b, c] ∧ Box (((w.alloc (.cells #[a, b, c] 24)).alloc (.cells #[d, e, f] 24)).alloc (.cells #[g, h, i] 24)) (w.heap.size + 1) [d, e, f] ∧
    Box (((w.alloc (.cells #[a, b, c] 24)).alloc (.cells #[d, e, f] 24)).alloc (.cells #[g, h, i] 24)) (w.heap.size + 1 + 1) [g, h, i] := by
  refine ⟨((Box.new w #[a, b, c] 24).alloc _).alloc _, ?_, ?_⟩
  · have := (Box.new (w.alloc (.cells #[a, b, c] 24)) #[d, e, f] 24).alloc (.cells #[g, h, i] 24)
    simpa using this
  · have := Box.new ((w.alloc (.cells #[a, b, c] 24)).alloc (.cells #[d, e, f] 24)) #[g, h, i] 24
    simpa using this

set_option maxHeartbeats 4000000 in
theorem implJoin_good (n : Int) (s : ByteArray) (m : Int) (s2 : ByteArray) (m2 : Int) (w : World) (hg : goodF n s m = true) (hg2 : goodF n s2 m2 = true) :
    Calls Try.prog 23 #[.agg #[.int .i64 n, .string s, .int .i64 m], .agg #[.int .i64 n, .string s2, .int .i64 m2]] w fun e w' =>
      e = .returned (.tuple #[.agg #[.int .i64 n, .string (joinB s s2), .int .i64 (cap6 (m + m2))], .bool true]) ∧ Below w.heap.size w w' := by
    obtain ⟨gh, hs, hm0, hm1⟩ := goodF_parts hg
    obtain ⟨_, hs2, hn0, hn1⟩ := goodF_parts hg2
    have hl : s.data.toList.length = 32 := by simpa using hs
    have hl2 : s2.data.toList.length = 32 := by simpa using hs2
    have hl3 : (orK s.data.toList s2.data.toList 32).length = 32 := by rw [orK_length]; exact hl
    have G := fun w => implGood_any n s m w
    have G2 := fun w => implGood_any n s2 m2 w
    rw [hg] at G
    rw [hg2] at G2
    have HB : Hid (joinB s s2 = ⟨(orK s.data.toList s2.data.toList 32).toArray⟩) := rfl
    generalize joinB s s2 = B at *
    have hb3 := below3 w (.cells #[.int .i64 n, .string s, .int .i64 m] 24) (.cells #[.int .i64 n, .string s2, .int .i64 m2] 24) (.cells #[.int .i64 0, .string ⟨#[]⟩, .int .i64 0] 24)
    obtain ⟨X0, Y0, Z0⟩ := three_boxes w (.int .i64 n) (.string s) (.int .i64 m) (.int .i64 n) (.string s2) (.int .i64 m2) (.int .i64 0) (.string ⟨#[]⟩) (.int .i64 0)
    go_enter Try.func23, Try.ntmps23
    go_wp2_with fail
    refine (G _).mono ?_
    rintro e w1 ⟨rfl, hb1⟩
    have X1 := X0.below hb1
    have Y1 := Y0.below hb1
    have Z1 := Z0.below hb1
    have hB1 := below_then hb3 hb1
    clear X0 Y0 Z0 hb3 hb1 G
    obtain ⟨_, y0, y1, y2⟩ := Y1.c3
    go_wp2_with fail
    refine (G2 _).mono ?_
    rintro e w2 ⟨rfl, hb2⟩
    have X2 := X1.below hb2
    have Y2 := Y1.below hb2
    have Z2 := Z1.below hb2
    have hB2 := below_then hB1 hb2
    clear X1 Y1 Z1 hB1 hb2 y0 y1 y2 G2
    obtain ⟨hzx, x0, x1, x2⟩ := X2.c3
    obtain ⟨hzy, y0, y1, y2⟩ := Y2.c3
    go_wp2_with fail
    have hD : Below w2.heap.size w2 w2.drew := (Below.refl _ _).drew
    have X3 := X2.below hD
    have Y3 := Y2.below hD
    have Z3 := Z2.below hD
    have hB3 := below_then hB2 hD
    clear X2 Y2 Z2 hB2 hD x0 x1 x2 y0 y1 y2 hzx hzy
    refine wp_region_held_drew (S := fun w' => Box w' w.heap.size [.int .i64 n, .string s, .int .i64 m] ∧ Box w' (w.heap.size + 1) [.int .i64 n, .string s2, .int .i64 m2]) (by kernel_rfl) ⟨X3, Y3⟩ (fun hHeld => ?_)
    generalize w2.drew = w3 at *
    refine wpAnyH_take (i := 0) (oi := { dst := some 22, op := Op.load 24 (Operand.tmp 2), type := 24, pos := "l5_filter.go:62", after := #[], guard := none }) (v := .agg #[.int .i64 n, .string s, .int .i64 m]) rfl (by kernel_rfl) (by kernel_rfl) (by kernel_rfl) (fun _ _ _ h => h) (Or.inl ⟨by rfl, ?_⟩) (by assumption) ?_
    · intro wx hSw
      obtain ⟨hx, x0, x1, x2⟩ := Box.c3 hSw.1; clear hSw hHeld; go_simp
    simp only [Act.put, List.setIfInBounds_toArray, List.set_cons_zero, List.set_cons_succ]
    refine wpAnyH_take (i := 1) (oi := { dst := some 23, op := Op.load 24 (Operand.tmp 2), type := 24, pos := "l5_filter.go:62", after := #[], guard := none }) (v := .agg #[.int .i64 n, .string s, .int .i64 m]) rfl (by kernel_rfl) (by kernel_rfl) (by kernel_rfl) (fun _ _ _ h => h) (Or.inl ⟨by rfl, ?_⟩) (by assumption) ?_
    · intro wx hSw
      obtain ⟨hx, x0, x1, x2⟩ := Box.c3 hSw.1; clear hSw hHeld; go_simp
    simp only [Act.put, List.setIfInBounds_toArray, List.set_cons_zero, List.set_cons_succ]
    refine wpAnyH_take (i := 3) (oi := { dst := some 25, op := Op.load 24 (Operand.tmp 3), type := 24, pos := "l5_filter.go:62", after := #[], guard := none }) (v := .agg #[.int .i64 n, .string s2, .int .i64 m2]) rfl (by kernel_rfl) (by kernel_rfl) (by kernel_rfl) (fun _ _ _ h => h) (Or.inl ⟨by rfl, ?_⟩) (by assumption) ?_
    · intro wx hSw
      obtain ⟨hx, x0, x1, x2⟩ := Box.c3 hSw.2; clear hSw hHeld; go_simp
    simp only [Act.put, List.setIfInBounds_toArray, List.set_cons_zero, List.set_cons_succ]
    refine wpAnyH_take (i := 6) (oi := { dst := some 28, op := Op.fieldAddr 24 (Operand.tmp 3) 2, type := 0, pos := "l5_filter.go:62", after := #[], guard := none }) (v := .pointer (some ⟨w.heap.size + 1, 2, none⟩)) rfl (by kernel_rfl) (by kernel_rfl) (by kernel_rfl) (fun _ _ _ h => h) (Or.inl ⟨by rfl, ?_⟩) (by assumption) ?_
    · intro wx hSw
      obtain ⟨hx, x0, x1, x2⟩ := Box.c3 hSw.2; clear hSw hHeld; go_simp
    simp only [Act.put, List.setIfInBounds_toArray, List.set_cons_zero, List.set_cons_succ]
    refine wpAnyH_take (i := 7) (oi := { dst := some 29, op := Op.load 3 (Operand.tmp 28), type := 3, pos := "l5_filter.go:62", after := #[{ on := 6, ground := Ground.data }], guard := none }) (v := .int .i64 m2) rfl (by kernel_rfl) (by kernel_rfl) (by kernel_rfl) (fun _ _ _ h => h) (Or.inl ⟨by rfl, ?_⟩) (by assumption) ?_
    · intro wx hSw
      obtain ⟨hx, x0, x1, x2⟩ := Box.c3 hSw.2; clear hSw hHeld; go_simp
    simp only [Act.put, List.setIfInBounds_toArray, List.set_cons_zero, List.set_cons_succ]
    refine wpAnyH_ready (rs := [2]) (by kernel_rfl) (by simp) ?_
    refine AllReadyH.cons (o := { dst := some 24, op := Op.call { callee := Callee.value (Operand.func 45), args := #[Operand.tmp 23], argTypes := #[24] }, type := 69, pos := "l5_filter.go:62", after := #[{ on := 1, ground := Ground.data }], guard := none }) rfl (fun K hK => ?_) AllReadyH.nil
    clear hHeld
    go_simp
    refine (rowOf_any n s m _ hs).mono ?_
    rintro e w4 ⟨rfl, hb⟩
    have X4 := X3.below hb
    have Y4 := Y3.below hb
    have Z4 := Z3.below hb
    have hB4 := below_then hB3 hb
    clear X3 Y3 Z3 hB3 hb
    refine hK.out _ _ ⟨X4, Y4⟩ (fun hHeld => ?_)
    clear hK K
    refine wpAnyH_ready (rs := [4]) (by kernel_rfl) (by simp) ?_
    refine AllReadyH.cons (o := { dst := some 26, op := Op.call { callee := Callee.value (Operand.func 45), args := #[Operand.tmp 25], argTypes := #[24] }, type := 69, pos := "l5_filter.go:62", after := #[{ on := 3, ground := Ground.data }, { on := 2, ground := Ground.chain }], guard := none }) rfl (fun K hK => ?_) AllReadyH.nil
    clear hHeld
    go_simp
    refine (rowOf_any n s2 m2 _ hs2).mono ?_
    rintro e w5 ⟨rfl, hb⟩
    have X5 := X4.below hb
    have Y5 := Y4.below hb
    have Z5 := Z4.below hb
    have hB5 := below_then hB4 hb
    clear X4 Y4 Z4 hB4 hb
    refine hK.out _ _ ⟨X5, Y5⟩ (fun hHeld => ?_)
    clear hK K
    refine wpAnyH_ready (rs := [5]) (by kernel_rfl) (by simp) ?_
    refine AllReadyH.cons (o := { dst := some 27, op := Op.call { callee := Callee.value (Operand.func 55), args := #[Operand.tmp 24, Operand.tmp 26], argTypes := #[69, 69] }, type := 69, pos := "l5_filter.go:62", after := #[{ on := 2, ground := Ground.data }, { on := 4, ground := Ground.data }, { on := 4, ground := Ground.chain }], guard := none }) rfl (fun K hK => ?_) AllReadyH.nil
    clear hHeld
    go_simp
    refine (joined_any s.data.toList s2.data.toList _ hl hl2).mono ?_
    rintro e w6 ⟨rfl, hb⟩
    have X6 := X5.below hb
    have Y6 := Y5.below hb
    have Z6 := Z5.below hb
    have hB6 := below_then hB5 hb
    clear X5 Y5 Z5 hB5 hb
    refine hK.out _ _ ⟨X6, Y6⟩ (fun hHeld => ?_)
    clear hK K
    refine wpAnyH_ready (rs := [8]) (by kernel_rfl) (by simp) ?_
    refine AllReadyH.cons (o := { dst := some 30, op := Op.call { callee := Callee.value (Operand.func 44), args := #[Operand.tmp 22, Operand.tmp 27, Operand.tmp 29], argTypes := #[24, 69, 3] }, type := 24, pos := "l5_filter.go:62", after := #[{ on := 0, ground := Ground.data }, { on := 5, ground := Ground.data }, { on := 7, ground := Ground.data }, { on := 5, ground := Ground.chain }], guard := none }) rfl (fun K hK => ?_) AllReadyH.nil
    clear hHeld
    go_simp
    refine (grown_any n s m (orK s.data.toList s2.data.toList 32) m2 _ hl3 ⟨hm0, hm1⟩ ⟨hn0, hn1⟩).mono ?_
    rintro e w7 ⟨rfl, hb⟩
    have X7 := X6.below hb
    have Y7 := Y6.below hb
    have Z7 := Z6.below hb
    have hB7 := below_then hB6 hb
    clear X6 Y6 Z6 hB6 hb
    rw [← HB.out]
    clear HB
    refine hK.out _ _ ⟨X7, Y7⟩ (fun hHeld => ?_)
    clear hK K
    refine wpAnyH_ready (rs := [9]) (by kernel_rfl) (by simp) ?_
    refine AllReadyH.cons (o := { dst := none, op := Op.store 24 (Operand.tmp 4) (Operand.tmp 30), type := 0, pos := "l5_filter.go:62", after := #[{ on := 8, ground := Ground.data }, { on := 8, ground := Ground.chain }, { on := 0, ground := Ground.phase }, { on := 1, ground := Ground.phase }, { on := 2, ground := Ground.phase }, { on := 3, ground := Ground.phase }, { on := 4, ground := Ground.phase }, { on := 5, ground := Ground.phase }, { on := 6, ground := Ground.phase }, { on := 7, ground := Ground.phase }, { on := 8, ground := Ground.phase }], guard := none }) rfl (fun K hK => ?_) AllReadyH.nil
    clear hHeld
    obtain ⟨⟨f0, f1, f2⟩, zz, t0, t1, t2⟩ := Z7.f3
    have XX := (put3_chg w7 (w.heap.size + 1 + 1) (.int .i64 n) (.string B) (.int .i64 (cap6 (m + m2)))).box X7 (by omega)
    have YY := (put3_chg w7 (w.heap.size + 1 + 1) (.int .i64 n) (.string B) (.int .i64 (cap6 (m + m2)))).box Y7 (by omega)
    obtain ⟨⟨r0, r1, r2⟩, hB⟩ := put3_ok hB7 (by omega) Z7 (.int .i64 n) (.string B) (.int .i64 (cap6 (m + m2)))
    go_simp
    refine hK.out _ (put3 w7 (w.heap.size + 1 + 1) (.int .i64 n) (.string B) (.int .i64 (cap6 (m + m2)))) ⟨XX, YY⟩ (fun hHeld => ?_)
    clear hK K t0 t1 t2 f0 f1 f2 X7 Y7 Z7
    generalize put3 w7 (w.heap.size + 1 + 1) (.int .i64 n) (.string B) (.int .i64 (cap6 (m + m2))) = W' at *
    refine wpAnyH_take (i := 10) (oi := { dst := some 5, op := Op.assign (Operand.const (Value.bool true)), type := 4, pos := "l5_filter.go:62", after := #[{ on := 9, ground := Ground.chain }, { on := 0, ground := Ground.phase }, { on := 1, ground := Ground.phase }, { on := 2, ground := Ground.phase }, { on := 3, ground := Ground.phase }, { on := 4, ground := Ground.phase }, { on := 5, ground := Ground.phase }, { on := 6, ground := Ground.phase }, { on := 7, ground := Ground.phase }, { on := 8, ground := Ground.phase }, { on := 9, ground := Ground.phase }], guard := none }) (v := .bool true) rfl (by kernel_rfl) (by kernel_rfl) (by kernel_rfl) (fun _ _ _ h => h) (Or.inl ⟨by rfl, ?_⟩) (by assumption) ?_
    · intro wx hSw
      clear hSw; go_simp
    simp only [Act.put, List.setIfInBounds_toArray, List.set_cons_zero, List.set_cons_succ]
    clear hHeld
    refine wpAnyH_done (by kernel_rfl) ?_ _
    go_wp2
    exact bodyPost_ret (v := .tuple #[.agg #[.int .i64 n, .string B, .int .i64 (cap6 (m + m2))], .bool true]) (by simp [results, Try.results23, go_sem, r0, r1, r2]) rfl ⟨rfl, hB⟩
end Go.Proofs.Ytdcglghmhjbkkaa
