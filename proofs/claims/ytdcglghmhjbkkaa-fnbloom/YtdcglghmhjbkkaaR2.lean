/-
  Filters: grown.
-/
import Derived.Test.YtdcglghmhjbkkaaR1
import Derived.Deep.RegionHeld3
namespace Go.Proofs.Ytdcglghmhjbkkaa
open Go.RowKit
set_option linter.unusedVariables false
set_option maxRecDepth 100000

theorem run_load_row {P : Program} (o : Oper) (a : Act) (w : World) (ty : TypeId) (x : Operand) (ho : o.op = .load ty x) (g : Nat) (hx : a.eval x = .pointer (some ⟨g, 0, none⟩)) (t : TypeId) (cs : Array Value) (fr : Nat × Nat) (d : TypeDesc) (hg : w.heap[g]? = some (.cells cs t fr))
    (hu : P.underlying ty = some d) (hd : (match d with | .struct _ | .array _ _ => true | _ => false) = true) (hi : (P.info? ty).map (·.size) = some cs.size) :
    (execOp a.eval o).run P w = .ok (.value (.agg cs)) w := by
  unfold execOp
  simp only [ho, hx, Instr.loadAt, Instr.sureAddr, Sem.run_bind, Sem.run_pure, Result.andThen_ok, run_loadVar_row w g t ty cs fr d hg hu hd hi]
/-- At most 1000000. -/
def cap6 (x : Int) : Int := if x < 1000000 then x else 1000000
set_option maxHeartbeats 2000000 in
theorem grown_any (n : Int) (s : ByteArray) (m : Int) (l : List UInt8) (k : Int) (w : World) (hl : l.length = 32) (hm : 0 ≤ m ∧ m ≤ 1000000) (hk : 0 ≤ k ∧ k ≤ 1000000) :
    Calls Try.prog 44 #[.agg #[.int .i64 n, .string s, .int .i64 m], .agg (rowA l), .int .i64 k] w fun e w' => e = .returned (.agg #[.int .i64 n, .string ⟨l.toArray⟩, .int .i64 (cap6 (m + k))]) ∧ Below w.heap.size w w' := by
  have HC : Hid (cap6 (m + k) = if m + k < 1000000 then m + k else 1000000) := rfl
  have hwr : IntKind.i64.wrap (m + k) = m + k := by rw [IntKind.wrap_i64]; omega
  obtain ⟨W, hW⟩ : ∃ W, W = ((w.alloc (.cells #[.int .i64 n, .string s, .int .i64 m] 24)).alloc (.cells (rowA l) 69)).alloc (.cells #[.int .i64 0, .string ⟨#[]⟩, .int .i64 0] 24) := ⟨_, rfl⟩
  have hb3 : Below w.heap.size w W := by rw [hW]; exact below3 _ _ _ _
  have X0 : Box W w.heap.size [.int .i64 n, .string s, .int .i64 m] := by rw [hW]; exact ((Box.new w #[.int .i64 n, .string s, .int .i64 m] 24).alloc _).alloc _
  have Z0 : Box W (w.heap.size + 1 + 1) [.int .i64 0, .string ⟨#[]⟩, .int .i64 0] := by rw [hW]; simpa using Box.new ((w.alloc (.cells #[.int .i64 n, .string s, .int .i64 m] 24)).alloc (.cells (rowA l) 69)) #[.int .i64 0, .string ⟨#[]⟩, .int .i64 0] 24
  have Y0 : W.heap[w.heap.size + 1]? = some (.cells (rowA l) 69) := by
    rw [hW]; exact (heap_alloc_old _ _ (by simp)).trans (heap_alloc2_new _ _ _)
  have hD : Below W.heap.size W W.drew := (Below.refl _ _).drew
  have hx := X0.1
  have hz := Z0.1
  go_enter Try.func44, Try.ntmps44
  go_wp2_with fail
  rw [← hW]
  clear hW
  refine wp_region_held_drew (S := fun w' => (w'.cell? ⟨w.heap.size, 0, none⟩ = some (.int .i64 n) ∧ w'.cell? ⟨w.heap.size, 2, none⟩ = some (.int .i64 m)) ∧ w.heap.size < w'.heap.size ∧ w'.heap[w.heap.size + 1]? = some (.cells (rowA l) 69)) (by kernel_rfl) ⟨⟨X0.c3.2.1, X0.c3.2.2.2⟩, hx, Y0⟩ (fun hHeld => ?_)
  have X1 := X0.below hD
  have Z1 := Z0.below hD
  have hB1 := below_then hb3 hD
  clear X0 Z0 hb3 Y0 hD hx hz
  generalize W.drew = va at *
  refine wpAnyH_take (i := 0) (oi := { dst := some 7, op := Op.fieldAddr 24 (Operand.tmp 3) 0, type := 0, pos := "l5_filter.go:131", after := #[], guard := none }) (v := .pointer (some ⟨w.heap.size, 0, none⟩)) rfl (by kernel_rfl) (by kernel_rfl) (by kernel_rfl) (fun _ _ _ h => h) (Or.inl ⟨by rfl, ?_⟩) (by assumption) ?_
  · intro wx hSw
    go_simp
  simp only [Act.put, List.setIfInBounds_toArray, List.set_cons_zero, List.set_cons_succ]
  refine wpAnyH_take (i := 1) (oi := { dst := some 8, op := Op.load 3 (Operand.tmp 7), type := 3, pos := "l5_filter.go:131", after := #[{ on := 0, ground := Ground.data }], guard := none }) (v := .int .i64 n) rfl (by kernel_rfl) (by kernel_rfl) (by kernel_rfl) (fun _ _ _ h => h) (Or.inl ⟨by rfl, ?_⟩) (by assumption) ?_
  · intro wx hSw
    go_simp
  simp only [Act.put, List.setIfInBounds_toArray, List.set_cons_zero, List.set_cons_succ]
  refine wpAnyH_take (i := 2) (oi := { dst := some 9, op := Op.load 69 (Operand.tmp 4), type := 69, pos := "l5_filter.go:131", after := #[], guard := none }) (v := .agg (rowA l)) rfl (by kernel_rfl) (by kernel_rfl) (by kernel_rfl) (fun _ _ _ h => h) (Or.inl ⟨by rfl, ?_⟩) (by assumption) ?_
  · intro wx hSw
    exact run_load_row _ _ wx 69 _ rfl (w.heap.size + 1) rfl 69 (rowA l) (0, 0) _ hSw.2.2 Try.underlying69 rfl (Try.size69r _ hl)
  simp only [Act.put, List.setIfInBounds_toArray, List.set_cons_zero, List.set_cons_succ]
  refine wpAnyH_take (i := 4) (oi := { dst := some 11, op := Op.fieldAddr 24 (Operand.tmp 3) 2, type := 0, pos := "l5_filter.go:131", after := #[], guard := none }) (v := .pointer (some ⟨w.heap.size, 2, none⟩)) rfl (by kernel_rfl) (by kernel_rfl) (by kernel_rfl) (fun _ _ _ h => h) (Or.inl ⟨by rfl, ?_⟩) (by assumption) ?_
  · intro wx hSw
    go_simp
  simp only [Act.put, List.setIfInBounds_toArray, List.set_cons_zero, List.set_cons_succ]
  refine wpAnyH_take (i := 5) (oi := { dst := some 12, op := Op.load 3 (Operand.tmp 11), type := 3, pos := "l5_filter.go:131", after := #[{ on := 4, ground := Ground.data }], guard := none }) (v := .int .i64 m) rfl (by kernel_rfl) (by kernel_rfl) (by kernel_rfl) (fun _ _ _ h => h) (Or.inl ⟨by rfl, ?_⟩) (by assumption) ?_
  · intro wx hSw
    go_simp
  simp only [Act.put, List.setIfInBounds_toArray, List.set_cons_zero, List.set_cons_succ]
  refine wpAnyH_take (i := 6) (oi := { dst := some 13, op := Op.move (Operand.tmp 2), type := 3, pos := "l5_filter.go:131", after := #[], guard := none }) (v := .int .i64 k) rfl (by kernel_rfl) (by kernel_rfl) (by kernel_rfl) (fun _ _ _ h => h) (Or.inl ⟨by rfl, ?_⟩) (by assumption) ?_
  · intro wx hSw
    go_simp
  simp only [Act.put, List.setIfInBounds_toArray, List.set_cons_zero, List.set_cons_succ]
  refine wpAnyH_take (i := 7) (oi := { dst := some 14, op := Op.binOp BinOp.add 3 (Operand.tmp 12) (Operand.tmp 13) 3, type := 3, pos := "l5_filter.go:131", after := #[{ on := 5, ground := Ground.data }, { on := 6, ground := Ground.data }], guard := none }) (v := .int .i64 (m + k)) rfl (by kernel_rfl) (by kernel_rfl) (by kernel_rfl) (fun _ _ _ h => h) (Or.inl ⟨by rfl, ?_⟩) (by assumption) ?_
  · intro wx hSw
    go_simp
  simp only [Act.put, List.setIfInBounds_toArray, List.set_cons_zero, List.set_cons_succ]
  refine wpAnyH_take (i := 8) (oi := { dst := some 15, op := Op.call { callee := Callee.builtin Builtin.min, args := #[Operand.tmp 14, Operand.const (Value.int IntKind.i64 1000000)], argTypes := #[3, 3] }, type := 3, pos := "l5_filter.go:131", after := #[{ on := 7, ground := Ground.data }], guard := none }) (v := .int .i64 (cap6 (m + k))) rfl (by kernel_rfl) (by kernel_rfl) (by kernel_rfl) (fun _ _ _ h => h) (Or.inl ⟨by rfl, ?_⟩) (by assumption) ?_
  · intro wx hSw
    clear hSw; rw [HC.out]; by_cases hlt : m + k < 1000000 <;> go_simp <;> omega
  simp only [Act.put, List.setIfInBounds_toArray, List.set_cons_zero, List.set_cons_succ]
  refine wpAnyH_ready (rs := [3]) (by kernel_rfl) (by simp) ?_
  refine AllReadyH.cons (o := { dst := some 10, op := Op.call { callee := Callee.value (Operand.func 57), args := #[Operand.tmp 9], argTypes := #[69] }, type := 9, pos := "l5_filter.go:131", after := #[{ on := 2, ground := Ground.data }], guard := none }) rfl (fun K hK => ?_) AllReadyH.nil
  go_simp
  refine (text_any l hl _).mono ?_
  rintro e vb ⟨rfl, hbb⟩
  have X2 := X1.below hbb
  have Z2 := Z1.below hbb
  have hB2 := below_then hB1 hbb
  have hlt : w.heap.size + 1 < va.heap.size := by have := Z1.1; omega
  have Y2 : vb.heap[w.heap.size + 1]? = some (.cells (rowA l) 69) := (hbb.block _ hlt).trans hHeld.2.2
  clear X1 Z1 hB1 hHeld hlt hbb
  refine hK.out _ _ ⟨⟨X2.c3.2.1, X2.c3.2.2.2⟩, X2.1, Y2⟩ (fun hHeld => ?_)
  clear hK K
  refine wpAnyH_take (i := 9) (oi := { dst := some 16, op := Op.build 24 #[(0, Operand.tmp 8), (1, Operand.tmp 10), (2, Operand.tmp 15)], type := 24, pos := "l5_filter.go:131", after := #[{ on := 1, ground := Ground.data }, { on := 3, ground := Ground.data }, { on := 8, ground := Ground.data }], guard := none }) (v := .agg #[.int .i64 n, .string ⟨l.toArray⟩, .int .i64 (cap6 (m + k))]) rfl (by kernel_rfl) (by kernel_rfl) (by kernel_rfl) (fun _ _ _ h => h) (Or.inl ⟨by rfl, ?_⟩) (by assumption) ?_
  · intro wx hSw
    go_simp
  simp only [Act.put, List.setIfInBounds_toArray, List.set_cons_zero, List.set_cons_succ]
  refine wpAnyH_ready (rs := [10]) (by kernel_rfl) (by simp) ?_
  refine AllReadyH.cons (o := { dst := none, op := Op.store 24 (Operand.tmp 6) (Operand.tmp 16), type := 0, pos := "l5_filter.go:131", after := #[{ on := 9, ground := Ground.data }, { on := 3, ground := Ground.chain }, { on := 0, ground := Ground.phase }, { on := 1, ground := Ground.phase }, { on := 2, ground := Ground.phase }, { on := 3, ground := Ground.phase }, { on := 4, ground := Ground.phase }, { on := 5, ground := Ground.phase }, { on := 6, ground := Ground.phase }, { on := 7, ground := Ground.phase }, { on := 8, ground := Ground.phase }, { on := 9, ground := Ground.phase }], guard := none }) rfl (fun K hK => ?_) AllReadyH.nil
  obtain ⟨⟨f0, f1, f2⟩, zz, t0, t1, t2⟩ := Z2.f3
  have XX := (put3_chg vb (w.heap.size + 1 + 1) (.int .i64 n) (.string ⟨l.toArray⟩) (.int .i64 (cap6 (m + k)))).box X2 (by omega)
  have YY : (put3 vb (w.heap.size + 1 + 1) (.int .i64 n) (.string ⟨l.toArray⟩) (.int .i64 (cap6 (m + k)))).heap[w.heap.size + 1]? = some (.cells (rowA l) 69) := ((put3_chg vb (w.heap.size + 1 + 1) (.int .i64 n) (.string ⟨l.toArray⟩) (.int .i64 (cap6 (m + k)))).block _ (by omega) (by omega)).trans Y2
  obtain ⟨⟨r0, r1, r2⟩, hB⟩ := put3_ok hB2 (by omega) Z2 (.int .i64 n) (.string ⟨l.toArray⟩) (.int .i64 (cap6 (m + k)))
  go_simp
  refine hK.out _ (put3 vb (w.heap.size + 1 + 1) (.int .i64 n) (.string ⟨l.toArray⟩) (.int .i64 (cap6 (m + k)))) ⟨⟨XX.c3.2.1, XX.c3.2.2.2⟩, XX.1, YY⟩ (fun _ => ?_)
  clear hK K t0 t1 t2 f0 f1 f2 X2 Z2 Y2 XX YY hHeld
  generalize put3 vb (w.heap.size + 1 + 1) (.int .i64 n) (.string ⟨l.toArray⟩) (.int .i64 (cap6 (m + k))) = W' at *


  refine wpAnyH_done (by kernel_rfl) ?_ _
  go_wp2
  exact bodyPost_ret (v := .agg #[.int .i64 n, .string ⟨l.toArray⟩, .int .i64 (cap6 (m + k))]) (by simp [results, Try.results44, go_sem, r0, r1, r2]) rfl ⟨rfl, hB⟩
end Go.Proofs.Ytdcglghmhjbkkaa
