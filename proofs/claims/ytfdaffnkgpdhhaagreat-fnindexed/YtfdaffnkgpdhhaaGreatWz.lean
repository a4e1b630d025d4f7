/-
  Filters: rows of bits in memory: impl.rowOf, bitRow.with.
  Filters: grown.
  Filters: impl.AddKey.
  Filters: impl.AddKey whole.
-/
import Derived.Test.YtfdaffnkgpdhhaaGreatWy
import Derived.Laws.ShiftsVarLaws
import Derived.Deep.RegionHeld3
namespace Go.Proofs.YtfdaffnkgpdhhaaGreat
open Go.RowKit
set_option linter.unusedVariables false
set_option maxRecDepth 100000

theorem chg_setRow (w : World) (g : Nat) (cs : Array Value) : Chg (· = g) w (w.setRow g cs) :=
  ⟨rfl, rfl, rfl, by simp, fun k hk hs => setRow_other w g k cs hs⟩
/-- An array read out of cells that may lie in a longer block. -/
theorem run_loadVar_cells {P : Program} (w : World) (g : Nat) (ty : TypeId) (cs : Array Value) (d : TypeDesc) (hc : ∀ (j : Nat) v, cs[j]? = some v → w.cell? ⟨g, j, none⟩ = some v)
    (hu : P.underlying ty = some d) (hd : (match d with | .struct _ | .array _ _ => true | _ => false) = true) (hi : (P.info? ty).map (·.size) = some cs.size) :
    (loadVar ty ⟨g, 0, none⟩).run P w = .ok (.agg cs) w := by
  have hl : (loadCells ⟨g, 0, none⟩ cs.toList.length).run P w = .ok cs.toList.toArray w :=
    run_loadCells_list (P := P) w ⟨g, 0, none⟩ cs.toList (fun j v hv => by
      have hadd : (⟨g, 0, none⟩ : Addr).add j = ⟨g, j, none⟩ := by unfold Addr.add; split <;> simp_all
      rw [hadd]
      exact hc j v (by simpa using hv))
  cases hq : P.info? ty with
  | none => simp [hq] at hi
  | some i =>
    have hs : i.size = cs.size := by simpa [hq] using hi
    have hagg : (isAgg ty).run P w = .ok true w := by
      unfold isAgg
      rw [Sem.run_bind, run_underlying hu w]
      cases d <;> simp_all
    simp only [Array.length_toList, Array.toArray_toList] at hl
    simp [loadVar, Sem.run_bind, hagg, sizeOf, typeInfo, hq, hs, hl]
theorem wpList_load_cells {P : Program} {ops : Array Oper} {rest : List Oper} {o : Oper} {a : Act} {w : World} {Q : Exit → Act → World → Prop} (hgd : o.guard = none) (ty : TypeId) (x : Operand) (ho : o.op = .load ty x)
    (g : Nat) (hx : a.eval x = .pointer (some ⟨g, 0, none⟩)) (cs : Array Value) (d : TypeDesc) (hc : ∀ (j : Nat) v, cs[j]? = some v → w.cell? ⟨g, j, none⟩ = some v)
    (hu : P.underlying ty = some d) (hd : (match d with | .struct _ | .array _ _ => true | _ => false) = true) (hi : (P.info? ty).map (·.size) = some cs.size)
    (h : wpList P ops Q rest (a.put o.dst (.agg cs)) w) : wpList P ops Q (o :: rest) a w :=
  wpList_plain hgd fun K hK => by
    unfold Oper.wp execOp
    simp only [ho, hx, Instr.loadAt, Instr.sureAddr, Sem.run_bind, Sem.run_pure, Result.andThen_ok, run_loadVar_cells w g ty cs d hc hu hd hi]
    exact hK _ _ h
theorem wr_cells {w : World} {g : Nat} {l : List UInt8} (h : Wr w g l) : ∀ (j : Nat) v, (rowA l)[j]? = some v → w.cell? ⟨g, j, none⟩ = some v := by
  intro j v hv
  have hj : j < l.length := by
    have := (Array.getElem?_eq_some_iff.1 hv).1
    rwa [rowA_size] at this
  rw [rowA_at l j hj] at hv
  rw [(h.2 j hj).1]; exact hv
theorem Tryz.size88r (l : List UInt8) (hl : l.length = 32) : (Tryz.prog.info? 88).map (·.size) = some (rowA l).size := by rw [rowA_size, hl]; exact Tryz.size88

set_option maxHeartbeats 1000000 in
theorem rowOf_any (n : Int) (s : ByteArray) (m : Int) (w : World) (hs : s.size = 32) :
    Calls Tryz.prog 55 #[.agg #[.int .i64 n, .string s, .int .i64 m]] w fun e w' => e = .returned (.agg (rowA s.data.toList)) ∧ Below w.heap.size w w' := by
  have hl : s.data.toList.length = 32 := by simpa using hs
  obtain ⟨W, hW⟩ : ∃ W, W = (w.alloc (.cells #[.int .i64 n, .string s, .int .i64 m] 46)).alloc (.cells (rowA zer32) 88) := ⟨_, rfl⟩
  have hb2 : Below w.heap.size w W := by rw [hW]; exact below2 _ _ _
  have hh2 : W.heap[w.heap.size + 1]? = some (.cells (rowA zer32) 88) := by rw [hW]; exact heap_alloc2_new _ _ _
  obtain ⟨cap, W', hcv, hwr, hb3⟩ := bytes_of s W
  rw [hs] at hcv
  have hlt2 : w.heap.size + 1 < W.heap.size := by rw [hW]; simp
  have hh3 : W'.heap[w.heap.size + 1]? = some (.cells (rowA zer32) 88) := (hb3.block _ hlt2).trans hh2
  have hz : W.heap.size = w.heap.size + 1 + 1 := by rw [hW]; simp
  rw [hz] at hcv hwr
  rw [hW] at hcv
  have hB := below_then hb2 hb3
  have hwrc := wr_cells hwr
  have harr : (Instr.arrayAt 88 (.slice (some ⟨w.heap.size + 1 + 1, 0, none⟩) 32 cap)).run Tryz.prog W' = .ok (.pointer (some ⟨w.heap.size + 1 + 1, 0, none⟩)) W' := by
    simp [Instr.arrayAt, run_underlying Tryz.underlying88]
  have hBB := hB.trans ((chg_setRow W' (w.heap.size + 1) (rowA s.data.toList)).below hB.size (fun k hk => by omega))
  have hhh := setRow_heap W' (w.heap.size + 1) (rowA zer32) (rowA s.data.toList) 88 (0, 0) hh3
  clear hb2 hh2 hb3 hlt2 hz hW
  go_enter Tryz.func55, Tryz.ntmps55
  go_wp2_with (first | (refine wpList_allocTo rfl 88 rfl (rowA zer32) Tryz.zero88 ?_) | (refine wpList_load_cells rfl 88 _ rfl (w.heap.size + 1 + 1) rfl (rowA s.data.toList) _ hwrc Tryz.underlying88 rfl (Tryz.size88r _ hl) ?_) | (refine wpList_store_row rfl 88 _ _ rfl (w.heap.size + 1) (rowA s.data.toList) rfl rfl 88 (rowA zer32) hh3 (Tryz.size88r _ hl) (by rw [rowA_size, rowA_size, hl]; rfl) (rowA_one _) ?_) | fail)
  exact bodyPost_ret (v := .agg (rowA s.data.toList)) (results_cell_row rfl _ _ (w.heap.size + 1) 88 _ (0, 0) _ rfl hhh Tryz.underlying88 rfl (Tryz.size88r _ hl)) rfl ⟨rfl, hBB⟩

theorem or_bit (c : UInt8) (p : Nat) : bits BinOp.or IntKind.u8 (c.toNat : Int) (2 ^ (p % 8) % 256) = ((c ||| UInt8.ofNat (2 ^ (p % 8))).toNat : Int) := by
  have hp : 2 ^ (p % 8) < 256 := Nat.pow_lt_pow_right (n := 8) (by omega) (Nat.mod_lt _ (by omega))
  have e1 : (2 : Int) ^ (p % 8) % 256 = ((2 ^ (p % 8) : Nat) : Int) := by
    rw [show (2 : Int) ^ (p % 8) = ((2 ^ (p % 8) : Nat) : Int) from by rw [Int.natCast_pow]; rfl]
    generalize 2 ^ (p % 8) = q at hp ⊢
    omega
  rw [e1, u8_or_nat _ _ c.toNat_lt hp, or_u8, pow_u8 _ (Nat.mod_lt _ (by omega))]
theorem setB_row {w : World} {g : Nat} {r : List UInt8} {p : Nat} {x : Int} (hx : w.heap[g]? = some (.cells (rowA r) 88)) (hp : p / 8 < r.length) (hv : x = ((r.getD (p / 8) 0 ||| UInt8.ofNat (2 ^ (p % 8))).toNat : Int)) :
    (w.setCell ⟨g, p / 8, none⟩ (.int .u8 x)).heap[g]? = some (.cells (rowA (setB r p)) 88) := by
  rw [heap_setCell_same _ _ _ _ _ _ hx]
  congr 2
  subst hv
  unfold rowA setB bcs
  simp [List.map_set]
set_option maxHeartbeats 1000000 in
theorem with_any (l : List UInt8) (v : Value) (ps : List Nat) (w : World) (hl : l.length = 32) (hv : IL w v (ps.map Int.ofNat)) (hp : ∀ p ∈ ps, p < 256) (hn : ps.length ≤ 8) :
    Calls Tryz.prog 56 #[.agg (rowA l), v] w fun e w' => e = .returned (.agg (rowA (setBs l ps))) ∧ Below w.heap.size w w' := by
  obtain ⟨a, cap, rfl, hc⟩ := hv
  have hq : ∀ (k : Nat) (hk : k < ps.length), ps[k] < 256 := fun k hk => hp _ (List.getElem_mem hk)
  go_enter Tryz.func56, Tryz.ntmps56
  go_wp2_with (first | (refine wpList_allocTo rfl 88 rfl (rowA zer32) Tryz.zero88 ?_) | fail)
  go_loopw [9] (fun i wr => ∃ k : Nat, k ≤ ps.length ∧ i = .int .i64 k ∧ wr.heap[w.heap.size]? = some (.cells (rowA (setBs l (ps.take k))) 88) ∧ wr.heap[w.heap.size + 1]? = some (.cells (rowA zer32) 88) ∧ Below w.heap.size w wr) (fun i _ => ps.length - (intOf i).toNat)
  case atStart => exact ⟨0, Nat.zero_le _, rfl, heap_alloc2_old _ _ _, heap_alloc2_new _ _ _, below2 _ _ _⟩
  case round =>
    obtain ⟨k, hk, rfl, hx, hy, hb⟩ := hrel
    by_cases hlt : k < ps.length
    · obtain ⟨b, off, rfl, hbl, hcell⟩ := hc (by intro e; rw [List.map_eq_nil_iff] at e; simp [e] at hlt)
      have hlk := setBs_length l (ps.take k)
      have hc0 : wr.cell? ⟨b, off + k, none⟩ = some (.int .i64 ((ps[k] : Nat) : Int)) := (hb.cell (p := ⟨b, off + k, none⟩) hbl).trans (by rw [hcell k (by simpa using hlt), List.getElem_map]; rfl)
      have hp0 := hq k hlt
      obtain ⟨r, hr⟩ : ∃ r, r = setBs l (ps.take k) := ⟨_, rfl⟩
      have HS : Hid (setBs l (ps.take (k + 1)) = setB r ps[k]) := by show _ = _; rw [hr]; exact setBs_take_succ l ps k hlt
      rw [← hr] at hx hlk
      have hpl : ps[k] / 8 < r.length := by omega
      have hc1 : wr.cell? ⟨w.heap.size, ps[k] / 8, none⟩ = some (.int .u8 ((r.getD (ps[k] / 8) 0).toNat : Int)) := by
        rw [cell_of_row _ _ _ _ _ _ hx, rowA_at r _ hpl]; simp [hpl]
      have hf1 : wr.frozen? ⟨w.heap.size, ps[k] / 8, none⟩ = false := frozen_of_row _ _ _ _ _ hx
      have hcl := (r.getD (ps[k] / 8) 0).toNat_lt
      have HV : Hid (bits BinOp.or IntKind.u8 ((r.getD (ps[k] / 8) 0).toNat : Int) (2 ^ (ps[k] % 8) % 256) = (((r.getD (ps[k] / 8) 0) ||| UInt8.ofNat (2 ^ (ps[k] % 8))).toNat : Int)) := or_bit _ _
      have HX : Hid ((wr.setCell ⟨w.heap.size, ps[k] / 8, none⟩ (.int .u8 (bits BinOp.or IntKind.u8 ((r.getD (ps[k] / 8) 0).toNat : Int) (2 ^ (ps[k] % 8) % 256)))).heap[w.heap.size]? = some (.cells (rowA (setB r ps[k])) 88)) := setB_row hx hpl HV.out
      clear hr hcell hc hq HV
      generalize ps[k] = p at *
      generalize (r.getD (p / 8) 0) = c at *
      go_wp2_with fail
      go_region
      go_wp2
      go_roundw
      case rel =>
        refine ⟨k + 1, by omega, by go_num, ?_, ?_, ?_⟩
        · rw [HS.out]; exact HX.out
        · exact (heap_setCell_other _ _ _ _ (by simp)).trans hy
        · exact (hb.setCell (p := ⟨w.heap.size, p / 8, none⟩) (Nat.le_refl _) _).drew
      case measure => simp [intOf]; omega
    · obtain rfl : k = ps.length := by omega
      rw [List.take_length] at hx
      have hlk := setBs_length l ps
      have hBB := hb.trans ((chg_setRow wr (w.heap.size + 1) (rowA (setBs l ps))).below hb.size (fun k hk => by omega))
      have hhh := setRow_heap wr (w.heap.size + 1) (rowA zer32) (rowA (setBs l ps)) 88 (0, 0) hy
      have hl2 : (setBs l ps).length = 32 := by omega
      obtain ⟨r, hr⟩ : ∃ r, r = setBs l ps := ⟨_, rfl⟩
      rw [← hr] at hx hBB hhh hl2
      have HR : Hid (r = setBs l ps) := hr
      clear hr hlk
      go_wp2_with (first | (refine wpList_load_row rfl 88 _ rfl w.heap.size rfl 88 (rowA r) (0, 0) _ hx Tryz.underlying88 rfl (Tryz.size88r _ hl2) ?_) | (refine wpList_store_row rfl 88 _ _ rfl (w.heap.size + 1) (rowA r) rfl rfl 88 (rowA zer32) hy (Tryz.size88r _ hl2) (by rw [rowA_size, rowA_size, hl2]; rfl) (rowA_one _) ?_) | fail)
      exact bodyPost_ret (v := .agg (rowA r)) (results_cell_row rfl _ _ (w.heap.size + 1) 88 _ (0, 0) _ rfl hhh Tryz.underlying88 rfl (Tryz.size88r _ hl2)) rfl ⟨by rw [HR.out], hBB⟩
end Go.Proofs.YtfdaffnkgpdhhaaGreat

namespace Go.Proofs.YtfdaffnkgpdhhaaGreat
open Go.RowKit
set_option linter.unusedVariables false
set_option maxRecDepth 100000

theorem run_load_row {P : Program} (o : Oper) (a : Act) (w : World) (ty : TypeId) (x : Operand) (ho : o.op = .load ty x) (g : Nat) (hx : a.eval x = .pointer (some ⟨g, 0, none⟩)) (t : TypeId) (cs : Array Value) (fr : Nat × Nat) (d : TypeDesc) (hg : w.heap[g]? = some (.cells cs t fr))
    (hu : P.underlying ty = some d) (hd : (match d with | .struct _ | .array _ _ => true | _ => false) = true) (hi : (P.info? ty).map (·.size) = some cs.size) :
    (execOp a.eval o).run P w = .ok (.value (.agg cs)) w := by
  unfold execOp
  simp only [ho, hx, Instr.loadAt, Instr.sureAddr, Sem.run_bind, Sem.run_pure, Result.andThen_ok, run_loadVar_row w g t ty cs fr d hg hu hd hi]
/-- At most 1000000. -/
def cap6 (x : Int) : Int := if x < 1000000 then x else 1000000
set_option maxHeartbeats 2000000 in
theorem grown_any (n : Int) (s : ByteArray) (m : Int) (l : List UInt8) (k : Int) (w : World) (hl : l.length = 32) (hm : 0 ≤ m ∧ m ≤ 1000000) (hk : 0 ≤ k ∧ k ≤ 1000000) :
    Calls Tryz.prog 132 #[.agg #[.int .i64 n, .string s, .int .i64 m], .agg (rowA l), .int .i64 k] w fun e w' => e = .returned (.agg #[.int .i64 n, .string ⟨l.toArray⟩, .int .i64 (cap6 (m + k))]) ∧ Below w.heap.size w w' := by
  have HC : Hid (cap6 (m + k) = if m + k < 1000000 then m + k else 1000000) := rfl
  have hwr : IntKind.i64.wrap (m + k) = m + k := by rw [IntKind.wrap_i64]; omega
  obtain ⟨W, hW⟩ : ∃ W, W = ((w.alloc (.cells #[.int .i64 n, .string s, .int .i64 m] 46)).alloc (.cells (rowA l) 88)).alloc (.cells #[.int .i64 0, .string ⟨#[]⟩, .int .i64 0] 46) := ⟨_, rfl⟩
  have hb3 : Below w.heap.size w W := by rw [hW]; exact below3 _ _ _ _
  have X0 : Box W w.heap.size [.int .i64 n, .string s, .int .i64 m] := by rw [hW]; exact ((Box.new w #[.int .i64 n, .string s, .int .i64 m] 46).alloc _).alloc _
  have Z0 : Box W (w.heap.size + 1 + 1) [.int .i64 0, .string ⟨#[]⟩, .int .i64 0] := by rw [hW]; simpa using Box.new ((w.alloc (.cells #[.int .i64 n, .string s, .int .i64 m] 46)).alloc (.cells (rowA l) 88)) #[.int .i64 0, .string ⟨#[]⟩, .int .i64 0] 46
  have Y0 : W.heap[w.heap.size + 1]? = some (.cells (rowA l) 88) := by
    rw [hW]; exact (heap_alloc_old _ _ (by simp)).trans (heap_alloc2_new _ _ _)
  have hD : Below W.heap.size W W.drew := (Below.refl _ _).drew
  have hx := X0.1
  have hz := Z0.1
  go_enter Tryz.func132, Tryz.ntmps132
  go_wp2_with fail
  rw [← hW]
  clear hW
  refine wp_region_held_drew (S := fun w' => (w'.cell? ⟨w.heap.size, 0, none⟩ = some (.int .i64 n) ∧ w'.cell? ⟨w.heap.size, 2, none⟩ = some (.int .i64 m)) ∧ w.heap.size < w'.heap.size ∧ w'.heap[w.heap.size + 1]? = some (.cells (rowA l) 88)) (by kernel_rfl) ⟨⟨X0.c3.2.1, X0.c3.2.2.2⟩, hx, Y0⟩ (fun hHeld => ?_)
  have X1 := X0.below hD
  have Z1 := Z0.below hD
  have hB1 := below_then hb3 hD
  clear X0 Z0 hb3 Y0 hD hx hz
  generalize W.drew = va at *
  refine wpAnyH_take (i := 0) (oi := { dst := some 7, op := Op.fieldAddr 46 (Operand.tmp 3) 0, type := 0, pos := "l5_filter.go:131", after := #[], guard := none }) (v := .pointer (some ⟨w.heap.size, 0, none⟩)) rfl (by kernel_rfl) (by kernel_rfl) (by kernel_rfl) (fun _ _ _ h => h) (Or.inl ⟨by rfl, ?_⟩) (by assumption) ?_
  · intro wx hSw
    go_simp
  simp only [Act.put, List.setIfInBounds_toArray, List.set_cons_zero, List.set_cons_succ]
  refine wpAnyH_take (i := 1) (oi := { dst := some 8, op := Op.load 3 (Operand.tmp 7), type := 3, pos := "l5_filter.go:131", after := #[{ on := 0, ground := Ground.data }], guard := none }) (v := .int .i64 n) rfl (by kernel_rfl) (by kernel_rfl) (by kernel_rfl) (fun _ _ _ h => h) (Or.inl ⟨by rfl, ?_⟩) (by assumption) ?_
  · intro wx hSw
    go_simp
  simp only [Act.put, List.setIfInBounds_toArray, List.set_cons_zero, List.set_cons_succ]
  refine wpAnyH_take (i := 2) (oi := { dst := some 9, op := Op.load 88 (Operand.tmp 4), type := 88, pos := "l5_filter.go:131", after := #[], guard := none }) (v := .agg (rowA l)) rfl (by kernel_rfl) (by kernel_rfl) (by kernel_rfl) (fun _ _ _ h => h) (Or.inl ⟨by rfl, ?_⟩) (by assumption) ?_
  · intro wx hSw
    exact run_load_row _ _ wx 88 _ rfl (w.heap.size + 1) rfl 88 (rowA l) (0, 0) _ hSw.2.2 Tryz.underlying88 rfl (Tryz.size88r _ hl)
  simp only [Act.put, List.setIfInBounds_toArray, List.set_cons_zero, List.set_cons_succ]
  refine wpAnyH_take (i := 4) (oi := { dst := some 11, op := Op.fieldAddr 46 (Operand.tmp 3) 2, type := 0, pos := "l5_filter.go:131", after := #[], guard := none }) (v := .pointer (some ⟨w.heap.size, 2, none⟩)) rfl (by kernel_rfl) (by kernel_rfl) (by kernel_rfl) (fun _ _ _ h => h) (Or.inl ⟨by rfl, ?_⟩) (by assumption) ?_
  · intro wx hSw
    go_simp
  simp only [Act.put, List.setIfInBounds_toArray, List.set_cons_zero, List.set_cons_succ]
  refine wpAnyH_take (i := 5) (oi := { dst := some 12, op := Op.load 3 (Operand.tmp 11), type := 3, pos := "l5_filter.go:131", after := #[{ on := 4, ground := Ground.data }], guard := none }) (v := .int .i64 m) rfl (by kernel_rfl) (by kernel_rfl) (by kernel_rfl) (fun _ _ _ h => h) (Or.inl ⟨by rfl, ?_⟩) (by assumption) ?_
  · intro wx hSw
    go_simp
  simp only [Act.put, List.setIfInBounds_toArray, List.set_cons_zero, List.set_cons_succ]
  refine wpAnyH_take (i := 6) (oi := { dst := some 13, op := Op.move (Operand.tmp 2), type := 3, pos := "l5_filter.go:131", after := #[], guard := none }) (v := .int .i64 k) rfl (by kernel_rfl) (by kernel_rfl) (by kernel_rfl) (fun _ _ _ h => h) (Or.inl ⟨by rfl, ?_⟩) (by assumption) ?_
  · intro wx hSw
    go_simp
  simp only [Act.put, List.setIfInBounds_toArray, List.set_cons_zero, List.set_cons_succ]
  refine wpAnyH_take (i := 7) (oi := { dst := some 14, op := Op.binOp BinOp.add 3 (Operand.tmp 12) (Operand.tmp 13) 3, type := 3, pos := "l5_filter.go:131", after := #[{ on := 5, ground := Ground.data }, { on := 6, ground := Ground.data }], guard := none }) (v := .int .i64 (m + k)) rfl (by kernel_rfl) (by kernel_rfl) (by kernel_rfl) (fun _ _ _ h => h) (Or.inl ⟨by rfl, ?_⟩) (by assumption) ?_
  · intro wx hSw
    go_simp
  simp only [Act.put, List.setIfInBounds_toArray, List.set_cons_zero, List.set_cons_succ]
  refine wpAnyH_take (i := 8) (oi := { dst := some 15, op := Op.call { callee := Callee.builtin Builtin.min, args := #[Operand.tmp 14, Operand.const (Value.int IntKind.i64 1000000)], argTypes := #[3, 3] }, type := 3, pos := "l5_filter.go:131", after := #[{ on := 7, ground := Ground.data }], guard := none }) (v := .int .i64 (cap6 (m + k))) rfl (by kernel_rfl) (by kernel_rfl) (by kernel_rfl) (fun _ _ _ h => h) (Or.inl ⟨by rfl, ?_⟩) (by assumption) ?_
  · intro wx hSw
    clear hSw; rw [HC.out]; by_cases hlt : m + k < 1000000 <;> go_simp <;> omega
  simp only [Act.put, List.setIfInBounds_toArray, List.set_cons_zero, List.set_cons_succ]
  refine wpAnyH_ready (rs := [3]) (by kernel_rfl) (by simp) ?_
  refine AllReadyH.cons (o := { dst := some 10, op := Op.call { callee := Callee.value (Operand.func 131), args := #[Operand.tmp 9], argTypes := #[88] }, type := 9, pos := "l5_filter.go:131", after := #[{ on := 2, ground := Ground.data }], guard := none }) rfl (fun K hK => ?_) AllReadyH.nil
  go_simp
  refine (textF_any l hl _).mono ?_
  rintro e vb ⟨rfl, hbb⟩
  have X2 := X1.below hbb
  have Z2 := Z1.below hbb
  have hB2 := below_then hB1 hbb
  have hlt : w.heap.size + 1 < va.heap.size := by have := Z1.1; omega
  have Y2 : vb.heap[w.heap.size + 1]? = some (.cells (rowA l) 88) := (hbb.block _ hlt).trans hHeld.2.2
  clear X1 Z1 hB1 hHeld hlt hbb
  refine hK.out _ _ ⟨⟨X2.c3.2.1, X2.c3.2.2.2⟩, X2.1, Y2⟩ (fun hHeld => ?_)
  clear hK K
  refine wpAnyH_take (i := 9) (oi := { dst := some 16, op := Op.build 46 #[(0, Operand.tmp 8), (1, Operand.tmp 10), (2, Operand.tmp 15)], type := 46, pos := "l5_filter.go:131", after := #[{ on := 1, ground := Ground.data }, { on := 3, ground := Ground.data }, { on := 8, ground := Ground.data }], guard := none }) (v := .agg #[.int .i64 n, .string ⟨l.toArray⟩, .int .i64 (cap6 (m + k))]) rfl (by kernel_rfl) (by kernel_rfl) (by kernel_rfl) (fun _ _ _ h => h) (Or.inl ⟨by rfl, ?_⟩) (by assumption) ?_
  · intro wx hSw
    go_simp
  simp only [Act.put, List.setIfInBounds_toArray, List.set_cons_zero, List.set_cons_succ]
  refine wpAnyH_ready (rs := [10]) (by kernel_rfl) (by simp) ?_
  refine AllReadyH.cons (o := { dst := none, op := Op.store 46 (Operand.tmp 6) (Operand.tmp 16), type := 0, pos := "l5_filter.go:131", after := #[{ on := 9, ground := Ground.data }, { on := 3, ground := Ground.chain }, { on := 0, ground := Ground.phase }, { on := 1, ground := Ground.phase }, { on := 2, ground := Ground.phase }, { on := 3, ground := Ground.phase }, { on := 4, ground := Ground.phase }, { on := 5, ground := Ground.phase }, { on := 6, ground := Ground.phase }, { on := 7, ground := Ground.phase }, { on := 8, ground := Ground.phase }, { on := 9, ground := Ground.phase }], guard := none }) rfl (fun K hK => ?_) AllReadyH.nil
  obtain ⟨⟨f0, f1, f2⟩, zz, t0, t1, t2⟩ := Z2.f3
  have XX := (put3_chg vb (w.heap.size + 1 + 1) (.int .i64 n) (.string ⟨l.toArray⟩) (.int .i64 (cap6 (m + k)))).box X2 (by omega)
  have YY : (put3 vb (w.heap.size + 1 + 1) (.int .i64 n) (.string ⟨l.toArray⟩) (.int .i64 (cap6 (m + k)))).heap[w.heap.size + 1]? = some (.cells (rowA l) 88) := ((put3_chg vb (w.heap.size + 1 + 1) (.int .i64 n) (.string ⟨l.toArray⟩) (.int .i64 (cap6 (m + k)))).block _ (by omega) (by omega)).trans Y2
  obtain ⟨⟨r0, r1, r2⟩, hB⟩ := put3_ok hB2 (by omega) Z2 (.int .i64 n) (.string ⟨l.toArray⟩) (.int .i64 (cap6 (m + k)))
  go_simp
  refine hK.out _ (put3 vb (w.heap.size + 1 + 1) (.int .i64 n) (.string ⟨l.toArray⟩) (.int .i64 (cap6 (m + k)))) ⟨⟨XX.c3.2.1, XX.c3.2.2.2⟩, XX.1, YY⟩ (fun _ => ?_)
  clear hK K t0 t1 t2 f0 f1 f2 X2 Z2 Y2 XX YY hHeld
  generalize put3 vb (w.heap.size + 1 + 1) (.int .i64 n) (.string ⟨l.toArray⟩) (.int .i64 (cap6 (m + k))) = W' at *


  refine wpAnyH_done (by kernel_rfl) ?_ _
  go_wp2
  exact bodyPost_ret (v := .agg #[.int .i64 n, .string ⟨l.toArray⟩, .int .i64 (cap6 (m + k))]) (by simp [results, Tryz.results132, go_sem, r0, r1, r2]) rfl ⟨rfl, hB⟩
end Go.Proofs.YtfdaffnkgpdhhaaGreat

namespace Go.Proofs.YtfdaffnkgpdhhaaGreat
open Go.RowKit
set_option linter.unusedVariables false
set_option maxRecDepth 100000

/-- What AddKey answers of a good filter and a good key. -/
def addB (s : ByteArray) (n : Int) (k : ByteArray) : ByteArray := ⟨(setBs s.data.toList (plK k n.toNat)).toArray⟩
def addF (n : Int) (s : ByteArray) (m : Int) (k : ByteArray) : Int × ByteArray × Int × Bool :=
  if goodK k && goodF n s m then (n, addB s n k, cap6 (m + 1), true) else (0, ⟨#[]⟩, 0, false)
theorem goodF_parts {n : Int} {s : ByteArray} {m : Int} (h : goodF n s m = true) : goodH n = true ∧ s.size = 32 ∧ 0 ≤ m ∧ m ≤ 1000000 := by
  unfold goodF at h
  simp only [Bool.and_eq_true, decide_eq_true_eq] at h
  exact ⟨h.1.1.1, h.1.1.2, h.1.2, h.2⟩

set_option maxHeartbeats 4000000 in
theorem implAdd_good (nh : Nat) (s : ByteArray) (m : Int) (key : ByteArray) (w : World) (hk : goodK key = true) (hg : goodF (nh : Int) s m = true) :
    Calls Tryz.prog 109 #[.agg #[.int .i64 (nh : Int), .string s, .int .i64 m], .string key] w fun e w' =>
      e = .returned (.tuple #[.agg #[.int .i64 (nh : Int), .string (addB s nh key), .int .i64 (cap6 (m + 1))], .bool true]) ∧ Below w.heap.size w w' := by
    obtain ⟨gh, hs, hm0, hm1⟩ := goodF_parts hg
    obtain ⟨nh', e1, h1, h8⟩ := goodH_nat gh
    obtain rfl : nh = nh' := by omega
    clear e1
    have hl : s.data.toList.length = 32 := by simpa using hs
    have hl2 : (setBs s.data.toList (plK key nh)).length = 32 := by rw [setBs_length]; exact hl
    have P := fun w => implPlaces_good key nh w hk h1 h8
    have G := fun w => implGoodF_any (nh : Int) s m w
    rw [hg] at G
    have HB : Hid (addB s nh key = ⟨(setBs s.data.toList (plK key nh)).toArray⟩) := rfl
    generalize addB s nh key = B at *
    have hb2 := below2 w (.cells #[.int .i64 (nh : Int), .string s, .int .i64 m] 46) (.cells #[.int .i64 0, .string ⟨#[]⟩, .int .i64 0] 46)
    have X0 : Box ((w.alloc (.cells #[.int .i64 (nh : Int), .string s, .int .i64 m] 46)).alloc (.cells #[.int .i64 0, .string ⟨#[]⟩, .int .i64 0] 46)) w.heap.size [.int .i64 (nh : Int), .string s, .int .i64 m] := (Box.new w #[.int .i64 (nh : Int), .string s, .int .i64 m] 46).alloc _
    have Z0 : Box ((w.alloc (.cells #[.int .i64 (nh : Int), .string s, .int .i64 m] 46)).alloc (.cells #[.int .i64 0, .string ⟨#[]⟩, .int .i64 0] 46)) (w.heap.size + 1) [.int .i64 0, .string ⟨#[]⟩, .int .i64 0] := by simpa using Box.new (w.alloc (.cells #[.int .i64 (nh : Int), .string s, .int .i64 m] 46)) #[.int .i64 0, .string ⟨#[]⟩, .int .i64 0] 46
    go_enter Tryz.func109, Tryz.ntmps109
    go_wp2_with fail
    refine (P _).mono ?_
    rintro e w1 ⟨g, rfl, o1, hb1⟩
    have X1 := X0.below hb1
    have Z1 := Z0.below hb1
    have hB1 := below_then hb2 hb1
    clear X0 Z0 hb2 hb1 P
    obtain ⟨_, x0, x1, x2⟩ := X1.c3
    go_wp2_with fail
    refine (G _).mono ?_
    rintro e w2 ⟨rfl, hb2⟩
    have X2 := X1.below hb2
    have Z2 := Z1.below hb2
    have O2 := owns_below o1 hb2
    have hB2 := below_then hB1 hb2
    clear X1 Z1 hB1 o1 hb2 x0 x1 x2 G
    go_wp2_with fail
    have hD : Below w2.heap.size w2 w2.drew := (Below.refl _ _).drew
    have X3 := X2.below hD
    have Z3 := Z2.below hD
    have O3 := owns_below O2 hD
    have hB3 := below_then hB2 hD
    clear X2 Z2 O2 hB2 hD
    refine wp_region_held_drew (S := fun w' => Box w' w.heap.size [.int .i64 (nh : Int), .string s, .int .i64 m]) (by kernel_rfl) X3 (fun hHeld => ?_)
    generalize w2.drew = w3 at *
    refine wpAnyH_take (i := 0) (oi := { dst := some 23, op := Op.load 46 (Operand.tmp 2), type := 46, pos := "l5_filter.go:45", after := #[], guard := none }) (v := .agg #[.int .i64 (nh : Int), .string s, .int .i64 m]) rfl (by kernel_rfl) (by kernel_rfl) (by kernel_rfl) (fun _ _ _ h => h) (Or.inl ⟨by rfl, ?_⟩) (by assumption) ?_
    · intro wx hSw
      obtain ⟨hx, x0, x1, x2⟩ := Box.c3 hSw; clear hSw hHeld; go_simp
    simp only [Act.put, List.setIfInBounds_toArray, List.set_cons_zero, List.set_cons_succ]
    refine wpAnyH_take (i := 1) (oi := { dst := some 24, op := Op.load 46 (Operand.tmp 2), type := 46, pos := "l5_filter.go:45", after := #[], guard := none }) (v := .agg #[.int .i64 (nh : Int), .string s, .int .i64 m]) rfl (by kernel_rfl) (by kernel_rfl) (by kernel_rfl) (fun _ _ _ h => h) (Or.inl ⟨by rfl, ?_⟩) (by assumption) ?_
    · intro wx hSw
      obtain ⟨hx, x0, x1, x2⟩ := Box.c3 hSw; clear hSw hHeld; go_simp
    simp only [Act.put, List.setIfInBounds_toArray, List.set_cons_zero, List.set_cons_succ]
    refine wpAnyH_take (i := 3) (oi := { dst := some 26, op := Op.move (Operand.tmp 6), type := 83, pos := "l5_filter.go:45", after := #[], guard := none }) (v := .slice (some ⟨g, 0, none⟩) nh nh) rfl (by kernel_rfl) (by kernel_rfl) (by kernel_rfl) (fun _ _ _ h => h) (Or.inl ⟨by rfl, ?_⟩) (by assumption) ?_
    · intro wx hSw
      clear hSw hHeld; go_simp
    simp only [Act.put, List.setIfInBounds_toArray, List.set_cons_zero, List.set_cons_succ]
    refine wpAnyH_ready (rs := [2]) (by kernel_rfl) (by simp) ?_
    refine AllReadyH.cons (o := { dst := some 25, op := Op.call { callee := Callee.value (Operand.func 55), args := #[Operand.tmp 24], argTypes := #[46] }, type := 88, pos := "l5_filter.go:45", after := #[{ on := 1, ground := Ground.data }], guard := none }) rfl (fun K hK => ?_) AllReadyH.nil
    clear hHeld
    go_simp
    refine (rowOf_any (nh : Int) s m _ hs).mono ?_
    rintro e w4 ⟨rfl, hb4⟩
    have X4 := X3.below hb4
    have Z4 := Z3.below hb4
    have O4 := owns_below O3 hb4
    have hB4 := below_then hB3 hb4
    clear X3 Z3 O3 hB3 hb4
    refine hK.out _ _ X4 (fun hHeld => ?_)
    clear hK K
    refine wpAnyH_ready (rs := [4]) (by kernel_rfl) (by simp) ?_
    refine AllReadyH.cons (o := { dst := some 27, op := Op.call { callee := Callee.value (Operand.func 56), args := #[Operand.tmp 25, Operand.tmp 26], argTypes := #[88, 83] }, type := 88, pos := "l5_filter.go:45", after := #[{ on := 2, ground := Ground.data }, { on := 3, ground := Ground.data }, { on := 2, ground := Ground.chain }], guard := none }) rfl (fun K hK => ?_) AllReadyH.nil
    clear hHeld
    go_simp
    have il := IL_of_owns (zs := plZ key nh) O4 (plZ_length key nh).symm
    have IL4 : IL w4 (.slice (some ⟨g, 0, none⟩) nh nh) ((plK key nh).map Int.ofNat) := il
    refine (with_any s.data.toList _ (plK key nh) _ hl IL4 (plK_lt key nh) (by rw [plK_length]; exact h8)).mono ?_
    rintro e w5 ⟨rfl, hb5⟩
    have X5 := X4.below hb5
    have Z5 := Z4.below hb5
    have hB5 := below_then hB4 hb5
    clear X4 Z4 O4 hB4 hb5 il IL4
    refine hK.out _ _ X5 (fun hHeld => ?_)
    clear hK K
    refine wpAnyH_ready (rs := [5]) (by kernel_rfl) (by simp) ?_
    refine AllReadyH.cons (o := { dst := some 28, op := Op.call { callee := Callee.value (Operand.func 132), args := #[Operand.tmp 23, Operand.tmp 27, Operand.const (Value.int IntKind.i64 1)], argTypes := #[46, 88, 3] }, type := 46, pos := "l5_filter.go:45", after := #[{ on := 0, ground := Ground.data }, { on := 4, ground := Ground.data }, { on := 4, ground := Ground.chain }], guard := none }) rfl (fun K hK => ?_) AllReadyH.nil
    clear hHeld
    go_simp
    refine (grown_any (nh : Int) s m (setBs s.data.toList (plK key nh)) 1 _ hl2 ⟨hm0, hm1⟩ (by omega)).mono ?_
    rintro e w6 ⟨rfl, hb6⟩
    rw [← HB.out]
    clear HB
    have X6 := X5.below hb6
    have Z6 := Z5.below hb6
    have hB6 := below_then hB5 hb6
    clear X5 Z5 hB5 hb6
    refine hK.out _ _ X6 (fun hHeld => ?_)
    clear hK K
    refine wpAnyH_ready (rs := [6]) (by kernel_rfl) (by simp) ?_
    refine AllReadyH.cons (o := { dst := none, op := Op.store 46 (Operand.tmp 4) (Operand.tmp 28), type := 0, pos := "l5_filter.go:45", after := #[{ on := 5, ground := Ground.data }, { on := 5, ground := Ground.chain }, { on := 0, ground := Ground.phase }, { on := 1, ground := Ground.phase }, { on := 2, ground := Ground.phase }, { on := 3, ground := Ground.phase }, { on := 4, ground := Ground.phase }, { on := 5, ground := Ground.phase }], guard := none }) rfl (fun K hK => ?_) AllReadyH.nil
    clear hHeld
    obtain ⟨⟨f0, f1, f2⟩, zz, t0, t1, t2⟩ := Z6.f3
    have XX := (put3_chg w6 (w.heap.size + 1) (.int .i64 (nh : Int)) (.string B) (.int .i64 (cap6 (m + 1)))).box X6 (by omega)
    obtain ⟨⟨r0, r1, r2⟩, hB⟩ := put3_ok hB6 (by omega) Z6 (.int .i64 (nh : Int)) (.string B) (.int .i64 (cap6 (m + 1)))
    go_simp
    refine hK.out _ (put3 w6 (w.heap.size + 1) (.int .i64 (nh : Int)) (.string B) (.int .i64 (cap6 (m + 1)))) XX (fun hHeld => ?_)
    clear hK K t0 t1 t2 f0 f1 f2 X6 Z6
    generalize put3 w6 (w.heap.size + 1) (.int .i64 (nh : Int)) (.string B) (.int .i64 (cap6 (m + 1))) = W' at *
    refine wpAnyH_take (i := 7) (oi := { dst := some 5, op := Op.assign (Operand.const (Value.bool true)), type := 4, pos := "l5_filter.go:45", after := #[{ on := 6, ground := Ground.chain }, { on := 0, ground := Ground.phase }, { on := 1, ground := Ground.phase }, { on := 2, ground := Ground.phase }, { on := 3, ground := Ground.phase }, { on := 4, ground := Ground.phase }, { on := 5, ground := Ground.phase }, { on := 6, ground := Ground.phase }], guard := none }) (v := .bool true) rfl (by kernel_rfl) (by kernel_rfl) (by kernel_rfl) (fun _ _ _ h => h) (Or.inl ⟨by rfl, ?_⟩) (by assumption) ?_
    · intro wx hSw
      clear hSw; go_simp
    simp only [Act.put, List.setIfInBounds_toArray, List.set_cons_zero, List.set_cons_succ]
    clear hHeld
    refine wpAnyH_done (by kernel_rfl) ?_ _
    go_wp2
    exact bodyPost_ret (v := .tuple #[.agg #[.int .i64 (nh : Int), .string B, .int .i64 (cap6 (m + 1))], .bool true]) (by simp [results, Tryz.results109, go_sem, r0, r1, r2]) rfl ⟨rfl, hB⟩
end Go.Proofs.YtfdaffnkgpdhhaaGreat

namespace Go.Proofs.YtfdaffnkgpdhhaaGreat
open Go.RowKit
set_option linter.unusedVariables false
set_option maxRecDepth 100000

theorem two_boxes (w : World) (a b c d e f : Value) : Box ((w.alloc (.cells #[a, b, c] 46)).alloc (.cells #[d, e, f] 46)) w.heap.size [a, b, c] ∧ Box ((w.alloc (.cells #[a, b, c] 46)).alloc (.cells #[d, e, f] 46)) (w.heap.size + 1) [d, e, f] :=
  ⟨(Box.new w #[a, b, c] 46).alloc _, by simpa using Box.new (w.alloc (.cells #[a, b, c] 46)) #[d, e, f] 46⟩

set_option maxHeartbeats 4000000 in
theorem implAdd_bad (n : Int) (s : ByteArray) (m : Int) (key : ByteArray) (w : World) (hg : (goodK key && goodF n s m) = false) :
    Calls Tryz.prog 109 #[.agg #[.int .i64 n, .string s, .int .i64 m], .string key] w fun e w' =>
      e = .returned (.tuple #[.agg #[.int .i64 0, .string ⟨#[]⟩, .int .i64 0], .bool false]) ∧ Below w.heap.size w w' := by
  have hb2 := below2 w (.cells #[.int .i64 n, .string s, .int .i64 m] 46) (.cells #[.int .i64 0, .string ⟨#[]⟩, .int .i64 0] 46)
  obtain ⟨X0, Z0⟩ := two_boxes w (.int .i64 n) (.string s) (.int .i64 m) (.int .i64 0) (.string ⟨#[]⟩) (.int .i64 0)
  cases hkh : goodK key && goodH n with
  | false =>
    have P := fun w => implPlaces_bad key n w hkh
    go_enter Tryz.func109, Tryz.ntmps109
    go_wp2_with fail
    refine (P _).mono ?_
    rintro e w1 ⟨rfl, hb1⟩
    have Z1 := Z0.below hb1
    have hB1 := below_then hb2 hb1
    clear X0 Z0 hb2 hb1 P
    obtain ⟨⟨f0, f1, f2⟩, c0, c1, c2, c3⟩ := Z1.f3
    obtain ⟨⟨t0, t1, t2⟩, hB⟩ := put3_ok hB1 (by omega) Z1 (.int .i64 0) (.string ⟨#[]⟩) (.int .i64 0)
    go_wp2
    change bodyPost _ _ _ _ _ (put3 w1 (w.heap.size + 1) (.int .i64 0) (.string ⟨#[]⟩) (.int .i64 0))
    generalize put3 w1 (w.heap.size + 1) (.int .i64 0) (.string ⟨#[]⟩) (.int .i64 0) = W at *
    exact bodyPost_ret (v := .tuple #[.agg #[.int .i64 0, .string ⟨#[]⟩, .int .i64 0], .bool false]) (by simp [results, Tryz.results109, go_sem, t0, t1, t2]) rfl ⟨rfl, hB⟩
  | true =>
    rw [Bool.and_eq_true] at hkh
    have hgf : goodF n s m = false := by rw [hkh.1] at hg; simpa using hg
    obtain ⟨nh, rfl, h1, h8⟩ := goodH_nat hkh.2
    have P := fun w => implPlaces_good key nh w hkh.1 h1 h8
    have G := fun w => implGoodF_any (nh : Int) s m w
    rw [hgf] at G
    clear hg hkh hgf
    go_enter Tryz.func109, Tryz.ntmps109
    go_wp2_with fail
    refine (P _).mono ?_
    rintro e w1 ⟨g, rfl, o1, hb1⟩
    have X1 := X0.below hb1
    have Z1 := Z0.below hb1
    have hB1 := below_then hb2 hb1
    clear X0 Z0 hb2 hb1 P o1
    obtain ⟨_, x0, x1, x2⟩ := X1.c3
    go_wp2_with fail
    refine (G _).mono ?_
    rintro e w2 ⟨rfl, hb2⟩
    have Z2 := Z1.below hb2
    have hB2 := below_then hB1 hb2
    clear X1 Z1 hB1 hb2 x0 x1 x2 G
    obtain ⟨⟨f0, f1, f2⟩, c0, c1, c2, c3⟩ := Z2.f3
    obtain ⟨⟨t0, t1, t2⟩, hB⟩ := put3_ok hB2 (by omega) Z2 (.int .i64 0) (.string ⟨#[]⟩) (.int .i64 0)
    go_wp2
    change bodyPost _ _ _ _ _ (put3 w2 (w.heap.size + 1) (.int .i64 0) (.string ⟨#[]⟩) (.int .i64 0))
    generalize put3 w2 (w.heap.size + 1) (.int .i64 0) (.string ⟨#[]⟩) (.int .i64 0) = W at *
    exact bodyPost_ret (v := .tuple #[.agg #[.int .i64 0, .string ⟨#[]⟩, .int .i64 0], .bool false]) (by simp [results, Tryz.results109, go_sem, t0, t1, t2]) rfl ⟨rfl, hB⟩
theorem implAdd (n : Int) (s : ByteArray) (m : Int) (key : ByteArray) (w : World) :
    Calls Tryz.prog 109 #[.agg #[.int .i64 n, .string s, .int .i64 m], .string key] w fun e w' =>
      e = .returned (.tuple #[.agg #[.int .i64 (addF n s m key).1, .string (addF n s m key).2.1, .int .i64 (addF n s m key).2.2.1], .bool (addF n s m key).2.2.2]) ∧ Below w.heap.size w w' := by
  unfold addF
  cases hg : goodK key && goodF n s m with
  | false => exact implAdd_bad n s m key w hg
  | true =>
    rw [Bool.and_eq_true] at hg
    obtain ⟨nh, rfl, _⟩ := goodH_nat (goodF_parts hg.2).1
    exact implAdd_good nh s m key w hg.1 hg.2

set_option maxHeartbeats 4000000 in
theorem l5Add_any (nh : Nat) (s : ByteArray) (m : Int) (key : ByteArray) (w : World) (hk : goodK key = true) (hg : goodF (nh : Int) s m = true) :
    Calls Tryz.prog 97 #[.agg #[.int .i64 (nh : Int), .string s, .int .i64 m], .string key] w fun e w' =>
      e = .returned (.agg #[.int .i64 (nh : Int), .string (addB s nh key), .int .i64 (cap6 (m + 1))]) ∧ Below w.heap.size w w' := by
  obtain ⟨gh, hs, hm0, hm1⟩ := goodF_parts hg
  obtain ⟨nh', e1, h1, h8⟩ := goodH_nat gh
  obtain rfl : nh = nh' := by omega
  clear e1
  have hl : s.data.toList.length = 32 := by simpa using hs
  have P := fun w => l5Places_any key nh w hk h8
  have HB : Hid (addB s nh key = ⟨(setBs s.data.toList (plK key nh)).toArray⟩) := rfl
  generalize addB s nh key = B at *
  have hps := plK_lt key nh
  have hpl := plK_length key nh
  have hpz : plZ key nh = (plK key nh).map Int.ofNat := rfl
  rw [hpz] at P
  clear hpz
  generalize plK key nh = ps at *
  have hq : ∀ (k : Nat) (hk : k < ps.length), ps[k] < 256 := fun k hk => hps _ (List.getElem_mem hk)
  have hb2 := below2 w (.cells #[.int .i64 (nh : Int), .string s, .int .i64 m] 46) (.cells #[.int .i64 0, .string ⟨#[]⟩, .int .i64 0] 46)
  obtain ⟨X0, Z0⟩ := two_boxes w (.int .i64 (nh : Int)) (.string s) (.int .i64 m) (.int .i64 0) (.string ⟨#[]⟩) (.int .i64 0)
  obtain ⟨cap, W1, hcv, wr1, hb1⟩ := bytes_of s ((w.alloc (.cells #[.int .i64 (nh : Int), .string s, .int .i64 m] 46)).alloc (.cells #[.int .i64 0, .string ⟨#[]⟩, .int .i64 0] 46))
  rw [hs] at hcv
  have X1 := X0.below hb1
  have Z1 := Z0.below hb1
  have hB1 := below_then hb2 hb1
  have hzz : ((w.alloc (.cells #[.int .i64 (nh : Int), .string s, .int .i64 m] 46)).alloc (.cells #[.int .i64 0, .string ⟨#[]⟩, .int .i64 0] 46)).heap.size = w.heap.size + 1 + 1 := by simp
  rw [hzz] at hcv wr1
  clear hzz X0 Z0 hb2 hb1
  have hx1 := X1.c3
  go_enter Tryz.func97, Tryz.ntmps97
  go_wp2_with fail
  refine (P _).mono ?_
  rintro e w2 ⟨v, rfl, o2, hb2⟩
  have hge := owns_ge o2
  have il := IL_of_owns (zs := ps.map Int.ofNat) o2 (by rw [List.length_map]; exact hpl.symm)
  have X2 := X1.below hb2
  have Z2 := Z1.below hb2
  have wr2 := wr1.below hb2
  have hB2 := below_then hB1 hb2
  have hz1 := wr1.1
  obtain ⟨a, cap', rfl, hc⟩ := il
  rw [List.length_map] at hge ⊢
  clear o2 X1 Z1 wr1 hB1 hb2 hx1 P hcv
  go_wp2_with fail
  go_loopw [16] (fun i wr => ∃ k : Nat, k ≤ ps.length ∧ i = .int .i64 k ∧ Wr wr (w.heap.size + 1 + 1) (setBs s.data.toList (ps.take k)) ∧ Chg (· = w.heap.size + 1 + 1) w2 wr) (fun i _ => ps.length - (intOf i).toNat)
  case atStart => exact ⟨0, Nat.zero_le _, rfl, wr2, Chg.refl _ _⟩
  case round =>
    obtain ⟨k, hk, rfl, hwr, hch⟩ := hrel
    clear wr2
    have hlk : (setBs s.data.toList (ps.take k)).length = 32 := by rw [setBs_length]; exact hl
    by_cases hlt : k < ps.length
    · obtain ⟨b, off, rfl, hbl, hcell⟩ := hc (by intro e; rw [List.map_eq_nil_iff] at e; simp [e] at hlt)
      have hgb := hge b rfl
      have hp0 := hq k hlt
      have hc0 : wr.cell? ⟨b, off + k, none⟩ = some (.int .i64 ((ps[k] : Nat) : Int)) := by
        have e := hch.block b hbl (by omega)
        have e2 := hcell k (by simpa using hlt)
        rw [List.getElem_map] at e2
        simp only [World.cell?] at e2 ⊢
        rw [e]; exact e2
      obtain ⟨r, hr⟩ : ∃ r, r = setBs s.data.toList (ps.take k) := ⟨_, rfl⟩
      have HS : Hid (setBs s.data.toList (ps.take (k + 1)) = setB r ps[k]) := by show _ = _; rw [hr]; exact setBs_take_succ _ ps k hlt
      rw [← hr] at hwr hlk
      have hpl2 : ps[k] / 8 < r.length := by omega
      have hz3 := hwr.1
      have hc1 : wr.cell? ⟨w.heap.size + 1 + 1, ps[k] / 8, none⟩ = some (.int .u8 ((r.getD (ps[k] / 8) 0).toNat : Int)) := by
        rw [(hwr.2 _ hpl2).1]; simp [hpl2]
      have hf1 : wr.frozen? ⟨w.heap.size + 1 + 1, ps[k] / 8, none⟩ = false := (hwr.2 _ hpl2).2
      have hcl := (r.getD (ps[k] / 8) 0).toNat_lt
      have HV : Hid (bits BinOp.or IntKind.u8 ((r.getD (ps[k] / 8) 0).toNat : Int) (2 ^ (ps[k] % 8) % 256) = (((r.getD (ps[k] / 8) 0) ||| UInt8.ofNat (2 ^ (ps[k] % 8))).toNat : Int)) := or_bit _ _
      have HX : Hid (Wr (wr.setCell ⟨w.heap.size + 1 + 1, ps[k] / 8, none⟩ (.int .u8 (bits BinOp.or IntKind.u8 ((r.getD (ps[k] / 8) 0).toNat : Int) (2 ^ (ps[k] % 8) % 256)))) (w.heap.size + 1 + 1) (setB r ps[k])) := by
        show Wr _ _ _
        rw [HV.out]; exact hwr.set _ hpl2 _
      clear hr hcell hc hq HV hwr
      generalize ps[k] = p at *
      generalize (r.getD (p / 8) 0) = c at *
      go_wp2
      go_roundw
      case rel =>
        refine ⟨k + 1, by omega, by go_num, ?_, hch.setCell rfl _⟩
        rw [HS.out]; exact HX.out
      case measure => simp [intOf]; omega
    · obtain rfl : k = ps.length := by omega
      rw [List.take_length] at hwr hlk
      have hcv := conv_wr (cap := cap) hwr hlk
      rw [← HB.out] at hcv
      have X3 := hch.box X2 (by omega)
      have Z3 := hch.box Z2 (by omega)
      have hB3 := hB2.trans (hch.below (B := w.heap.size) (by have := hB2.size; omega) (fun b h => by omega))
      clear HB hwr hch X2 Z2 hB2 hc hge hq hps hlk
      obtain ⟨⟨f0, f1, f2⟩, zx, x0, x1, x2⟩ := X3.f3
      obtain ⟨⟨j0, j1, j2⟩, zz, z0, z1, z2⟩ := Z3.f3
      have HC : Hid (cap6 (m + 1) = if m < 1000000 then m + 1 else m) := by
        show _ = _
        unfold cap6; split <;> split <;> omega
      by_cases hmm : m < 1000000
      · rw [if_pos hmm] at HC
        go_wp2
        obtain ⟨⟨t0, t1, t2⟩, hB⟩ := put3_ok ((hB3.setCell (p := ⟨w.heap.size, 1, none⟩) (Nat.le_refl _) _).setCell (p := ⟨w.heap.size, 2, none⟩) (Nat.le_refl _) _) (by omega) ((Z3.setOther ⟨w.heap.size, 1, none⟩ _ (by simp)).setOther ⟨w.heap.size, 2, none⟩ _ (by simp)) (.int .i64 (nh : Int)) (.string B) (.int .i64 (m + 1))
        change bodyPost _ _ _ _ _ (put3 ((wr.setCell ⟨w.heap.size, 1, none⟩ (.string B)).setCell ⟨w.heap.size, 2, none⟩ (.int .i64 (m + 1))) (w.heap.size + 1) (.int .i64 (nh : Int)) (.string B) (.int .i64 (m + 1)))
        generalize put3 ((wr.setCell ⟨w.heap.size, 1, none⟩ (.string B)).setCell ⟨w.heap.size, 2, none⟩ (.int .i64 (m + 1))) (w.heap.size + 1) (.int .i64 (nh : Int)) (.string B) (.int .i64 (m + 1)) = W at *
        exact bodyPost_ret (v := .agg #[.int .i64 (nh : Int), .string B, .int .i64 (m + 1)]) (by simp [results, Tryz.results97, go_sem, t0, t1, t2]) rfl ⟨by rw [HC.out], hB⟩
      · rw [if_neg hmm] at HC
        go_wp2
        obtain ⟨⟨t0, t1, t2⟩, hB⟩ := put3_ok (hB3.setCell (p := ⟨w.heap.size, 1, none⟩) (Nat.le_refl _) _) (by omega) (Z3.setOther ⟨w.heap.size, 1, none⟩ _ (by simp)) (.int .i64 (nh : Int)) (.string B) (.int .i64 (m))
        change bodyPost _ _ _ _ _ (put3 (wr.setCell ⟨w.heap.size, 1, none⟩ (.string B)) (w.heap.size + 1) (.int .i64 (nh : Int)) (.string B) (.int .i64 (m)))
        generalize put3 (wr.setCell ⟨w.heap.size, 1, none⟩ (.string B)) (w.heap.size + 1) (.int .i64 (nh : Int)) (.string B) (.int .i64 (m)) = W at *
        exact bodyPost_ret (v := .agg #[.int .i64 (nh : Int), .string B, .int .i64 (m)]) (by simp [results, Tryz.results97, go_sem, t0, t1, t2]) rfl ⟨by rw [HC.out], hB⟩

end Go.Proofs.YtfdaffnkgpdhhaaGreat

