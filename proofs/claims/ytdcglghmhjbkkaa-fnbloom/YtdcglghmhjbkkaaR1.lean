/-
  Filters: rows of bits in memory: impl.rowOf, bitRow.with.
-/
import Derived.Test.YtdcglghmhjbkkaaP3
import Derived.Laws.ShiftsVarLaws
namespace Go.Proofs.Ytdcglghmhjbkkaa
open Go.RowKit
set_option linter.unusedVariables false
set_option maxRecDepth 100000

theorem chg_setRow (w : World) (g : Nat) (cs : Array Value) : Chg (· = g) w (w.setRow g cs) :=
  ⟨rfl, rfl, rfl, by simp, fun k hk hs => setRow_other w g k cs hs⟩
/-- An array read out of cells that may lie in a longer block. -/
theorem run_loadVar_cells {P : Program} (w : World) (g : Nat) (ty : TypeId) (cs : Array Value) (d : TypeDesc) (hc : ∀ (j : Nat) v, cs[j]? = some v → w.cell? ⟨g, j, none⟩ = some v)
    (hu : P.underlying ty = some d) (hd : (match d with | .struct _ | .array _ _ => true | _ => false) = true) (hi : (P.info? ty).map (·.size) = some cs.size) :
    (loadVar ty ⟨g, 0, none⟩).run P w = .ok (.agg cs) w := by
  have hl : (loadCells ⟨g, 0, none⟩ cs.toList.length).run P w = .ok cs.toList.toArray w :=
    run_loadCells_list (P := P) w ⟨g, 0, none⟩ cs.toList (fun j v hv => by
      have hadd : (⟨g, 0, none⟩ : Addr).add j = ⟨g, j, none⟩ := by unfold Addr.add; split <;> simp_all
      rw [hadd]
      exact hc j v (by simpa using hv))
  cases hq : P.info? ty with
  | none => simp [hq] at hi
  | some i =>
    have hs : i.size = cs.size := by simpa [hq] using hi
    have hagg : (isAgg ty).run P w = .ok true w := by
      unfold isAgg
      rw [Sem.run_bind, run_underlying hu w]
      cases d <;> simp_all
    simp only [Array.length_toList, Array.toArray_toList] at hl
    simp [loadVar, Sem.run_bind, hagg, sizeOf, typeInfo, hq, hs, hl]
theorem wpList_load_cells {P : Program} {ops : Array Oper} {rest : List Oper} {o : Oper} {a : Act} {w : World} {Q : Exit → Act → World → Prop} (hgd : o.guard = none) (ty : TypeId) (x : Operand) (ho : o.op = .load ty x)
    (g : Nat) (hx : a.eval x = .pointer (some ⟨g, 0, none⟩)) (cs : Array Value) (d : TypeDesc) (hc : ∀ (j : Nat) v, cs[j]? = some v → w.cell? ⟨g, j, none⟩ = some v)
    (hu : P.underlying ty = some d) (hd : (match d with | .struct _ | .array _ _ => true | _ => false) = true) (hi : (P.info? ty).map (·.size) = some cs.size)
    (h : wpList P ops Q rest (a.put o.dst (.agg cs)) w) : wpList P ops Q (o :: rest) a w :=
  wpList_plain hgd fun K hK => by
    unfold Oper.wp execOp
    simp only [ho, hx, Instr.loadAt, Instr.sureAddr, Sem.run_bind, Sem.run_pure, Result.andThen_ok, run_loadVar_cells w g ty cs d hc hu hd hi]
    exact hK _ _ h
theorem wr_cells {w : World} {g : Nat} {l : List UInt8} (h : Wr w g l) : ∀ (j : Nat) v, (rowA l)[j]? = some v → w.cell? ⟨g, j, none⟩ = some v := by
  intro j v hv
  have hj : j < l.length := by
    have := (Array.getElem?_eq_some_iff.1 hv).1
    rwa [rowA_size] at this
  rw [rowA_at l j hj] at hv
  rw [(h.2 j hj).1]; exact hv
theorem Try.size69r (l : List UInt8) (hl : l.length = 32) : (Try.prog.info? 69).map (·.size) = some (rowA l).size := by rw [rowA_size, hl]; exact Try.size69

set_option maxHeartbeats 1000000 in
theorem rowOf_any (n : Int) (s : ByteArray) (m : Int) (w : World) (hs : s.size = 32) :
    Calls Try.prog 45 #[.agg #[.int .i64 n, .string s, .int .i64 m]] w fun e w' => e = .returned (.agg (rowA s.data.toList)) ∧ Below w.heap.size w w' := by
  have hl : s.data.toList.length = 32 := by simpa using hs
  obtain ⟨W, hW⟩ : ∃ W, W = (w.alloc (.cells #[.int .i64 n, .string s, .int .i64 m] 24)).alloc (.cells (rowA zer32) 69) := ⟨_, rfl⟩
  have hb2 : Below w.heap.size w W := by rw [hW]; exact below2 _ _ _
  have hh2 : W.heap[w.heap.size + 1]? = some (.cells (rowA zer32) 69) := by rw [hW]; exact heap_alloc2_new _ _ _
  obtain ⟨cap, W', hcv, hwr, hb3⟩ := bytes_of s W
  rw [hs] at hcv
  have hlt2 : w.heap.size + 1 < W.heap.size := by rw [hW]; simp
  have hh3 : W'.heap[w.heap.size + 1]? = some (.cells (rowA zer32) 69) := (hb3.block _ hlt2).trans hh2
  have hz : W.heap.size = w.heap.size + 1 + 1 := by rw [hW]; simp
  rw [hz] at hcv hwr
  rw [hW] at hcv
  have hB := below_then hb2 hb3
  have hwrc := wr_cells hwr
  have harr : (Instr.arrayAt 69 (.slice (some ⟨w.heap.size + 1 + 1, 0, none⟩) 32 cap)).run Try.prog W' = .ok (.pointer (some ⟨w.heap.size + 1 + 1, 0, none⟩)) W' := by
    simp [Instr.arrayAt, run_underlying Try.underlying69]
  have hBB := hB.trans ((chg_setRow W' (w.heap.size + 1) (rowA s.data.toList)).below hB.size (fun k hk => by omega))
  have hhh := setRow_heap W' (w.heap.size + 1) (rowA zer32) (rowA s.data.toList) 69 (0, 0) hh3
  clear hb2 hh2 hb3 hlt2 hz hW
  go_enter Try.func45, Try.ntmps45
  go_wp2_with (first | (refine wpList_allocTo rfl 69 rfl (rowA zer32) Try.zero69 ?_) | (refine wpList_load_cells rfl 69 _ rfl (w.heap.size + 1 + 1) rfl (rowA s.data.toList) _ hwrc Try.underlying69 rfl (Try.size69r _ hl) ?_) | (refine wpList_store_row rfl 69 _ _ rfl (w.heap.size + 1) (rowA s.data.toList) rfl rfl 69 (rowA zer32) hh3 (Try.size69r _ hl) (by rw [rowA_size, rowA_size, hl]; rfl) (rowA_one _) ?_) | fail)
  exact bodyPost_ret (v := .agg (rowA s.data.toList)) (results_cell_row rfl _ _ (w.heap.size + 1) 69 _ (0, 0) _ rfl hhh Try.underlying69 rfl (Try.size69r _ hl)) rfl ⟨rfl, hBB⟩

theorem or_bit (c : UInt8) (p : Nat) : bits BinOp.or IntKind.u8 (c.toNat : Int) (2 ^ (p % 8) % 256) = ((c ||| UInt8.ofNat (2 ^ (p % 8))).toNat : Int) := by
  have hp : 2 ^ (p % 8) < 256 := Nat.pow_lt_pow_right (n := 8) (by omega) (Nat.mod_lt _ (by omega))
  have e1 : (2 : Int) ^ (p % 8) % 256 = ((2 ^ (p % 8) : Nat) : Int) := by
    rw [show (2 : Int) ^ (p % 8) = ((2 ^ (p % 8) : Nat) : Int) from by rw [Int.natCast_pow]; rfl]
    generalize 2 ^ (p % 8) = q at hp ⊢
    omega
  rw [e1, u8_or_nat _ _ c.toNat_lt hp, or_u8, pow_u8 _ (Nat.mod_lt _ (by omega))]
theorem setB_row {w : World} {g : Nat} {r : List UInt8} {p : Nat} {x : Int} (hx : w.heap[g]? = some (.cells (rowA r) 69)) (hp : p / 8 < r.length) (hv : x = ((r.getD (p / 8) 0 ||| UInt8.ofNat (2 ^ (p % 8))).toNat : Int)) :
    (w.setCell ⟨g, p / 8, none⟩ (.int .u8 x)).heap[g]? = some (.cells (rowA (setB r p)) 69) := by
  rw [heap_setCell_same _ _ _ _ _ _ hx]
  congr 2
  subst hv
  unfold rowA setB bcs
  simp [List.map_set]
set_option maxHeartbeats 1000000 in
theorem with_any (l : List UInt8) (v : Value) (ps : List Nat) (w : World) (hl : l.length = 32) (hv : IL w v (ps.map Int.ofNat)) (hp : ∀ p ∈ ps, p < 256) (hn : ps.length ≤ 8) :
    Calls Try.prog 46 #[.agg (rowA l), v] w fun e w' => e = .returned (.agg (rowA (setBs l ps))) ∧ Below w.heap.size w w' := by
  obtain ⟨a, cap, rfl, hc⟩ := hv
  have hq : ∀ (k : Nat) (hk : k < ps.length), ps[k] < 256 := fun k hk => hp _ (List.getElem_mem hk)
  go_enter Try.func46, Try.ntmps46
  go_wp2_with (first | (refine wpList_allocTo rfl 69 rfl (rowA zer32) Try.zero69 ?_) | fail)
  go_loopw [9] (fun i wr => ∃ k : Nat, k ≤ ps.length ∧ i = .int .i64 k ∧ wr.heap[w.heap.size]? = some (.cells (rowA (setBs l (ps.take k))) 69) ∧ wr.heap[w.heap.size + 1]? = some (.cells (rowA zer32) 69) ∧ Below w.heap.size w wr) (fun i _ => ps.length - (intOf i).toNat)
  case atStart => exact ⟨0, Nat.zero_le _, rfl, heap_alloc2_old _ _ _, heap_alloc2_new _ _ _, below2 _ _ _⟩
  case round =>
    obtain ⟨k, hk, rfl, hx, hy, hb⟩ := hrel
    by_cases hlt : k < ps.length
    · obtain ⟨b, off, rfl, hbl, hcell⟩ := hc (by intro e; rw [List.map_eq_nil_iff] at e; simp [e] at hlt)
      have hlk := setBs_length l (ps.take k)
      have hc0 : wr.cell? ⟨b, off + k, none⟩ = some (.int .i64 ((ps[k] : Nat) : Int)) := (hb.cell (p := ⟨b, off + k, none⟩) hbl).trans (by rw [hcell k (by simpa using hlt), List.getElem_map]; rfl)
      have hp0 := hq k hlt
      obtain ⟨r, hr⟩ : ∃ r, r = setBs l (ps.take k) := ⟨_, rfl⟩
      have HS : Hid (setBs l (ps.take (k + 1)) = setB r ps[k]) := by show _ = _; rw [hr]; exact setBs_take_succ l ps k hlt
      rw [← hr] at hx hlk
      have hpl : ps[k] / 8 < r.length := by omega
      have hc1 : wr.cell? ⟨w.heap.size, ps[k] / 8, none⟩ = some (.int .u8 ((r.getD (ps[k] / 8) 0).toNat : Int)) := by
        rw [cell_of_row _ _ _ _ _ _ hx, rowA_at r _ hpl]; simp [hpl]
      have hf1 : wr.frozen? ⟨w.heap.size, ps[k] / 8, none⟩ = false := frozen_of_row _ _ _ _ _ hx
      have hcl := (r.getD (ps[k] / 8) 0).toNat_lt
      have HV : Hid (bits BinOp.or IntKind.u8 ((r.getD (ps[k] / 8) 0).toNat : Int) (2 ^ (ps[k] % 8) % 256) = (((r.getD (ps[k] / 8) 0) ||| UInt8.ofNat (2 ^ (ps[k] % 8))).toNat : Int)) := or_bit _ _
      have HX : Hid ((wr.setCell ⟨w.heap.size, ps[k] / 8, none⟩ (.int .u8 (bits BinOp.or IntKind.u8 ((r.getD (ps[k] / 8) 0).toNat : Int) (2 ^ (ps[k] % 8) % 256)))).heap[w.heap.size]? = some (.cells (rowA (setB r ps[k])) 69)) := setB_row hx hpl HV.out
      clear hr hcell hc hq HV
      generalize ps[k] = p at *
      generalize (r.getD (p / 8) 0) = c at *
      go_wp2_with fail
      go_region
      go_wp2
      go_roundw
      case rel =>
        refine ⟨k + 1, by omega, by go_num, ?_, ?_, ?_⟩
        · rw [HS.out]; exact HX.out
        · exact (heap_setCell_other _ _ _ _ (by simp)).trans hy
        · exact (hb.setCell (p := ⟨w.heap.size, p / 8, none⟩) (Nat.le_refl _) _).drew
      case measure => simp [intOf]; omega
    · obtain rfl : k = ps.length := by omega
      rw [List.take_length] at hx
      have hlk := setBs_length l ps
      have hBB := hb.trans ((chg_setRow wr (w.heap.size + 1) (rowA (setBs l ps))).below hb.size (fun k hk => by omega))
      have hhh := setRow_heap wr (w.heap.size + 1) (rowA zer32) (rowA (setBs l ps)) 69 (0, 0) hy
      have hl2 : (setBs l ps).length = 32 := by omega
      obtain ⟨r, hr⟩ : ∃ r, r = setBs l ps := ⟨_, rfl⟩
      rw [← hr] at hx hBB hhh hl2
      have HR : Hid (r = setBs l ps) := hr
      clear hr hlk
      go_wp2_with (first | (refine wpList_load_row rfl 69 _ rfl w.heap.size rfl 69 (rowA r) (0, 0) _ hx Try.underlying69 rfl (Try.size69r _ hl2) ?_) | (refine wpList_store_row rfl 69 _ _ rfl (w.heap.size + 1) (rowA r) rfl rfl 69 (rowA zer32) hy (Try.size69r _ hl2) (by rw [rowA_size, rowA_size, hl2]; rfl) (rowA_one _) ?_) | fail)
      exact bodyPost_ret (v := .agg (rowA r)) (results_cell_row rfl _ _ (w.heap.size + 1) 69 _ (0, 0) _ rfl hhh Try.underlying69 rfl (Try.size69r _ hl2)) rfl ⟨by rw [HR.out], hBB⟩
end Go.Proofs.Ytdcglghmhjbkkaa
