/-
  The sum's table: impl.sumWords, impl.SumTable; an array in a variable, its block named.
-/
import Derived.Test.YtocaigffikdlhaaV1
import Derived.Laws.Tables
import Derived.Laws.Rows
import Derived.Deep.WholeRow
namespace Go.Proofs.Ytocaigffikdlhaa
open Go.RowKit
set_option maxRecDepth 100000
set_option linter.unusedVariables false

/-- A variable of a type whose zero value is known. -/
theorem wpList_allocTo {P : Program} {ops : Array Oper} {rest : List Oper} {o : Oper} {a : Act} {w : World} {Q : Exit → Act → World → Prop} (hg : o.guard = none) (t : TypeId) (ho : o.op = .alloc t)
    (cells : Array Value) (hz : (P.info? t).map (fun i => (i.zero, i.size)) = some (some (.agg cells), cells.size))
    (h : wpList P ops Q rest (a.put o.dst (.pointer (some ⟨w.heap.size, 0, none⟩))) (w.alloc (.cells cells t))) : wpList P ops Q (o :: rest) a w := by
  refine wpList_plain hg fun K hK => ?_
  cases hi : P.info? t with
  | none => simp [hi] at hz
  | some i =>
    simp only [hi, Option.map_some, Option.some.injEq, Prod.mk.injEq] at hz
    unfold Oper.wp execOp
    simp [ho, Sem.run_bind, Instr.alloc, newVar, newRow, Sem.run_pure, Result.andThen_ok, zeroValue, typeInfo, hi, hz.1, Value.cells]
    exact hK _ _ h

theorem wpList_buildAs {P : Program} {ops : Array Oper} {rest : List Oper} {o : Oper} {a : Act} {w : World} {Q : Exit → Act → World → Prop} (hg : o.guard = none) (t : TypeId) (parts : Array (Nat × Operand)) (ho : o.op = .build t parts)
    (cells : Array Value) (hf : P.built t (parts.map fun (i, x) => (i, a.eval x)).toList = some cells)
    (h : wpList P ops Q rest (a.put o.dst (.agg cells)) w) : wpList P ops Q (o :: rest) a w :=
  wpList_build hg t parts ho (by rw [hf]; rfl) (by rw [hf]; exact h)

def tblA : Array Value := tblL.toArray
def zerA : Array Value := Array.replicate 256 (.int .u32 0)
theorem tblA_size : tblA.size = 256 := by simp [tblA, tblL_length]
theorem zerA_size : zerA.size = 256 := by simp [zerA]
theorem tblA_at (i : Nat) (h : i < 256) : tblA[i]? = some (.int .u32 ((ct i : Nat) : Int)) := by simp [tblA, tblL_at i h]
set_option maxRecDepth 100000 in
theorem Try.zero137 : (Try.prog.info? 137).map (fun i => (i.zero, i.size)) = some (some (.agg zerA), zerA.size) := by kernel_rfl
theorem Try.size137 : (Try.prog.info? 137).map (·.size) = some tblA.size := by kernel_rfl
theorem tblA_one : tblA.all (·.oneCell') = true := by kernel_rfl

set_option maxRecDepth 100000 in
set_option maxHeartbeats 4000000 in
theorem sumWords_any (w : World) :
    Calls Try.prog 112 #[] w fun e w' => e = .returned (.agg tblA) ∧ Below w.heap.size w w' := by
  go_enter Try.func112, Try.ntmps112
  apply wp_seq_k; intro K0 hK0
  apply wp_region_lit
  refine wpList_allocTo rfl 137 rfl zerA Try.zero137 ?_
  apply wpList_nil
  refine hK0 _ _ ?_
  apply wp_seq_k; intro K1 hK1
  apply wp_region_lit
  refine wpList_buildAs rfl 137 _ rfl tblA ?_ ?_
  · kernel_rfl
  refine wpList_store_row rfl 137 _ _ rfl w.heap.size tblA rfl rfl 137 zerA (heap_alloc_last _ _) Try.size137 (by rw [tblA_size, zerA_size]) tblA_one ?_
  apply wpList_nil
  refine hK1 _ _ ?_
  rw [World.setRow_alloc_new]
  apply wp_ret
  refine bodyPost_ret (v := .agg tblA) (results_cell_row rfl _ _ w.heap.size 137 tblA (0, 0) _ rfl (heap_alloc_last _ _) Try.underlying137 rfl Try.size137) rfl ⟨rfl, below_alloc _ _⟩

end Go.Proofs.Ytocaigffikdlhaa
