/-
  A scope in which the run jumps back to one label, the way to the label and the way behind it walked once each.
  spec.l2Var, spec.VarBytes, impl.VarBytes: a number's bytes.
  The sum's table: impl.sumWords, impl.SumTable; an array in a variable, its block named.
-/
import Derived.ScopeJumps
import Derived.Tactics
import Derived.Test.YtdaldkcildbcmaaDoorProg
import Derived.Test.YtdaldkcildbcmaaDoorAToC
import Derived.WalkLawsBesides
import Derived.OwnWalk
import Derived.WalkMore
import Derived.Laws.IdiomStrings
import Derived.Laws.Concat
import Derived.Laws.Tables
import Derived.Laws.Rows
import Derived.Deep.WholeRow
namespace Go.Proofs.YtdaldkcildbcmaaDoor
theorem jump_mono {l : Nat} {J J' : Act → World → Prop} {Q : Exit → Act → World → Prop} (h : ∀ a w, J a w → J' a w) : ∀ e a w, Exit.jump l J Q e a w → Exit.jump l J' Q e a w
  | .goto _, a, w, ⟨e, hJ⟩ => ⟨e, h a w hJ⟩
  | .normal, _, _, h => h
  | .exit _, _, _, h => h
  | .ret, _, _, h => h
  | .panic _, _, _, h => h
  | .outgrown, _, _, h => h
theorem wp_scope_jumps2 {P : Program} {a : Act} {w : World} {Q : Exit → Act → World → Prop} {c X : Code} (l : Nat) (J : Act → World → Prop) (μ : Act → World → Nat) (hf : findLabel c l = some (Code.skip.seq X))
    (pass : ∀ a w, J a w → X.wp P (Exit.jump l (fun a' w' => J a' w' ∧ μ a' w' < μ a w) Q) a w)
    (first : (∀ a w, J a w → X.wp P (Exit.jump l J Q) a w) → c.wp P (Exit.jump l J Q) a w) : (Code.scope c).wp P Q a w :=
  wp_scope_jumps l J μ hf (first fun a w h => Code.wp_mono (jump_mono fun _ _ h => h.1) (pass a w h)) (fun a w h => wp_seq (wp_skip (pass a w h)))
end Go.Proofs.YtdaldkcildbcmaaDoor
namespace Go.Proofs.YtdaldkcildbcmaaDoor
open Go.RowKit
set_option linter.unusedVariables false
theorem Tryd.info5 : (Tryd.prog.info? 5).map (fun i => (i.zero, i.size, i.bytes)) = some (some (.int .u8 0), 1, 1) := by kernel_rfl
theorem owns_ge {w : World} {base : Nat} {e : TypeId} {size : Nat} {v : Value} {n : Nat} {xs : List Value} (h : w.ownsRow base e size v n xs) : ∀ g, v.ownBlock = some g → base ≤ g := by
  intro g hg
  rcases h.2 with ⟨rfl, _⟩ | ⟨g', cap, cur, rfl, hb, _⟩
  · simp [Value.ownBlock] at hg
  · simp only [Value.ownBlock, Option.some.injEq] at hg
    omega
/-- A text out of bytes that the call made. -/
theorem conv_back {w : World} {base cap : Nat} {g : Nat} {l : List UInt8} (h : w.ownsRow base 5 1 (.slice (some ⟨g, 0, none⟩) l.length cap) l.length (bcs l)) :
    (convert 22 9 (.slice (some ⟨g, 0, none⟩) l.length cap)).run Tryd.prog w = .ok (.string ⟨l.toArray⟩) w := by
  have := run_convert_bytes_back (P := Tryd.prog) w 22 9 5 ⟨g, 0, none⟩ cap l Tryd.underlying22 Tryd.underlying5 Tryd.underlying9 (by
    intro j hj
    rw [show (⟨g, 0, none⟩ : Addr).add j = ⟨g, j, none⟩ from by simp [Addr.add]; omega, h.cellAt j (by omega)]
    simp [bcs, hj])
  simpa using this

/-- What VarBytes answers. -/
def varT (k : Int) : ByteArray := if 0 ≤ k then ⟨(varL k.toNat).toArray⟩ else ⟨#[]⟩
/-- A variable of a type whose zero value is known. -/
theorem wpList_allocTo {P : Program} {ops : Array Oper} {rest : List Oper} {o : Oper} {a : Act} {w : World} {Q : Exit → Act → World → Prop} (hg : o.guard = none) (t : TypeId) (ho : o.op = .alloc t)
    (cells : Array Value) (hz : (P.info? t).map (fun i => (i.zero, i.size)) = some (some (.agg cells), cells.size))
    (h : wpList P ops Q rest (a.put o.dst (.pointer (some ⟨w.heap.size, 0, none⟩))) (w.alloc (.cells cells t))) : wpList P ops Q (o :: rest) a w := by
  refine wpList_plain hg fun K hK => ?_
  cases hi : P.info? t with
  | none => simp [hi] at hz
  | some i =>
    simp only [hi, Option.map_some, Option.some.injEq, Prod.mk.injEq] at hz
    unfold Oper.wp execOp
    simp [ho, Sem.run_bind, Instr.alloc, newVar, newRow, Sem.run_pure, Result.andThen_ok, zeroValue, typeInfo, hi, hz.1, Value.cells]
    exact hK _ _ h

theorem wpList_buildAs {P : Program} {ops : Array Oper} {rest : List Oper} {o : Oper} {a : Act} {w : World} {Q : Exit → Act → World → Prop} (hg : o.guard = none) (t : TypeId) (parts : Array (Nat × Operand)) (ho : o.op = .build t parts)
    (cells : Array Value) (hf : P.built t (parts.map fun (i, x) => (i, a.eval x)).toList = some cells)
    (h : wpList P ops Q rest (a.put o.dst (.agg cells)) w) : wpList P ops Q (o :: rest) a w :=
  wpList_build hg t parts ho (by rw [hf]; rfl) (by rw [hf]; exact h)

def tblA : Array Value := tblL.toArray
def zerA : Array Value := Array.replicate 256 (.int .u32 0)
theorem tblA_size : tblA.size = 256 := by simp [tblA, tblL_length]
theorem zerA_size : zerA.size = 256 := by simp [zerA]
theorem tblA_at (i : Nat) (h : i < 256) : tblA[i]? = some (.int .u32 ((ct i : Nat) : Int)) := by simp [tblA, tblL_at i h]
set_option maxRecDepth 100000 in
theorem Tryd.zero127 : (Tryd.prog.info? 127).map (fun i => (i.zero, i.size)) = some (some (.agg zerA), zerA.size) := by kernel_rfl
theorem Tryd.size127 : (Tryd.prog.info? 127).map (·.size) = some tblA.size := by kernel_rfl
theorem tblA_one : tblA.all (·.oneCell') = true := by kernel_rfl

set_option maxRecDepth 100000 in
set_option maxHeartbeats 4000000 in
theorem sumWords_any (w : World) :
    Calls Tryd.prog 98 #[] w fun e w' => e = .returned (.agg tblA) ∧ Below w.heap.size w w' := by
  go_enter Tryd.func98, Tryd.ntmps98
  apply wp_seq_k; intro K0 hK0
  apply wp_region_lit
  refine wpList_allocTo rfl 127 rfl zerA Tryd.zero127 ?_
  apply wpList_nil
  refine hK0 _ _ ?_
  apply wp_seq_k; intro K1 hK1
  apply wp_region_lit
  refine wpList_buildAs rfl 127 _ rfl tblA ?_ ?_
  · kernel_rfl
  refine wpList_store_row rfl 127 _ _ rfl w.heap.size tblA rfl rfl 127 zerA (heap_alloc_last _ _) Tryd.size127 (by rw [tblA_size, zerA_size]) tblA_one ?_
  apply wpList_nil
  refine hK1 _ _ ?_
  rw [World.setRow_alloc_new]
  apply wp_ret
  refine bodyPost_ret (v := .agg tblA) (results_cell_row rfl _ _ w.heap.size 127 tblA (0, 0) _ rfl (heap_alloc_last _ _) Tryd.underlying127 rfl Tryd.size127) rfl ⟨rfl, below_alloc _ _⟩

end Go.Proofs.YtdaldkcildbcmaaDoor
