/-
  What is put behind a slice of items: frames; what a round of a range over a function keeps.
-/
import Derived.Test.YtcjkdkaahkphfaaM1
import Derived.RangeFuncNested
import Derived.RangeFuncBound
import Derived.RangeFuncCalls
import Derived.RangeFuncLeaves
import Derived.Shelf.Abstract
import Derived.Shelf.RegionOpen
import Derived.OwnWalkIn
import Derived.TacticsInMore
import Derived.LoopNIn
import Derived.LoopIn
import Derived.Lib.AppendZeros
import Derived.Deep.AppendLies
namespace Go.Proofs.Ytcjkdkaahkphfaa
open Go.RowKit Go.Shelf Go.Lib
set_option linter.unusedVariables false
set_option maxRecDepth 100000
attribute [local go_sem] Oper.semAt_some

theorem owns_ge {w : World} {base : Nat} {e : TypeId} {size : Nat} {v : Value} {n : Nat} {xs : List Value} (h : w.ownsRow base e size v n xs) : ∀ g, v.ownBlock = some g → base ≤ g := by
  intro g hg
  rcases h.2 with ⟨rfl, _⟩ | ⟨g', cap, cur, rfl, hb, _⟩
  · simp [Value.ownBlock] at hg
  · simp only [Value.ownBlock, Option.some.injEq] at hg
    omega
theorem owns_below_lt {w : World} {base : Nat} {e : TypeId} {size : Nat} {v : Value} {n : Nat} {xs : List Value} (h : w.ownsRow base e size v n xs) : ∀ b, v.ownBlock = some b → b < w.heap.size := by
  intro b hb
  rcases h.2 with ⟨rfl, _⟩ | ⟨g, cap, cur, rfl, _, hh, _⟩
  · simp [Value.ownBlock] at hb
  · simp only [Value.ownBlock, Option.some.injEq] at hb
    subst hb
    exact (Array.getElem?_eq_some_iff.1 hh).1
theorem box_grown {X Y : World} {row : Option Nat} {b : Nat} {vs : List Value} (h : Box X b vs) (hg : X.grownBy Y row) (hr : some b ≠ row) : Box Y b vs := by
  obtain ⟨h1, h2, h3⟩ := h
  have he : Y.heap[b]? = X.heap[b]? := hg.block b h1 hr
  refine ⟨Nat.lt_of_lt_of_le h1 hg.size, fun j u hu => ?_, fun j => ?_⟩
  · rw [← h2 j u hu]; simp [World.cell?, he]
  · rw [← h3 j]; simp [World.frozen?, he]
/-- The block of the row that the variable in block B names. -/
def rowOf (W : World) (B : Nat) : Option Nat := (W.cell? ⟨B, 0, none⟩).bind Value.ownBlock
/-- What a round keeps that writes the variable in block B and the row that it names. -/
structure Kept (B : Nat) (W W' : World) : Prop where
  size : W.heap.size ≤ W'.heap.size
  keep : ∀ k o, W.heap[k]? = some o → o.isCells = true → k ≠ B → rowOf W B ≠ some k → W'.heap[k]? = some o
  row : rowOf W' B = rowOf W B ∨ ∀ g, rowOf W' B = some g → W.heap.size ≤ g
  sane : (∀ g, rowOf W B = some g → g < W.heap.size) → ∀ g, rowOf W' B = some g → g < W'.heap.size
theorem Kept.trans {B : Nat} {X Y Z : World} (h : Kept B X Y) (k : Kept B Y Z) : Kept B X Z where
  size := Nat.le_trans h.size k.size
  keep j o ho hc hB hr := k.keep j o (h.keep j o ho hc hB hr) hc hB (fun e => by
    rcases h.row with h1 | h1
    · rw [h1] at e; exact hr e
    · have h2 := h1 j e
      have h3 := (Array.getElem?_eq_some_iff.1 ho).1
      omega)
  row := by
    rcases k.row with h1 | h1
    · rcases h.row with h2 | h2
      · exact .inl (h1.trans h2)
      · exact .inr fun g hg => h2 g (by rw [← h1]; exact hg)
    · exact .inr fun g hg => Nat.le_trans h.size (h1 g hg)
  sane hs := k.sane (h.sane hs)
theorem Kept.put {B : Nat} {w : World} (hB : B < w.heap.size) (W : World) (l : Nat) (o o' : Obj) (hl : w.heap.size ≤ l) (h : W.heap[l]? = some o) (hc : o.isCells = false) (_ : o.isWalk = false) : Kept B W (W.putObj l o') := by
  have hne : ∀ k, k ≠ l → (W.putObj l o').heap[k]? = W.heap[k]? := fun k hk => World.putObj_heap_other hk
  have hr : rowOf (W.putObj l o') B = rowOf W B := by
    unfold rowOf World.cell?
    rw [hne B (by omega)]
  have hg := (grownBy_putObj' W l o').size
  refine ⟨hg, fun k u hu hcu hkB _ => ?_, .inl hr, fun hs g e => ?_⟩
  · rw [hne k (fun e => by subst e; rw [h] at hu; cases hu; rw [hc] at hcu; cases hcu)]; exact hu
  · rw [hr] at e; exact Nat.lt_of_lt_of_le (hs g e) hg
theorem Kept.box {B : Nat} {W W' : World} (h : Kept B W W') {b : Nat} {vs : List Value} (hx : Box W b vs) (hb : b ≠ B) (hr : rowOf W B ≠ some b) (hv : vs ≠ []) : Box W' b vs := by
  obtain ⟨h1, h2, h3⟩ := hx
  have hlt : b < W.heap.size := h1
  obtain ⟨v, r, rfl⟩ : ∃ v r, vs = v :: r := by cases vs with | nil => exact absurd rfl hv | cons v r => exact ⟨v, r, rfl⟩
  obtain ⟨o, ho, hoc⟩ := cells_of_cell (h2 0 v rfl)
  have hk := h.keep b o ho hoc hb hr
  have he : W'.heap[b]? = W.heap[b]? := by rw [hk]; exact ho.symm
  refine ⟨Nat.lt_of_lt_of_le h1 h.size, fun j u hu => ?_, fun j => ?_⟩
  · rw [← h2 j u hu]; simp [World.cell?, he]
  · rw [← h3 j]; simp [World.frozen?, he]
open Go.RowKit Go.Shelf Go.Lib
set_option linter.unusedVariables false
set_option maxRecDepth 100000
attribute [local go_sem] Oper.semAt_some

def encIt (x : It) : Value := .agg #[.string x.k, .int .i64 x.n, .int .i64 x.d, .string x.v]
theorem below_grown {w w' : World} (h : Below w.heap.size w w') : w.grownBy w' none := ⟨h.os, h.tape, h.output, h.size, fun k hk _ => h.block k hk⟩
theorem abide {J : List It → World → Prop} {B : Nat} (hJ : AbidesFrom B J) {pre : List It} {w w' : World} (h : J pre w) (hb : Below w.heap.size w w') : J pre w' :=
  hJ pre w w' none h (below_grown hb) (fun r e => by cases e)
theorem rowOf_below {w w' : World} {B : Nat} (hb : Below w.heap.size w w') (hB : B < w.heap.size) : rowOf w' B = rowOf w B := by
  unfold rowOf; rw [hb.cell (p := ⟨B, 0, none⟩) hB]
theorem append_ran {F : Fence} {n : Nat} {P : Program} (w : World) {ops : Array Oper} {rest : List Oper} {o : Oper} {a : Act} {Q : Exit → Act → World → Prop} (hg : o.guard = none) (s x : Operand) (t : TypeId)
    (hop : o.op = Op.call { callee := Callee.builtin Builtin.append, args := #[s, x], argTypes := #[t, t] }) (vs vx : Value) (hs : a.eval s = vs) (hx : a.eval x = vx) (v' : Value) (w' : World)
    (hrun : (Builtin.append_ #[t, t] o.type #[vs, vx]).run P w = .ok v' w') (h : wpListIn F n P ops Q rest (a.put o.dst v') w') : wpListIn F n P ops Q (o :: rest) a w := by
  refine wpListIn_plain hg fun K hK' => ?_
  unfold Oper.wpIn
  refine ⟨by simp [Oper.about, hop, resolve, Target.leads, Sem.run_pure], ?_⟩
  rw [Oper.semAt_plain F _ _ (by rw [hop]; intro c hc'; cases hc')]
  simp [execOp, hop, resolve, invoke, builtin, hs, hx, hrun, Result.andThen]
  exact hK' _ _ h
theorem cells_new4 (W : World) (x : It) : ∀ j u, (flat4 [x])[j]? = some u → (W.alloc (.cells #[.string x.k, .int .i64 x.n, .int .i64 x.d, .string x.v] 68)).cell? ((⟨W.heap.size, 0, none⟩ : Addr).add j) = some u := by
  intro j u hj
  have hb := Box.new W #[.string x.k, .int .i64 x.n, .int .i64 x.d, .string x.v] 68
  rw [show (⟨W.heap.size, 0, none⟩ : Addr).add j = ⟨W.heap.size, j, none⟩ from by simp [Addr.add]; omega]
  exact hb.2.1 j u hj
theorem one4 (x : It) : ∀ u ∈ flat4 [x], u.oneCell' = true := by
  intro u hu
  simp only [flat4, List.mem_cons, List.not_mem_nil, or_false] at hu
  rcases hu with rfl | rfl | rfl | rfl <;> rfl
theorem Kept.alloc (B : Nat) (W : World) (o : Obj) (hB : B < W.heap.size) : Kept B W (W.alloc o) := by
  have hb := below_alloc W o
  have hr := rowOf_below hb hB
  refine ⟨hb.size, fun k u hu _ _ _ => ?_, .inl hr, fun hs g e => ?_⟩
  · rw [hb.block k (Array.getElem?_eq_some_iff.1 hu).1]; exact hu
  · rw [hr] at e; exact Nat.lt_of_lt_of_le (hs g e) hb.size
/-- A round's append, and the store behind it. -/
theorem Kept.appended {W w1 : World} {B g cap m : Nat} {ty : TypeId} {v : Value} {tmp : Obj} (hv : Boxed W B ty v) (hv1 : Boxed w1 B ty v) (hgrow : (W.alloc tmp).grownBy w1 v.ownBlock) (hl : v.ownBlock = some g ∨ g = (W.alloc tmp).heap.size) (hg : g < w1.heap.size) :
    Kept B W (w1.setCell ⟨B, 0, none⟩ (.slice (some ⟨g, 0, none⟩) m cap)) := by
  have hb := below_alloc W tmp
  have hrW : rowOf W B = v.ownBlock := by unfold rowOf; rw [hv.cell]; rfl
  have hrN : rowOf (w1.setCell ⟨B, 0, none⟩ (.slice (some ⟨g, 0, none⟩) m cap)) B = some g := by unfold rowOf; rw [(hv1.set (.slice (some ⟨g, 0, none⟩) m cap)).cell]; rfl
  have hsz : W.heap.size ≤ w1.heap.size := Nat.le_trans hb.size hgrow.size
  have hsz1 : (W.alloc tmp).heap.size = W.heap.size + 1 := by simp
  refine ⟨by simpa using hsz, fun k o ho hc hkB hr => ?_, ?_, fun hs g' e => ?_⟩
  · have hk := (Array.getElem?_eq_some_iff.1 ho).1
    rw [(grownBy_setCell' w1 B (.slice (some ⟨g, 0, none⟩) m cap)).block k (by omega) (fun e => hkB (by cases e; rfl))]
    rw [hgrow.block k (by omega) (fun e => hr (by rw [hrW, ← e]))]
    rw [hb.block k hk]; exact ho
  · rw [hrW, hrN]
    rcases hl with h | h
    · exact .inl h.symm
    · exact .inr fun g' e => by cases e; omega
  · rw [hrN] at e; cases e; simpa using hg
theorem box_owned {X Y : World} {row : Option Nat} {b : Nat} {v : Value} {r : List Value} (h : Box X b (v :: r)) (hg : X.grownBy Y row) (hr : ∀ q, row = some q → ∃ o : Obj, X.heap[q]? = some o ∧ o.isCells = false) : Box Y b (v :: r) := by
  obtain ⟨h1, h2, h3⟩ := h
  obtain ⟨o, ho, hoc⟩ := cells_of_cell (h2 0 v rfl)
  have he : Y.heap[b]? = X.heap[b]? := hg.block b h1 (fun e => by
    obtain ⟨o', ho', hc'⟩ := hr b e.symm
    have : X.heap[b]? = some o := ho
    rw [this] at ho'; cases ho'; rw [hoc] at hc'; cases hc')
  refine ⟨Nat.lt_of_lt_of_le h1 hg.size, fun j u hu => ?_, fun j => ?_⟩
  · rw [← h2 j u hu]; simp [World.cell?, he]
  · rw [← h3 j]; simp [World.frozen?, he]
end Go.Proofs.Ytcjkdkaahkphfaa
