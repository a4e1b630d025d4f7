/-
  A part is held in a table: impl.(*table).hold.
  The other parts held in a table: impl.(*table).hold.
  What is read of a table: impl.tableFrom.
  What is read of a table: impl.ReadTable, IndexOf, FilterIn, RangeOf.
-/
import Derived.Test.YtfdaffnkgpdhhaaGreatTz
import Derived.Deep.RegionHeld3
namespace Go.Proofs.YtfdaffnkgpdhhaaGreat
open Go.RowKit
set_option linter.unusedVariables false
set_option maxRecDepth 100000

theorem Box.c5 {w : World} {b : Nat} {v0 v1 v2 v3 v4 : Value} (h : Box w b [v0, v1, v2, v3, v4]) : b < w.heap.size ∧ w.cell? ⟨b, 0, none⟩ = some v0 ∧ w.cell? ⟨b, 1, none⟩ = some v1 ∧ w.cell? ⟨b, 2, none⟩ = some v2 ∧ w.cell? ⟨b, 3, none⟩ = some v3 ∧ w.cell? ⟨b, 4, none⟩ = some v4 :=
  ⟨h.1, h.2.1 0 _ rfl, h.2.1 1 _ rfl, h.2.1 2 _ rfl, h.2.1 3 _ rfl, h.2.1 4 _ rfl⟩
theorem Box.f5 {w : World} {b : Nat} {v0 v1 v2 v3 v4 : Value} (h : Box w b [v0, v1, v2, v3, v4]) : (w.frozen? ⟨b, 0, none⟩ = false ∧ w.frozen? ⟨b, 1, none⟩ = false ∧ w.frozen? ⟨b, 2, none⟩ = false ∧ w.frozen? ⟨b, 3, none⟩ = false ∧ w.frozen? ⟨b, 4, none⟩ = false) ∧ b < w.heap.size ∧ w.cell? ⟨b, 0, none⟩ = some v0 ∧ w.cell? ⟨b, 1, none⟩ = some v1 ∧ w.cell? ⟨b, 2, none⟩ = some v2 ∧ w.cell? ⟨b, 3, none⟩ = some v3 ∧ w.cell? ⟨b, 4, none⟩ = some v4 :=
  ⟨⟨h.2.2 0, h.2.2 1, h.2.2 2, h.2.2 3, h.2.2 4⟩, h.c5⟩
theorem Tryz.isBlk (v : Value) (s : ByteArray) (w : World) : (Instr.typeAssert (.iface 104 (.agg #[v, .string s])) 111 104 true).run Tryz.prog w = .ok (.tuple #[.agg #[v, .string s], .bool true]) w := by kernel_rfl
theorem box5_set0 {w : World} {T : Nat} {a b c d e : Value} (h : Box w T [a, b, c, d, e]) (v : Value) : Box (w.setCell ⟨T, 0, none⟩ v) T [v, b, c, d, e] := by
  have := h.set 0 v (by simp)
  simpa using this
theorem hold_blk (T H : Nat) (b off n : Nat) (l its : List It) (s : ByteArray) (lv xv hv sv mv : Value) (w : World) (hT : Box w T [lv, xv, hv, sv, mv]) (hrow : w.ownsRow H 33 4 lv its.length (flat4 its)) (hTH : T < H) (hH : H ≤ w.heap.size)
    (hir : IR w (.slice (some ⟨b, off, none⟩) l.length n) l) (hl : l.length ≤ 120) (hi0 : its.length ≤ 1000) :
    Calls Tryz.prog 80 #[.pointer (some ⟨T, 0, none⟩), .iface 104 (.agg #[.slice (some ⟨b, off, none⟩) l.length n, .string s])] w fun e w' =>
      ∃ lv', e = .returned (.tuple #[]) ∧ Box w' T [lv', xv, hv, sv, mv] ∧ w'.ownsRow H 33 4 lv' (its ++ l).length (flat4 (its ++ l)) ∧ Chg (fun j => j = T ∨ lv.ownBlock = some j) w w' := by
  obtain ⟨i0, hi, hz0, hzs, hzb⟩ := info_parts Tryz.info33
  obtain ⟨la, lc, rfl⟩ : ∃ la lc, lv = .slice la its.length lc := by
    rcases hrow.2 with ⟨h, h0⟩ | ⟨g, c, cur, h, _⟩
    · exact ⟨none, 0, by rw [h, h0]⟩
    · exact ⟨_, _, h⟩
  have hnews : ∀ W : World, Below w.heap.size w W → ∀ j u, (flat4 l)[j]? = some u → W.cell? ((⟨b, off, none⟩ : Addr).add j) = some u := by
    intro W hb j u hj
    obtain ⟨a', c', he, hc⟩ := hir
    injection he with e1 e2 e3
    subst e1
    have hjl : j < l.length * 4 := by
      have := (List.getElem?_eq_some_iff.1 hj).1
      rw [flat4_length] at this; exact this
    obtain ⟨b', off', he', hbl, hcell⟩ := hc (by intro e; rw [e] at hjl; simp at hjl)
    cases he'
    obtain ⟨q, hq1, hq2⟩ : ∃ q, q * 4 ≤ j ∧ j < q * 4 + 4 := ⟨j / 4, by omega, by omega⟩
    obtain ⟨c0, c1, c2, c3⟩ := hcell q (by omega)
    obtain ⟨d0, d1, d2, d3⟩ := flat4_get l q (by omega)
    rw [show (⟨b, off, none⟩ : Addr).add j = ⟨b, off + j, none⟩ from by simp [Addr.add]; try omega, hb.cell (p := ⟨b, off + j, none⟩) hbl]
    have hm : j = q * 4 ∨ j = q * 4 + 1 ∨ j = q * 4 + 2 ∨ j = q * 4 + 3 := by omega
    rcases hm with rfl | rfl | rfl | rfl
    · rw [d0] at hj; rw [← hj]; exact c0
    · rw [d1] at hj; rw [← hj, ← Nat.add_assoc]; exact c1
    · rw [d2] at hj; rw [← hj, ← Nat.add_assoc]; exact c2
    · rw [d3] at hj; rw [← hj, ← Nat.add_assoc]; exact c3
  obtain ⟨W, hW⟩ : ∃ W, W = w.alloc (.cells #[.slice (some ⟨b, off, none⟩) l.length n, .string s] 104) := ⟨_, rfl⟩
  have hb0 : Below w.heap.size w W := by rw [hW]; exact below_alloc _ _
  have X0 : Box W w.heap.size [.slice (some ⟨b, off, none⟩) l.length n, .string s] := by rw [hW]; exact Box.new w #[.slice (some ⟨b, off, none⟩) l.length n, .string s] 104
  have T0 := hT.below hb0
  have R0 := owns_below hrow hb0
  have hD : Below W.heap.size W W.drew := (Below.refl _ _).drew
  have hTl := hT.1
  have hty := Tryz.isBlk (.slice (some ⟨b, off, none⟩) l.length n) s
  go_enter Tryz.func80, Tryz.ntmps80
  go_wp2_with fail
  rw [← hW]
  clear hW
  refine wp_region_held_drew (S := fun w' => w'.cell? ⟨w.heap.size, 0, none⟩ = some (.slice (some ⟨b, off, none⟩) l.length n)) (by kernel_rfl) (X0.2.1 0 _ rfl) (fun hHeld => ?_)
  have T1 := T0.below hD
  have X1 := X0.below hD
  have R1 := owns_below R0 hD
  have hB1 := below_then hb0 hD
  have hz1 := hB1.size
  have hX1 : w.heap.size < W.drew.heap.size := X1.1
  clear X0 T0 R0 hb0 hD
  generalize W.drew = va at *
  clear W
  refine wpAnyH_take (i := 0) (oi := { dst := some 11, op := Op.move (Operand.tmp 0), type := 155, pos := "l7_table.go:162", after := #[], guard := none }) (v := .pointer (some ⟨T, 0, none⟩)) rfl (by kernel_rfl) (by kernel_rfl) (by kernel_rfl) (fun _ _ _ h => h) (Or.inl ⟨by rfl, ?_⟩) (by assumption) ?_
  · intro wx hSw
    go_simp
  simp only [Act.put, List.setIfInBounds_toArray, List.set_cons_zero, List.set_cons_succ]
  refine wpAnyH_take (i := 1) (oi := { dst := some 12, op := Op.move (Operand.tmp 0), type := 155, pos := "l7_table.go:162", after := #[], guard := none }) (v := .pointer (some ⟨T, 0, none⟩)) rfl (by kernel_rfl) (by kernel_rfl) (by kernel_rfl) (fun _ _ _ h => h) (Or.inl ⟨by rfl, ?_⟩) (by assumption) ?_
  · intro wx hSw
    go_simp
  simp only [Act.put, List.setIfInBounds_toArray, List.set_cons_zero, List.set_cons_succ]
  refine wpAnyH_take (i := 2) (oi := { dst := some 13, op := Op.nilCheck (Operand.tmp 12), type := 0, pos := "l7_table.go:162", after := #[{ on := 1, ground := Ground.data }], guard := none }) (v := .pointer (some ⟨T, 0, none⟩)) rfl (by kernel_rfl) (by kernel_rfl) (by kernel_rfl) (fun _ _ _ h => h) (Or.inl ⟨by rfl, ?_⟩) (by assumption) ?_
  · intro wx hSw
    clear hSw hHeld; go_simp
  simp only [Act.put, List.setIfInBounds_toArray, List.set_cons_zero, List.set_cons_succ]
  refine wpAnyH_take (i := 3) (oi := { dst := some 14, op := Op.fieldAddr 73 (Operand.tmp 13) 0, type := 0, pos := "l7_table.go:162", after := #[{ on := 2, ground := Ground.data }], guard := none }) (v := .pointer (some ⟨T, 0, none⟩)) rfl (by kernel_rfl) (by kernel_rfl) (by kernel_rfl) (fun _ _ _ h => h) (Or.inl ⟨by rfl, ?_⟩) (by assumption) ?_
  · intro wx hSw
    clear hSw hHeld; go_simp
  simp only [Act.put, List.setIfInBounds_toArray, List.set_cons_zero, List.set_cons_succ]
  refine wpAnyH_take (i := 5) (oi := { dst := some 16, op := Op.fieldAddr 104 (Operand.tmp 4) 0, type := 0, pos := "l7_table.go:162", after := #[], guard := none }) (v := .pointer (some ⟨w.heap.size, 0, none⟩)) rfl (by kernel_rfl) (by kernel_rfl) (by kernel_rfl) (fun _ _ _ h => h) (Or.inl ⟨by rfl, ?_⟩) (by assumption) ?_
  · intro wx hSw
    clear hSw hHeld; go_simp
  simp only [Act.put, List.setIfInBounds_toArray, List.set_cons_zero, List.set_cons_succ]
  refine wpAnyH_take (i := 6) (oi := { dst := some 17, op := Op.load 23 (Operand.tmp 16), type := 23, pos := "l7_table.go:162", after := #[{ on := 5, ground := Ground.data }], guard := none }) (v := .slice (some ⟨b, off, none⟩) l.length n) rfl (by kernel_rfl) (by kernel_rfl) (by kernel_rfl) (fun _ _ _ h => h) (Or.inl ⟨by rfl, ?_⟩) (by assumption) ?_
  · intro wx hSw
    clear hHeld; go_simp
  simp only [Act.put, List.setIfInBounds_toArray, List.set_cons_zero, List.set_cons_succ]
  refine wpAnyH_ready (rs := [4]) (by kernel_rfl) (by simp) ?_
  refine AllReadyH.cons (o := { dst := some 15, op := Op.load 23 (Operand.tmp 14), type := 23, pos := "l7_table.go:162", after := #[{ on := 3, ground := Ground.data }], guard := none }) rfl (fun K hK => ?_) AllReadyH.nil
  obtain ⟨_, t0, t1, t2, t3, t4⟩ := T1.c5
  go_simp
  refine hK.out _ va hHeld (fun hHeld => ?_)
  clear hK K
  refine wpAnyH_ready (rs := [7]) (by kernel_rfl) (by simp) ?_
  refine AllReadyH.cons (o := { dst := some 18, op := Op.call { callee := Callee.builtin Builtin.append, args := #[Operand.tmp 15, Operand.tmp 17], argTypes := #[23, 23] }, type := 23, pos := "l7_table.go:162", after := #[{ on := 4, ground := Ground.data }, { on := 6, ground := Ground.data }], guard := none }) rfl (fun K hK => ?_) AllReadyH.nil
  rw [if_pos (by rfl)]
  refine wp_append_own _ _ _ 23 (by rfl) H 33 i0 (.agg #[.string ⟨#[]⟩, .int .i64 0, .int .i64 0, .string ⟨#[]⟩]) 4 48 Tryz.underlying23 hi hz0 hzs hzb rfl (by decide) (.slice la its.length lc) its.length (flat4 its) (by rfl) R1 ⟨b, off, none⟩ l.length n (flat4 l) (by rfl) (flat4_length l) (hnews va hB1) (flat4_one l) (by unfold maxLen; omega) (by omega) (by omega) ?_
  intro v' v2 hown2 hgrow2 _
  have hge : ∀ j, (Value.slice la its.length lc).ownBlock = some j → H ≤ j ∧ j < w.heap.size := fun j hj => hrow.lt j hj
  have X2 := box_grown X1 hgrow2 (fun h => by have := hge _ h.symm; omega)
  have T2 := box_grown T1 hgrow2 (fun h => by have := hge _ h.symm; omega)
  refine hK.out _ v2 (X2.2.1 0 _ rfl) (fun hHeld => ?_)
  clear hK K
  simp only [Act.put, List.setIfInBounds_toArray, List.set_cons_zero, List.set_cons_succ]
  refine wpAnyH_take (i := 8) (oi := { dst := some 19, op := Op.nilCheck (Operand.tmp 11), type := 0, pos := "l7_table.go:162", after := #[{ on := 0, ground := Ground.data }, { on := 0, ground := Ground.phase }, { on := 1, ground := Ground.phase }, { on := 2, ground := Ground.phase }, { on := 3, ground := Ground.phase }, { on := 4, ground := Ground.phase }, { on := 5, ground := Ground.phase }, { on := 6, ground := Ground.phase }, { on := 7, ground := Ground.phase }], guard := none }) (v := .pointer (some ⟨T, 0, none⟩)) rfl (by kernel_rfl) (by kernel_rfl) (by kernel_rfl) (fun _ _ _ h => h) (Or.inl ⟨by rfl, ?_⟩) (by assumption) ?_
  · intro wx hSw
    clear hSw hHeld; go_simp
  simp only [Act.put, List.setIfInBounds_toArray, List.set_cons_zero, List.set_cons_succ]
  refine wpAnyH_take (i := 9) (oi := { dst := some 20, op := Op.fieldAddr 73 (Operand.tmp 19) 0, type := 0, pos := "l7_table.go:162", after := #[{ on := 8, ground := Ground.data }, { on := 0, ground := Ground.phase }, { on := 1, ground := Ground.phase }, { on := 2, ground := Ground.phase }, { on := 3, ground := Ground.phase }, { on := 4, ground := Ground.phase }, { on := 5, ground := Ground.phase }, { on := 6, ground := Ground.phase }, { on := 7, ground := Ground.phase }], guard := none }) (v := .pointer (some ⟨T, 0, none⟩)) rfl (by kernel_rfl) (by kernel_rfl) (by kernel_rfl) (fun _ _ _ h => h) (Or.inl ⟨by rfl, ?_⟩) (by assumption) ?_
  · intro wx hSw
    clear hSw hHeld; go_simp
  simp only [Act.put, List.setIfInBounds_toArray, List.set_cons_zero, List.set_cons_succ]
  refine wpAnyH_ready (rs := [10]) (by kernel_rfl) (by simp) ?_
  refine AllReadyH.cons (o := { dst := none, op := Op.store 23 (Operand.tmp 20) (Operand.tmp 18), type := 0, pos := "l7_table.go:162", after := #[{ on := 9, ground := Ground.data }, { on := 7, ground := Ground.data }, { on := 7, ground := Ground.chain }, { on := 0, ground := Ground.phase }, { on := 1, ground := Ground.phase }, { on := 2, ground := Ground.phase }, { on := 3, ground := Ground.phase }, { on := 4, ground := Ground.phase }, { on := 5, ground := Ground.phase }, { on := 6, ground := Ground.phase }, { on := 7, ground := Ground.phase }], guard := none }) rfl (fun K hK => ?_) AllReadyH.nil
  obtain ⟨⟨f0, f1, f2, f3, f4⟩, zz, t0, t1, t2, t3, t4⟩ := T2.f5
  have T3 := box5_set0 T2 v'
  have X3 := X2.setOther ⟨T, 0, none⟩ v' (by show T ≠ w.heap.size; omega)
  obtain ⟨ga, gc, rfl⟩ : ∃ ga gc, v' = .slice ga (its.length + l.length) gc := by
    rcases hown2.2 with ⟨h, h0⟩ | ⟨g, c, cur, h, _⟩
    · exact ⟨none, 0, by rw [h, h0]⟩
    · exact ⟨_, _, h⟩
  have hrow3 : (v2.setCell ⟨T, 0, none⟩ (.slice ga (its.length + l.length) gc)).ownsRow H 33 4 (.slice ga (its.length + l.length) gc) (its ++ l).length (flat4 (its ++ l)) := by
    rw [flat4_append, List.length_append]
    exact (Chg.setCell (S := fun j => j = T) (Chg.refl _ v2) (p := ⟨T, 0, none⟩) rfl _).owns hown2 (fun g hg => by have := (hown2.lt g hg).1; omega)
  have hch : Chg (fun j => j = T ∨ (Value.slice la its.length lc).ownBlock = some j) w (v2.setCell ⟨T, 0, none⟩ (.slice ga (its.length + l.length) gc)) := by
    have h0 : Chg (fun j => j = T ∨ (Value.slice la its.length lc).ownBlock = some j) w v2 := ⟨hgrow2.os.trans hB1.os, hgrow2.tape.trans hB1.tape, hgrow2.output.trans hB1.output, Nat.le_trans hB1.size hgrow2.size, fun j hj hs => by
      rw [hgrow2.block j (Nat.lt_of_lt_of_le hj hB1.size) (fun e => hs (.inr e.symm)), hB1.block j hj]⟩
    exact h0.setCell (p := ⟨T, 0, none⟩) (.inl rfl) _
  go_simp
  refine hK.out _ (v2.setCell ⟨T, 0, none⟩ (.slice ga (its.length + l.length) gc)) (X3.2.1 0 _ rfl) (fun _ => ?_)
  clear hK K t0 t1 t2 t3 t4 f0 f1 f2 f3 f4 X2 X3 T1 T2 X1 hHeld hgrow2 hown2
  generalize v2.setCell ⟨T, 0, none⟩ (.slice ga (its.length + l.length) gc) = W' at *
  refine wpAnyH_done (by kernel_rfl) ?_ _
  go_wp2
  go_end0
  exact ⟨_, rfl, T3, hrow3, hch⟩
end Go.Proofs.YtfdaffnkgpdhhaaGreat

namespace Go.Proofs.YtfdaffnkgpdhhaaGreat
open Go.RowKit
set_option linter.unusedVariables false
set_option maxRecDepth 100000

theorem Tryz.idxBlk (v : Value) (w : World) : (Instr.typeAssert (.iface 99 v) 111 104 true).run Tryz.prog w = .ok (.tuple #[.agg #[.slice none 0 0, .string ⟨#[]⟩], .bool false]) w := by kernel_rfl
theorem Tryz.idxIdx (v : Value) (w : World) : (Instr.typeAssert (.iface 99 v) 111 99 true).run Tryz.prog w = .ok (.tuple #[v, .bool true]) w := by kernel_rfl
theorem Tryz.fltBlk (v : Value) (w : World) : (Instr.typeAssert (.iface 105 v) 111 104 true).run Tryz.prog w = .ok (.tuple #[.agg #[.slice none 0 0, .string ⟨#[]⟩], .bool false]) w := by kernel_rfl
theorem Tryz.fltIdx (v : Value) (w : World) : (Instr.typeAssert (.iface 105 v) 111 99 true).run Tryz.prog w = .ok (.tuple #[.slice none 0 0, .bool false]) w := by kernel_rfl
theorem Tryz.fltFlt (v : Value) (w : World) : (Instr.typeAssert (.iface 105 v) 111 105 true).run Tryz.prog w = .ok (.tuple #[v, .bool true]) w := by kernel_rfl
theorem Tryz.finBlk (v : Value) (w : World) : (Instr.typeAssert (.iface 106 v) 111 104 true).run Tryz.prog w = .ok (.tuple #[.agg #[.slice none 0 0, .string ⟨#[]⟩], .bool false]) w := by kernel_rfl
theorem Tryz.finIdx (v : Value) (w : World) : (Instr.typeAssert (.iface 106 v) 111 99 true).run Tryz.prog w = .ok (.tuple #[.slice none 0 0, .bool false]) w := by kernel_rfl
theorem Tryz.finFlt (v : Value) (w : World) : (Instr.typeAssert (.iface 106 v) 111 105 true).run Tryz.prog w = .ok (.tuple #[.agg #[.int .i64 0, .string ⟨#[]⟩, .int .i64 0], .bool false]) w := by kernel_rfl

theorem hold_idx (T : Nat) (xa : Option Addr) (xn xc : Nat) (lv xv hv sv mv : Value) (w : World) (hT : Box w T [lv, xv, hv, sv, mv]) :
    Calls Tryz.prog 80 #[.pointer (some ⟨T, 0, none⟩), .iface 99 (.slice xa xn xc)] w fun e w' => e = .returned (.tuple #[]) ∧ Box w' T [lv, .slice xa xn xc, hv, sv, mv] ∧ Chg (fun j => j = T) w w' := by
  have y1 := Tryz.idxBlk (.slice xa xn xc)
  have y2 := Tryz.idxIdx (.slice xa xn xc)
  obtain ⟨⟨f0, f1, f2, f3, f4⟩, zz, t0, t1, t2, t3, t4⟩ := hT.f5
  have T1 := hT.set 1 (.slice xa xn xc) (by simp)
  have hch : Chg (fun j => j = T) w (w.setCell ⟨T, 1, none⟩ (.slice xa xn xc)) := Chg.setCell (S := fun j => j = T) (Chg.refl _ w) (p := ⟨T, 1, none⟩) rfl _
  go_enter Tryz.func80, Tryz.ntmps80
  go_wp2
  go_end0
  exact ⟨rfl, T1, hch⟩
theorem hold_flt (T : Nat) (n m : Int) (s : ByteArray) (lv xv : Value) (h0 m0 : Int) (s0 : ByteArray) (w : World) (hT : Box w T [lv, xv, .int .i64 h0, .string s0, .int .i64 m0]) :
    Calls Tryz.prog 80 #[.pointer (some ⟨T, 0, none⟩), .iface 105 (.agg #[.int .i64 n, .string s, .int .i64 m])] w fun e w' => e = .returned (.tuple #[]) ∧ Box w' T [lv, xv, .int .i64 n, .string s, .int .i64 m] ∧ Chg (fun j => j = T) w w' := by
  have y1 := Tryz.fltBlk (.agg #[.int .i64 n, .string s, .int .i64 m])
  have y2 := Tryz.fltIdx (.agg #[.int .i64 n, .string s, .int .i64 m])
  have y3 := Tryz.fltFlt (.agg #[.int .i64 n, .string s, .int .i64 m])
  obtain ⟨W, hW⟩ : ∃ W, W = w.alloc (.cells #[.int .i64 n, .string s, .int .i64 m] 105) := ⟨_, rfl⟩
  have hb0 : Below w.heap.size w W := by rw [hW]; exact below_alloc _ _
  have X0 : Box W w.heap.size [.int .i64 n, .string s, .int .i64 m] := by rw [hW]; exact Box.new w #[.int .i64 n, .string s, .int .i64 m] 105
  have T0 := hT.below hb0
  obtain ⟨⟨f0, f1, f2, f3, f4⟩, zz, t0, t1, t2, t3, t4⟩ := T0.f5
  obtain ⟨_, x0, x1, x2⟩ := X0.c3
  have T1 := ((T0.set 2 (.int .i64 n) (by simp)).set 3 (.string s) (by simp)).set 4 (.int .i64 m) (by simp)
  have hch : Chg (fun j => j = T) w (((W.setCell ⟨T, 2, none⟩ (.int .i64 n)).setCell ⟨T, 3, none⟩ (.string s)).setCell ⟨T, 4, none⟩ (.int .i64 m)) :=
    Chg.setCell (Chg.setCell (Chg.setCell (S := fun j => j = T) (Chg.of_below hb0) (p := ⟨T, 2, none⟩) rfl _) (p := ⟨T, 3, none⟩) rfl _) (p := ⟨T, 4, none⟩) rfl _
  rw [hW] at f0 f1 f2 f3 f4 t0 t1 t2 t3 t4 x0 x1 x2
  go_enter Tryz.func80, Tryz.ntmps80
  go_wp2
  rw [← hW]
  go_end0
  exact ⟨rfl, T1, hch⟩
theorem hold_fin (T n : Nat) (w : World) :
    Calls Tryz.prog 80 #[.pointer (some ⟨T, 0, none⟩), .iface 106 (.int .i64 n)] w fun e w' => e = .returned (.tuple #[]) ∧ w' = w := by
  have y1 := Tryz.finBlk (.int .i64 n)
  have y2 := Tryz.finIdx (.int .i64 n)
  have y3 := Tryz.finFlt (.int .i64 n)
  go_enter Tryz.func80, Tryz.ntmps80
  go_wp2
  go_end0
  exact ⟨rfl, rfl⟩
end Go.Proofs.YtfdaffnkgpdhhaaGreat

namespace Go.Proofs.YtfdaffnkgpdhhaaGreat
open Go.RowKit
set_option linter.unusedVariables false
set_option maxRecDepth 100000

theorem parts_get (b off : Nat) (l : List It) (vi : Value) (m : Int) (k : Nat) (h : k < nb l) : (partsL b off l vi m)[k]? = some (blkP b off l k) := by
  unfold partsL
  rw [List.getElem?_append_left (by simpa using h)]
  simp [List.getElem?_range h]
theorem parts_idx (b off : Nat) (l : List It) (vi : Value) (m : Int) : (partsL b off l vi m)[nb l]? = some (.idx vi (plsL l (nb l))) ∧ (partsL b off l vi m)[nb l + 1]? = some (.flt 4 (fbT l) m) ∧ (partsL b off l vi m)[nb l + 2]? = some (.fin (bsL l (nb l)).length) := by
  unfold partsL
  refine ⟨?_, ?_, ?_⟩ <;> (rw [List.getElem?_append_right (by simp)]; simp)
theorem parts_length (b off : Nat) (l : List It) (vi : Value) (m : Int) : (partsL b off l vi m).length = nb l + 3 := by simp [partsL]
theorem owns_under {w w' : World} {T base : Nat} {e : TypeId} {size : Nat} {v : Value} {n : Nat} {xs : List Value} (h : w.ownsRow base e size v n xs) (hb : Below T w w') (hlt : ∀ g, v.ownBlock = some g → g < T) : w'.ownsRow base e size v n xs := by
  refine ⟨h.1, h.2.imp id ?_⟩
  rintro ⟨g, cap, cur, hv, hbg, hh, r⟩
  refine ⟨g, cap, cur, hv, hbg, ?_, r⟩
  rw [hb.block g (hlt g (by rw [hv]; rfl))]; exact hh
/-- What stands in the table behind k parts. -/
def xK (l : List It) (vi : Value) (k : Nat) : Value := if nb l < k then vi else .slice none 0 0
def hK (l : List It) (k : Nat) : Int := if nb l + 1 < k then 4 else 0
def sK (l : List It) (k : Nat) : ByteArray := if nb l + 1 < k then fbT l else ⟨#[]⟩
def mK (l : List It) (m : Int) (k : Nat) : Int := if nb l + 1 < k then m else 0
/-- What tableFrom answers. -/
def TblA (s : ByteArray) (w : World) (e : Ending) (w' : World) : Prop :=
  Below w.heap.size w w' ∧ ∃ l ok, TbRes (bl s) l ok ∧ ((ok = false ∧ e = .returned (.tuple #[.agg #[.slice none 0 0, .slice none 0 0, .int .i64 0, .string ⟨#[]⟩, .int .i64 0], .bool false])) ∨
    (ok = true ∧ ∃ lv xv m, e = .returned (.tuple #[.agg #[lv, xv, .int .i64 4, .string (fbT l), .int .i64 m], .bool true]) ∧ filF 4 (kuL l l.length) = (4, fbT l, m, true) ∧ w'.ownsRow w.heap.size 33 4 lv l.length (flat4 l) ∧ w'.ownsRow w.heap.size 50 4 xv (nb l) (flatP (plsL l (nb l)))))
theorem TblA.no {s : ByteArray} {w w' : World} (h : TbRes (bl s) [] false) (hb : Below w.heap.size w w') : TblA s w (.returned (.tuple #[.agg #[.slice none 0 0, .slice none 0 0, .int .i64 0, .string ⟨#[]⟩, .int .i64 0], .bool false])) w' :=
  ⟨hb, [], false, h, .inl ⟨rfl, rfl⟩⟩
/-- Five cells that are stored. -/
def put5 (w : World) (b : Nat) (v0 v1 v2 v3 v4 : Value) : World := ((((w.setCell ⟨b, 0, none⟩ v0).setCell ⟨b, 1, none⟩ v1).setCell ⟨b, 2, none⟩ v2).setCell ⟨b, 3, none⟩ v3).setCell ⟨b, 4, none⟩ v4
theorem put5_box {w : World} {b : Nat} {u0 u1 u2 u3 u4 : Value} (h : Box w b [u0, u1, u2, u3, u4]) (v0 v1 v2 v3 v4 : Value) : Box (put5 w b v0 v1 v2 v3 v4) b [v0, v1, v2, v3, v4] := by
  have := ((((h.set 0 v0 (by simp)).set 1 v1 (by simp)).set 2 v2 (by simp)).set 3 v3 (by simp)).set 4 v4 (by simp)
  simpa [put5] using this
theorem put5_chg (w : World) (b : Nat) (v0 v1 v2 v3 v4 : Value) : Chg (fun j => j = b) w (put5 w b v0 v1 v2 v3 v4) :=
  Chg.setCell (Chg.setCell (Chg.setCell (Chg.setCell (Chg.setCell (S := fun j => j = b) (Chg.refl _ w) (p := ⟨b, 0, none⟩) rfl _) (p := ⟨b, 1, none⟩) rfl _) (p := ⟨b, 2, none⟩) rfl _) (p := ⟨b, 3, none⟩) rfl _) (p := ⟨b, 4, none⟩) rfl _

set_option maxHeartbeats 8000000 in
theorem tableFrom_any (s : ByteArray) (w : World) (hs : s.size ≤ 1048576) :
    Calls Tryz.prog 37 #[.string s] w (TblA s w) := by
  have hb0 := below_alloc w (.cells #[.slice none 0 0, .slice none 0 0, .int .i64 0, .string ⟨#[]⟩, .int .i64 0] 73)
  have R0 := Box.new w #[.slice none 0 0, .slice none 0 0, .int .i64 0, .string ⟨#[]⟩, .int .i64 0] 73
  have KI := fun w => itemsTold_any s w hs
  go_enter Tryz.func37, Tryz.ntmps37
  go_wp2_with fail
  refine (KI _).mono ?_
  rintro e w1 ⟨v, l, rfl, hown, hlen, hsm, hu, hb1⟩
  have hB1 := below_then hb0 hb1
  have R1 := R0.below hb1
  clear KI R0 hb0
  have hR1 := R1.1
  obtain ⟨a, cap, rfl, hcap, hrb⟩ : ∃ a cap, v = .slice a l.length cap ∧ l.length ≤ cap ∧ ∀ g, (Value.slice a l.length cap).ownBlock = some g → w.heap.size + 1 ≤ g := by
    rcases hown.2 with ⟨h, h0⟩ | ⟨g, c, cur, h, hbg, _, hc, _⟩
    · exact ⟨none, 0, by rw [h, h0], by omega, fun g hg => by cases hg⟩
    · refine ⟨_, c, h, hc, fun g' hg => ?_⟩
      simp only [Value.ownBlock, Option.some.injEq] at hg
      subst hg
      simpa using hbg
  have hir := IR_of_owns hown rfl
  have hsz : ∀ i (h : i < l.length), l[i].k.size ≤ 1048576 ∧ l[i].v.size ≤ 1048576 := fun i h => by have := hsm _ (List.getElem_mem h); omega
  have KP := callsIn_wide.1 (partsOf_in a cap l w1 hir hcap (by omega) hsz)
  obtain ⟨HY0, HN0⟩ := TbRes.of_read hu
  have HY : Hid (okT l = true → tbL l = bl s → TbRes (bl s) l true) := HY0
  have HN : Hid ((okT l = true → tbL l ≠ bl s) → TbRes (bl s) [] false) := HN0
  clear hsz hown hu hb1 HY0 HN0 hsm
  go_wp2_with fail
  refine KP.mono ?_
  clear KP
  rintro e w2 (⟨hk, rfl, hb2⟩ | ⟨hk, b, off, pv, vi, m, rfl, rfl, hq, hrow, hf, hb2⟩)
  · have HR : Hid (TbRes (bl s) [] false) := HN.out (fun h => by rw [hk] at h; cases h)
    have hB2 := below_then hB1 hb2
    have R2 := R1.below hb2
    clear HY HN hir R1 hB1 hb2
    obtain ⟨⟨f0, f1, f2, f3, f4⟩, zz, r0, r1, r2, r3, r4⟩ := R2.f5
    have R3 := put5_box R2 (.slice none 0 0) (.slice none 0 0) (.int .i64 0) (.string ⟨#[]⟩) (.int .i64 0)
    have hB3 : Below w.heap.size w (put5 w2 w.heap.size (.slice none 0 0) (.slice none 0 0) (.int .i64 0) (.string ⟨#[]⟩) (.int .i64 0)) := hB2.trans ((put5_chg _ _ _ _ _ _ _).below hB2.size (fun j hj => by omega))
    go_wp2
    change bodyPost _ _ _ _ _ (put5 w2 w.heap.size (.slice none 0 0) (.slice none 0 0) (.int .i64 0) (.string ⟨#[]⟩) (.int .i64 0))
    generalize put5 w2 w.heap.size (.slice none 0 0) (.slice none 0 0) (.int .i64 0) (.string ⟨#[]⟩) (.int .i64 0) = W' at *
    obtain ⟨_, q0, q1, q2, q3, q4⟩ := R3.c5
    exact bodyPost_ret (v := .tuple #[.agg #[.slice none 0 0, .slice none 0 0, .int .i64 0, .string ⟨#[]⟩, .int .i64 0], .bool false]) (by simp [results, Tryz.results37, go_sem, q0, q1, q2, q3, q4]) rfl (TblA.no HR.out hB3)
  · have hB2 := below_then hB1 hb2
    have R2 := R1.below hb2
    have hir2 := hir.below hb2
    have hpr := PR_of_owns hrow (by rw [plsL_len])
    have KB := bytesOf_any pv (partsL b off l vi m) w2 hq (parts_len hk _ _ _ _) (ok_getD (parts_ok hk hir2 hpr))
    rw [parts_cat hk] at KB
    obtain ⟨pa, pc, rfl, hcq⟩ := hq
    clear R1 hB1 hir hpr
    rw [parts_length] at *
    by_cases hT : tx (tbL l) = s
    · have HR : Hid (TbRes (bl s) l true) := HY.out hk (by rw [← hT, bl_tx])
      have g1 := tl_eq hT
      clear HY HN
      have hp := okT_parts hk
      have hnb := nb_le hk
      obtain ⟨pb, poff, rfl, hpb, hpc⟩ := hcq (by intro e; have := congrArg List.length e; rw [parts_length] at this; simp at this)
      clear hcq
      have hcell : ∀ k p, (partsL b off l vi m)[k]? = some p → w2.cell? ⟨pb, poff + k, none⟩ = some (encP p) := by
        intro k p hkp
        obtain ⟨h1, h2⟩ := List.getElem?_eq_some_iff.1 hkp
        rw [← h2]; exact hpc k h1
      clear hpc
      rw [hT] at KB
      go_wp2_with fail
      refine KB.mono ?_
      rintro e w3 ⟨rfl, hb3⟩
      have hB3 := below_then hB2 hb3
      have R3 := R2.below hb3
      clear R2 hB2 KB
      obtain ⟨W4, hW4⟩ : ∃ W4, W4 = w3.alloc (.cells #[.slice none 0 0, .slice none 0 0, .int .i64 0, .string ⟨#[]⟩, .int .i64 0] 73) := ⟨_, rfl⟩
      have hb4 : Below w3.heap.size w3 W4 := by rw [hW4]; exact below_alloc _ _
      have hb24 : Below w2.heap.size w2 W4 := below_then hb3 hb4
      have T4 : Box W4 w3.heap.size [.slice none 0 0, .slice none 0 0, .int .i64 0, .string ⟨#[]⟩, .int .i64 0] := by rw [hW4]; exact Box.new w3 #[.slice none 0 0, .slice none 0 0, .int .i64 0, .string ⟨#[]⟩, .int .i64 0] 73
      have hB4 := below_then hB3 hb4
      have R4 := R3.below hb4
      have hz23 := hb3.size
      have hRT : w.heap.size < w3.heap.size := R3.1
      have hB3z := hB3.size
      clear R3 hB3 hb3 hb4
      go_wp2_with fail
      rw [← hW4]
      clear hW4
      have hT4z : w3.heap.size < W4.heap.size := T4.1
      go_loopw [26] (fun i wr => ∃ (k : Nat) (lv : Value), k ≤ nb l + 3 ∧ i = .int .i64 k ∧ Box wr w3.heap.size [lv, xK l vi k, .int .i64 (hK l k), .string (sK l k), .int .i64 (mK l m k)] ∧ wr.ownsRow (w3.heap.size + 1) 33 4 lv (l.take (8 * k)).length (flat4 (l.take (8 * k))) ∧ Below w3.heap.size W4 wr) (fun i _ => nb l + 3 - (intOf i).toNat)
      case atStart => exact ⟨0, .slice none 0 0, Nat.zero_le _, rfl, T4, World.ownsRow_nil _ _ _ _, Below.refl _ _⟩
      case round =>
        clear T4
        obtain ⟨k, lv, hk3, rfl, TB, hlr, hBT⟩ := hrel
        have hb2r : Below w2.heap.size w2 wr := hb24.trans (hBT.mono hz23)
        have hzr := hBT.size
        by_cases hlt : k < nb l + 3
        · have fin : ∀ (w' : World) (lv' : Value), Box w' w3.heap.size [lv', xK l vi (k + 1), .int .i64 (hK l (k + 1)), .string (sK l (k + 1)), .int .i64 (mK l m (k + 1))] → w'.ownsRow (w3.heap.size + 1) 33 4 lv' (l.take (8 * (k + 1))).length (flat4 (l.take (8 * (k + 1)))) → Below w3.heap.size W4 w' → ∃ (k' : Nat) (lv : Value), k' ≤ nb l + 3 ∧ (.int .i64 ((k : Int) + 1) : Value) = .int .i64 k' ∧ Box w' w3.heap.size [lv, xK l vi k', .int .i64 (hK l k'), .string (sK l k'), .int .i64 (mK l m k')] ∧ w'.ownsRow (w3.heap.size + 1) 33 4 lv (l.take (8 * k')).length (flat4 (l.take (8 * k'))) ∧ Below w3.heap.size W4 w' := fun w' lv' a1 a2 a3 => ⟨k + 1, lv', by omega, by go_num, a1, a2, a3⟩
          have HF : Hid _ := fin
          clear fin
          have hch0 : ∀ {w' : World} {P : Nat → Prop}, Chg P wr w' → (∀ j, P j → w3.heap.size ≤ j) → Below w3.heap.size W4 w' := fun h hP => hBT.trans (h.below (by omega) hP)
          by_cases hkn : k < nb l
          · have hc0 := (hb2r.cell (p := ⟨pb, _, none⟩) hpb).trans (hcell k _ (parts_get b off l vi m k hkn))
            have hirc := IR_chunk (hir2.below hb2r) hkn
            have hcl := chk_len l k
            have hce : chV b off l k = .slice (some ⟨b, off + 8 * k * 4, none⟩) (chk l k).length (min 8 (l.length - 8 * k)) := by unfold chV; rw [hcl]
            rw [hce] at hirc
            simp only [encP, blkP, hce] at hc0
            have KH := hold_blk w3.heap.size (w3.heap.size + 1) b (off + 8 * k * 4) (min 8 (l.length - 8 * k)) (chk l k) (l.take (8 * k)) (tx (blkL (chk l k))) lv _ _ _ _ wr TB hlr (by omega) (by omega) hirc (by omega) (by simp; omega)
            rw [chk_take] at KH
            have hx1 : xK l vi (k + 1) = xK l vi k := by unfold xK; rw [if_neg (by omega), if_neg (by omega)]
            have hx2 : hK l (k + 1) = hK l k := by unfold hK; rw [if_neg (by omega), if_neg (by omega)]
            have hx3 : sK l (k + 1) = sK l k := by unfold sK; rw [if_neg (by omega), if_neg (by omega)]
            have hx4 : mK l m (k + 1) = mK l m k := by unfold mK; rw [if_neg (by omega), if_neg (by omega)]
            rw [hx1, hx2, hx3, hx4] at HF
            have hge : ∀ j, lv.ownBlock = some j → w3.heap.size ≤ j := fun j hj => by have := (hlr.lt j hj).1; omega
            clear hx1 hx2 hx3 hx4 hirc hce hcl TB hlr hcell
            generalize tx (blkL (chk l k)) = BT at *
            generalize (chk l k).length = cn at *
            generalize min 8 (l.length - 8 * k) = cm at *
            generalize off + 8 * k * 4 = cx at *
            go_wp2_with fail
            refine KH.mono ?_
            rintro e w5 ⟨lv', rfl, B5, r5, ch5⟩
            have hB5 := hch0 ch5 (fun j hj => by rcases hj with hj | hj; omega; exact hge j hj)
            have HG : Hid _ := HF.out w5 lv' B5 r5 hB5
            clear KH ch5 B5 r5 hch0 HF
            go_wp2
            go_roundw
            case rel => exact HG.out
            case measure => simp [intOf] <;> omega
          · have htake : ∀ j, nb l ≤ j → l.take (8 * j) = l := fun j hj => List.take_of_length_le (by unfold nb at hj; omega)
            rw [htake (k + 1) (by omega)] at HF
            rw [htake k (by omega)] at hlr
            have hrowr := owns_below hrow hb2r
            by_cases hk0 : k = nb l
            · subst hk0
              have hc0 := (hb2r.cell (p := ⟨pb, _, none⟩) hpb).trans (hcell _ _ (parts_idx b off l vi m).1)
              obtain ⟨xa, xc, rfl⟩ : ∃ xa xc, vi = .slice xa (nb l) xc := by
                rcases hrow.2 with ⟨h, h0⟩ | ⟨g, c, cur, h, _⟩
                · exact ⟨none, 0, by rw [h, h0]⟩
                · exact ⟨_, _, h⟩
              simp only [encP] at hc0
              have KH := hold_idx w3.heap.size xa (nb l) xc lv _ _ _ _ wr TB
              have hx1 : xK l (.slice xa (nb l) xc) (nb l + 1) = .slice xa (nb l) xc := by unfold xK; rw [if_pos (by omega)]
              have hx2 : hK l (nb l + 1) = hK l (nb l) := by unfold hK; rw [if_neg (by omega), if_neg (by omega)]
              have hx3 : sK l (nb l + 1) = sK l (nb l) := by unfold sK; rw [if_neg (by omega), if_neg (by omega)]
              have hx4 : mK l m (nb l + 1) = mK l m (nb l) := by unfold mK; rw [if_neg (by omega), if_neg (by omega)]
              rw [hx1, hx2, hx3, hx4] at HF
              have hne : ∀ g, lv.ownBlock = some g → ¬ g = w3.heap.size := fun g hg => by have := (hlr.lt g hg).1; omega
              clear hx1 hx2 hx3 hx4 TB hcell hrowr hrow
              go_wp2_with fail
              refine KH.mono ?_
              rintro e w5 ⟨rfl, B5, ch5⟩
              have hB5 := hch0 ch5 (fun j hj => by omega)
              have HG : Hid _ := HF.out w5 lv B5 (ch5.owns hlr hne) hB5
              clear KH ch5 B5 hch0 HF hlr
              go_wp2
              go_roundw
              case rel => exact HG.out
              case measure => simp [intOf] <;> omega
            · by_cases hk1 : k = nb l + 1
              · subst hk1
                have hc0 := (hb2r.cell (p := ⟨pb, _, none⟩) hpb).trans (hcell _ _ (parts_idx b off l vi m).2.1)
                simp only [encP] at hc0
                have KH := hold_flt w3.heap.size 4 m (fbT l) lv _ _ _ _ wr TB
                have hx1 : xK l vi (nb l + 1 + 1) = xK l vi (nb l + 1) := by unfold xK; rw [if_pos (by omega), if_pos (by omega)]
                have hx2 : hK l (nb l + 1 + 1) = 4 := by unfold hK; rw [if_pos (by omega)]
                have hx3 : sK l (nb l + 1 + 1) = fbT l := by unfold sK; rw [if_pos (by omega)]
                have hx4 : mK l m (nb l + 1 + 1) = m := by unfold mK; rw [if_pos (by omega)]
                rw [hx1, hx2, hx3, hx4] at HF
                have hne : ∀ g, lv.ownBlock = some g → ¬ g = w3.heap.size := fun g hg => by have := (hlr.lt g hg).1; omega
                clear hx1 hx2 hx3 hx4 TB hcell hrowr
                go_wp2_with fail
                refine KH.mono ?_
                rintro e w5 ⟨rfl, B5, ch5⟩
                have hB5 := hch0 ch5 (fun j hj => by omega)
                have HG : Hid _ := HF.out w5 lv B5 (ch5.owns hlr hne) hB5
                clear KH ch5 B5 hch0 HF hlr
                go_wp2
                go_roundw
                case rel => exact HG.out
                case measure => simp [intOf] <;> omega
              · obtain rfl : k = nb l + 2 := by omega
                have hc0 := (hb2r.cell (p := ⟨pb, _, none⟩) hpb).trans (hcell _ _ (parts_idx b off l vi m).2.2)
                simp only [encP] at hc0
                have KH := hold_fin w3.heap.size (bsL l (nb l)).length wr
                have hx1 : xK l vi (nb l + 2 + 1) = xK l vi (nb l + 2) := by unfold xK; rw [if_pos (by omega), if_pos (by omega)]
                have hx2 : hK l (nb l + 2 + 1) = hK l (nb l + 2) := by unfold hK; rw [if_pos (by omega), if_pos (by omega)]
                have hx3 : sK l (nb l + 2 + 1) = sK l (nb l + 2) := by unfold sK; rw [if_pos (by omega), if_pos (by omega)]
                have hx4 : mK l m (nb l + 2 + 1) = mK l m (nb l + 2) := by unfold mK; rw [if_pos (by omega), if_pos (by omega)]
                rw [hx1, hx2, hx3, hx4] at HF
                have HG : Hid _ := HF.out wr lv TB hlr hBT
                clear hx1 hx2 hx3 hx4 TB hcell hrowr HF hlr hch0
                generalize (bsL l (nb l)).length = NB at *
                go_wp2_with fail
                refine KH.mono ?_
                rintro e w5 ⟨rfl, hw⟩
                rw [hw]; clear hw KH
                go_wp2
                go_roundw
                case rel => exact HG.out
                case measure => simp [intOf] <;> omega
        · obtain rfl : k = nb l + 3 := by omega
          have htake : l.take (8 * (nb l + 3)) = l := List.take_of_length_le (by unfold nb; omega)
          have hx1 : xK l vi (nb l + 3) = vi := by unfold xK; rw [if_pos (by omega)]
          have hx2 : hK l (nb l + 3) = 4 := by unfold hK; rw [if_pos (by omega)]
          have hx3 : sK l (nb l + 3) = fbT l := by unfold sK; rw [if_pos (by omega)]
          have hx4 : mK l m (nb l + 3) = m := by unfold mK; rw [if_pos (by omega)]
          rw [hx1, hx2, hx3, hx4] at TB
          rw [htake] at hlr
          have hrowr := owns_below hrow hb2r
          have Rr : Box wr w.heap.size [.slice none 0 0, .slice none 0 0, .int .i64 0, .string ⟨#[]⟩, .int .i64 0] := by
            obtain ⟨z1, z2, z3⟩ := R4
            exact ⟨by omega, fun j u hj => (hBT.cell (p := ⟨w.heap.size, j, none⟩) hRT).trans (z2 j u hj), fun j => (World.frozen?_of_block (w := W4) (a := ⟨w.heap.size, j, none⟩) (hBT.block w.heap.size hRT)).trans (z3 j)⟩
          have hBr : Below w.heap.size w wr := hB4.trans (hBT.mono (by omega))
          obtain ⟨la, lc, rfl⟩ : ∃ la lc, lv = .slice la l.length lc := by
            rcases hlr.2 with ⟨h, h0⟩ | ⟨g, c, cur, h, _⟩
            · exact ⟨none, 0, by rw [h, h0]⟩
            · exact ⟨_, _, h⟩
          obtain ⟨xa, xc, rfl⟩ : ∃ xa xc, vi = .slice xa (nb l) xc := by
            rcases hrow.2 with ⟨h, h0⟩ | ⟨g, c, cur, h, _⟩
            · exact ⟨none, 0, by rw [h, h0]⟩
            · exact ⟨_, _, h⟩
          have R5 := put5_box Rr (.slice la l.length lc) (.slice xa (nb l) xc) (.int .i64 4) (.string (fbT l)) (.int .i64 m)
          have ch5 := put5_chg wr w.heap.size (.slice la l.length lc) (.slice xa (nb l) xc) (.int .i64 4) (.string (fbT l)) (.int .i64 m)
          have hr1 := owns_lower (ch5.owns hlr (fun g hg => by have := (hlr.lt g hg).1; omega)) (show w.heap.size ≤ w3.heap.size + 1 by omega)
          have hr2 := owns_lower (ch5.owns hrowr (fun g hg => by have := (hrowr.lt g hg).1; omega)) (show w.heap.size ≤ w1.heap.size by omega)
          have hB5 := hBr.trans (ch5.below hBr.size (fun j hj => by omega))
          have HA : Hid (TblA s w (.returned (.tuple #[.agg #[.slice la l.length lc, .slice xa (nb l) xc, .int .i64 4, .string (fbT l), .int .i64 m], .bool true])) (put5 wr w.heap.size (.slice la l.length lc) (.slice xa (nb l) xc) (.int .i64 4) (.string (fbT l)) (.int .i64 m))) :=
            ⟨hB5, l, true, HR.out, .inr ⟨rfl, _, _, m, rfl, hf, hr1, hr2⟩⟩
          obtain ⟨⟨f0, f1, f2, f3, f4⟩, zz, r0, r1, r2, r3, r4⟩ := Rr.f5
          obtain ⟨_, t0, t1, t2, t3, t4⟩ := TB.c5
          clear hx1 hx2 hx3 hx4 htake TB hlr hrowr hrow hcell HR hr1 hr2 hB5 ch5 hBr hir2 Rr R4 hb2r hBT hf
          generalize fbT l = FB at *
          go_wp2
          change bodyPost _ _ _ _ _ (put5 wr w.heap.size (.slice la l.length lc) (.slice xa (nb l) xc) (.int .i64 4) (.string FB) (.int .i64 m))
          generalize put5 wr w.heap.size (.slice la l.length lc) (.slice xa (nb l) xc) (.int .i64 4) (.string FB) (.int .i64 m) = W' at *
          obtain ⟨_, q0, q1, q2, q3, q4⟩ := R5.c5
          exact bodyPost_ret (v := .tuple #[.agg #[.slice la l.length lc, .slice xa (nb l) xc, .int .i64 4, .string FB, .int .i64 m], .bool true]) (by simp [results, Tryz.results37, go_sem, q0, q1, q2, q3, q4]) rfl HA.out
    · have HR : Hid (TbRes (bl s) [] false) := HN.out (fun _ h => hT (by rw [h, tx_bl]))
      have g1 := tl_ne hT
      clear HY HN hT hcq
      generalize tx (tbL l) = T at *
      go_wp2_with fail
      refine KB.mono ?_
      rintro e w3 ⟨rfl, hb3⟩
      have hB3 := below_then hB2 hb3
      have R3 := R2.below hb3
      clear R2 hB2 hb3 KB hb2
      obtain ⟨⟨f0, f1, f2, f3, f4⟩, zz, r0, r1, r2, r3, r4⟩ := R3.f5
      have R4 := put5_box R3 (.slice none 0 0) (.slice none 0 0) (.int .i64 0) (.string ⟨#[]⟩) (.int .i64 0)
      have hB4 : Below w.heap.size w (put5 w3 w.heap.size (.slice none 0 0) (.slice none 0 0) (.int .i64 0) (.string ⟨#[]⟩) (.int .i64 0)) := hB3.trans ((put5_chg _ _ _ _ _ _ _).below hB3.size (fun j hj => by omega))
      go_wp2
      change bodyPost _ _ _ _ _ (put5 w3 w.heap.size (.slice none 0 0) (.slice none 0 0) (.int .i64 0) (.string ⟨#[]⟩) (.int .i64 0))
      generalize put5 w3 w.heap.size (.slice none 0 0) (.slice none 0 0) (.int .i64 0) (.string ⟨#[]⟩) (.int .i64 0) = W' at *
      obtain ⟨_, q0, q1, q2, q3, q4⟩ := R4.c5
      exact bodyPost_ret (v := .tuple #[.agg #[.slice none 0 0, .slice none 0 0, .int .i64 0, .string ⟨#[]⟩, .int .i64 0], .bool false]) (by simp [results, Tryz.results37, go_sem, q0, q1, q2, q3, q4]) rfl (TblA.no HR.out hB4)
end Go.Proofs.YtfdaffnkgpdhhaaGreat

namespace Go.Proofs.YtfdaffnkgpdhhaaGreat
open Go.RowKit
set_option linter.unusedVariables false
set_option maxRecDepth 100000

/-- What ReadTable, IndexOf, FilterIn and RangeOf answer. -/
def RdT (s : ByteArray) (w : World) (e : Ending) (w' : World) : Prop :=
  ∃ l ok v, TbRes (bl s) l ok ∧ e = .returned (.tuple #[v, .bool ok]) ∧ w'.ownsRow w.heap.size 33 4 v l.length (flat4 l) ∧ Below w.heap.size w w'
def IxT (s : ByteArray) (w : World) (e : Ending) (w' : World) : Prop :=
  ∃ l ok v, TbRes (bl s) l ok ∧ e = .returned (.tuple #[v, .bool ok]) ∧ w'.ownsRow w.heap.size 50 4 v (nb l) (flatP (plsL l (nb l))) ∧ Below w.heap.size w w'
def fOf (l : List It) (ok : Bool) : Int × ByteArray × Int := if ok then (4, fbT l, (filF 4 (kuL l l.length)).2.2.1) else (0, ⟨#[]⟩, 0)
def FlT (s : ByteArray) (w : World) (e : Ending) (w' : World) : Prop :=
  ∃ l ok, TbRes (bl s) l ok ∧ e = .returned (.tuple #[.agg #[.int .i64 (fOf l ok).1, .string (fOf l ok).2.1, .int .i64 (fOf l ok).2.2], .bool ok]) ∧ Below w.heap.size w w'
def r0 (l : List It) : ByteArray := (l.getD 0 default).k
def r1 (l : List It) : ByteArray := (l.getD (l.length - 1) default).k
def RgT (s : ByteArray) (w : World) (e : Ending) (w' : World) : Prop :=
  ∃ l ok, TbRes (bl s) l ok ∧ e = .returned (.tuple #[.string (r0 l), .string (r1 l), .bool ok]) ∧ Below w.heap.size w w'
theorem slice_form {w : World} {base : Nat} {e : TypeId} {size : Nat} {v : Value} {n : Nat} {xs : List Value} (h : w.ownsRow base e size v n xs) : ∃ a c, v = .slice a n c := by
  rcases h.2 with ⟨h, h0⟩ | ⟨g, c, cur, h, _⟩
  · exact ⟨none, 0, by rw [h, h0]⟩
  · exact ⟨_, _, h⟩

set_option maxHeartbeats 1000000 in
theorem implReadT_any (s : ByteArray) (w : World) (hs : s.size ≤ 1048576) : Calls Tryz.prog 11 #[.string s] w (RdT s w) := by
  have K := fun w => tableFrom_any s w hs
  go_enter Tryz.func11, Tryz.ntmps11
  go_wp2_with fail
  refine (K _).mono ?_
  clear K
  rintro e w1 ⟨hb1, l, ok, hres, ⟨rfl, rfl⟩ | ⟨rfl, lv, xv, m, rfl, hf, hr1, hr2⟩⟩
  · have HR : Hid (TbRes (bl s) l false) := hres
    have hl : l = [] := by rcases hres with ⟨h, _⟩ | ⟨_, h, _⟩; cases h; exact h
    subst hl
    have hB := hb1.alloc hb1.size (.cells #[.slice none 0 0, .slice none 0 0, .int .i64 0, .string ⟨#[]⟩, .int .i64 0] 73)
    clear hres hb1
    go_wp2
    go_ret2
    exact ⟨[], false, .slice none 0 0, HR.out, rfl, World.ownsRow_nil _ _ _ _, hB⟩
  · have HR : Hid (TbRes (bl s) l true) := hres
    obtain ⟨la, lc, rfl⟩ := slice_form hr1
    obtain ⟨xa, xc, rfl⟩ := slice_form hr2
    have hB := hb1.alloc hb1.size (.cells #[.slice la l.length lc, .slice xa (nb l) xc, .int .i64 4, .string (fbT l), .int .i64 m] 73)
    have ho := hr1.alloc (.cells #[.slice la l.length lc, .slice xa (nb l) xc, .int .i64 4, .string (fbT l), .int .i64 m] 73)
    clear hres hb1 hr1 hr2 hf
    generalize fbT l = FB at *
    go_wp2
    go_ret2
    exact ⟨l, true, _, HR.out, rfl, ho, hB⟩
set_option maxHeartbeats 1000000 in
theorem implIndex_any (s : ByteArray) (w : World) (hs : s.size ≤ 1048576) : Calls Tryz.prog 17 #[.string s] w (IxT s w) := by
  have K := fun w => tableFrom_any s w hs
  go_enter Tryz.func17, Tryz.ntmps17
  go_wp2_with fail
  refine (K _).mono ?_
  clear K
  rintro e w1 ⟨hb1, l, ok, hres, ⟨rfl, rfl⟩ | ⟨rfl, lv, xv, m, rfl, hf, hr1, hr2⟩⟩
  · have HR : Hid (TbRes (bl s) l false) := hres
    have hl : l = [] := by rcases hres with ⟨h, _⟩ | ⟨_, h, _⟩; cases h; exact h
    subst hl
    have hB := hb1.alloc hb1.size (.cells #[.slice none 0 0, .slice none 0 0, .int .i64 0, .string ⟨#[]⟩, .int .i64 0] 73)
    clear hres hb1
    go_wp2
    go_ret2
    exact ⟨[], false, .slice none 0 0, HR.out, rfl, World.ownsRow_nil _ _ _ _, hB⟩
  · have HR : Hid (TbRes (bl s) l true) := hres
    obtain ⟨la, lc, rfl⟩ := slice_form hr1
    obtain ⟨xa, xc, rfl⟩ := slice_form hr2
    have hB := hb1.alloc hb1.size (.cells #[.slice la l.length lc, .slice xa (nb l) xc, .int .i64 4, .string (fbT l), .int .i64 m] 73)
    have ho := hr2.alloc (.cells #[.slice la l.length lc, .slice xa (nb l) xc, .int .i64 4, .string (fbT l), .int .i64 m] 73)
    clear hres hb1 hr1 hr2 hf
    generalize fbT l = FB at *
    go_wp2
    go_ret2
    exact ⟨l, true, _, HR.out, rfl, ho, hB⟩
set_option maxHeartbeats 1000000 in
theorem implFilterIn_any (s : ByteArray) (w : World) (hs : s.size ≤ 1048576) : Calls Tryz.prog 20 #[.string s] w (FlT s w) := by
  have K := fun w => tableFrom_any s w hs
  have Z0 := Box.new w #[.int .i64 0, .string ⟨#[]⟩, .int .i64 0] 46
  have hb0 := below_alloc w (.cells #[.int .i64 0, .string ⟨#[]⟩, .int .i64 0] 46)
  go_enter Tryz.func20, Tryz.ntmps20
  go_wp2_with fail
  refine (K _).mono ?_
  clear K
  rintro e w1 ⟨hb1, l, ok, hres, ⟨rfl, rfl⟩ | ⟨rfl, lv, xv, m, rfl, hf, hr1, hr2⟩⟩
  · have HR : Hid (TbRes (bl s) l false) := hres
    have HF : Hid (fOf l false = (0, ⟨#[]⟩, 0)) := rfl
    have hB1 := below_then hb0 hb1
    have hB := hB1.alloc hB1.size (.cells #[.slice none 0 0, .slice none 0 0, .int .i64 0, .string ⟨#[]⟩, .int .i64 0] 73)
    have Z1 := (Z0.below hb1).alloc (.cells #[.slice none 0 0, .slice none 0 0, .int .i64 0, .string ⟨#[]⟩, .int .i64 0] 73)
    obtain ⟨W, hW⟩ : ∃ W, W = w1.alloc (.cells #[.slice none 0 0, .slice none 0 0, .int .i64 0, .string ⟨#[]⟩, .int .i64 0] 73) := ⟨_, rfl⟩
    rw [← hW] at hB Z1
    obtain ⟨⟨j0, j1, j2⟩, zq, z0, z1, z2⟩ := Z1.f3
    obtain ⟨⟨t0, t1, t2⟩, hBB⟩ := put3_ok hB (by omega) Z1 (.int .i64 0) (.string ⟨#[]⟩) (.int .i64 0)
    rw [hW] at j0 j1 j2 z0 z1 z2
    clear hres hb1 hB1 Z0 hb0 hB
    go_wp2
    rw [← hW]
    change bodyPost _ _ _ _ _ (put3 W w.heap.size (.int .i64 0) (.string ⟨#[]⟩) (.int .i64 0))
    generalize put3 W w.heap.size (.int .i64 0) (.string ⟨#[]⟩) (.int .i64 0) = W' at *
    exact bodyPost_ret (v := .tuple #[.agg #[.int .i64 0, .string ⟨#[]⟩, .int .i64 0], .bool false]) (by simp [results, Tryz.results20, go_sem, t0, t1, t2]) rfl ⟨l, false, HR.out, by rw [HF.out], hBB⟩
  · have HR : Hid (TbRes (bl s) l true) := hres
    have HF : Hid (fOf l true = (4, fbT l, m)) := by show _ = _; unfold fOf; rw [if_pos rfl, hf]
    obtain ⟨la, lc, rfl⟩ := slice_form hr1
    obtain ⟨xa, xc, rfl⟩ := slice_form hr2
    generalize fbT l = FB at *
    have hB1 := below_then hb0 hb1
    have hB := hB1.alloc hB1.size (.cells #[.slice la l.length lc, .slice xa (nb l) xc, .int .i64 4, .string FB, .int .i64 m] 73)
    have Z1 := (Z0.below hb1).alloc (.cells #[.slice la l.length lc, .slice xa (nb l) xc, .int .i64 4, .string FB, .int .i64 m] 73)
    obtain ⟨W, hW⟩ : ∃ W, W = w1.alloc (.cells #[.slice la l.length lc, .slice xa (nb l) xc, .int .i64 4, .string FB, .int .i64 m] 73) := ⟨_, rfl⟩
    rw [← hW] at hB Z1
    obtain ⟨⟨j0, j1, j2⟩, zq, z0, z1, z2⟩ := Z1.f3
    obtain ⟨⟨t0, t1, t2⟩, hBB⟩ := put3_ok hB (by omega) Z1 (.int .i64 4) (.string FB) (.int .i64 m)
    rw [hW] at j0 j1 j2 z0 z1 z2
    clear hres hb1 hB1 Z0 hb0 hB hr1 hr2 hf
    go_wp2
    rw [← hW]
    change bodyPost _ _ _ _ _ (put3 W w.heap.size (.int .i64 4) (.string FB) (.int .i64 m))
    generalize put3 W w.heap.size (.int .i64 4) (.string FB) (.int .i64 m) = W' at *
    exact bodyPost_ret (v := .tuple #[.agg #[.int .i64 4, .string FB, .int .i64 m], .bool true]) (by simp [results, Tryz.results20, go_sem, t0, t1, t2]) rfl ⟨l, true, HR.out, by rw [HF.out], hBB⟩
theorem TbRes.okT {s : List UInt8} {l : List It} (h : TbRes s l true) : okT l = true := by
  rcases h with ⟨_, h, _⟩ | ⟨h, _⟩
  · exact h
  · cases h
set_option maxHeartbeats 2000000 in
theorem implRange_any (s : ByteArray) (w : World) (hs : s.size ≤ 1048576) : Calls Tryz.prog 19 #[.string s] w (RgT s w) := by
  have K := fun w => tableFrom_any s w hs
  go_enter Tryz.func19, Tryz.ntmps19
  go_wp2_with fail
  refine (K _).mono ?_
  clear K
  rintro e w1 ⟨hb1, l, ok, hres, ⟨rfl, rfl⟩ | ⟨rfl, lv, xv, m, rfl, hf, hr1, hr2⟩⟩
  · have HR : Hid (TbRes (bl s) l false) := hres
    have hl : l = [] := by rcases hres with ⟨h, _⟩ | ⟨_, h, _⟩; cases h; exact h
    subst hl
    have hB := hb1.alloc hb1.size (.cells #[.slice none 0 0, .slice none 0 0, .int .i64 0, .string ⟨#[]⟩, .int .i64 0] 73)
    clear hres hb1
    go_wp2
    go_ret3
    exact ⟨[], false, HR.out, rfl, hB⟩
  · have HR : Hid (TbRes (bl s) l true) := hres
    have hp := okT_parts hres.okT
    have hir := IR_of_owns hr1 rfl
    obtain ⟨la, lc, rfl⟩ := slice_form hr1
    obtain ⟨xa, xc, rfl⟩ := slice_form hr2
    obtain ⟨a', c', he, hc⟩ := hir
    injection he with e1 e2 e3
    subst e1
    subst e3
    obtain ⟨b, off, rfl, hbl, hcell⟩ := hc (by intro e; rw [e] at hp; simp at hp)
    have hgd : ∀ i (h : i < l.length), l.getD i default = l[i] := fun i h => by rw [List.getD_eq_getElem?_getD, List.getElem?_eq_getElem h]; rfl
    have c0 := (hcell 0 (by omega)).1
    have c1 := (hcell (l.length - 1) (by omega)).1
    have E0 : r0 l = l[0].k := by unfold r0; rw [hgd 0 (by omega)]
    have E1 : r1 l = l[l.length - 1].k := by unfold r1; rw [hgd _ (by omega)]
    have HE : Hid (r0 l = r0 l) := rfl
    rw [← E0] at c0
    rw [← E1] at c1
    clear E0 E1 hgd hcell hc
    generalize fbT l = FB at *
    obtain ⟨W, hW⟩ : ∃ W, W = w1.alloc (.cells #[.slice (some ⟨b, off, none⟩) l.length lc, .slice xa (nb l) xc, .int .i64 4, .string FB, .int .i64 m] 73) := ⟨_, rfl⟩
    have hbW : Below w1.heap.size w1 W := by rw [hW]; exact below_alloc _ _
    have X : Box W w1.heap.size [.slice (some ⟨b, off, none⟩) l.length lc, .slice xa (nb l) xc, .int .i64 4, .string FB, .int .i64 m] := by rw [hW]; exact Box.new w1 #[.slice (some ⟨b, off, none⟩) l.length lc, .slice xa (nb l) xc, .int .i64 4, .string FB, .int .i64 m] 73
    have hB := below_then hb1 hbW
    have d0 := (hbW.cell (p := ⟨b, _, none⟩) hbl).trans c0
    have d1 := (hbW.cell (p := ⟨b, _, none⟩) hbl).trans c1
    simp only [Nat.zero_mul, Nat.add_zero] at d0
    have hix : ((l.length : Int) - 1).toNat = l.length - 1 := by omega
    have hl1 := hp.2.1
    have hl2 := hp.2.2
    clear hres hb1 hr1 hr2 hf c0 c1 HE hp
    go_wp2_with fail
    rw [← hW]
    clear hW
    obtain ⟨_, x0, x1, x2, x3, x4⟩ := X.c5
    go_quiet (fail)
    have hB2 := below_dn hB nq
    go_wp2
    go_ret3
    exact ⟨l, true, HR.out, rfl, hB2⟩
end Go.Proofs.YtfdaffnkgpdhhaaGreat

