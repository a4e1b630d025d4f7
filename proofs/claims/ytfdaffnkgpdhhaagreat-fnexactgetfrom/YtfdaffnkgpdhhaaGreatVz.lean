/-
  A part is held in a table: impl.(*table).hold.
  The other parts held in a table: impl.(*table).hold.
-/
import Derived.Test.YtfdaffnkgpdhhaaGreatTz
import Derived.Deep.RegionHeld3
namespace Go.Proofs.YtfdaffnkgpdhhaaGreat
open Go.RowKit
set_option linter.unusedVariables false
set_option maxRecDepth 100000

theorem Box.c5 {w : World} {b : Nat} {v0 v1 v2 v3 v4 : Value} (h : Box w b [v0, v1, v2, v3, v4]) : b < w.heap.size ∧ w.cell? ⟨b, 0, none⟩ = some v0 ∧ w.cell? ⟨b, 1, none⟩ = some v1 ∧ w.cell? ⟨b, 2, none⟩ = some v2 ∧ w.cell? ⟨b, 3, none⟩ = some v3 ∧ w.cell? ⟨b, 4, none⟩ = some v4 :=
  ⟨h.1, h.2.1 0 _ rfl, h.2.1 1 _ rfl, h.2.1 2 _ rfl, h.2.1 3 _ rfl, h.2.1 4 _ rfl⟩
theorem Box.f5 {w : World} {b : Nat} {v0 v1 v2 v3 v4 : Value} (h : Box w b [v0, v1, v2, v3, v4]) : (w.frozen? ⟨b, 0, none⟩ = false ∧ w.frozen? ⟨b, 1, none⟩ = false ∧ w.frozen? ⟨b, 2, none⟩ = false ∧ w.frozen? ⟨b, 3, none⟩ = false ∧ w.frozen? ⟨b, 4, none⟩ = false) ∧ b < w.heap.size ∧ w.cell? ⟨b, 0, none⟩ = some v0 ∧ w.cell? ⟨b, 1, none⟩ = some v1 ∧ w.cell? ⟨b, 2, none⟩ = some v2 ∧ w.cell? ⟨b, 3, none⟩ = some v3 ∧ w.cell? ⟨b, 4, none⟩ = some v4 :=
  ⟨⟨h.2.2 0, h.2.2 1, h.2.2 2, h.2.2 3, h.2.2 4⟩, h.c5⟩
theorem Tryz.isBlk (v : Value) (s : ByteArray) (w : World) : (Instr.typeAssert (.iface 104 (.agg #[v, .string s])) 111 104 true).run Tryz.prog w = .ok (.tuple #[.agg #[v, .string s], .bool true]) w := by kernel_rfl
theorem box5_set0 {w : World} {T : Nat} {a b c d e : Value} (h : Box w T [a, b, c, d, e]) (v : Value) : Box (w.setCell ⟨T, 0, none⟩ v) T [v, b, c, d, e] := by
  have := h.set 0 v (by simp)
  simpa using this
theorem hold_blk (T H : Nat) (b off n : Nat) (l its : List It) (s : ByteArray) (lv xv hv sv mv : Value) (w : World) (hT : Box w T [lv, xv, hv, sv, mv]) (hrow : w.ownsRow H 33 4 lv its.length (flat4 its)) (hTH : T < H) (hH : H ≤ w.heap.size)
    (hir : IR w (.slice (some ⟨b, off, none⟩) l.length n) l) (hl : l.length ≤ 120) (hi0 : its.length ≤ 1000) :
    Calls Tryz.prog 80 #[.pointer (some ⟨T, 0, none⟩), .iface 104 (.agg #[.slice (some ⟨b, off, none⟩) l.length n, .string s])] w fun e w' =>
      ∃ lv', e = .returned (.tuple #[]) ∧ Box w' T [lv', xv, hv, sv, mv] ∧ w'.ownsRow H 33 4 lv' (its ++ l).length (flat4 (its ++ l)) ∧ Chg (fun j => j = T ∨ lv.ownBlock = some j) w w' := by
  obtain ⟨i0, hi, hz0, hzs, hzb⟩ := info_parts Tryz.info33
  obtain ⟨la, lc, rfl⟩ : ∃ la lc, lv = .slice la its.length lc := by
    rcases hrow.2 with ⟨h, h0⟩ | ⟨g, c, cur, h, _⟩
    · exact ⟨none, 0, by rw [h, h0]⟩
    · exact ⟨_, _, h⟩
  have hnews : ∀ W : World, Below w.heap.size w W → ∀ j u, (flat4 l)[j]? = some u → W.cell? ((⟨b, off, none⟩ : Addr).add j) = some u := by
    intro W hb j u hj
    obtain ⟨a', c', he, hc⟩ := hir
    injection he with e1 e2 e3
    subst e1
    have hjl : j < l.length * 4 := by
      have := (List.getElem?_eq_some_iff.1 hj).1
      rw [flat4_length] at this; exact this
    obtain ⟨b', off', he', hbl, hcell⟩ := hc (by intro e; rw [e] at hjl; simp at hjl)
    cases he'
    obtain ⟨q, hq1, hq2⟩ : ∃ q, q * 4 ≤ j ∧ j < q * 4 + 4 := ⟨j / 4, by omega, by omega⟩
    obtain ⟨c0, c1, c2, c3⟩ := hcell q (by omega)
    obtain ⟨d0, d1, d2, d3⟩ := flat4_get l q (by omega)
    rw [show (⟨b, off, none⟩ : Addr).add j = ⟨b, off + j, none⟩ from by simp [Addr.add]; try omega, hb.cell (p := ⟨b, off + j, none⟩) hbl]
    have hm : j = q * 4 ∨ j = q * 4 + 1 ∨ j = q * 4 + 2 ∨ j = q * 4 + 3 := by omega
    rcases hm with rfl | rfl | rfl | rfl
    · rw [d0] at hj; rw [← hj]; exact c0
    · rw [d1] at hj; rw [← hj, ← Nat.add_assoc]; exact c1
    · rw [d2] at hj; rw [← hj, ← Nat.add_assoc]; exact c2
    · rw [d3] at hj; rw [← hj, ← Nat.add_assoc]; exact c3
  obtain ⟨W, hW⟩ : ∃ W, W = w.alloc (.cells #[.slice (some ⟨b, off, none⟩) l.length n, .string s] 104) := ⟨_, rfl⟩
  have hb0 : Below w.heap.size w W := by rw [hW]; exact below_alloc _ _
  have X0 : Box W w.heap.size [.slice (some ⟨b, off, none⟩) l.length n, .string s] := by rw [hW]; exact Box.new w #[.slice (some ⟨b, off, none⟩) l.length n, .string s] 104
  have T0 := hT.below hb0
  have R0 := owns_below hrow hb0
  have hD : Below W.heap.size W W.drew := (Below.refl _ _).drew
  have hTl := hT.1
  have hty := Tryz.isBlk (.slice (some ⟨b, off, none⟩) l.length n) s
  go_enter Tryz.func80, Tryz.ntmps80
  go_wp2_with fail
  rw [← hW]
  clear hW
  refine wp_region_held_drew (S := fun w' => w'.cell? ⟨w.heap.size, 0, none⟩ = some (.slice (some ⟨b, off, none⟩) l.length n)) (by kernel_rfl) (X0.2.1 0 _ rfl) (fun hHeld => ?_)
  have T1 := T0.below hD
  have X1 := X0.below hD
  have R1 := owns_below R0 hD
  have hB1 := below_then hb0 hD
  have hz1 := hB1.size
  have hX1 : w.heap.size < W.drew.heap.size := X1.1
  clear X0 T0 R0 hb0 hD
  generalize W.drew = va at *
  clear W
  refine wpAnyH_take (i := 0) (oi := { dst := some 11, op := Op.move (Operand.tmp 0), type := 155, pos := "l7_table.go:162", after := #[], guard := none }) (v := .pointer (some ⟨T, 0, none⟩)) rfl (by kernel_rfl) (by kernel_rfl) (by kernel_rfl) (fun _ _ _ h => h) (Or.inl ⟨by rfl, ?_⟩) (by assumption) ?_
  · intro wx hSw
    go_simp
  simp only [Act.put, List.setIfInBounds_toArray, List.set_cons_zero, List.set_cons_succ]
  refine wpAnyH_take (i := 1) (oi := { dst := some 12, op := Op.move (Operand.tmp 0), type := 155, pos := "l7_table.go:162", after := #[], guard := none }) (v := .pointer (some ⟨T, 0, none⟩)) rfl (by kernel_rfl) (by kernel_rfl) (by kernel_rfl) (fun _ _ _ h => h) (Or.inl ⟨by rfl, ?_⟩) (by assumption) ?_
  · intro wx hSw
    go_simp
  simp only [Act.put, List.setIfInBounds_toArray, List.set_cons_zero, List.set_cons_succ]
  refine wpAnyH_take (i := 2) (oi := { dst := some 13, op := Op.nilCheck (Operand.tmp 12), type := 0, pos := "l7_table.go:162", after := #[{ on := 1, ground := Ground.data }], guard := none }) (v := .pointer (some ⟨T, 0, none⟩)) rfl (by kernel_rfl) (by kernel_rfl) (by kernel_rfl) (fun _ _ _ h => h) (Or.inl ⟨by rfl, ?_⟩) (by assumption) ?_
  · intro wx hSw
    clear hSw hHeld; go_simp
  simp only [Act.put, List.setIfInBounds_toArray, List.set_cons_zero, List.set_cons_succ]
  refine wpAnyH_take (i := 3) (oi := { dst := some 14, op := Op.fieldAddr 73 (Operand.tmp 13) 0, type := 0, pos := "l7_table.go:162", after := #[{ on := 2, ground := Ground.data }], guard := none }) (v := .pointer (some ⟨T, 0, none⟩)) rfl (by kernel_rfl) (by kernel_rfl) (by kernel_rfl) (fun _ _ _ h => h) (Or.inl ⟨by rfl, ?_⟩) (by assumption) ?_
  · intro wx hSw
    clear hSw hHeld; go_simp
  simp only [Act.put, List.setIfInBounds_toArray, List.set_cons_zero, List.set_cons_succ]
  refine wpAnyH_take (i := 5) (oi := { dst := some 16, op := Op.fieldAddr 104 (Operand.tmp 4) 0, type := 0, pos := "l7_table.go:162", after := #[], guard := none }) (v := .pointer (some ⟨w.heap.size, 0, none⟩)) rfl (by kernel_rfl) (by kernel_rfl) (by kernel_rfl) (fun _ _ _ h => h) (Or.inl ⟨by rfl, ?_⟩) (by assumption) ?_
  · intro wx hSw
    clear hSw hHeld; go_simp
  simp only [Act.put, List.setIfInBounds_toArray, List.set_cons_zero, List.set_cons_succ]
  refine wpAnyH_take (i := 6) (oi := { dst := some 17, op := Op.load 23 (Operand.tmp 16), type := 23, pos := "l7_table.go:162", after := #[{ on := 5, ground := Ground.data }], guard := none }) (v := .slice (some ⟨b, off, none⟩) l.length n) rfl (by kernel_rfl) (by kernel_rfl) (by kernel_rfl) (fun _ _ _ h => h) (Or.inl ⟨by rfl, ?_⟩) (by assumption) ?_
  · intro wx hSw
    clear hHeld; go_simp
  simp only [Act.put, List.setIfInBounds_toArray, List.set_cons_zero, List.set_cons_succ]
  refine wpAnyH_ready (rs := [4]) (by kernel_rfl) (by simp) ?_
  refine AllReadyH.cons (o := { dst := some 15, op := Op.load 23 (Operand.tmp 14), type := 23, pos := "l7_table.go:162", after := #[{ on := 3, ground := Ground.data }], guard := none }) rfl (fun K hK => ?_) AllReadyH.nil
  obtain ⟨_, t0, t1, t2, t3, t4⟩ := T1.c5
  go_simp
  refine hK.out _ va hHeld (fun hHeld => ?_)
  clear hK K
  refine wpAnyH_ready (rs := [7]) (by kernel_rfl) (by simp) ?_
  refine AllReadyH.cons (o := { dst := some 18, op := Op.call { callee := Callee.builtin Builtin.append, args := #[Operand.tmp 15, Operand.tmp 17], argTypes := #[23, 23] }, type := 23, pos := "l7_table.go:162", after := #[{ on := 4, ground := Ground.data }, { on := 6, ground := Ground.data }], guard := none }) rfl (fun K hK => ?_) AllReadyH.nil
  rw [if_pos (by rfl)]
  refine wp_append_own _ _ _ 23 (by rfl) H 33 i0 (.agg #[.string ⟨#[]⟩, .int .i64 0, .int .i64 0, .string ⟨#[]⟩]) 4 48 Tryz.underlying23 hi hz0 hzs hzb rfl (by decide) (.slice la its.length lc) its.length (flat4 its) (by rfl) R1 ⟨b, off, none⟩ l.length n (flat4 l) (by rfl) (flat4_length l) (hnews va hB1) (flat4_one l) (by unfold maxLen; omega) (by omega) (by omega) ?_
  intro v' v2 hown2 hgrow2 _
  have hge : ∀ j, (Value.slice la its.length lc).ownBlock = some j → H ≤ j ∧ j < w.heap.size := fun j hj => hrow.lt j hj
  have X2 := box_grown X1 hgrow2 (fun h => by have := hge _ h.symm; omega)
  have T2 := box_grown T1 hgrow2 (fun h => by have := hge _ h.symm; omega)
  refine hK.out _ v2 (X2.2.1 0 _ rfl) (fun hHeld => ?_)
  clear hK K
  simp only [Act.put, List.setIfInBounds_toArray, List.set_cons_zero, List.set_cons_succ]
  refine wpAnyH_take (i := 8) (oi := { dst := some 19, op := Op.nilCheck (Operand.tmp 11), type := 0, pos := "l7_table.go:162", after := #[{ on := 0, ground := Ground.data }, { on := 0, ground := Ground.phase }, { on := 1, ground := Ground.phase }, { on := 2, ground := Ground.phase }, { on := 3, ground := Ground.phase }, { on := 4, ground := Ground.phase }, { on := 5, ground := Ground.phase }, { on := 6, ground := Ground.phase }, { on := 7, ground := Ground.phase }], guard := none }) (v := .pointer (some ⟨T, 0, none⟩)) rfl (by kernel_rfl) (by kernel_rfl) (by kernel_rfl) (fun _ _ _ h => h) (Or.inl ⟨by rfl, ?_⟩) (by assumption) ?_
  · intro wx hSw
    clear hSw hHeld; go_simp
  simp only [Act.put, List.setIfInBounds_toArray, List.set_cons_zero, List.set_cons_succ]
  refine wpAnyH_take (i := 9) (oi := { dst := some 20, op := Op.fieldAddr 73 (Operand.tmp 19) 0, type := 0, pos := "l7_table.go:162", after := #[{ on := 8, ground := Ground.data }, { on := 0, ground := Ground.phase }, { on := 1, ground := Ground.phase }, { on := 2, ground := Ground.phase }, { on := 3, ground := Ground.phase }, { on := 4, ground := Ground.phase }, { on := 5, ground := Ground.phase }, { on := 6, ground := Ground.phase }, { on := 7, ground := Ground.phase }], guard := none }) (v := .pointer (some ⟨T, 0, none⟩)) rfl (by kernel_rfl) (by kernel_rfl) (by kernel_rfl) (fun _ _ _ h => h) (Or.inl ⟨by rfl, ?_⟩) (by assumption) ?_
  · intro wx hSw
    clear hSw hHeld; go_simp
  simp only [Act.put, List.setIfInBounds_toArray, List.set_cons_zero, List.set_cons_succ]
  refine wpAnyH_ready (rs := [10]) (by kernel_rfl) (by simp) ?_
  refine AllReadyH.cons (o := { dst := none, op := Op.store 23 (Operand.tmp 20) (Operand.tmp 18), type := 0, pos := "l7_table.go:162", after := #[{ on := 9, ground := Ground.data }, { on := 7, ground := Ground.data }, { on := 7, ground := Ground.chain }, { on := 0, ground := Ground.phase }, { on := 1, ground := Ground.phase }, { on := 2, ground := Ground.phase }, { on := 3, ground := Ground.phase }, { on := 4, ground := Ground.phase }, { on := 5, ground := Ground.phase }, { on := 6, ground := Ground.phase }, { on := 7, ground := Ground.phase }], guard := none }) rfl (fun K hK => ?_) AllReadyH.nil
  obtain ⟨⟨f0, f1, f2, f3, f4⟩, zz, t0, t1, t2, t3, t4⟩ := T2.f5
  have T3 := box5_set0 T2 v'
  have X3 := X2.setOther ⟨T, 0, none⟩ v' (by show T ≠ w.heap.size; omega)
  obtain ⟨ga, gc, rfl⟩ : ∃ ga gc, v' = .slice ga (its.length + l.length) gc := by
    rcases hown2.2 with ⟨h, h0⟩ | ⟨g, c, cur, h, _⟩
    · exact ⟨none, 0, by rw [h, h0]⟩
    · exact ⟨_, _, h⟩
  have hrow3 : (v2.setCell ⟨T, 0, none⟩ (.slice ga (its.length + l.length) gc)).ownsRow H 33 4 (.slice ga (its.length + l.length) gc) (its ++ l).length (flat4 (its ++ l)) := by
    rw [flat4_append, List.length_append]
    exact (Chg.setCell (S := fun j => j = T) (Chg.refl _ v2) (p := ⟨T, 0, none⟩) rfl _).owns hown2 (fun g hg => by have := (hown2.lt g hg).1; omega)
  have hch : Chg (fun j => j = T ∨ (Value.slice la its.length lc).ownBlock = some j) w (v2.setCell ⟨T, 0, none⟩ (.slice ga (its.length + l.length) gc)) := by
    have h0 : Chg (fun j => j = T ∨ (Value.slice la its.length lc).ownBlock = some j) w v2 := ⟨hgrow2.os.trans hB1.os, hgrow2.tape.trans hB1.tape, hgrow2.output.trans hB1.output, Nat.le_trans hB1.size hgrow2.size, fun j hj hs => by
      rw [hgrow2.block j (Nat.lt_of_lt_of_le hj hB1.size) (fun e => hs (.inr e.symm)), hB1.block j hj]⟩
    exact h0.setCell (p := ⟨T, 0, none⟩) (.inl rfl) _
  go_simp
  refine hK.out _ (v2.setCell ⟨T, 0, none⟩ (.slice ga (its.length + l.length) gc)) (X3.2.1 0 _ rfl) (fun _ => ?_)
  clear hK K t0 t1 t2 t3 t4 f0 f1 f2 f3 f4 X2 X3 T1 T2 X1 hHeld hgrow2 hown2
  generalize v2.setCell ⟨T, 0, none⟩ (.slice ga (its.length + l.length) gc) = W' at *
  refine wpAnyH_done (by kernel_rfl) ?_ _
  go_wp2
  go_end0
  exact ⟨_, rfl, T3, hrow3, hch⟩
end Go.Proofs.YtfdaffnkgpdhhaaGreat

namespace Go.Proofs.YtfdaffnkgpdhhaaGreat
open Go.RowKit
set_option linter.unusedVariables false
set_option maxRecDepth 100000

theorem Tryz.idxBlk (v : Value) (w : World) : (Instr.typeAssert (.iface 99 v) 111 104 true).run Tryz.prog w = .ok (.tuple #[.agg #[.slice none 0 0, .string ⟨#[]⟩], .bool false]) w := by kernel_rfl
theorem Tryz.idxIdx (v : Value) (w : World) : (Instr.typeAssert (.iface 99 v) 111 99 true).run Tryz.prog w = .ok (.tuple #[v, .bool true]) w := by kernel_rfl
theorem Tryz.fltBlk (v : Value) (w : World) : (Instr.typeAssert (.iface 105 v) 111 104 true).run Tryz.prog w = .ok (.tuple #[.agg #[.slice none 0 0, .string ⟨#[]⟩], .bool false]) w := by kernel_rfl
theorem Tryz.fltIdx (v : Value) (w : World) : (Instr.typeAssert (.iface 105 v) 111 99 true).run Tryz.prog w = .ok (.tuple #[.slice none 0 0, .bool false]) w := by kernel_rfl
theorem Tryz.fltFlt (v : Value) (w : World) : (Instr.typeAssert (.iface 105 v) 111 105 true).run Tryz.prog w = .ok (.tuple #[v, .bool true]) w := by kernel_rfl
theorem Tryz.finBlk (v : Value) (w : World) : (Instr.typeAssert (.iface 106 v) 111 104 true).run Tryz.prog w = .ok (.tuple #[.agg #[.slice none 0 0, .string ⟨#[]⟩], .bool false]) w := by kernel_rfl
theorem Tryz.finIdx (v : Value) (w : World) : (Instr.typeAssert (.iface 106 v) 111 99 true).run Tryz.prog w = .ok (.tuple #[.slice none 0 0, .bool false]) w := by kernel_rfl
theorem Tryz.finFlt (v : Value) (w : World) : (Instr.typeAssert (.iface 106 v) 111 105 true).run Tryz.prog w = .ok (.tuple #[.agg #[.int .i64 0, .string ⟨#[]⟩, .int .i64 0], .bool false]) w := by kernel_rfl

theorem hold_idx (T : Nat) (xa : Option Addr) (xn xc : Nat) (lv xv hv sv mv : Value) (w : World) (hT : Box w T [lv, xv, hv, sv, mv]) :
    Calls Tryz.prog 80 #[.pointer (some ⟨T, 0, none⟩), .iface 99 (.slice xa xn xc)] w fun e w' => e = .returned (.tuple #[]) ∧ Box w' T [lv, .slice xa xn xc, hv, sv, mv] ∧ Chg (fun j => j = T) w w' := by
  have y1 := Tryz.idxBlk (.slice xa xn xc)
  have y2 := Tryz.idxIdx (.slice xa xn xc)
  obtain ⟨⟨f0, f1, f2, f3, f4⟩, zz, t0, t1, t2, t3, t4⟩ := hT.f5
  have T1 := hT.set 1 (.slice xa xn xc) (by simp)
  have hch : Chg (fun j => j = T) w (w.setCell ⟨T, 1, none⟩ (.slice xa xn xc)) := Chg.setCell (S := fun j => j = T) (Chg.refl _ w) (p := ⟨T, 1, none⟩) rfl _
  go_enter Tryz.func80, Tryz.ntmps80
  go_wp2
  go_end0
  exact ⟨rfl, T1, hch⟩
theorem hold_flt (T : Nat) (n m : Int) (s : ByteArray) (lv xv : Value) (h0 m0 : Int) (s0 : ByteArray) (w : World) (hT : Box w T [lv, xv, .int .i64 h0, .string s0, .int .i64 m0]) :
    Calls Tryz.prog 80 #[.pointer (some ⟨T, 0, none⟩), .iface 105 (.agg #[.int .i64 n, .string s, .int .i64 m])] w fun e w' => e = .returned (.tuple #[]) ∧ Box w' T [lv, xv, .int .i64 n, .string s, .int .i64 m] ∧ Chg (fun j => j = T) w w' := by
  have y1 := Tryz.fltBlk (.agg #[.int .i64 n, .string s, .int .i64 m])
  have y2 := Tryz.fltIdx (.agg #[.int .i64 n, .string s, .int .i64 m])
  have y3 := Tryz.fltFlt (.agg #[.int .i64 n, .string s, .int .i64 m])
  obtain ⟨W, hW⟩ : ∃ W, W = w.alloc (.cells #[.int .i64 n, .string s, .int .i64 m] 105) := ⟨_, rfl⟩
  have hb0 : Below w.heap.size w W := by rw [hW]; exact below_alloc _ _
  have X0 : Box W w.heap.size [.int .i64 n, .string s, .int .i64 m] := by rw [hW]; exact Box.new w #[.int .i64 n, .string s, .int .i64 m] 105
  have T0 := hT.below hb0
  obtain ⟨⟨f0, f1, f2, f3, f4⟩, zz, t0, t1, t2, t3, t4⟩ := T0.f5
  obtain ⟨_, x0, x1, x2⟩ := X0.c3
  have T1 := ((T0.set 2 (.int .i64 n) (by simp)).set 3 (.string s) (by simp)).set 4 (.int .i64 m) (by simp)
  have hch : Chg (fun j => j = T) w (((W.setCell ⟨T, 2, none⟩ (.int .i64 n)).setCell ⟨T, 3, none⟩ (.string s)).setCell ⟨T, 4, none⟩ (.int .i64 m)) :=
    Chg.setCell (Chg.setCell (Chg.setCell (S := fun j => j = T) (Chg.of_below hb0) (p := ⟨T, 2, none⟩) rfl _) (p := ⟨T, 3, none⟩) rfl _) (p := ⟨T, 4, none⟩) rfl _
  rw [hW] at f0 f1 f2 f3 f4 t0 t1 t2 t3 t4 x0 x1 x2
  go_enter Tryz.func80, Tryz.ntmps80
  go_wp2
  rw [← hW]
  go_end0
  exact ⟨rfl, T1, hch⟩
theorem hold_fin (T n : Nat) (w : World) :
    Calls Tryz.prog 80 #[.pointer (some ⟨T, 0, none⟩), .iface 106 (.int .i64 n)] w fun e w' => e = .returned (.tuple #[]) ∧ w' = w := by
  have y1 := Tryz.finBlk (.int .i64 n)
  have y2 := Tryz.finIdx (.int .i64 n)
  have y3 := Tryz.finFlt (.int .i64 n)
  go_enter Tryz.func80, Tryz.ntmps80
  go_wp2
  go_end0
  exact ⟨rfl, rfl⟩
end Go.Proofs.YtfdaffnkgpdhhaaGreat

