/-
  A drawn meta: the cursor's meta.
  A drawn edit: the cursor's edit.
-/
import Derived.Test.YtenbdjlhcadhaaaGreatD2ToD5
import Derived.Test.YtenbdjlhcadhaaaGreatM1
import Derived.Test.YtenbdjlhcadhaaaGreatRV0ToH1
import Derived.Deep.RegionHeld3
import Derived.Deep.Cut
import Derived.Test.YtenbdjlhcadhaaaGreatG9
import Derived.Test.YtenbdjlhcadhaaaGreatQ1ToC9
import Derived.Maps.AppendAt
namespace Go.Proofs.YtenbdjlhcadhaaaGreat
open Go.RowKit
set_option linter.unusedVariables false
set_option maxRecDepth 100000

/-- What a drawn meta is. -/
def MetaPost (b : Nat) (l : List UInt8) (K : Nat) (n : Int) (w : World) (e : Ending) (w' : World) : Prop := (∃ (d : Int) (k v : ByteArray), e = .returned (.agg #[.int .i64 n, .int .i64 d, .string k, .string v]) ∧ k.size ≤ 17 ∧ v.size ≤ 18) ∧ Cur w' b l (K + 20) ∧ Chg (· = b) w w'
theorem MetaPost.mk {b : Nat} {l : List UInt8} {K : Nat} {n : Int} {w w' : World} {d : Int} {k v : ByteArray} (hk : k.size ≤ 17) (hv : v.size ≤ 18) (hc : Cur w' b l (K + 20)) (hg : Chg (· = b) w w') : MetaPost b l K n w (.returned (.agg #[.int .i64 n, .int .i64 d, .string k, .string v])) w' := ⟨⟨d, k, v, rfl, hk, hv⟩, hc, hg⟩
def putM (w : World) (b : Nat) (v0 v1 v2 v3 : Value) : World := (((w.setCell ⟨b, 0, none⟩ v0).setCell ⟨b, 1, none⟩ v1).setCell ⟨b, 2, none⟩ v2).setCell ⟨b, 3, none⟩ v3
set_option maxHeartbeats 16000000 in
theorem meta_any (b : Nat) (l : List UInt8) (K : Nat) (n : Int) (w : World) (h : Cur w b l K) (hl : l.length ≤ 9223372036854775807) (hK : K ≤ 500000) : Calls Tryz.prog 49 #[.pointer (some ⟨b, 0, none⟩), .int .i64 n] w (MetaPost b l K n w) := by
  have hbw := h.lt
  have B0 := below_alloc w (.cells #[.int .i64 0, .int .i64 0, .string ⟨#[]⟩, .string ⟨#[]⟩] 71)
  have R := Box.new w #[.int .i64 0, .int .i64 0, .string ⟨#[]⟩, .string ⟨#[]⟩] 71
  have hcu := h.chg B0
  have hB : Chg (· = b) w (w.alloc (.cells #[.int .i64 0, .int .i64 0, .string ⟨#[]⟩, .string ⟨#[]⟩] 71)) := Chg.of_below B0
  clear B0 h
  go_enter Tryz.func49, Tryz.ntmps49
  go_wp2_with fail
  refine (pick_any b l K 4 _ hcu hl (by omega) (by omega)).mono ?_
  rintro e w1 ⟨⟨p, rfl, hp⟩, hcu2, hch⟩
  replace R := hch.box R (by omega)
  replace hB := hB.trans hch
  have hcu := hcu2
  clear hch hcu2
  go_wp2_with fail
  refine (key_any b l _ _ hcu hl (by omega)).mono ?_
  rintro e w2 ⟨⟨t, rfl, ht⟩, hcu2, hch⟩
  replace R := hch.box R (by omega)
  replace hB := hB.trans hch
  have hcu := hcu2
  have hw2 := R.1
  clear hch hcu2
  have bx := below_alloc w2 (.cells #[.int .i64 n, .int .i64 p, .string t, .string ⟨#[]⟩] 71)
  have X := Box.new w2 #[.int .i64 n, .int .i64 p, .string t, .string ⟨#[]⟩] 71
  have hbt := hcu.lt
  replace R := R.below bx
  replace hcu := hcu.chg bx
  replace hB := hB.trans (Chg.of_below bx)
  clear bx
  obtain ⟨W0, hW0⟩ : ∃ W0, W0 = w2.alloc (.cells #[.int .i64 n, .int .i64 p, .string t, .string ⟨#[]⟩] 71) := ⟨_, rfl⟩
  rw [← hW0] at R hcu hB X
  have HW0 : Hid (W0 = w2.alloc (.cells #[.int .i64 n, .int .i64 p, .string t, .string ⟨#[]⟩] 71)) := hW0
  clear hW0
  go_upto_region 2 with fail
  rw [← HW0.out]
  clear HW0
  have hD : Below W0.heap.size W0 W0.drew := (Below.refl _ _).drew
  replace X := X.below hD
  replace R := R.below hD
  replace hcu := hcu.chg hD
  replace hB := hB.trans (Chg.of_below hD)
  clear hD
  refine wp_region_held_drew (S := fun w' => w'.cell? ⟨w2.heap.size, 2, none⟩ = some (.string t)) (by kernel_rfl) (X.2.1 2 _ rfl) (fun hHeld => ?_)
  generalize W0.drew = k0 at *
  refine wpAnyH_take (i := 0) (oi := { dst := some 12, op := Op.fieldAddr 71 (Operand.tmp 5) 2, type := 0, pos := "l9_version.go:251", after := #[], guard := none }) (v := .pointer (some ⟨w2.heap.size, 2, none⟩)) rfl (by kernel_rfl) (by kernel_rfl) (by kernel_rfl) (fun _ _ _ h => h) (Or.inl ⟨by rfl, ?_⟩) (by assumption) ?_
  · intro wx hSw
    clear hSw hHeld; go_simp
  simp only [Act.put, List.setIfInBounds_toArray, List.set_cons_zero, List.set_cons_succ]
  refine wpAnyH_take (i := 1) (oi := { dst := some 13, op := Op.load 9 (Operand.tmp 12), type := 9, pos := "l9_version.go:251", after := #[{ on := 0, ground := Ground.data }], guard := none }) (v := .string t) rfl (by kernel_rfl) (by kernel_rfl) (by kernel_rfl) (fun _ _ _ h => h) (Or.inl ⟨by rfl, ?_⟩) (by assumption) ?_
  · intro wx hSw
    have e := hSw; clear hHeld hSw; go_simp
  simp only [Act.put, List.setIfInBounds_toArray, List.set_cons_zero, List.set_cons_succ]
  refine wpAnyH_take (i := 2) (oi := { dst := some 14, op := Op.move (Operand.tmp 0), type := 48, pos := "l9_version.go:251", after := #[], guard := none }) (v := .pointer (some ⟨b, 0, none⟩)) rfl (by kernel_rfl) (by kernel_rfl) (by kernel_rfl) (fun _ _ _ h => h) (Or.inl ⟨by rfl, ?_⟩) (by assumption) ?_
  · intro wx hSw
    clear hSw hHeld; go_simp
  simp only [Act.put, List.setIfInBounds_toArray, List.set_cons_zero, List.set_cons_succ]
  refine wpAnyH_ready (rs := [3]) (by kernel_rfl) (by simp) ?_
  refine AllReadyH.cons (o := { dst := some 15, op := Op.buildSlice 42 3 #[(0, Operand.const (Value.string { data := #[] })), (1, Operand.const (Value.string { data := #[97] })), (2, Operand.const (Value.string { data := #[122] }))], type := 42, pos := "l9_version.go:251", after := #[], guard := none }) rfl (fun K hK => ?_) AllReadyH.nil
  clear hHeld
  have bx := below_alloc k0 (.cells #[.string ⟨#[]⟩, .string ⟨#[97]⟩, .string ⟨#[122]⟩] 9)
  have Q := Box.new k0 #[.string ⟨#[]⟩, .string ⟨#[97]⟩, .string ⟨#[122]⟩] 9
  have hk0 := hcu.lt
  replace X := X.below bx
  replace R := R.below bx
  replace hcu := hcu.chg bx
  replace hB := hB.trans (Chg.of_below bx)
  clear bx
  go_simp
  refine hK.out _ (k0.alloc (.cells #[.string ⟨#[]⟩, .string ⟨#[97]⟩, .string ⟨#[122]⟩] 9)) (X.2.1 2 _ rfl) (fun hHeld => ?_)
  clear hK K
  refine wpAnyH_ready (rs := [4]) (by kernel_rfl) (by simp) ?_
  refine AllReadyH.cons (o := { dst := some 16, op := Op.call { callee := Callee.value (Operand.func 79), args := #[Operand.tmp 14, Operand.tmp 15], argTypes := #[48, 42] }, type := 9, pos := "l9_version.go:251", after := #[{ on := 2, ground := Ground.data }, { on := 3, ground := Ground.data }], guard := none }) rfl (fun K hK => ?_) AllReadyH.nil
  clear hHeld
  go_simp
  refine (of_any b l _ k0.heap.size [⟨#[]⟩, ⟨#[97]⟩, ⟨#[122]⟩] _ hcu hl (by omega) Q (by omega) (by decide) (by decide)).mono ?_
  rintro e k1 ⟨⟨q, rfl, hq⟩, hcu2, hch⟩
  have hqs : q.size ≤ 1 := by
    simp only [List.mem_cons, List.not_mem_nil, or_false] at hq
    rcases hq with rfl | rfl | rfl <;> decide
  replace X := hch.box X (by omega)
  replace R := hch.box R (by omega)
  replace hB := hB.trans hch
  have hcu := hcu2
  clear hch hcu2 hq Q
  refine hK.out _ _ (X.2.1 2 _ rfl) (fun hHeld => ?_)
  clear hK K
  refine wpAnyH_take (i := 5) (oi := { dst := some 17, op := Op.binOp BinOp.add 9 (Operand.tmp 13) (Operand.tmp 16) 9, type := 9, pos := "l9_version.go:251", after := #[{ on := 1, ground := Ground.data }, { on := 4, ground := Ground.data }], guard := none }) (v := .string (t ++ q)) rfl (by kernel_rfl) (by kernel_rfl) (by kernel_rfl) (fun _ _ _ h => h) (Or.inl ⟨by rfl, ?_⟩) (by assumption) ?_
  · intro wx hSw
    clear hSw hHeld; go_simp; omega
  simp only [Act.put, List.setIfInBounds_toArray, List.set_cons_zero, List.set_cons_succ]
  refine wpAnyH_take (i := 6) (oi := { dst := some 18, op := Op.fieldAddr 71 (Operand.tmp 5) 3, type := 0, pos := "l9_version.go:251", after := #[{ on := 0, ground := Ground.phase }, { on := 1, ground := Ground.phase }, { on := 2, ground := Ground.phase }, { on := 3, ground := Ground.phase }, { on := 4, ground := Ground.phase }, { on := 5, ground := Ground.phase }], guard := none }) (v := .pointer (some ⟨w2.heap.size, 3, none⟩)) rfl (by kernel_rfl) (by kernel_rfl) (by kernel_rfl) (fun _ _ _ h => h) (Or.inl ⟨by rfl, ?_⟩) (by assumption) ?_
  · intro wx hSw
    clear hSw hHeld; go_simp
  simp only [Act.put, List.setIfInBounds_toArray, List.set_cons_zero, List.set_cons_succ]
  refine wpAnyH_ready (rs := [7]) (by kernel_rfl) (by simp) ?_
  refine AllReadyH.cons (o := { dst := none, op := Op.store 9 (Operand.tmp 18) (Operand.tmp 17), type := 0, pos := "l9_version.go:251", after := #[{ on := 6, ground := Ground.data }, { on := 5, ground := Ground.data }, { on := 4, ground := Ground.chain }, { on := 0, ground := Ground.phase }, { on := 1, ground := Ground.phase }, { on := 2, ground := Ground.phase }, { on := 3, ground := Ground.phase }, { on := 4, ground := Ground.phase }, { on := 5, ground := Ground.phase }], guard := none }) rfl (fun K hK => ?_) AllReadyH.nil
  clear hHeld
  obtain ⟨hxl, x0, x1, x2, x3⟩ := X.c4
  have xf := X.2.2
  have X2 := X.set 3 (.string (t ++ q)) (by simp)
  simp only [List.set_cons_zero, List.set_cons_succ] at X2
  have R2 := R.setOther ⟨w2.heap.size, 3, none⟩ (.string (t ++ q)) (by simp; omega)
  have BP : Below w.heap.size k1 (k1.setCell ⟨w2.heap.size, 3, none⟩ (.string (t ++ q))) := (Below.refl _ _).setCell (p := ⟨w2.heap.size, 3, none⟩) (by simp; omega) _
  have hcu2 := cur_low hcu hbw BP
  have hB2 := chg_below hB BP
  go_simp
  refine hK.out _ (k1.setCell ⟨w2.heap.size, 3, none⟩ (.string (t ++ q))) (X2.2.1 2 _ rfl) (fun hHeld => ?_)
  clear hK K hHeld hxl x0 x1 x2 x3 xf X R hcu hB BP
  have hvs : (t ++ q).size ≤ 18 := by rw [ByteArray.size_append]; omega
  generalize t ++ q = tq at *
  generalize k1.setCell ⟨w2.heap.size, 3, none⟩ (.string tq) = k2 at *
  refine wpAnyH_done (by kernel_rfl) ?_ _
  go_wp2_with fail
  refine (one_any b l _ 3 _ hcu2 hl (by omega) (by omega)).mono ?_
  rintro e k3 ⟨⟨y, rfl⟩, hcu, hch⟩
  have X := hch.box X2 (by omega)
  have R := hch.box R2 (by omega)
  have hB := hB2.trans hch
  clear hch hcu2 X2 R2 hB2
  cases y with
  | false =>
    obtain ⟨hxl, x0, x1, x2, x3⟩ := X.c4
    obtain ⟨hrl, r0, r1, r2, r3⟩ := R.c4
    have rf := R.2.2
    have BP : Below w.heap.size k3 (putM k3 w.heap.size (.int .i64 n) (.int .i64 (p : Int)) (.string t) (.string tq)) := (((((Below.refl _ _).setCell (p := ⟨w.heap.size, 0, none⟩) (by simp) _).setCell (p := ⟨w.heap.size, 1, none⟩) (by simp) _).setCell (p := ⟨w.heap.size, 2, none⟩) (by simp) _).setCell (p := ⟨w.heap.size, 3, none⟩) (by simp) _)
    have hcu2 := cur_low hcu hbw BP
    have hB2 := chg_below hB BP
    clear X R hcu hB BP
    go_wp2
    exact bodyPost_ret (v := .agg #[.int .i64 n, .int .i64 (p : Int), .string t, .string tq]) (by simp [results, Tryz.results49, go_sem, r0, r1, r2, r3]) rfl (MetaPost.mk (by omega) hvs (hcu2.mono (by omega)) hB2)
  | true =>
    obtain ⟨hxl, x0, x1, x2, x3⟩ := X.c4
    have xf := X.2.2
    have X2 := X.set 1 (.int .i64 0) (by simp)
    simp only [List.set_cons_zero, List.set_cons_succ] at X2
    have R2 := R.setOther ⟨w2.heap.size, 1, none⟩ (.int .i64 0) (by simp; omega)
    have BP : Below w.heap.size k3 (k3.setCell ⟨w2.heap.size, 1, none⟩ (.int .i64 0)) := (Below.refl _ _).setCell (p := ⟨w2.heap.size, 1, none⟩) (by simp; omega) _
    have hcu2 := cur_low hcu hbw BP
    have hB2 := chg_below hB BP
    clear X R hcu hB BP
    go_upto_region 5 with fail
    clear hxl x0 x1 x2 x3 xf
    generalize k3.setCell ⟨w2.heap.size, 1, none⟩ (.int .i64 0) = k4 at *
    have X := X2
    have R := R2
    have hcu := hcu2
    have hB := hB2
    clear X2 R2 hcu2 hB2
    obtain ⟨hxl, x0, x1, x2, x3⟩ := X.c4
    obtain ⟨hrl, r0, r1, r2, r3⟩ := R.c4
    have rf := R.2.2
    have BP : Below w.heap.size k4 (putM k4 w.heap.size (.int .i64 n) (.int .i64 0) (.string t) (.string tq)) := (((((Below.refl _ _).setCell (p := ⟨w.heap.size, 0, none⟩) (by simp) _).setCell (p := ⟨w.heap.size, 1, none⟩) (by simp) _).setCell (p := ⟨w.heap.size, 2, none⟩) (by simp) _).setCell (p := ⟨w.heap.size, 3, none⟩) (by simp) _)
    have hcu2 := cur_low hcu hbw BP
    have hB2 := chg_below hB BP
    clear X R hcu hB BP
    go_wp2
    exact bodyPost_ret (v := .agg #[.int .i64 n, .int .i64 0, .string t, .string tq]) (by simp [results, Tryz.results49, go_sem, r0, r1, r2, r3]) rfl (MetaPost.mk (by omega) hvs (hcu2.mono (by omega)) hB2)
end Go.Proofs.YtenbdjlhcadhaaaGreat

namespace Go.Proofs.YtenbdjlhcadhaaaGreat
open Go.RowKit
set_option linter.unusedVariables false
set_option maxRecDepth 100000

def StopV (p : Prop) : Prop := p
theorem StopV.go {p : Prop} (h : StopV p) : p := h
theorem grown_chgV {w w' : World} {o : Option Nat} (h : w.grownBy w' o) : Chg (fun k => o = some k) w w' := ⟨h.os, h.tape, h.output, h.size, fun k hk hs => h.block k hk fun e => hs e.symm⟩
theorem Tryz.info3v : (Tryz.prog.info? 3).map (fun i => (i.zero, i.size, i.bytes)) = some (some (.int .i64 0), 1, 8) := by kernel_rfl
/-- A drawn edit's rows. -/
structure ED (w : World) (base : Nat) (u1 u2 : Value) (D : List Int) (A : List Mt) : Prop where
  oD : w.ownsRow base 3 1 u1 D.length (D.map (Value.int .i64))
  oA : w.ownsRow base 71 4 u2 A.length (flat4 A)
  dl : D.length ≤ 50
  al : A.length ≤ 3
  sz : ∀ i (h : i < A.length), A[i].k.size ≤ 17 ∧ A[i].v.size ≤ 18
end Go.Proofs.YtenbdjlhcadhaaaGreat
