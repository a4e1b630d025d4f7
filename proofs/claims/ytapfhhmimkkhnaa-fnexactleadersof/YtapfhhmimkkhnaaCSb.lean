/-
  Leads compared, and sorted.
-/
import Derived.Test.YtapfhhmimkkhnaaCS
import Derived.Deep.RegionHeld3
import Derived.Shelf.SlSortCmp.WholeK
import Derived.Shelf.Lay
import Derived.Shelf.SlGeneric
import Derived.Ground.SlsfProg
import Derived.Sort.OwnSorted
namespace Go.Proofs
open Go.Shelf Go.RowKit Go.Lib Go.Sort
namespace Ytapfhhmimkkhnaa
open Go.Maps
set_option linter.unusedVariables false
set_option maxRecDepth 100000

set_option maxHeartbeats 4000000 in
theorem compareLeads_any (x y : Ld) (W : World) : Calls Try.prog 104 #[.agg #[.int .i64 x.t, .int .i64 x.n], .agg #[.int .i64 y.t, .int .i64 y.n]] W fun e w' => e = .returned (.int .i64 (cmpL x y)) ∧ ∃ q os', w' = grow (W.drewN q) os' := by
  have K1 := fun w => cmpI_any x.t y.t w
  have K2 := fun w => cmpI_any x.n y.n w
  have HC : Hid (cmpL x y = if cmp3 x.t y.t = 0 then cmp3 x.n y.n else cmp3 x.t y.t) := rfl
  obtain ⟨c, HCc⟩ : ∃ c, Hid (cmpL x y = c) := ⟨cmpL x y, rfl⟩
  rw [HCc.out] at HC ⊢
  generalize cmp3 x.t y.t = r1 at *
  generalize cmp3 x.n y.n = r2 at *
  obtain ⟨xt, xn⟩ := x
  obtain ⟨yt, yn⟩ := y
  dsimp only at *
  obtain ⟨W0, hW0⟩ : ∃ W0, W0 = (W.alloc (.cells #[.int .i64 xt, .int .i64 xn] 116)).alloc (.cells #[.int .i64 yt, .int .i64 yn] 116) := ⟨_, rfl⟩
  have A : Box W0 W.heap.size [.int .i64 xt, .int .i64 xn] := by rw [hW0]; exact (Box.new W #[.int .i64 xt, .int .i64 xn] 116).alloc _
  have B : Box W0 (W.heap.size + 1) [.int .i64 yt, .int .i64 yn] := by
    rw [hW0]
    have := Box.new (W.alloc (.cells #[.int .i64 xt, .int .i64 xn] 116)) #[.int .i64 yt, .int .i64 yn] 116
    simpa using this
  go_enter Try.func104, Try.ntmps104
  go_wp2_with fail
  rw [← hW0]
  have HW0 : Hid (W0 = (W.alloc (.cells #[.int .i64 xt, .int .i64 xn] 116)).alloc (.cells #[.int .i64 yt, .int .i64 yn] 116)) := hW0
  clear hW0
  have A1 : Box W0.drew W.heap.size [.int .i64 xt, .int .i64 xn] := A.below (Below.refl _ _).drew
  have B1 : Box W0.drew (W.heap.size + 1) [.int .i64 yt, .int .i64 yn] := B.below (Below.refl _ _).drew
  refine wp_region_held_drew (S := fun w' => Box w' W.heap.size [.int .i64 xt, .int .i64 xn] ∧ Box w' (W.heap.size + 1) [.int .i64 yt, .int .i64 yn]) (by kernel_rfl) ⟨A1, B1⟩ (fun hHeld => ?_)
  refine wpAnyH_take (i := 0) (oi := { dst := some 5, op := Op.fieldAddr 116 (Operand.tmp 2) 0, type := 0, pos := "l12_cluster.go:163", after := #[], guard := none }) (v := .pointer (some ⟨W.heap.size, 0, none⟩)) rfl (by kernel_rfl) (by kernel_rfl) (by kernel_rfl) (fun _ _ _ h => h) (Or.inl ⟨by rfl, ?_⟩) (by assumption) ?_
  · intro wx hSw
    clear hSw hHeld; go_simp
  simp only [Act.put, List.setIfInBounds_toArray, List.set_cons_zero, List.set_cons_succ]
  refine wpAnyH_take (i := 1) (oi := { dst := some 6, op := Op.load 3 (Operand.tmp 5), type := 3, pos := "l12_cluster.go:163", after := #[{ on := 0, ground := Ground.data }], guard := none }) (v := .int .i64 xt) rfl (by kernel_rfl) (by kernel_rfl) (by kernel_rfl) (fun _ _ _ h => h) (Or.inl ⟨by rfl, ?_⟩) (by assumption) ?_
  · intro wx hSw
    have e := hSw.1.2.1 0 _ rfl; clear hHeld hSw; go_simp
  simp only [Act.put, List.setIfInBounds_toArray, List.set_cons_zero, List.set_cons_succ]
  refine wpAnyH_take (i := 2) (oi := { dst := some 7, op := Op.fieldAddr 116 (Operand.tmp 3) 0, type := 0, pos := "l12_cluster.go:163", after := #[], guard := none }) (v := .pointer (some ⟨W.heap.size + 1, 0, none⟩)) rfl (by kernel_rfl) (by kernel_rfl) (by kernel_rfl) (fun _ _ _ h => h) (Or.inl ⟨by rfl, ?_⟩) (by assumption) ?_
  · intro wx hSw
    clear hSw hHeld; go_simp
  simp only [Act.put, List.setIfInBounds_toArray, List.set_cons_zero, List.set_cons_succ]
  refine wpAnyH_take (i := 3) (oi := { dst := some 8, op := Op.load 3 (Operand.tmp 7), type := 3, pos := "l12_cluster.go:163", after := #[{ on := 2, ground := Ground.data }], guard := none }) (v := .int .i64 yt) rfl (by kernel_rfl) (by kernel_rfl) (by kernel_rfl) (fun _ _ _ h => h) (Or.inl ⟨by rfl, ?_⟩) (by assumption) ?_
  · intro wx hSw
    have e := hSw.2.2.1 0 _ rfl; clear hHeld hSw; go_simp
  simp only [Act.put, List.setIfInBounds_toArray, List.set_cons_zero, List.set_cons_succ]
  refine wpAnyH_take (i := 5) (oi := { dst := some 10, op := Op.fieldAddr 116 (Operand.tmp 2) 1, type := 0, pos := "l12_cluster.go:163", after := #[], guard := none }) (v := .pointer (some ⟨W.heap.size, 1, none⟩)) rfl (by kernel_rfl) (by kernel_rfl) (by kernel_rfl) (fun _ _ _ h => h) (Or.inl ⟨by rfl, ?_⟩) (by assumption) ?_
  · intro wx hSw
    clear hSw hHeld; go_simp
  simp only [Act.put, List.setIfInBounds_toArray, List.set_cons_zero, List.set_cons_succ]
  refine wpAnyH_take (i := 6) (oi := { dst := some 11, op := Op.load 3 (Operand.tmp 10), type := 3, pos := "l12_cluster.go:163", after := #[{ on := 5, ground := Ground.data }], guard := none }) (v := .int .i64 xn) rfl (by kernel_rfl) (by kernel_rfl) (by kernel_rfl) (fun _ _ _ h => h) (Or.inl ⟨by rfl, ?_⟩) (by assumption) ?_
  · intro wx hSw
    have e := hSw.1.2.1 1 _ rfl; clear hHeld hSw; go_simp
  simp only [Act.put, List.setIfInBounds_toArray, List.set_cons_zero, List.set_cons_succ]
  refine wpAnyH_take (i := 7) (oi := { dst := some 12, op := Op.fieldAddr 116 (Operand.tmp 3) 1, type := 0, pos := "l12_cluster.go:163", after := #[], guard := none }) (v := .pointer (some ⟨W.heap.size + 1, 1, none⟩)) rfl (by kernel_rfl) (by kernel_rfl) (by kernel_rfl) (fun _ _ _ h => h) (Or.inl ⟨by rfl, ?_⟩) (by assumption) ?_
  · intro wx hSw
    clear hSw hHeld; go_simp
  simp only [Act.put, List.setIfInBounds_toArray, List.set_cons_zero, List.set_cons_succ]
  refine wpAnyH_take (i := 8) (oi := { dst := some 13, op := Op.load 3 (Operand.tmp 12), type := 3, pos := "l12_cluster.go:163", after := #[{ on := 7, ground := Ground.data }], guard := none }) (v := .int .i64 yn) rfl (by kernel_rfl) (by kernel_rfl) (by kernel_rfl) (fun _ _ _ h => h) (Or.inl ⟨by rfl, ?_⟩) (by assumption) ?_
  · intro wx hSw
    have e := hSw.2.2.1 1 _ rfl; clear hHeld hSw; go_simp
  simp only [Act.put, List.setIfInBounds_toArray, List.set_cons_zero, List.set_cons_succ]
  refine wpAnyH_ready (rs := [4]) (by kernel_rfl) (by simp) ?_
  refine AllReadyH.cons (o := { dst := some 9, op := Op.call { callee := Callee.value (Operand.func 132), args := #[Operand.tmp 6, Operand.tmp 8], argTypes := #[3, 3] }, type := 3, pos := "l12_cluster.go:163", after := #[{ on := 1, ground := Ground.data }, { on := 3, ground := Ground.data }], guard := none }) rfl (fun K hK => ?_) AllReadyH.nil
  clear hHeld
  go_simp
  refine (K1 _).mono ?_
  rintro e nw ⟨rfl, hw⟩
  subst hw
  refine hK.out _ _ ⟨A1, B1⟩ (fun hHeld => ?_)
  clear hK K
  refine wpAnyH_ready (rs := [9]) (by kernel_rfl) (by simp) ?_
  refine AllReadyH.cons (o := { dst := some 14, op := Op.call { callee := Callee.value (Operand.func 132), args := #[Operand.tmp 11, Operand.tmp 13], argTypes := #[3, 3] }, type := 3, pos := "l12_cluster.go:163", after := #[{ on := 6, ground := Ground.data }, { on := 8, ground := Ground.data }, { on := 4, ground := Ground.chain }], guard := none }) rfl (fun K hK => ?_) AllReadyH.nil
  clear hHeld
  go_simp
  refine (K2 _).mono ?_
  rintro e nw ⟨rfl, hw⟩
  subst hw
  refine hK.out _ _ ⟨A1, B1⟩ (fun hHeld => ?_)
  clear hK K
  refine wpAnyH_ready (rs := [10]) (by kernel_rfl) (by simp) ?_
  refine AllReadyH.cons (o := { dst := some 15, op := Op.buildSlice 24 2 #[(0, Operand.tmp 9), (1, Operand.tmp 14)], type := 24, pos := "l12_cluster.go:163", after := #[{ on := 4, ground := Ground.data }, { on := 9, ground := Ground.data }], guard := none }) rfl (fun K hK => ?_) AllReadyH.nil
  clear hHeld
  have hb := below_alloc W0.drew (.cells #[.int .i64 r1, .int .i64 r2] 3)
  have D := Box.new W0.drew #[.int .i64 r1, .int .i64 r2] 3
  have A2 := A1.below hb
  have B2 := B1.below hb
  clear hb
  go_simp
  refine hK.out _ _ ⟨A2, B2⟩ (fun hHeld => ?_)
  clear hK K K1 K2
  refine wpAnyH_ready (rs := [11]) (by kernel_rfl) (by simp) ?_
  refine AllReadyH.cons (o := { dst := some 16, op := Op.call { callee := Callee.value (Operand.func 131), args := #[Operand.tmp 15], argTypes := #[24] }, type := 3, pos := "l12_cluster.go:163", after := #[{ on := 10, ground := Ground.data }, { on := 9, ground := Ground.chain }], guard := none }) rfl (fun K hK => ?_) AllReadyH.nil
  clear hHeld
  go_simp
  refine (orI_any r1 r2 _ _ D).mono ?_
  rintro e nw ⟨rfl, hw⟩
  subst hw
  rw [← HC.out]
  refine hK.out _ _ ⟨A2, B2⟩ (fun hHeld => ?_)
  clear hK K
  refine wpAnyH_take (i := 12) (oi := { dst := some 4, op := Op.assign (Operand.tmp 16), type := 3, pos := "l12_cluster.go:163", after := #[{ on := 11, ground := Ground.data }, { on := 11, ground := Ground.chain }, { on := 0, ground := Ground.phase }, { on := 1, ground := Ground.phase }, { on := 2, ground := Ground.phase }, { on := 3, ground := Ground.phase }, { on := 4, ground := Ground.phase }, { on := 5, ground := Ground.phase }, { on := 6, ground := Ground.phase }, { on := 7, ground := Ground.phase }, { on := 8, ground := Ground.phase }, { on := 9, ground := Ground.phase }, { on := 10, ground := Ground.phase }, { on := 11, ground := Ground.phase }], guard := none }) (v := .int .i64 c) rfl (by kernel_rfl) (by kernel_rfl) (by kernel_rfl) (fun _ _ _ h => h) (Or.inl ⟨by rfl, ?_⟩) (by assumption) ?_
  · intro wx hSw
    clear hSw hHeld; go_simp
  simp only [Act.put, List.setIfInBounds_toArray, List.set_cons_zero, List.set_cons_succ]
  clear hHeld
  refine wpAnyH_done (by kernel_rfl) ?_ _
  clear A A1 A2 B B1 B2 D
  go_wp2
  go_ret
  exact ⟨rfl, 1, #[.cells #[.int .i64 xt, .int .i64 xn] 116, .cells #[.int .i64 yt, .int .i64 yn] 116, .cells #[.int .i64 r1, .int .i64 r2] 3], by rw [HW0.out, alloc_eq_grow, alloc_eq_grow, alloc_eq_grow, grow_grow, drew_grow, grow_grow]; rfl⟩
end Ytapfhhmimkkhnaa
end Go.Proofs
