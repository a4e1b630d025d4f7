/-
  Places compared: cmp.Compare, cmp.Or, impl.comparePlaces, spec.l13Less.
-/
import Derived.Test.YtocaigffikdlhaaMC
import Derived.Deep.RegionHeld3
namespace Go.Proofs.Ytocaigffikdlhaa
open Go.RowKit
set_option linter.unusedVariables false
set_option maxRecDepth 100000

def cmp3 (a b : Int) : Int := if a < b then -1 else if b < a then 1 else 0
theorem isNaN_any (a : Int) (w : World) : Calls Try.prog 114 #[.int .i64 a] w fun e w' => e = .returned (.bool false) ∧ w' = w := by
  go_enter Try.func114, Try.ntmps114
  go_wp2
  go_ret
  exact ⟨rfl, rfl⟩
theorem cmpI_any (a b : Int) (w : World) : Calls Try.prog 111 #[.int .i64 a, .int .i64 b] w fun e w' => e = .returned (.int .i64 (cmp3 a b)) ∧ w' = w := by
  have K := fun x => isNaN_any x w
  unfold cmp3
  by_cases h1 : a < b
  · rw [if_pos h1]
    go_enter Try.func111, Try.ntmps111
    go_wp2_with fail
    refine (K a).mono ?_
    rintro e w1 ⟨rfl, hw⟩
    subst hw
    go_wp2_with fail
    refine (K b).mono ?_
    rintro e w2 ⟨rfl, hw⟩
    subst hw
    clear K
    go_wp2
    go_ret
    exact ⟨rfl, rfl⟩
  · rw [if_neg h1]
    by_cases h2 : b < a
    · rw [if_pos h2]
      go_enter Try.func111, Try.ntmps111
      go_wp2_with fail
      refine (K a).mono ?_
      rintro e w1 ⟨rfl, hw⟩
      subst hw
      go_wp2_with fail
      refine (K b).mono ?_
      rintro e w2 ⟨rfl, hw⟩
      subst hw
      clear K
      go_wp2
      go_ret
      exact ⟨rfl, rfl⟩
    · rw [if_neg h2]
      go_enter Try.func111, Try.ntmps111
      go_wp2_with fail
      refine (K a).mono ?_
      rintro e w1 ⟨rfl, hw⟩
      subst hw
      go_wp2_with fail
      refine (K b).mono ?_
      rintro e w2 ⟨rfl, hw⟩
      subst hw
      clear K
      go_wp2
      go_ret
      exact ⟨rfl, rfl⟩
theorem orI_any (a b : Int) (g : Nat) (w : World) (hx : Box w g [.int .i64 a, .int .i64 b]) : Calls Try.prog 110 #[.slice (some ⟨g, 0, none⟩) 2 2] w fun e w' => e = .returned (.int .i64 (if a = 0 then b else a)) ∧ w' = w := by
  obtain ⟨hl, c0, c1⟩ := hx.c2
  obtain ⟨R, HR⟩ : ∃ R, Hid ((if a = 0 then b else a) = R) := ⟨_, rfl⟩
  rw [HR.out]
  go_enter Try.func110, Try.ntmps110
  go_wp2
  go_loopw [8] (fun i wr => ∃ k : Nat, k ≤ 2 ∧ i = .int .i64 k ∧ (k = 0 ∨ (k = 1 ∧ a = 0) ∨ (k = 2 ∧ a = 0 ∧ b = 0)) ∧ wr = w) (fun i _ => 2 - (intOf i).toNat)
  case atStart => exact ⟨0, by omega, rfl, .inl rfl, rfl⟩
  case round =>
    obtain ⟨k, hk, rfl, hc, rfl⟩ := hrel
    rcases hc with rfl | ⟨rfl, h0⟩ | ⟨rfl, h0, h1⟩
    · by_cases h : a = 0
      · have hb : (a != 0) = false := by simp [h]
        go_wp2
        go_roundw
        case rel => exact ⟨1, by omega, by go_num, .inr (.inl ⟨rfl, h⟩), trivial⟩
        case measure => simp [intOf]
      · have hb : (a != 0) = true := by simp [h]
        have HV : Hid (a = R) := by show _ = _; rw [← HR.out, if_neg h]
        clear HR
        go_wp2
        go_ret
        exact ⟨by rw [HV.out]; try rfl, rfl⟩
    · by_cases h : b = 0
      · have hb : (b != 0) = false := by simp [h]
        go_wp2
        go_roundw
        case rel => exact ⟨2, by omega, by go_num, .inr (.inr ⟨rfl, h0, h⟩), trivial⟩
        case measure => simp [intOf]
      · have hb : (b != 0) = true := by simp [h]
        have HV : Hid (b = R) := by show _ = _; rw [← HR.out, if_pos h0]
        clear HR
        go_wp2
        go_ret
        exact ⟨by rw [HV.out]; try rfl, rfl⟩
    · have HV : Hid ((0 : Int) = R) := by show _ = _; rw [← HR.out, if_pos h0, h1]
      clear HR
      go_wp2
      go_ret
      exact ⟨by rw [← HV.out]; try rfl, rfl⟩
/-- Places by their order; one ahead of the other. -/
def cmpC (x y : Ck) : Int := if cmp3 x.n y.n = 0 then cmp3 x.d y.d else cmp3 x.n y.n
def ltC (x y : Ck) : Bool := decide (x.n < y.n) || (decide (x.n = y.n) && decide (x.d < y.d))
theorem cmp3_eq (a b : Int) : cmp3 a b = 0 ↔ a = b := by unfold cmp3; split <;> (try split) <;> omega
theorem cmp3_lt (a b : Int) : cmp3 a b < 0 ↔ a < b := by unfold cmp3; split <;> (try split) <;> omega
theorem cmp3_gt (a b : Int) : 0 < cmp3 a b ↔ b < a := by unfold cmp3; split <;> (try split) <;> omega
theorem ltC_iff (x y : Ck) : ltC x y = true ↔ (x.n < y.n ∨ (x.n = y.n ∧ x.d < y.d)) := by simp [ltC]
theorem cmpC_lt (x y : Ck) : cmpC x y < 0 ↔ ltC x y = true := by
  rw [ltC_iff]
  unfold cmpC
  by_cases h : x.n = y.n
  · rw [if_pos ((cmp3_eq _ _).2 h), cmp3_lt]; omega
  · rw [if_neg (fun e => h ((cmp3_eq _ _).1 e)), cmp3_lt]; omega
theorem cmpC_eq (x y : Ck) : cmpC x y = 0 ↔ (x.n = y.n ∧ x.d = y.d) := by
  unfold cmpC
  by_cases h : x.n = y.n
  · rw [if_pos ((cmp3_eq _ _).2 h), cmp3_eq]; simp [h]
  · rw [if_neg (fun e => h ((cmp3_eq _ _).1 e)), cmp3_eq]; simp [h]

set_option maxHeartbeats 4000000 in
theorem comparePlaces_any (x y : Ck) (W : World) : Calls Try.prog 103 #[.agg #[.int .i64 x.n, .int .i64 x.d, .string x.k, .int .u32 x.v], .agg #[.int .i64 y.n, .int .i64 y.d, .string y.k, .int .u32 y.v]] W fun e w' => e = .returned (.int .i64 (cmpC x y)) ∧ Below W.heap.size W w' := by
  have K1 := fun w => cmpI_any x.n y.n w
  have K2 := fun w => cmpI_any x.d y.d w
  have HC : Hid (cmpC x y = if cmp3 x.n y.n = 0 then cmp3 x.d y.d else cmp3 x.n y.n) := rfl
  obtain ⟨c, HCc⟩ : ∃ c, Hid (cmpC x y = c) := ⟨cmpC x y, rfl⟩
  rw [HCc.out] at HC ⊢
  generalize cmp3 x.n y.n = r1 at *
  generalize cmp3 x.d y.d = r2 at *
  obtain ⟨xt, xn, xk, xv⟩ := x
  obtain ⟨yt, yn, yk, yv⟩ := y
  dsimp only at *
  obtain ⟨W0, hW0⟩ : ∃ W0, W0 = (W.alloc (.cells #[.int .i64 xt, .int .i64 xn, .string xk, .int .u32 xv] 37)).alloc (.cells #[.int .i64 yt, .int .i64 yn, .string yk, .int .u32 yv] 37) := ⟨_, rfl⟩
  have A : Box W0 W.heap.size [.int .i64 xt, .int .i64 xn, .string xk, .int .u32 xv] := by rw [hW0]; exact (Box.new W #[.int .i64 xt, .int .i64 xn, .string xk, .int .u32 xv] 37).alloc _
  have B : Box W0 (W.heap.size + 1) [.int .i64 yt, .int .i64 yn, .string yk, .int .u32 yv] := by
    rw [hW0]
    have := Box.new (W.alloc (.cells #[.int .i64 xt, .int .i64 xn, .string xk, .int .u32 xv] 37)) #[.int .i64 yt, .int .i64 yn, .string yk, .int .u32 yv] 37
    simpa using this
  go_enter Try.func103, Try.ntmps103
  go_wp2_with fail
  rw [← hW0]
  have HW0 : Hid (W0 = (W.alloc (.cells #[.int .i64 xt, .int .i64 xn, .string xk, .int .u32 xv] 37)).alloc (.cells #[.int .i64 yt, .int .i64 yn, .string yk, .int .u32 yv] 37)) := hW0
  clear hW0
  have A1 : Box W0.drew W.heap.size [.int .i64 xt, .int .i64 xn, .string xk, .int .u32 xv] := A.below (Below.refl _ _).drew
  have B1 : Box W0.drew (W.heap.size + 1) [.int .i64 yt, .int .i64 yn, .string yk, .int .u32 yv] := B.below (Below.refl _ _).drew
  refine wp_region_held_drew (S := fun w' => Box w' W.heap.size [.int .i64 xt, .int .i64 xn, .string xk, .int .u32 xv] ∧ Box w' (W.heap.size + 1) [.int .i64 yt, .int .i64 yn, .string yk, .int .u32 yv]) (by kernel_rfl) ⟨A1, B1⟩ (fun hHeld => ?_)
  refine wpAnyH_take (i := 0) (oi := { dst := some 5, op := Op.fieldAddr 37 (Operand.tmp 2) 0, type := 0, pos := "l13_chunk.go:164", after := #[], guard := none }) (v := .pointer (some ⟨W.heap.size, 0, none⟩)) rfl (by kernel_rfl) (by kernel_rfl) (by kernel_rfl) (fun _ _ _ h => h) (Or.inl ⟨by rfl, ?_⟩) (by assumption) ?_
  · intro wx hSw
    clear hSw hHeld; go_simp
  simp only [Act.put, List.setIfInBounds_toArray, List.set_cons_zero, List.set_cons_succ]
  refine wpAnyH_take (i := 1) (oi := { dst := some 6, op := Op.load 3 (Operand.tmp 5), type := 3, pos := "l13_chunk.go:164", after := #[{ on := 0, ground := Ground.data }], guard := none }) (v := .int .i64 xt) rfl (by kernel_rfl) (by kernel_rfl) (by kernel_rfl) (fun _ _ _ h => h) (Or.inl ⟨by rfl, ?_⟩) (by assumption) ?_
  · intro wx hSw
    have e := hSw.1.2.1 0 _ rfl; clear hHeld hSw; go_simp
  simp only [Act.put, List.setIfInBounds_toArray, List.set_cons_zero, List.set_cons_succ]
  refine wpAnyH_take (i := 2) (oi := { dst := some 7, op := Op.fieldAddr 37 (Operand.tmp 3) 0, type := 0, pos := "l13_chunk.go:164", after := #[], guard := none }) (v := .pointer (some ⟨W.heap.size + 1, 0, none⟩)) rfl (by kernel_rfl) (by kernel_rfl) (by kernel_rfl) (fun _ _ _ h => h) (Or.inl ⟨by rfl, ?_⟩) (by assumption) ?_
  · intro wx hSw
    clear hSw hHeld; go_simp
  simp only [Act.put, List.setIfInBounds_toArray, List.set_cons_zero, List.set_cons_succ]
  refine wpAnyH_take (i := 3) (oi := { dst := some 8, op := Op.load 3 (Operand.tmp 7), type := 3, pos := "l13_chunk.go:164", after := #[{ on := 2, ground := Ground.data }], guard := none }) (v := .int .i64 yt) rfl (by kernel_rfl) (by kernel_rfl) (by kernel_rfl) (fun _ _ _ h => h) (Or.inl ⟨by rfl, ?_⟩) (by assumption) ?_
  · intro wx hSw
    have e := hSw.2.2.1 0 _ rfl; clear hHeld hSw; go_simp
  simp only [Act.put, List.setIfInBounds_toArray, List.set_cons_zero, List.set_cons_succ]
  refine wpAnyH_take (i := 5) (oi := { dst := some 10, op := Op.fieldAddr 37 (Operand.tmp 2) 1, type := 0, pos := "l13_chunk.go:164", after := #[], guard := none }) (v := .pointer (some ⟨W.heap.size, 1, none⟩)) rfl (by kernel_rfl) (by kernel_rfl) (by kernel_rfl) (fun _ _ _ h => h) (Or.inl ⟨by rfl, ?_⟩) (by assumption) ?_
  · intro wx hSw
    clear hSw hHeld; go_simp
  simp only [Act.put, List.setIfInBounds_toArray, List.set_cons_zero, List.set_cons_succ]
  refine wpAnyH_take (i := 6) (oi := { dst := some 11, op := Op.load 3 (Operand.tmp 10), type := 3, pos := "l13_chunk.go:164", after := #[{ on := 5, ground := Ground.data }], guard := none }) (v := .int .i64 xn) rfl (by kernel_rfl) (by kernel_rfl) (by kernel_rfl) (fun _ _ _ h => h) (Or.inl ⟨by rfl, ?_⟩) (by assumption) ?_
  · intro wx hSw
    have e := hSw.1.2.1 1 _ rfl; clear hHeld hSw; go_simp
  simp only [Act.put, List.setIfInBounds_toArray, List.set_cons_zero, List.set_cons_succ]
  refine wpAnyH_take (i := 7) (oi := { dst := some 12, op := Op.fieldAddr 37 (Operand.tmp 3) 1, type := 0, pos := "l13_chunk.go:164", after := #[], guard := none }) (v := .pointer (some ⟨W.heap.size + 1, 1, none⟩)) rfl (by kernel_rfl) (by kernel_rfl) (by kernel_rfl) (fun _ _ _ h => h) (Or.inl ⟨by rfl, ?_⟩) (by assumption) ?_
  · intro wx hSw
    clear hSw hHeld; go_simp
  simp only [Act.put, List.setIfInBounds_toArray, List.set_cons_zero, List.set_cons_succ]
  refine wpAnyH_take (i := 8) (oi := { dst := some 13, op := Op.load 3 (Operand.tmp 12), type := 3, pos := "l13_chunk.go:164", after := #[{ on := 7, ground := Ground.data }], guard := none }) (v := .int .i64 yn) rfl (by kernel_rfl) (by kernel_rfl) (by kernel_rfl) (fun _ _ _ h => h) (Or.inl ⟨by rfl, ?_⟩) (by assumption) ?_
  · intro wx hSw
    have e := hSw.2.2.1 1 _ rfl; clear hHeld hSw; go_simp
  simp only [Act.put, List.setIfInBounds_toArray, List.set_cons_zero, List.set_cons_succ]
  refine wpAnyH_ready (rs := [4]) (by kernel_rfl) (by simp) ?_
  refine AllReadyH.cons (o := { dst := some 9, op := Op.call { callee := Callee.value (Operand.func 111), args := #[Operand.tmp 6, Operand.tmp 8], argTypes := #[3, 3] }, type := 3, pos := "l13_chunk.go:164", after := #[{ on := 1, ground := Ground.data }, { on := 3, ground := Ground.data }], guard := none }) rfl (fun K hK => ?_) AllReadyH.nil
  clear hHeld
  go_simp
  refine (K1 _).mono ?_
  rintro e nw ⟨rfl, hw⟩
  subst hw
  refine hK.out _ _ ⟨A1, B1⟩ (fun hHeld => ?_)
  clear hK K
  refine wpAnyH_ready (rs := [9]) (by kernel_rfl) (by simp) ?_
  refine AllReadyH.cons (o := { dst := some 14, op := Op.call { callee := Callee.value (Operand.func 111), args := #[Operand.tmp 11, Operand.tmp 13], argTypes := #[3, 3] }, type := 3, pos := "l13_chunk.go:164", after := #[{ on := 6, ground := Ground.data }, { on := 8, ground := Ground.data }, { on := 4, ground := Ground.chain }], guard := none }) rfl (fun K hK => ?_) AllReadyH.nil
  clear hHeld
  go_simp
  refine (K2 _).mono ?_
  rintro e nw ⟨rfl, hw⟩
  subst hw
  refine hK.out _ _ ⟨A1, B1⟩ (fun hHeld => ?_)
  clear hK K
  refine wpAnyH_ready (rs := [10]) (by kernel_rfl) (by simp) ?_
  refine AllReadyH.cons (o := { dst := some 15, op := Op.buildSlice 24 2 #[(0, Operand.tmp 9), (1, Operand.tmp 14)], type := 24, pos := "l13_chunk.go:164", after := #[{ on := 4, ground := Ground.data }, { on := 9, ground := Ground.data }], guard := none }) rfl (fun K hK => ?_) AllReadyH.nil
  clear hHeld
  have hb := below_alloc W0.drew (.cells #[.int .i64 r1, .int .i64 r2] 3)
  have D := Box.new W0.drew #[.int .i64 r1, .int .i64 r2] 3
  have A2 := A1.below hb
  have B2 := B1.below hb
  clear hb
  go_simp
  refine hK.out _ _ ⟨A2, B2⟩ (fun hHeld => ?_)
  clear hK K K1 K2
  refine wpAnyH_ready (rs := [11]) (by kernel_rfl) (by simp) ?_
  refine AllReadyH.cons (o := { dst := some 16, op := Op.call { callee := Callee.value (Operand.func 110), args := #[Operand.tmp 15], argTypes := #[24] }, type := 3, pos := "l13_chunk.go:164", after := #[{ on := 10, ground := Ground.data }, { on := 9, ground := Ground.chain }], guard := none }) rfl (fun K hK => ?_) AllReadyH.nil
  clear hHeld
  go_simp
  refine (orI_any r1 r2 _ _ D).mono ?_
  rintro e nw ⟨rfl, hw⟩
  subst hw
  rw [← HC.out]
  refine hK.out _ _ ⟨A2, B2⟩ (fun hHeld => ?_)
  clear hK K
  refine wpAnyH_take (i := 12) (oi := { dst := some 4, op := Op.assign (Operand.tmp 16), type := 3, pos := "l13_chunk.go:164", after := #[{ on := 11, ground := Ground.data }, { on := 11, ground := Ground.chain }, { on := 0, ground := Ground.phase }, { on := 1, ground := Ground.phase }, { on := 2, ground := Ground.phase }, { on := 3, ground := Ground.phase }, { on := 4, ground := Ground.phase }, { on := 5, ground := Ground.phase }, { on := 6, ground := Ground.phase }, { on := 7, ground := Ground.phase }, { on := 8, ground := Ground.phase }, { on := 9, ground := Ground.phase }, { on := 10, ground := Ground.phase }, { on := 11, ground := Ground.phase }], guard := none }) (v := .int .i64 c) rfl (by kernel_rfl) (by kernel_rfl) (by kernel_rfl) (fun _ _ _ h => h) (Or.inl ⟨by rfl, ?_⟩) (by assumption) ?_
  · intro wx hSw
    clear hSw hHeld; go_simp
  simp only [Act.put, List.setIfInBounds_toArray, List.set_cons_zero, List.set_cons_succ]
  clear hHeld
  refine wpAnyH_done (by kernel_rfl) ?_ _
  clear A A1 A2 B B1 B2 D
  go_wp2
  go_ret
  refine ⟨rfl, ?_⟩
  rw [HW0.out]
  exact ((below2 _ _ _).drew).alloc (by simp; omega) _

set_option maxHeartbeats 1000000 in
theorem l13Less_any (x y : Ck) (w : World) : Calls Try.prog 92 #[.agg #[.int .i64 x.n, .int .i64 x.d, .string x.k, .int .u32 x.v], .agg #[.int .i64 y.n, .int .i64 y.d, .string y.k, .int .u32 y.v]] w fun e w' => e = .returned (.bool (ltC x y)) ∧ Below w.heap.size w w' := by
  obtain ⟨b, hb⟩ : ∃ b, ltC x y = b := ⟨_, rfl⟩
  rw [hb]
  have hi := ltC_iff x y
  rw [hb] at hi
  clear hb
  obtain ⟨xt, xn, xk, xv⟩ := x
  obtain ⟨yt, yn, yk, yv⟩ := y
  dsimp only at *
  by_cases h1 : xt < yt
  · obtain rfl : b = true := hi.2 (.inl h1)
    clear hi
    go_enter Try.func92, Try.ntmps92
    go_wp2
    go_ret
    exact ⟨rfl, below2 _ _ _⟩
  · by_cases h2 : xt = yt
    · subst h2
      by_cases h3 : xn < yn
      · obtain rfl : b = true := hi.2 (.inr ⟨rfl, h3⟩)
        clear hi
        go_enter Try.func92, Try.ntmps92
        go_wp2
        go_ret
        exact ⟨rfl, below2 _ _ _⟩
      · obtain rfl : b = false := by cases b; rfl; exact absurd (hi.1 rfl) (by omega)
        clear hi
        go_enter Try.func92, Try.ntmps92
        go_wp2
        go_ret
        exact ⟨rfl, below2 _ _ _⟩
    · obtain rfl : b = false := by cases b; rfl; exact absurd (hi.1 rfl) (by omega)
      clear hi
      go_enter Try.func92, Try.ntmps92
      go_wp2
      go_ret
      exact ⟨rfl, below2 _ _ _⟩
end Go.Proofs.Ytocaigffikdlhaa
