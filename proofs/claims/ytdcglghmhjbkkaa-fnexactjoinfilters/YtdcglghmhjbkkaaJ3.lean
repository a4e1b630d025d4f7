/-
  The walk of the law laws.FnExactJoinFilters.
-/
import Derived.Test.YtdcglghmhjbkkaaJ2
import Derived.Deep.RegionHeld3
import Derived.Deep.Cut
namespace Go.Proofs.Ytdcglghmhjbkkaa
open Go.RowKit
set_option linter.unusedVariables false

set_option maxRecDepth 100000 in
set_option maxHeartbeats 8000000 in
theorem lawJoin_fit (n : Int) (s : ByteArray) (m : Int) (n2 : Int) (s2 : ByteArray) (m2 : Int) (w : World) (hs : s.size ≤ maxLen) (hs2 : s2.size ≤ maxLen) (left left2 : Int) (HZ : 0 ≤ left) (HZ2 : 0 ≤ left2)
    (SZ : ∀ w, Calls Try.prog 29 #[.agg #[.int .i64 n, .string s, .int .i64 m], .int .i64 1048576] w fun e w' => e = .returned (.int .i64 left) ∧ Below w.heap.size w w')
    (SZ2 : ∀ w, Calls Try.prog 29 #[.agg #[.int .i64 n2, .string s2, .int .i64 m2], .int .i64 left] w fun e w' => e = .returned (.int .i64 left2) ∧ Below w.heap.size w w') :
    Calls Try.prog 10 #[.agg #[.int .i64 n, .string s, .int .i64 m], .agg #[.int .i64 n2, .string s2, .int .i64 m2]] w fun e w' => e = .returned (.bool true) ∧ Below w.heap.size w w' := by
  have JS := fun w => specJoin n s m n2 s2 m2 w
  have JI := fun w => implJoin n s m n2 s2 m2 w
  generalize joinF n s m n2 s2 m2 = R at *
  obtain ⟨rn, rs, rm, rb⟩ := R
  have X := (Box.new w #[.int .i64 n, .string s, .int .i64 m] 47).alloc (.cells #[.int .i64 n2, .string s2, .int .i64 m2] 47)
  have Y : Box ((w.alloc (.cells #[.int .i64 n, .string s, .int .i64 m] 47)).alloc (.cells #[.int .i64 n2, .string s2, .int .i64 m2] 47)) (w.heap.size + 1) [.int .i64 n2, .string s2, .int .i64 m2] := by
    simpa using Box.new (w.alloc (.cells #[.int .i64 n, .string s, .int .i64 m] 47)) #[.int .i64 n2, .string s2, .int .i64 m2] 47
  have hB := below2 w (.cells #[.int .i64 n, .string s, .int .i64 m] 47) (.cells #[.int .i64 n2, .string s2, .int .i64 m2] 47)
  go_enter Try.func10, Try.ntmps10
  go_wp2_with fail
  refine (SZ _).mono ?_
  rintro e w1 ⟨rfl, hb1⟩
  replace X := X.below hb1
  replace Y := Y.below hb1
  replace hB := below_then hB hb1
  clear hb1 SZ
  obtain ⟨_, y0, y1, y2⟩ := Y.c3
  go_wp2_with fail
  refine (SZ2 _).mono ?_
  rintro e w2 ⟨rfl, hb2⟩
  replace X := X.below hb2
  replace Y := Y.below hb2
  replace hB := below_then hB hb2
  clear hb2 SZ2 y0 y1 y2
  obtain ⟨hzx, x0, x1, x2⟩ := X.c3
  obtain ⟨hzy, y0, y1, y2⟩ := Y.c3
  go_wp2_with fail
  clear hzx x0 x1 x2 hzy y0 y1 y2
  go_cut [6, 7] from 20 (fun s6 s7 wc => ∃ b : Nat, s6 = .pointer (some ⟨b, 0, none⟩) ∧ s7 = .bool rb ∧ Box wc w.heap.size [.int .i64 n, .string s, .int .i64 m] ∧ Box wc (w.heap.size + 1) [.int .i64 n2, .string s2, .int .i64 m2] ∧ Box wc b [.int .i64 rn, .string rs, .int .i64 rm] ∧ w.heap.size + 1 < b ∧ Below w.heap.size w wc)
  case first =>
    have hD : Below (w2).heap.size (w2) (w2).drew := (Below.refl _ _).drew
    replace X := X.below hD
    replace Y := Y.below hD
    replace hB := below_then hB hD
    clear hD
    refine wp_region_held_drew (S := fun w' => Box w' w.heap.size [.int .i64 n, .string s, .int .i64 m] ∧ Box w' (w.heap.size + 1) [.int .i64 n2, .string s2, .int .i64 m2]) (by kernel_rfl) ⟨X, Y⟩ (fun hHeld => ?_)
    generalize (w2).drew = v0 at *
    refine wpAnyH_take (i := 0) (oi := { dst := some 21, op := Op.load 47 (Operand.tmp 2), type := 47, pos := "exact.go:6391", after := #[], guard := none }) (v := .agg #[.int .i64 n, .string s, .int .i64 m]) rfl (by kernel_rfl) (by kernel_rfl) (by kernel_rfl) (fun _ _ _ h => h) (Or.inl ⟨by rfl, ?_⟩) (by assumption) ?_
    · intro wx hSw
      obtain ⟨hx, x0, x1, x2⟩ := Box.c3 hSw.1; clear hSw hHeld; go_simp
    simp only [Act.put, List.setIfInBounds_toArray, List.set_cons_zero, List.set_cons_succ]
    refine wpAnyH_take (i := 2) (oi := { dst := some 23, op := Op.load 47 (Operand.tmp 3), type := 47, pos := "exact.go:6391", after := #[], guard := none }) (v := .agg #[.int .i64 n2, .string s2, .int .i64 m2]) rfl (by kernel_rfl) (by kernel_rfl) (by kernel_rfl) (fun _ _ _ h => h) (Or.inl ⟨by rfl, ?_⟩) (by assumption) ?_
    · intro wx hSw
      obtain ⟨hx, x0, x1, x2⟩ := Box.c3 hSw.2; clear hSw hHeld; go_simp
    simp only [Act.put, List.setIfInBounds_toArray, List.set_cons_zero, List.set_cons_succ]
    refine wpAnyH_ready (rs := [1, 8]) (by kernel_rfl) (by simp) ?_
    refine (AllReadyH.cons (o := { dst := some 22, op := Op.call { callee := Callee.value (Operand.func 31), args := #[Operand.tmp 21], argTypes := #[47] }, type := 24, pos := "exact.go:6391", after := #[{ on := 0, ground := Ground.data }], guard := none }) rfl (fun K hK => ?_) (AllReadyH.cons (o := { dst := some 6, op := Op.alloc 24, type := 0, pos := "exact.go:6391", after := #[], guard := none }) rfl (fun K hK => ?_) AllReadyH.nil))
    · clear hHeld
      go_simp
      refine (toFilter_any n s m _).mono ?_
      rintro e v1 ⟨rfl, hbv⟩
      replace X := X.below hbv
      replace Y := Y.below hbv
      replace hB := below_then hB hbv
      clear hbv
      refine hK.out _ _ ⟨X, Y⟩ (fun hHeld => ?_)
      clear hK K
      refine wpAnyH_ready (rs := [3, 8]) (by kernel_rfl) (by simp) ?_
      refine (AllReadyH.cons (o := { dst := some 24, op := Op.call { callee := Callee.value (Operand.func 31), args := #[Operand.tmp 23], argTypes := #[47] }, type := 24, pos := "exact.go:6391", after := #[{ on := 2, ground := Ground.data }, { on := 1, ground := Ground.chain }], guard := none }) rfl (fun K hK => ?_) (AllReadyH.cons (o := { dst := some 6, op := Op.alloc 24, type := 0, pos := "exact.go:6391", after := #[], guard := none }) rfl (fun K hK => ?_) AllReadyH.nil))
      · clear hHeld
        go_simp
        refine (toFilter_any n2 s2 m2 _).mono ?_
        rintro e v2 ⟨rfl, hbv⟩
        replace X := X.below hbv
        replace Y := Y.below hbv
        replace hB := below_then hB hbv
        clear hbv
        refine hK.out _ _ ⟨X, Y⟩ (fun hHeld => ?_)
        clear hK K
        refine wpAnyH_ready (rs := [4, 8]) (by kernel_rfl) (by simp) ?_
        refine (AllReadyH.cons (o := { dst := some 25, op := Op.call { callee := Callee.value (Operand.func 24), args := #[Operand.tmp 22, Operand.tmp 24], argTypes := #[24, 24] }, type := 27, pos := "exact.go:6391", after := #[{ on := 1, ground := Ground.data }, { on := 3, ground := Ground.data }, { on := 3, ground := Ground.chain }], guard := none }) rfl (fun K hK => ?_) (AllReadyH.cons (o := { dst := some 6, op := Op.alloc 24, type := 0, pos := "exact.go:6391", after := #[], guard := none }) rfl (fun K hK => ?_) AllReadyH.nil))
        · clear hHeld
          go_simp
          refine (JS _).mono ?_
          rintro e v3 ⟨rfl, hbv⟩
          replace X := X.below hbv
          replace Y := Y.below hbv
          replace hB := below_then hB hbv
          clear hbv
          refine hK.out _ _ ⟨X, Y⟩ (fun hHeld => ?_)
          clear hK K
          refine wpAnyH_take (i := 5) (oi := { dst := some 20, op := Op.move (Operand.tmp 25), type := 27, pos := "exact.go:6391", after := #[{ on := 4, ground := Ground.data }], guard := none }) (v := .tuple #[.agg #[.int .i64 rn, .string rs, .int .i64 rm], .bool rb]) rfl (by kernel_rfl) (by kernel_rfl) (by kernel_rfl) (fun _ _ _ h => h) (Or.inl ⟨by rfl, ?_⟩) (by assumption) ?_
          · intro wx hSw
            clear hSw hHeld; go_simp
          simp only [Act.put, List.setIfInBounds_toArray, List.set_cons_zero, List.set_cons_succ]
          refine wpAnyH_take (i := 6) (oi := { dst := some 26, op := Op.extract (Operand.tmp 20) 0, type := 24, pos := "exact.go:6391", after := #[{ on := 5, ground := Ground.data }], guard := none }) (v := .agg #[.int .i64 rn, .string rs, .int .i64 rm]) rfl (by kernel_rfl) (by kernel_rfl) (by kernel_rfl) (fun _ _ _ h => h) (Or.inl ⟨by rfl, ?_⟩) (by assumption) ?_
          · intro wx hSw
            clear hSw hHeld; go_simp
          simp only [Act.put, List.setIfInBounds_toArray, List.set_cons_zero, List.set_cons_succ]
          refine wpAnyH_take (i := 7) (oi := { dst := some 27, op := Op.extract (Operand.tmp 20) 1, type := 4, pos := "exact.go:6391", after := #[{ on := 5, ground := Ground.data }, { on := 9, ground := Ground.gcOnly Departure.lateStores }], guard := none }) (v := .bool rb) rfl (by kernel_rfl) (by kernel_rfl) (by kernel_rfl) (fun _ _ _ h => h) (Or.inl ⟨by rfl, ?_⟩) (by assumption) ?_
          · intro wx hSw
            clear hSw hHeld; go_simp
          simp only [Act.put, List.setIfInBounds_toArray, List.set_cons_zero, List.set_cons_succ]
          refine wpAnyH_ready (rs := [8]) (by kernel_rfl) (by simp) ?_
          refine (AllReadyH.cons (o := { dst := some 6, op := Op.alloc 24, type := 0, pos := "exact.go:6391", after := #[], guard := none }) rfl (fun K hK => ?_) AllReadyH.nil)
          clear hHeld
          have Z := Box.new v3 #[.int .i64 0, .string ⟨#[]⟩, .int .i64 0] 24
          have hb1 : w.heap.size + 1 < v3.heap.size := Y.1
          replace X := X.alloc (.cells #[.int .i64 0, .string ⟨#[]⟩, .int .i64 0] 24)
          replace Y := Y.alloc (.cells #[.int .i64 0, .string ⟨#[]⟩, .int .i64 0] 24)
          replace hB := hB.alloc hB.size (.cells #[.int .i64 0, .string ⟨#[]⟩, .int .i64 0] 24)
          go_simp
          refine hK.out _ _ ⟨X, Y⟩ (fun hHeld => ?_)
          clear hK K
          generalize v3.alloc (.cells #[.int .i64 0, .string ⟨#[]⟩, .int .i64 0] 24) = v4 at *
          generalize v3.heap.size = b at *
          refine wpAnyH_ready (rs := [9]) (by kernel_rfl) (by simp) ?_
          refine (AllReadyH.cons (o := { dst := none, op := Op.store 24 (Operand.tmp 6) (Operand.tmp 26), type := 0, pos := "exact.go:6391", after := #[{ on := 8, ground := Ground.data }, { on := 6, ground := Ground.data }, { on := 4, ground := Ground.chain }, { on := 0, ground := Ground.phase }, { on := 1, ground := Ground.phase }, { on := 2, ground := Ground.phase }, { on := 3, ground := Ground.phase }, { on := 4, ground := Ground.phase }, { on := 5, ground := Ground.phase }, { on := 6, ground := Ground.phase }, { on := 7, ground := Ground.textOnly Departure.lateStores }, { on := 8, ground := Ground.phase }], guard := none }) rfl (fun K hK => ?_) AllReadyH.nil)
          clear hHeld
          obtain ⟨⟨f0, f1, f2⟩, zz, t0, t1, t2⟩ := Z.f3
          have Xn := (put3_chg v4 b (.int .i64 rn) (.string rs) (.int .i64 rm)).box X (by omega)
          have Yn := (put3_chg v4 b (.int .i64 rn) (.string rs) (.int .i64 rm)).box Y (by omega)
          have Zn := put3_box Z (.int .i64 rn) (.string rs) (.int .i64 rm)
          have hBn := (put3_ok hB (by omega) Z (.int .i64 rn) (.string rs) (.int .i64 rm)).2
          go_simp
          refine hK.out _ (put3 v4 b (.int .i64 rn) (.string rs) (.int .i64 rm)) ⟨Xn, Yn⟩ (fun hHeld => ?_)
          clear hK K t0 t1 t2 f0 f1 f2
          refine wpAnyH_take (i := 10) (oi := { dst := some 7, op := Op.assign (Operand.tmp 27), type := 4, pos := "exact.go:6391", after := #[{ on := 7, ground := Ground.data }, { on := 9, ground := Ground.chain }, { on := 0, ground := Ground.phase }, { on := 1, ground := Ground.phase }, { on := 2, ground := Ground.phase }, { on := 3, ground := Ground.phase }, { on := 4, ground := Ground.phase }, { on := 5, ground := Ground.phase }, { on := 6, ground := Ground.phase }, { on := 7, ground := Ground.phase }, { on := 8, ground := Ground.phase }, { on := 9, ground := Ground.phase }], guard := none }) (v := .bool rb) rfl (by kernel_rfl) (by kernel_rfl) (by kernel_rfl) (fun _ _ _ h => h) (Or.inl ⟨by rfl, ?_⟩) (by assumption) ?_
          · intro wx hSw
            clear hSw hHeld; go_simp
          simp only [Act.put, List.setIfInBounds_toArray, List.set_cons_zero, List.set_cons_succ]
          refine wpAnyH_done (by kernel_rfl) ?_ _
          go_wp2_with fail
          go_meet
          case rel => exact ⟨b, rfl, rfl, Xn, Yn, Zn, hb1, hBn⟩
        · clear hHeld
          have Z := Box.new v2 #[.int .i64 0, .string ⟨#[]⟩, .int .i64 0] 24
          have hb1 : w.heap.size + 1 < v2.heap.size := Y.1
          replace X := X.alloc (.cells #[.int .i64 0, .string ⟨#[]⟩, .int .i64 0] 24)
          replace Y := Y.alloc (.cells #[.int .i64 0, .string ⟨#[]⟩, .int .i64 0] 24)
          replace hB := hB.alloc hB.size (.cells #[.int .i64 0, .string ⟨#[]⟩, .int .i64 0] 24)
          go_simp
          refine hK.out _ _ ⟨X, Y⟩ (fun hHeld => ?_)
          clear hK K
          generalize v2.alloc (.cells #[.int .i64 0, .string ⟨#[]⟩, .int .i64 0] 24) = v5 at *
          generalize v2.heap.size = b at *
          refine wpAnyH_ready (rs := [4]) (by kernel_rfl) (by simp) ?_
          refine (AllReadyH.cons (o := { dst := some 25, op := Op.call { callee := Callee.value (Operand.func 24), args := #[Operand.tmp 22, Operand.tmp 24], argTypes := #[24, 24] }, type := 27, pos := "exact.go:6391", after := #[{ on := 1, ground := Ground.data }, { on := 3, ground := Ground.data }, { on := 3, ground := Ground.chain }], guard := none }) rfl (fun K hK => ?_) AllReadyH.nil)
          clear hHeld
          go_simp
          refine (JS _).mono ?_
          rintro e v6 ⟨rfl, hbv⟩
          replace X := X.below hbv
          replace Y := Y.below hbv
          replace Z := Z.below hbv
          replace hB := below_then hB hbv
          clear hbv
          refine hK.out _ _ ⟨X, Y⟩ (fun hHeld => ?_)
          clear hK K
          refine wpAnyH_take (i := 5) (oi := { dst := some 20, op := Op.move (Operand.tmp 25), type := 27, pos := "exact.go:6391", after := #[{ on := 4, ground := Ground.data }], guard := none }) (v := .tuple #[.agg #[.int .i64 rn, .string rs, .int .i64 rm], .bool rb]) rfl (by kernel_rfl) (by kernel_rfl) (by kernel_rfl) (fun _ _ _ h => h) (Or.inl ⟨by rfl, ?_⟩) (by assumption) ?_
          · intro wx hSw
            clear hSw hHeld; go_simp
          simp only [Act.put, List.setIfInBounds_toArray, List.set_cons_zero, List.set_cons_succ]
          refine wpAnyH_take (i := 6) (oi := { dst := some 26, op := Op.extract (Operand.tmp 20) 0, type := 24, pos := "exact.go:6391", after := #[{ on := 5, ground := Ground.data }], guard := none }) (v := .agg #[.int .i64 rn, .string rs, .int .i64 rm]) rfl (by kernel_rfl) (by kernel_rfl) (by kernel_rfl) (fun _ _ _ h => h) (Or.inl ⟨by rfl, ?_⟩) (by assumption) ?_
          · intro wx hSw
            clear hSw hHeld; go_simp
          simp only [Act.put, List.setIfInBounds_toArray, List.set_cons_zero, List.set_cons_succ]
          refine wpAnyH_take (i := 7) (oi := { dst := some 27, op := Op.extract (Operand.tmp 20) 1, type := 4, pos := "exact.go:6391", after := #[{ on := 5, ground := Ground.data }, { on := 9, ground := Ground.gcOnly Departure.lateStores }], guard := none }) (v := .bool rb) rfl (by kernel_rfl) (by kernel_rfl) (by kernel_rfl) (fun _ _ _ h => h) (Or.inl ⟨by rfl, ?_⟩) (by assumption) ?_
          · intro wx hSw
            clear hSw hHeld; go_simp
          simp only [Act.put, List.setIfInBounds_toArray, List.set_cons_zero, List.set_cons_succ]
          refine wpAnyH_ready (rs := [9]) (by kernel_rfl) (by simp) ?_
          refine (AllReadyH.cons (o := { dst := none, op := Op.store 24 (Operand.tmp 6) (Operand.tmp 26), type := 0, pos := "exact.go:6391", after := #[{ on := 8, ground := Ground.data }, { on := 6, ground := Ground.data }, { on := 4, ground := Ground.chain }, { on := 0, ground := Ground.phase }, { on := 1, ground := Ground.phase }, { on := 2, ground := Ground.phase }, { on := 3, ground := Ground.phase }, { on := 4, ground := Ground.phase }, { on := 5, ground := Ground.phase }, { on := 6, ground := Ground.phase }, { on := 7, ground := Ground.textOnly Departure.lateStores }, { on := 8, ground := Ground.phase }], guard := none }) rfl (fun K hK => ?_) AllReadyH.nil)
          clear hHeld
          obtain ⟨⟨f0, f1, f2⟩, zz, t0, t1, t2⟩ := Z.f3
          have Xn := (put3_chg v6 b (.int .i64 rn) (.string rs) (.int .i64 rm)).box X (by omega)
          have Yn := (put3_chg v6 b (.int .i64 rn) (.string rs) (.int .i64 rm)).box Y (by omega)
          have Zn := put3_box Z (.int .i64 rn) (.string rs) (.int .i64 rm)
          have hBn := (put3_ok hB (by omega) Z (.int .i64 rn) (.string rs) (.int .i64 rm)).2
          go_simp
          refine hK.out _ (put3 v6 b (.int .i64 rn) (.string rs) (.int .i64 rm)) ⟨Xn, Yn⟩ (fun hHeld => ?_)
          clear hK K t0 t1 t2 f0 f1 f2
          refine wpAnyH_take (i := 10) (oi := { dst := some 7, op := Op.assign (Operand.tmp 27), type := 4, pos := "exact.go:6391", after := #[{ on := 7, ground := Ground.data }, { on := 9, ground := Ground.chain }, { on := 0, ground := Ground.phase }, { on := 1, ground := Ground.phase }, { on := 2, ground := Ground.phase }, { on := 3, ground := Ground.phase }, { on := 4, ground := Ground.phase }, { on := 5, ground := Ground.phase }, { on := 6, ground := Ground.phase }, { on := 7, ground := Ground.phase }, { on := 8, ground := Ground.phase }, { on := 9, ground := Ground.phase }], guard := none }) (v := .bool rb) rfl (by kernel_rfl) (by kernel_rfl) (by kernel_rfl) (fun _ _ _ h => h) (Or.inl ⟨by rfl, ?_⟩) (by assumption) ?_
          · intro wx hSw
            clear hSw hHeld; go_simp
          simp only [Act.put, List.setIfInBounds_toArray, List.set_cons_zero, List.set_cons_succ]
          refine wpAnyH_done (by kernel_rfl) ?_ _
          go_wp2_with fail
          go_meet
          case rel => exact ⟨b, rfl, rfl, Xn, Yn, Zn, hb1, hBn⟩
      · clear hHeld
        have Z := Box.new v1 #[.int .i64 0, .string ⟨#[]⟩, .int .i64 0] 24
        have hb1 : w.heap.size + 1 < v1.heap.size := Y.1
        replace X := X.alloc (.cells #[.int .i64 0, .string ⟨#[]⟩, .int .i64 0] 24)
        replace Y := Y.alloc (.cells #[.int .i64 0, .string ⟨#[]⟩, .int .i64 0] 24)
        replace hB := hB.alloc hB.size (.cells #[.int .i64 0, .string ⟨#[]⟩, .int .i64 0] 24)
        go_simp
        refine hK.out _ _ ⟨X, Y⟩ (fun hHeld => ?_)
        clear hK K
        generalize v1.alloc (.cells #[.int .i64 0, .string ⟨#[]⟩, .int .i64 0] 24) = v7 at *
        generalize v1.heap.size = b at *
        refine wpAnyH_ready (rs := [3]) (by kernel_rfl) (by simp) ?_
        refine (AllReadyH.cons (o := { dst := some 24, op := Op.call { callee := Callee.value (Operand.func 31), args := #[Operand.tmp 23], argTypes := #[47] }, type := 24, pos := "exact.go:6391", after := #[{ on := 2, ground := Ground.data }, { on := 1, ground := Ground.chain }], guard := none }) rfl (fun K hK => ?_) AllReadyH.nil)
        clear hHeld
        go_simp
        refine (toFilter_any n2 s2 m2 _).mono ?_
        rintro e v8 ⟨rfl, hbv⟩
        replace X := X.below hbv
        replace Y := Y.below hbv
        replace Z := Z.below hbv
        replace hB := below_then hB hbv
        clear hbv
        refine hK.out _ _ ⟨X, Y⟩ (fun hHeld => ?_)
        clear hK K
        refine wpAnyH_ready (rs := [4]) (by kernel_rfl) (by simp) ?_
        refine (AllReadyH.cons (o := { dst := some 25, op := Op.call { callee := Callee.value (Operand.func 24), args := #[Operand.tmp 22, Operand.tmp 24], argTypes := #[24, 24] }, type := 27, pos := "exact.go:6391", after := #[{ on := 1, ground := Ground.data }, { on := 3, ground := Ground.data }, { on := 3, ground := Ground.chain }], guard := none }) rfl (fun K hK => ?_) AllReadyH.nil)
        clear hHeld
        go_simp
        refine (JS _).mono ?_
        rintro e v9 ⟨rfl, hbv⟩
        replace X := X.below hbv
        replace Y := Y.below hbv
        replace Z := Z.below hbv
        replace hB := below_then hB hbv
        clear hbv
        refine hK.out _ _ ⟨X, Y⟩ (fun hHeld => ?_)
        clear hK K
        refine wpAnyH_take (i := 5) (oi := { dst := some 20, op := Op.move (Operand.tmp 25), type := 27, pos := "exact.go:6391", after := #[{ on := 4, ground := Ground.data }], guard := none }) (v := .tuple #[.agg #[.int .i64 rn, .string rs, .int .i64 rm], .bool rb]) rfl (by kernel_rfl) (by kernel_rfl) (by kernel_rfl) (fun _ _ _ h => h) (Or.inl ⟨by rfl, ?_⟩) (by assumption) ?_
        · intro wx hSw
          clear hSw hHeld; go_simp
        simp only [Act.put, List.setIfInBounds_toArray, List.set_cons_zero, List.set_cons_succ]
        refine wpAnyH_take (i := 6) (oi := { dst := some 26, op := Op.extract (Operand.tmp 20) 0, type := 24, pos := "exact.go:6391", after := #[{ on := 5, ground := Ground.data }], guard := none }) (v := .agg #[.int .i64 rn, .string rs, .int .i64 rm]) rfl (by kernel_rfl) (by kernel_rfl) (by kernel_rfl) (fun _ _ _ h => h) (Or.inl ⟨by rfl, ?_⟩) (by assumption) ?_
        · intro wx hSw
          clear hSw hHeld; go_simp
        simp only [Act.put, List.setIfInBounds_toArray, List.set_cons_zero, List.set_cons_succ]
        refine wpAnyH_take (i := 7) (oi := { dst := some 27, op := Op.extract (Operand.tmp 20) 1, type := 4, pos := "exact.go:6391", after := #[{ on := 5, ground := Ground.data }, { on := 9, ground := Ground.gcOnly Departure.lateStores }], guard := none }) (v := .bool rb) rfl (by kernel_rfl) (by kernel_rfl) (by kernel_rfl) (fun _ _ _ h => h) (Or.inl ⟨by rfl, ?_⟩) (by assumption) ?_
        · intro wx hSw
          clear hSw hHeld; go_simp
        simp only [Act.put, List.setIfInBounds_toArray, List.set_cons_zero, List.set_cons_succ]
        refine wpAnyH_ready (rs := [9]) (by kernel_rfl) (by simp) ?_
        refine (AllReadyH.cons (o := { dst := none, op := Op.store 24 (Operand.tmp 6) (Operand.tmp 26), type := 0, pos := "exact.go:6391", after := #[{ on := 8, ground := Ground.data }, { on := 6, ground := Ground.data }, { on := 4, ground := Ground.chain }, { on := 0, ground := Ground.phase }, { on := 1, ground := Ground.phase }, { on := 2, ground := Ground.phase }, { on := 3, ground := Ground.phase }, { on := 4, ground := Ground.phase }, { on := 5, ground := Ground.phase }, { on := 6, ground := Ground.phase }, { on := 7, ground := Ground.textOnly Departure.lateStores }, { on := 8, ground := Ground.phase }], guard := none }) rfl (fun K hK => ?_) AllReadyH.nil)
        clear hHeld
        obtain ⟨⟨f0, f1, f2⟩, zz, t0, t1, t2⟩ := Z.f3
        have Xn := (put3_chg v9 b (.int .i64 rn) (.string rs) (.int .i64 rm)).box X (by omega)
        have Yn := (put3_chg v9 b (.int .i64 rn) (.string rs) (.int .i64 rm)).box Y (by omega)
        have Zn := put3_box Z (.int .i64 rn) (.string rs) (.int .i64 rm)
        have hBn := (put3_ok hB (by omega) Z (.int .i64 rn) (.string rs) (.int .i64 rm)).2
        go_simp
        refine hK.out _ (put3 v9 b (.int .i64 rn) (.string rs) (.int .i64 rm)) ⟨Xn, Yn⟩ (fun hHeld => ?_)
        clear hK K t0 t1 t2 f0 f1 f2
        refine wpAnyH_take (i := 10) (oi := { dst := some 7, op := Op.assign (Operand.tmp 27), type := 4, pos := "exact.go:6391", after := #[{ on := 7, ground := Ground.data }, { on := 9, ground := Ground.chain }, { on := 0, ground := Ground.phase }, { on := 1, ground := Ground.phase }, { on := 2, ground := Ground.phase }, { on := 3, ground := Ground.phase }, { on := 4, ground := Ground.phase }, { on := 5, ground := Ground.phase }, { on := 6, ground := Ground.phase }, { on := 7, ground := Ground.phase }, { on := 8, ground := Ground.phase }, { on := 9, ground := Ground.phase }], guard := none }) (v := .bool rb) rfl (by kernel_rfl) (by kernel_rfl) (by kernel_rfl) (fun _ _ _ h => h) (Or.inl ⟨by rfl, ?_⟩) (by assumption) ?_
        · intro wx hSw
          clear hSw hHeld; go_simp
        simp only [Act.put, List.setIfInBounds_toArray, List.set_cons_zero, List.set_cons_succ]
        refine wpAnyH_done (by kernel_rfl) ?_ _
        go_wp2_with fail
        go_meet
        case rel => exact ⟨b, rfl, rfl, Xn, Yn, Zn, hb1, hBn⟩
    · clear hHeld
      have Z := Box.new v0 #[.int .i64 0, .string ⟨#[]⟩, .int .i64 0] 24
      have hb1 : w.heap.size + 1 < v0.heap.size := Y.1
      replace X := X.alloc (.cells #[.int .i64 0, .string ⟨#[]⟩, .int .i64 0] 24)
      replace Y := Y.alloc (.cells #[.int .i64 0, .string ⟨#[]⟩, .int .i64 0] 24)
      replace hB := hB.alloc hB.size (.cells #[.int .i64 0, .string ⟨#[]⟩, .int .i64 0] 24)
      go_simp
      refine hK.out _ _ ⟨X, Y⟩ (fun hHeld => ?_)
      clear hK K
      generalize v0.alloc (.cells #[.int .i64 0, .string ⟨#[]⟩, .int .i64 0] 24) = v10 at *
      generalize v0.heap.size = b at *
      refine wpAnyH_ready (rs := [1]) (by kernel_rfl) (by simp) ?_
      refine (AllReadyH.cons (o := { dst := some 22, op := Op.call { callee := Callee.value (Operand.func 31), args := #[Operand.tmp 21], argTypes := #[47] }, type := 24, pos := "exact.go:6391", after := #[{ on := 0, ground := Ground.data }], guard := none }) rfl (fun K hK => ?_) AllReadyH.nil)
      clear hHeld
      go_simp
      refine (toFilter_any n s m _).mono ?_
      rintro e v11 ⟨rfl, hbv⟩
      replace X := X.below hbv
      replace Y := Y.below hbv
      replace Z := Z.below hbv
      replace hB := below_then hB hbv
      clear hbv
      refine hK.out _ _ ⟨X, Y⟩ (fun hHeld => ?_)
      clear hK K
      refine wpAnyH_ready (rs := [3]) (by kernel_rfl) (by simp) ?_
      refine (AllReadyH.cons (o := { dst := some 24, op := Op.call { callee := Callee.value (Operand.func 31), args := #[Operand.tmp 23], argTypes := #[47] }, type := 24, pos := "exact.go:6391", after := #[{ on := 2, ground := Ground.data }, { on := 1, ground := Ground.chain }], guard := none }) rfl (fun K hK => ?_) AllReadyH.nil)
      clear hHeld
      go_simp
      refine (toFilter_any n2 s2 m2 _).mono ?_
      rintro e v12 ⟨rfl, hbv⟩
      replace X := X.below hbv
      replace Y := Y.below hbv
      replace Z := Z.below hbv
      replace hB := below_then hB hbv
      clear hbv
      refine hK.out _ _ ⟨X, Y⟩ (fun hHeld => ?_)
      clear hK K
      refine wpAnyH_ready (rs := [4]) (by kernel_rfl) (by simp) ?_
      refine (AllReadyH.cons (o := { dst := some 25, op := Op.call { callee := Callee.value (Operand.func 24), args := #[Operand.tmp 22, Operand.tmp 24], argTypes := #[24, 24] }, type := 27, pos := "exact.go:6391", after := #[{ on := 1, ground := Ground.data }, { on := 3, ground := Ground.data }, { on := 3, ground := Ground.chain }], guard := none }) rfl (fun K hK => ?_) AllReadyH.nil)
      clear hHeld
      go_simp
      refine (JS _).mono ?_
      rintro e v13 ⟨rfl, hbv⟩
      replace X := X.below hbv
      replace Y := Y.below hbv
      replace Z := Z.below hbv
      replace hB := below_then hB hbv
      clear hbv
      refine hK.out _ _ ⟨X, Y⟩ (fun hHeld => ?_)
      clear hK K
      refine wpAnyH_take (i := 5) (oi := { dst := some 20, op := Op.move (Operand.tmp 25), type := 27, pos := "exact.go:6391", after := #[{ on := 4, ground := Ground.data }], guard := none }) (v := .tuple #[.agg #[.int .i64 rn, .string rs, .int .i64 rm], .bool rb]) rfl (by kernel_rfl) (by kernel_rfl) (by kernel_rfl) (fun _ _ _ h => h) (Or.inl ⟨by rfl, ?_⟩) (by assumption) ?_
      · intro wx hSw
        clear hSw hHeld; go_simp
      simp only [Act.put, List.setIfInBounds_toArray, List.set_cons_zero, List.set_cons_succ]
      refine wpAnyH_take (i := 6) (oi := { dst := some 26, op := Op.extract (Operand.tmp 20) 0, type := 24, pos := "exact.go:6391", after := #[{ on := 5, ground := Ground.data }], guard := none }) (v := .agg #[.int .i64 rn, .string rs, .int .i64 rm]) rfl (by kernel_rfl) (by kernel_rfl) (by kernel_rfl) (fun _ _ _ h => h) (Or.inl ⟨by rfl, ?_⟩) (by assumption) ?_
      · intro wx hSw
        clear hSw hHeld; go_simp
      simp only [Act.put, List.setIfInBounds_toArray, List.set_cons_zero, List.set_cons_succ]
      refine wpAnyH_take (i := 7) (oi := { dst := some 27, op := Op.extract (Operand.tmp 20) 1, type := 4, pos := "exact.go:6391", after := #[{ on := 5, ground := Ground.data }, { on := 9, ground := Ground.gcOnly Departure.lateStores }], guard := none }) (v := .bool rb) rfl (by kernel_rfl) (by kernel_rfl) (by kernel_rfl) (fun _ _ _ h => h) (Or.inl ⟨by rfl, ?_⟩) (by assumption) ?_
      · intro wx hSw
        clear hSw hHeld; go_simp
      simp only [Act.put, List.setIfInBounds_toArray, List.set_cons_zero, List.set_cons_succ]
      refine wpAnyH_ready (rs := [9]) (by kernel_rfl) (by simp) ?_
      refine (AllReadyH.cons (o := { dst := none, op := Op.store 24 (Operand.tmp 6) (Operand.tmp 26), type := 0, pos := "exact.go:6391", after := #[{ on := 8, ground := Ground.data }, { on := 6, ground := Ground.data }, { on := 4, ground := Ground.chain }, { on := 0, ground := Ground.phase }, { on := 1, ground := Ground.phase }, { on := 2, ground := Ground.phase }, { on := 3, ground := Ground.phase }, { on := 4, ground := Ground.phase }, { on := 5, ground := Ground.phase }, { on := 6, ground := Ground.phase }, { on := 7, ground := Ground.textOnly Departure.lateStores }, { on := 8, ground := Ground.phase }], guard := none }) rfl (fun K hK => ?_) AllReadyH.nil)
      clear hHeld
      obtain ⟨⟨f0, f1, f2⟩, zz, t0, t1, t2⟩ := Z.f3
      have Xn := (put3_chg v13 b (.int .i64 rn) (.string rs) (.int .i64 rm)).box X (by omega)
      have Yn := (put3_chg v13 b (.int .i64 rn) (.string rs) (.int .i64 rm)).box Y (by omega)
      have Zn := put3_box Z (.int .i64 rn) (.string rs) (.int .i64 rm)
      have hBn := (put3_ok hB (by omega) Z (.int .i64 rn) (.string rs) (.int .i64 rm)).2
      go_simp
      refine hK.out _ (put3 v13 b (.int .i64 rn) (.string rs) (.int .i64 rm)) ⟨Xn, Yn⟩ (fun hHeld => ?_)
      clear hK K t0 t1 t2 f0 f1 f2
      refine wpAnyH_take (i := 10) (oi := { dst := some 7, op := Op.assign (Operand.tmp 27), type := 4, pos := "exact.go:6391", after := #[{ on := 7, ground := Ground.data }, { on := 9, ground := Ground.chain }, { on := 0, ground := Ground.phase }, { on := 1, ground := Ground.phase }, { on := 2, ground := Ground.phase }, { on := 3, ground := Ground.phase }, { on := 4, ground := Ground.phase }, { on := 5, ground := Ground.phase }, { on := 6, ground := Ground.phase }, { on := 7, ground := Ground.phase }, { on := 8, ground := Ground.phase }, { on := 9, ground := Ground.phase }], guard := none }) (v := .bool rb) rfl (by kernel_rfl) (by kernel_rfl) (by kernel_rfl) (fun _ _ _ h => h) (Or.inl ⟨by rfl, ?_⟩) (by assumption) ?_
      · intro wx hSw
        clear hSw hHeld; go_simp
      simp only [Act.put, List.setIfInBounds_toArray, List.set_cons_zero, List.set_cons_succ]
      refine wpAnyH_done (by kernel_rfl) ?_ _
      go_wp2_with fail
      go_meet
      case rel => exact ⟨b, rfl, rfl, Xn, Yn, Zn, hb1, hBn⟩
  case rest =>
    clear X Y hB JS
    obtain ⟨b1, rfl, rfl, X, Y, P, hp, hB⟩ := hcut
    obtain ⟨hzx, x0, x1, x2⟩ := X.c3
    obtain ⟨hzy, y0, y1, y2⟩ := Y.c3
    go_wp2_with fail
    clear hzx x0 x1 x2 hzy y0 y1 y2
    go_cut [8, 9] from 20 (fun s8 s9 wc => ∃ b : Nat, s8 = .pointer (some ⟨b, 0, none⟩) ∧ s9 = .bool rb ∧ Box wc w.heap.size [.int .i64 n, .string s, .int .i64 m] ∧ Box wc (w.heap.size + 1) [.int .i64 n2, .string s2, .int .i64 m2] ∧ Box wc b1 [.int .i64 rn, .string rs, .int .i64 rm] ∧ Box wc b [.int .i64 rn, .string rs, .int .i64 rm] ∧ w.heap.size + 1 < b ∧ Below w.heap.size w wc)
    case first =>
      have hD : Below (wc).heap.size (wc) (wc).drew := (Below.refl _ _).drew
      replace X := X.below hD
      replace Y := Y.below hD
      replace P := P.below hD
      replace hB := below_then hB hD
      clear hD
      refine wp_region_held_drew (S := fun w' => Box w' w.heap.size [.int .i64 n, .string s, .int .i64 m] ∧ Box w' (w.heap.size + 1) [.int .i64 n2, .string s2, .int .i64 m2]) (by kernel_rfl) ⟨X, Y⟩ (fun hHeld => ?_)
      generalize (wc).drew = v0 at *
      refine wpAnyH_take (i := 0) (oi := { dst := some 29, op := Op.load 47 (Operand.tmp 2), type := 47, pos := "exact.go:6392", after := #[], guard := none }) (v := .agg #[.int .i64 n, .string s, .int .i64 m]) rfl (by kernel_rfl) (by kernel_rfl) (by kernel_rfl) (fun _ _ _ h => h) (Or.inl ⟨by rfl, ?_⟩) (by assumption) ?_
      · intro wx hSw
        obtain ⟨hx, x0, x1, x2⟩ := Box.c3 hSw.1; clear hSw hHeld; go_simp
      simp only [Act.put, List.setIfInBounds_toArray, List.set_cons_zero, List.set_cons_succ]
      refine wpAnyH_take (i := 2) (oi := { dst := some 31, op := Op.load 47 (Operand.tmp 3), type := 47, pos := "exact.go:6392", after := #[], guard := none }) (v := .agg #[.int .i64 n2, .string s2, .int .i64 m2]) rfl (by kernel_rfl) (by kernel_rfl) (by kernel_rfl) (fun _ _ _ h => h) (Or.inl ⟨by rfl, ?_⟩) (by assumption) ?_
      · intro wx hSw
        obtain ⟨hx, x0, x1, x2⟩ := Box.c3 hSw.2; clear hSw hHeld; go_simp
      simp only [Act.put, List.setIfInBounds_toArray, List.set_cons_zero, List.set_cons_succ]
      refine wpAnyH_ready (rs := [1, 8]) (by kernel_rfl) (by simp) ?_
      refine (AllReadyH.cons (o := { dst := some 30, op := Op.call { callee := Callee.value (Operand.func 31), args := #[Operand.tmp 29], argTypes := #[47] }, type := 24, pos := "exact.go:6392", after := #[{ on := 0, ground := Ground.data }], guard := none }) rfl (fun K hK => ?_) (AllReadyH.cons (o := { dst := some 8, op := Op.alloc 24, type := 0, pos := "exact.go:6392", after := #[], guard := none }) rfl (fun K hK => ?_) AllReadyH.nil))
      · clear hHeld
        go_simp
        refine (toFilter_any n s m _).mono ?_
        rintro e v1 ⟨rfl, hbv⟩
        replace X := X.below hbv
        replace Y := Y.below hbv
        replace P := P.below hbv
        replace hB := below_then hB hbv
        clear hbv
        refine hK.out _ _ ⟨X, Y⟩ (fun hHeld => ?_)
        clear hK K
        refine wpAnyH_ready (rs := [3, 8]) (by kernel_rfl) (by simp) ?_
        refine (AllReadyH.cons (o := { dst := some 32, op := Op.call { callee := Callee.value (Operand.func 31), args := #[Operand.tmp 31], argTypes := #[47] }, type := 24, pos := "exact.go:6392", after := #[{ on := 2, ground := Ground.data }, { on := 1, ground := Ground.chain }], guard := none }) rfl (fun K hK => ?_) (AllReadyH.cons (o := { dst := some 8, op := Op.alloc 24, type := 0, pos := "exact.go:6392", after := #[], guard := none }) rfl (fun K hK => ?_) AllReadyH.nil))
        · clear hHeld
          go_simp
          refine (toFilter_any n2 s2 m2 _).mono ?_
          rintro e v2 ⟨rfl, hbv⟩
          replace X := X.below hbv
          replace Y := Y.below hbv
          replace P := P.below hbv
          replace hB := below_then hB hbv
          clear hbv
          refine hK.out _ _ ⟨X, Y⟩ (fun hHeld => ?_)
          clear hK K
          refine wpAnyH_ready (rs := [4, 8]) (by kernel_rfl) (by simp) ?_
          refine (AllReadyH.cons (o := { dst := some 33, op := Op.call { callee := Callee.value (Operand.func 23), args := #[Operand.tmp 30, Operand.tmp 32], argTypes := #[24, 24] }, type := 27, pos := "exact.go:6392", after := #[{ on := 1, ground := Ground.data }, { on := 3, ground := Ground.data }, { on := 3, ground := Ground.chain }], guard := none }) rfl (fun K hK => ?_) (AllReadyH.cons (o := { dst := some 8, op := Op.alloc 24, type := 0, pos := "exact.go:6392", after := #[], guard := none }) rfl (fun K hK => ?_) AllReadyH.nil))
          · clear hHeld
            go_simp
            refine (JI _).mono ?_
            rintro e v3 ⟨rfl, hbv⟩
            replace X := X.below hbv
            replace Y := Y.below hbv
            replace P := P.below hbv
            replace hB := below_then hB hbv
            clear hbv
            refine hK.out _ _ ⟨X, Y⟩ (fun hHeld => ?_)
            clear hK K
            refine wpAnyH_take (i := 5) (oi := { dst := some 28, op := Op.move (Operand.tmp 33), type := 27, pos := "exact.go:6392", after := #[{ on := 4, ground := Ground.data }], guard := none }) (v := .tuple #[.agg #[.int .i64 rn, .string rs, .int .i64 rm], .bool rb]) rfl (by kernel_rfl) (by kernel_rfl) (by kernel_rfl) (fun _ _ _ h => h) (Or.inl ⟨by rfl, ?_⟩) (by assumption) ?_
            · intro wx hSw
              clear hSw hHeld; go_simp
            simp only [Act.put, List.setIfInBounds_toArray, List.set_cons_zero, List.set_cons_succ]
            refine wpAnyH_take (i := 6) (oi := { dst := some 34, op := Op.extract (Operand.tmp 28) 0, type := 24, pos := "exact.go:6392", after := #[{ on := 5, ground := Ground.data }], guard := none }) (v := .agg #[.int .i64 rn, .string rs, .int .i64 rm]) rfl (by kernel_rfl) (by kernel_rfl) (by kernel_rfl) (fun _ _ _ h => h) (Or.inl ⟨by rfl, ?_⟩) (by assumption) ?_
            · intro wx hSw
              clear hSw hHeld; go_simp
            simp only [Act.put, List.setIfInBounds_toArray, List.set_cons_zero, List.set_cons_succ]
            refine wpAnyH_take (i := 7) (oi := { dst := some 35, op := Op.extract (Operand.tmp 28) 1, type := 4, pos := "exact.go:6392", after := #[{ on := 5, ground := Ground.data }, { on := 9, ground := Ground.gcOnly Departure.lateStores }], guard := none }) (v := .bool rb) rfl (by kernel_rfl) (by kernel_rfl) (by kernel_rfl) (fun _ _ _ h => h) (Or.inl ⟨by rfl, ?_⟩) (by assumption) ?_
            · intro wx hSw
              clear hSw hHeld; go_simp
            simp only [Act.put, List.setIfInBounds_toArray, List.set_cons_zero, List.set_cons_succ]
            refine wpAnyH_ready (rs := [8]) (by kernel_rfl) (by simp) ?_
            refine (AllReadyH.cons (o := { dst := some 8, op := Op.alloc 24, type := 0, pos := "exact.go:6392", after := #[], guard := none }) rfl (fun K hK => ?_) AllReadyH.nil)
            clear hHeld
            have Z := Box.new v3 #[.int .i64 0, .string ⟨#[]⟩, .int .i64 0] 24
            have hb1 : w.heap.size + 1 < v3.heap.size := Y.1
            have hkP := P.1
            replace X := X.alloc (.cells #[.int .i64 0, .string ⟨#[]⟩, .int .i64 0] 24)
            replace Y := Y.alloc (.cells #[.int .i64 0, .string ⟨#[]⟩, .int .i64 0] 24)
            replace P := P.alloc (.cells #[.int .i64 0, .string ⟨#[]⟩, .int .i64 0] 24)
            replace hB := hB.alloc hB.size (.cells #[.int .i64 0, .string ⟨#[]⟩, .int .i64 0] 24)
            go_simp
            refine hK.out _ _ ⟨X, Y⟩ (fun hHeld => ?_)
            clear hK K
            generalize v3.alloc (.cells #[.int .i64 0, .string ⟨#[]⟩, .int .i64 0] 24) = v4 at *
            generalize v3.heap.size = b at *
            refine wpAnyH_ready (rs := [9]) (by kernel_rfl) (by simp) ?_
            refine (AllReadyH.cons (o := { dst := none, op := Op.store 24 (Operand.tmp 8) (Operand.tmp 34), type := 0, pos := "exact.go:6392", after := #[{ on := 8, ground := Ground.data }, { on := 6, ground := Ground.data }, { on := 4, ground := Ground.chain }, { on := 0, ground := Ground.phase }, { on := 1, ground := Ground.phase }, { on := 2, ground := Ground.phase }, { on := 3, ground := Ground.phase }, { on := 4, ground := Ground.phase }, { on := 5, ground := Ground.phase }, { on := 6, ground := Ground.phase }, { on := 7, ground := Ground.textOnly Departure.lateStores }, { on := 8, ground := Ground.phase }], guard := none }) rfl (fun K hK => ?_) AllReadyH.nil)
            clear hHeld
            obtain ⟨⟨f0, f1, f2⟩, zz, t0, t1, t2⟩ := Z.f3
            have Xn := (put3_chg v4 b (.int .i64 rn) (.string rs) (.int .i64 rm)).box X (by omega)
            have Yn := (put3_chg v4 b (.int .i64 rn) (.string rs) (.int .i64 rm)).box Y (by omega)
            have Pn := (put3_chg v4 b (.int .i64 rn) (.string rs) (.int .i64 rm)).box P (by omega)
            have Zn := put3_box Z (.int .i64 rn) (.string rs) (.int .i64 rm)
            have hBn := (put3_ok hB (by omega) Z (.int .i64 rn) (.string rs) (.int .i64 rm)).2
            go_simp
            refine hK.out _ (put3 v4 b (.int .i64 rn) (.string rs) (.int .i64 rm)) ⟨Xn, Yn⟩ (fun hHeld => ?_)
            clear hK K t0 t1 t2 f0 f1 f2
            refine wpAnyH_take (i := 10) (oi := { dst := some 9, op := Op.assign (Operand.tmp 35), type := 4, pos := "exact.go:6392", after := #[{ on := 7, ground := Ground.data }, { on := 9, ground := Ground.chain }, { on := 0, ground := Ground.phase }, { on := 1, ground := Ground.phase }, { on := 2, ground := Ground.phase }, { on := 3, ground := Ground.phase }, { on := 4, ground := Ground.phase }, { on := 5, ground := Ground.phase }, { on := 6, ground := Ground.phase }, { on := 7, ground := Ground.phase }, { on := 8, ground := Ground.phase }, { on := 9, ground := Ground.phase }], guard := none }) (v := .bool rb) rfl (by kernel_rfl) (by kernel_rfl) (by kernel_rfl) (fun _ _ _ h => h) (Or.inl ⟨by rfl, ?_⟩) (by assumption) ?_
            · intro wx hSw
              clear hSw hHeld; go_simp
            simp only [Act.put, List.setIfInBounds_toArray, List.set_cons_zero, List.set_cons_succ]
            refine wpAnyH_done (by kernel_rfl) ?_ _
            go_wp2_with fail
            go_meet
            case rel => exact ⟨b, rfl, rfl, Xn, Yn, Pn, Zn, hb1, hBn⟩
          · clear hHeld
            have Z := Box.new v2 #[.int .i64 0, .string ⟨#[]⟩, .int .i64 0] 24
            have hb1 : w.heap.size + 1 < v2.heap.size := Y.1
            have hkP := P.1
            replace X := X.alloc (.cells #[.int .i64 0, .string ⟨#[]⟩, .int .i64 0] 24)
            replace Y := Y.alloc (.cells #[.int .i64 0, .string ⟨#[]⟩, .int .i64 0] 24)
            replace P := P.alloc (.cells #[.int .i64 0, .string ⟨#[]⟩, .int .i64 0] 24)
            replace hB := hB.alloc hB.size (.cells #[.int .i64 0, .string ⟨#[]⟩, .int .i64 0] 24)
            go_simp
            refine hK.out _ _ ⟨X, Y⟩ (fun hHeld => ?_)
            clear hK K
            generalize v2.alloc (.cells #[.int .i64 0, .string ⟨#[]⟩, .int .i64 0] 24) = v5 at *
            generalize v2.heap.size = b at *
            refine wpAnyH_ready (rs := [4]) (by kernel_rfl) (by simp) ?_
            refine (AllReadyH.cons (o := { dst := some 33, op := Op.call { callee := Callee.value (Operand.func 23), args := #[Operand.tmp 30, Operand.tmp 32], argTypes := #[24, 24] }, type := 27, pos := "exact.go:6392", after := #[{ on := 1, ground := Ground.data }, { on := 3, ground := Ground.data }, { on := 3, ground := Ground.chain }], guard := none }) rfl (fun K hK => ?_) AllReadyH.nil)
            clear hHeld
            go_simp
            refine (JI _).mono ?_
            rintro e v6 ⟨rfl, hbv⟩
            replace X := X.below hbv
            replace Y := Y.below hbv
            replace P := P.below hbv
            replace Z := Z.below hbv
            replace hB := below_then hB hbv
            clear hbv
            refine hK.out _ _ ⟨X, Y⟩ (fun hHeld => ?_)
            clear hK K
            refine wpAnyH_take (i := 5) (oi := { dst := some 28, op := Op.move (Operand.tmp 33), type := 27, pos := "exact.go:6392", after := #[{ on := 4, ground := Ground.data }], guard := none }) (v := .tuple #[.agg #[.int .i64 rn, .string rs, .int .i64 rm], .bool rb]) rfl (by kernel_rfl) (by kernel_rfl) (by kernel_rfl) (fun _ _ _ h => h) (Or.inl ⟨by rfl, ?_⟩) (by assumption) ?_
            · intro wx hSw
              clear hSw hHeld; go_simp
            simp only [Act.put, List.setIfInBounds_toArray, List.set_cons_zero, List.set_cons_succ]
            refine wpAnyH_take (i := 6) (oi := { dst := some 34, op := Op.extract (Operand.tmp 28) 0, type := 24, pos := "exact.go:6392", after := #[{ on := 5, ground := Ground.data }], guard := none }) (v := .agg #[.int .i64 rn, .string rs, .int .i64 rm]) rfl (by kernel_rfl) (by kernel_rfl) (by kernel_rfl) (fun _ _ _ h => h) (Or.inl ⟨by rfl, ?_⟩) (by assumption) ?_
            · intro wx hSw
              clear hSw hHeld; go_simp
            simp only [Act.put, List.setIfInBounds_toArray, List.set_cons_zero, List.set_cons_succ]
            refine wpAnyH_take (i := 7) (oi := { dst := some 35, op := Op.extract (Operand.tmp 28) 1, type := 4, pos := "exact.go:6392", after := #[{ on := 5, ground := Ground.data }, { on := 9, ground := Ground.gcOnly Departure.lateStores }], guard := none }) (v := .bool rb) rfl (by kernel_rfl) (by kernel_rfl) (by kernel_rfl) (fun _ _ _ h => h) (Or.inl ⟨by rfl, ?_⟩) (by assumption) ?_
            · intro wx hSw
              clear hSw hHeld; go_simp
            simp only [Act.put, List.setIfInBounds_toArray, List.set_cons_zero, List.set_cons_succ]
            refine wpAnyH_ready (rs := [9]) (by kernel_rfl) (by simp) ?_
            refine (AllReadyH.cons (o := { dst := none, op := Op.store 24 (Operand.tmp 8) (Operand.tmp 34), type := 0, pos := "exact.go:6392", after := #[{ on := 8, ground := Ground.data }, { on := 6, ground := Ground.data }, { on := 4, ground := Ground.chain }, { on := 0, ground := Ground.phase }, { on := 1, ground := Ground.phase }, { on := 2, ground := Ground.phase }, { on := 3, ground := Ground.phase }, { on := 4, ground := Ground.phase }, { on := 5, ground := Ground.phase }, { on := 6, ground := Ground.phase }, { on := 7, ground := Ground.textOnly Departure.lateStores }, { on := 8, ground := Ground.phase }], guard := none }) rfl (fun K hK => ?_) AllReadyH.nil)
            clear hHeld
            obtain ⟨⟨f0, f1, f2⟩, zz, t0, t1, t2⟩ := Z.f3
            have Xn := (put3_chg v6 b (.int .i64 rn) (.string rs) (.int .i64 rm)).box X (by omega)
            have Yn := (put3_chg v6 b (.int .i64 rn) (.string rs) (.int .i64 rm)).box Y (by omega)
            have Pn := (put3_chg v6 b (.int .i64 rn) (.string rs) (.int .i64 rm)).box P (by omega)
            have Zn := put3_box Z (.int .i64 rn) (.string rs) (.int .i64 rm)
            have hBn := (put3_ok hB (by omega) Z (.int .i64 rn) (.string rs) (.int .i64 rm)).2
            go_simp
            refine hK.out _ (put3 v6 b (.int .i64 rn) (.string rs) (.int .i64 rm)) ⟨Xn, Yn⟩ (fun hHeld => ?_)
            clear hK K t0 t1 t2 f0 f1 f2
            refine wpAnyH_take (i := 10) (oi := { dst := some 9, op := Op.assign (Operand.tmp 35), type := 4, pos := "exact.go:6392", after := #[{ on := 7, ground := Ground.data }, { on := 9, ground := Ground.chain }, { on := 0, ground := Ground.phase }, { on := 1, ground := Ground.phase }, { on := 2, ground := Ground.phase }, { on := 3, ground := Ground.phase }, { on := 4, ground := Ground.phase }, { on := 5, ground := Ground.phase }, { on := 6, ground := Ground.phase }, { on := 7, ground := Ground.phase }, { on := 8, ground := Ground.phase }, { on := 9, ground := Ground.phase }], guard := none }) (v := .bool rb) rfl (by kernel_rfl) (by kernel_rfl) (by kernel_rfl) (fun _ _ _ h => h) (Or.inl ⟨by rfl, ?_⟩) (by assumption) ?_
            · intro wx hSw
              clear hSw hHeld; go_simp
            simp only [Act.put, List.setIfInBounds_toArray, List.set_cons_zero, List.set_cons_succ]
            refine wpAnyH_done (by kernel_rfl) ?_ _
            go_wp2_with fail
            go_meet
            case rel => exact ⟨b, rfl, rfl, Xn, Yn, Pn, Zn, hb1, hBn⟩
        · clear hHeld
          have Z := Box.new v1 #[.int .i64 0, .string ⟨#[]⟩, .int .i64 0] 24
          have hb1 : w.heap.size + 1 < v1.heap.size := Y.1
          have hkP := P.1
          replace X := X.alloc (.cells #[.int .i64 0, .string ⟨#[]⟩, .int .i64 0] 24)
          replace Y := Y.alloc (.cells #[.int .i64 0, .string ⟨#[]⟩, .int .i64 0] 24)
          replace P := P.alloc (.cells #[.int .i64 0, .string ⟨#[]⟩, .int .i64 0] 24)
          replace hB := hB.alloc hB.size (.cells #[.int .i64 0, .string ⟨#[]⟩, .int .i64 0] 24)
          go_simp
          refine hK.out _ _ ⟨X, Y⟩ (fun hHeld => ?_)
          clear hK K
          generalize v1.alloc (.cells #[.int .i64 0, .string ⟨#[]⟩, .int .i64 0] 24) = v7 at *
          generalize v1.heap.size = b at *
          refine wpAnyH_ready (rs := [3]) (by kernel_rfl) (by simp) ?_
          refine (AllReadyH.cons (o := { dst := some 32, op := Op.call { callee := Callee.value (Operand.func 31), args := #[Operand.tmp 31], argTypes := #[47] }, type := 24, pos := "exact.go:6392", after := #[{ on := 2, ground := Ground.data }, { on := 1, ground := Ground.chain }], guard := none }) rfl (fun K hK => ?_) AllReadyH.nil)
          clear hHeld
          go_simp
          refine (toFilter_any n2 s2 m2 _).mono ?_
          rintro e v8 ⟨rfl, hbv⟩
          replace X := X.below hbv
          replace Y := Y.below hbv
          replace P := P.below hbv
          replace Z := Z.below hbv
          replace hB := below_then hB hbv
          clear hbv
          refine hK.out _ _ ⟨X, Y⟩ (fun hHeld => ?_)
          clear hK K
          refine wpAnyH_ready (rs := [4]) (by kernel_rfl) (by simp) ?_
          refine (AllReadyH.cons (o := { dst := some 33, op := Op.call { callee := Callee.value (Operand.func 23), args := #[Operand.tmp 30, Operand.tmp 32], argTypes := #[24, 24] }, type := 27, pos := "exact.go:6392", after := #[{ on := 1, ground := Ground.data }, { on := 3, ground := Ground.data }, { on := 3, ground := Ground.chain }], guard := none }) rfl (fun K hK => ?_) AllReadyH.nil)
          clear hHeld
          go_simp
          refine (JI _).mono ?_
          rintro e v9 ⟨rfl, hbv⟩
          replace X := X.below hbv
          replace Y := Y.below hbv
          replace P := P.below hbv
          replace Z := Z.below hbv
          replace hB := below_then hB hbv
          clear hbv
          refine hK.out _ _ ⟨X, Y⟩ (fun hHeld => ?_)
          clear hK K
          refine wpAnyH_take (i := 5) (oi := { dst := some 28, op := Op.move (Operand.tmp 33), type := 27, pos := "exact.go:6392", after := #[{ on := 4, ground := Ground.data }], guard := none }) (v := .tuple #[.agg #[.int .i64 rn, .string rs, .int .i64 rm], .bool rb]) rfl (by kernel_rfl) (by kernel_rfl) (by kernel_rfl) (fun _ _ _ h => h) (Or.inl ⟨by rfl, ?_⟩) (by assumption) ?_
          · intro wx hSw
            clear hSw hHeld; go_simp
          simp only [Act.put, List.setIfInBounds_toArray, List.set_cons_zero, List.set_cons_succ]
          refine wpAnyH_take (i := 6) (oi := { dst := some 34, op := Op.extract (Operand.tmp 28) 0, type := 24, pos := "exact.go:6392", after := #[{ on := 5, ground := Ground.data }], guard := none }) (v := .agg #[.int .i64 rn, .string rs, .int .i64 rm]) rfl (by kernel_rfl) (by kernel_rfl) (by kernel_rfl) (fun _ _ _ h => h) (Or.inl ⟨by rfl, ?_⟩) (by assumption) ?_
          · intro wx hSw
            clear hSw hHeld; go_simp
          simp only [Act.put, List.setIfInBounds_toArray, List.set_cons_zero, List.set_cons_succ]
          refine wpAnyH_take (i := 7) (oi := { dst := some 35, op := Op.extract (Operand.tmp 28) 1, type := 4, pos := "exact.go:6392", after := #[{ on := 5, ground := Ground.data }, { on := 9, ground := Ground.gcOnly Departure.lateStores }], guard := none }) (v := .bool rb) rfl (by kernel_rfl) (by kernel_rfl) (by kernel_rfl) (fun _ _ _ h => h) (Or.inl ⟨by rfl, ?_⟩) (by assumption) ?_
          · intro wx hSw
            clear hSw hHeld; go_simp
          simp only [Act.put, List.setIfInBounds_toArray, List.set_cons_zero, List.set_cons_succ]
          refine wpAnyH_ready (rs := [9]) (by kernel_rfl) (by simp) ?_
          refine (AllReadyH.cons (o := { dst := none, op := Op.store 24 (Operand.tmp 8) (Operand.tmp 34), type := 0, pos := "exact.go:6392", after := #[{ on := 8, ground := Ground.data }, { on := 6, ground := Ground.data }, { on := 4, ground := Ground.chain }, { on := 0, ground := Ground.phase }, { on := 1, ground := Ground.phase }, { on := 2, ground := Ground.phase }, { on := 3, ground := Ground.phase }, { on := 4, ground := Ground.phase }, { on := 5, ground := Ground.phase }, { on := 6, ground := Ground.phase }, { on := 7, ground := Ground.textOnly Departure.lateStores }, { on := 8, ground := Ground.phase }], guard := none }) rfl (fun K hK => ?_) AllReadyH.nil)
          clear hHeld
          obtain ⟨⟨f0, f1, f2⟩, zz, t0, t1, t2⟩ := Z.f3
          have Xn := (put3_chg v9 b (.int .i64 rn) (.string rs) (.int .i64 rm)).box X (by omega)
          have Yn := (put3_chg v9 b (.int .i64 rn) (.string rs) (.int .i64 rm)).box Y (by omega)
          have Pn := (put3_chg v9 b (.int .i64 rn) (.string rs) (.int .i64 rm)).box P (by omega)
          have Zn := put3_box Z (.int .i64 rn) (.string rs) (.int .i64 rm)
          have hBn := (put3_ok hB (by omega) Z (.int .i64 rn) (.string rs) (.int .i64 rm)).2
          go_simp
          refine hK.out _ (put3 v9 b (.int .i64 rn) (.string rs) (.int .i64 rm)) ⟨Xn, Yn⟩ (fun hHeld => ?_)
          clear hK K t0 t1 t2 f0 f1 f2
          refine wpAnyH_take (i := 10) (oi := { dst := some 9, op := Op.assign (Operand.tmp 35), type := 4, pos := "exact.go:6392", after := #[{ on := 7, ground := Ground.data }, { on := 9, ground := Ground.chain }, { on := 0, ground := Ground.phase }, { on := 1, ground := Ground.phase }, { on := 2, ground := Ground.phase }, { on := 3, ground := Ground.phase }, { on := 4, ground := Ground.phase }, { on := 5, ground := Ground.phase }, { on := 6, ground := Ground.phase }, { on := 7, ground := Ground.phase }, { on := 8, ground := Ground.phase }, { on := 9, ground := Ground.phase }], guard := none }) (v := .bool rb) rfl (by kernel_rfl) (by kernel_rfl) (by kernel_rfl) (fun _ _ _ h => h) (Or.inl ⟨by rfl, ?_⟩) (by assumption) ?_
          · intro wx hSw
            clear hSw hHeld; go_simp
          simp only [Act.put, List.setIfInBounds_toArray, List.set_cons_zero, List.set_cons_succ]
          refine wpAnyH_done (by kernel_rfl) ?_ _
          go_wp2_with fail
          go_meet
          case rel => exact ⟨b, rfl, rfl, Xn, Yn, Pn, Zn, hb1, hBn⟩
      · clear hHeld
        have Z := Box.new v0 #[.int .i64 0, .string ⟨#[]⟩, .int .i64 0] 24
        have hb1 : w.heap.size + 1 < v0.heap.size := Y.1
        have hkP := P.1
        replace X := X.alloc (.cells #[.int .i64 0, .string ⟨#[]⟩, .int .i64 0] 24)
        replace Y := Y.alloc (.cells #[.int .i64 0, .string ⟨#[]⟩, .int .i64 0] 24)
        replace P := P.alloc (.cells #[.int .i64 0, .string ⟨#[]⟩, .int .i64 0] 24)
        replace hB := hB.alloc hB.size (.cells #[.int .i64 0, .string ⟨#[]⟩, .int .i64 0] 24)
        go_simp
        refine hK.out _ _ ⟨X, Y⟩ (fun hHeld => ?_)
        clear hK K
        generalize v0.alloc (.cells #[.int .i64 0, .string ⟨#[]⟩, .int .i64 0] 24) = v10 at *
        generalize v0.heap.size = b at *
        refine wpAnyH_ready (rs := [1]) (by kernel_rfl) (by simp) ?_
        refine (AllReadyH.cons (o := { dst := some 30, op := Op.call { callee := Callee.value (Operand.func 31), args := #[Operand.tmp 29], argTypes := #[47] }, type := 24, pos := "exact.go:6392", after := #[{ on := 0, ground := Ground.data }], guard := none }) rfl (fun K hK => ?_) AllReadyH.nil)
        clear hHeld
        go_simp
        refine (toFilter_any n s m _).mono ?_
        rintro e v11 ⟨rfl, hbv⟩
        replace X := X.below hbv
        replace Y := Y.below hbv
        replace P := P.below hbv
        replace Z := Z.below hbv
        replace hB := below_then hB hbv
        clear hbv
        refine hK.out _ _ ⟨X, Y⟩ (fun hHeld => ?_)
        clear hK K
        refine wpAnyH_ready (rs := [3]) (by kernel_rfl) (by simp) ?_
        refine (AllReadyH.cons (o := { dst := some 32, op := Op.call { callee := Callee.value (Operand.func 31), args := #[Operand.tmp 31], argTypes := #[47] }, type := 24, pos := "exact.go:6392", after := #[{ on := 2, ground := Ground.data }, { on := 1, ground := Ground.chain }], guard := none }) rfl (fun K hK => ?_) AllReadyH.nil)
        clear hHeld
        go_simp
        refine (toFilter_any n2 s2 m2 _).mono ?_
        rintro e v12 ⟨rfl, hbv⟩
        replace X := X.below hbv
        replace Y := Y.below hbv
        replace P := P.below hbv
        replace Z := Z.below hbv
        replace hB := below_then hB hbv
        clear hbv
        refine hK.out _ _ ⟨X, Y⟩ (fun hHeld => ?_)
        clear hK K
        refine wpAnyH_ready (rs := [4]) (by kernel_rfl) (by simp) ?_
        refine (AllReadyH.cons (o := { dst := some 33, op := Op.call { callee := Callee.value (Operand.func 23), args := #[Operand.tmp 30, Operand.tmp 32], argTypes := #[24, 24] }, type := 27, pos := "exact.go:6392", after := #[{ on := 1, ground := Ground.data }, { on := 3, ground := Ground.data }, { on := 3, ground := Ground.chain }], guard := none }) rfl (fun K hK => ?_) AllReadyH.nil)
        clear hHeld
        go_simp
        refine (JI _).mono ?_
        rintro e v13 ⟨rfl, hbv⟩
        replace X := X.below hbv
        replace Y := Y.below hbv
        replace P := P.below hbv
        replace Z := Z.below hbv
        replace hB := below_then hB hbv
        clear hbv
        refine hK.out _ _ ⟨X, Y⟩ (fun hHeld => ?_)
        clear hK K
        refine wpAnyH_take (i := 5) (oi := { dst := some 28, op := Op.move (Operand.tmp 33), type := 27, pos := "exact.go:6392", after := #[{ on := 4, ground := Ground.data }], guard := none }) (v := .tuple #[.agg #[.int .i64 rn, .string rs, .int .i64 rm], .bool rb]) rfl (by kernel_rfl) (by kernel_rfl) (by kernel_rfl) (fun _ _ _ h => h) (Or.inl ⟨by rfl, ?_⟩) (by assumption) ?_
        · intro wx hSw
          clear hSw hHeld; go_simp
        simp only [Act.put, List.setIfInBounds_toArray, List.set_cons_zero, List.set_cons_succ]
        refine wpAnyH_take (i := 6) (oi := { dst := some 34, op := Op.extract (Operand.tmp 28) 0, type := 24, pos := "exact.go:6392", after := #[{ on := 5, ground := Ground.data }], guard := none }) (v := .agg #[.int .i64 rn, .string rs, .int .i64 rm]) rfl (by kernel_rfl) (by kernel_rfl) (by kernel_rfl) (fun _ _ _ h => h) (Or.inl ⟨by rfl, ?_⟩) (by assumption) ?_
        · intro wx hSw
          clear hSw hHeld; go_simp
        simp only [Act.put, List.setIfInBounds_toArray, List.set_cons_zero, List.set_cons_succ]
        refine wpAnyH_take (i := 7) (oi := { dst := some 35, op := Op.extract (Operand.tmp 28) 1, type := 4, pos := "exact.go:6392", after := #[{ on := 5, ground := Ground.data }, { on := 9, ground := Ground.gcOnly Departure.lateStores }], guard := none }) (v := .bool rb) rfl (by kernel_rfl) (by kernel_rfl) (by kernel_rfl) (fun _ _ _ h => h) (Or.inl ⟨by rfl, ?_⟩) (by assumption) ?_
        · intro wx hSw
          clear hSw hHeld; go_simp
        simp only [Act.put, List.setIfInBounds_toArray, List.set_cons_zero, List.set_cons_succ]
        refine wpAnyH_ready (rs := [9]) (by kernel_rfl) (by simp) ?_
        refine (AllReadyH.cons (o := { dst := none, op := Op.store 24 (Operand.tmp 8) (Operand.tmp 34), type := 0, pos := "exact.go:6392", after := #[{ on := 8, ground := Ground.data }, { on := 6, ground := Ground.data }, { on := 4, ground := Ground.chain }, { on := 0, ground := Ground.phase }, { on := 1, ground := Ground.phase }, { on := 2, ground := Ground.phase }, { on := 3, ground := Ground.phase }, { on := 4, ground := Ground.phase }, { on := 5, ground := Ground.phase }, { on := 6, ground := Ground.phase }, { on := 7, ground := Ground.textOnly Departure.lateStores }, { on := 8, ground := Ground.phase }], guard := none }) rfl (fun K hK => ?_) AllReadyH.nil)
        clear hHeld
        obtain ⟨⟨f0, f1, f2⟩, zz, t0, t1, t2⟩ := Z.f3
        have Xn := (put3_chg v13 b (.int .i64 rn) (.string rs) (.int .i64 rm)).box X (by omega)
        have Yn := (put3_chg v13 b (.int .i64 rn) (.string rs) (.int .i64 rm)).box Y (by omega)
        have Pn := (put3_chg v13 b (.int .i64 rn) (.string rs) (.int .i64 rm)).box P (by omega)
        have Zn := put3_box Z (.int .i64 rn) (.string rs) (.int .i64 rm)
        have hBn := (put3_ok hB (by omega) Z (.int .i64 rn) (.string rs) (.int .i64 rm)).2
        go_simp
        refine hK.out _ (put3 v13 b (.int .i64 rn) (.string rs) (.int .i64 rm)) ⟨Xn, Yn⟩ (fun hHeld => ?_)
        clear hK K t0 t1 t2 f0 f1 f2
        refine wpAnyH_take (i := 10) (oi := { dst := some 9, op := Op.assign (Operand.tmp 35), type := 4, pos := "exact.go:6392", after := #[{ on := 7, ground := Ground.data }, { on := 9, ground := Ground.chain }, { on := 0, ground := Ground.phase }, { on := 1, ground := Ground.phase }, { on := 2, ground := Ground.phase }, { on := 3, ground := Ground.phase }, { on := 4, ground := Ground.phase }, { on := 5, ground := Ground.phase }, { on := 6, ground := Ground.phase }, { on := 7, ground := Ground.phase }, { on := 8, ground := Ground.phase }, { on := 9, ground := Ground.phase }], guard := none }) (v := .bool rb) rfl (by kernel_rfl) (by kernel_rfl) (by kernel_rfl) (fun _ _ _ h => h) (Or.inl ⟨by rfl, ?_⟩) (by assumption) ?_
        · intro wx hSw
          clear hSw hHeld; go_simp
        simp only [Act.put, List.setIfInBounds_toArray, List.set_cons_zero, List.set_cons_succ]
        refine wpAnyH_done (by kernel_rfl) ?_ _
        go_wp2_with fail
        go_meet
        case rel => exact ⟨b, rfl, rfl, Xn, Yn, Pn, Zn, hb1, hBn⟩
    case rest =>
      clear X Y P hB JI
      obtain ⟨b2, rfl, rfl, X, Y, P, Q, hq, hB⟩ := hcut
      obtain ⟨_, p0, p1, p2⟩ := P.c3
      obtain ⟨_, q0, q1, q2⟩ := Q.c3
      go_wp2_with fail
      refine (eqFilter_same rn rs rm _).mono ?_
      rintro e w8 ⟨rfl, hb8⟩
      replace hB := below_then hB hb8
      clear X Y P Q p0 p1 p2 q0 q1 q2 hb8
      cases rb
      all_goals
        go_wp2
        go_ret
        exact ⟨rfl, hB⟩
set_option maxRecDepth 100000 in
set_option maxHeartbeats 2000000 in
theorem lawJoin (n : Int) (s : ByteArray) (m : Int) (n2 : Int) (s2 : ByteArray) (m2 : Int) (w : World) (hs : s.size ≤ maxLen) (hs2 : s2.size ≤ maxLen) :
    Calls Try.prog 10 #[.agg #[.int .i64 n, .string s, .int .i64 m], .agg #[.int .i64 n2, .string s2, .int .i64 m2]] w fun e w' => e = .returned (.bool true) ∧ Below w.heap.size w w' := by
  have SZ := fun w => szFilter_any n s m 1048576 (by unfold maxLen at hs; omega) (by omega) w
  have HZ : szL s 1048576 = -1 ∨ (0 ≤ szL s 1048576 ∧ szL s 1048576 ≤ 1048576) := by unfold szL; split <;> omega
  have Y : Box ((w.alloc (.cells #[.int .i64 n, .string s, .int .i64 m] 47)).alloc (.cells #[.int .i64 n2, .string s2, .int .i64 m2] 47)) (w.heap.size + 1) [.int .i64 n2, .string s2, .int .i64 m2] := by
    simpa using Box.new (w.alloc (.cells #[.int .i64 n, .string s, .int .i64 m] 47)) #[.int .i64 n2, .string s2, .int .i64 m2] 47
  have hB := below2 w (.cells #[.int .i64 n, .string s, .int .i64 m] 47) (.cells #[.int .i64 n2, .string s2, .int .i64 m2] 47)
  generalize szL s 1048576 = left at *
  rcases HZ with rfl | ⟨hl, hz⟩
  · go_enter Try.func10, Try.ntmps10
    go_wp2_with fail
    refine (SZ _).mono ?_
    rintro e w1 ⟨rfl, hb1⟩
    replace hB := below_then hB hb1
    clear SZ Y hb1
    go_wp2
    go_ret
    exact ⟨rfl, hB⟩
  · have SZ2 := fun w => szFilter_any n2 s2 m2 left (by unfold maxLen at hs2; omega) ⟨hl, hz⟩ w
    have HZ2 : szL s2 left = -1 ∨ 0 ≤ szL s2 left := by unfold szL; split <;> omega
    generalize szL s2 left = left2 at *
    rcases HZ2 with rfl | hl2
    · go_enter Try.func10, Try.ntmps10
      go_wp2_with fail
      refine (SZ _).mono ?_
      rintro e w1 ⟨rfl, hb1⟩
      replace Y := Y.below hb1
      replace hB := below_then hB hb1
      clear SZ hb1
      obtain ⟨_, y0, y1, y2⟩ := Y.c3
      go_wp2_with fail
      refine (SZ2 _).mono ?_
      rintro e w2 ⟨rfl, hb2⟩
      replace hB := below_then hB hb2
      clear SZ2 hb2 y0 y1 y2 Y
      go_wp2
      go_ret
      exact ⟨rfl, hB⟩
    · exact lawJoin_fit n s m n2 s2 m2 w hs hs2 left left2 hl hl2 SZ SZ2
end Go.Proofs.Ytdcglghmhjbkkaa
