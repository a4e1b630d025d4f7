/-
  The walk of FnExactApplyEdit.
-/
import Derived.Test.YtenbdjlhcadhaaaAPS
import Derived.Test.YtenbdjlhcadhaaaA9
import Derived.Test.YtenbdjlhcadhaaaBB
import Derived.Deep.Cut
namespace Go.Proofs.Ytenbdjlhcadhaaa
open Go.RowKit
set_option linter.unusedVariables false
set_option maxRecDepth 100000

set_option maxHeartbeats 16000000 in
theorem lawApplyEdit (nx1 sq1 : Int) (v1 : Value) (l1 : List Mt) (nx2 sq2 : Int) (q2 : Value) (dr2 : List Int) (v2 : Value) (l2 : List Mt) (w : World) (hv1 : IR w v1 l1) (hn1 : l1.length ≤ maxLen) (hs1 : ∀ i (h : i < l1.length), l1[i].k.size ≤ maxLen ∧ l1[i].v.size ≤ maxLen) (hq2 : IL w q2 dr2) (hd2 : dr2.length ≤ maxLen) (hv2 : IR w v2 l2) (hn2 : l2.length ≤ maxLen) (hs2 : ∀ i (h : i < l2.length), l2[i].k.size ≤ maxLen ∧ l2[i].v.size ≤ maxLen) :
    Calls Try.prog 6 #[.agg #[.int .i64 nx1, .int .i64 sq1, v1], .agg #[.int .i64 nx2, .int .i64 sq2, q2, v2]] w fun e w' => e = .returned (.bool true) ∧ Below w.heap.size w w' := by
  obtain ⟨a1, ca1, hve, _⟩ := id hv1
  subst hve
  obtain ⟨qa2, qc2, hqe, _⟩ := id hq2
  subst hqe
  obtain ⟨a2, ca2, hve, _⟩ := id hv2
  subst hve
  obtain ⟨W0, hW0⟩ : ∃ W0, W0 = (w.alloc (.cells #[.int .i64 nx1, .int .i64 sq1, .slice a1 l1.length ca1] 49)).alloc (.cells #[.int .i64 nx2, .int .i64 sq2, .slice qa2 dr2.length qc2, .slice a2 l2.length ca2] 55) := ⟨_, rfl⟩
  have hB : Below w.heap.size w W0 := by rw [hW0]; exact below2 _ _ _
  have X : Box W0 w.heap.size [.int .i64 nx1, .int .i64 sq1, .slice a1 l1.length ca1] := by rw [hW0]; exact (Box.new w #[.int .i64 nx1, .int .i64 sq1, .slice a1 l1.length ca1] 49).alloc _
  have Y : Box W0 (w.heap.size + 1) [.int .i64 nx2, .int .i64 sq2, .slice qa2 dr2.length qc2, .slice a2 l2.length ca2] := by
    rw [hW0]
    have := Box.new (w.alloc (.cells #[.int .i64 nx1, .int .i64 sq1, .slice a1 l1.length ca1] 49)) #[.int .i64 nx2, .int .i64 sq2, .slice qa2 dr2.length qc2, .slice a2 l2.length ca2] 55
    simpa using this
  go_enter Try.func6, Try.ntmps6
  go_wp2_with fail
  rw [← hW0]; clear hW0
  refine (szVersion_any nx1 sq1 _ l1 1048576 _ (hv1.below hB) (by omega) (by omega) hn1 hs1).mono ?_
  rintro e w1 ⟨⟨r1, rfl, hr⟩, hb1⟩
  replace hB := below_then hB hb1
  replace X := X.below hb1
  replace Y := Y.below hb1
  clear hb1
  rcases hr with rfl | ⟨hr0, hr1⟩
  · clear X Y hv1 hv2 hq2
    go_wp2
    go_ret
    exact ⟨rfl, hB⟩
  have yl := Y.1
  have y0 := Y.2.1 0 _ rfl
  have y1 := Y.2.1 1 _ rfl
  have y2 := Y.2.1 2 _ rfl
  have y3 := Y.2.1 3 _ rfl
  go_wp2_with fail
  refine (szEdit_any nx2 sq2 _ _ dr2 l2 r1 _ (hq2.below hB) (hv2.below hB) (by omega) (by omega) hd2 hn2 hs2).mono ?_
  rintro e w2 ⟨⟨r2, rfl, hr⟩, hb2⟩
  replace hB := below_then hB hb2
  replace X := X.below hb2
  replace Y := Y.below hb2
  clear yl y0 y1 y2 y3
  clear hb2
  rcases hr with rfl | ⟨hr2, hr3⟩
  · clear X Y hv1 hv2 hq2
    go_wp2
    go_ret
    exact ⟨rfl, hB⟩
  replace hn1 : l1.length ≤ 1048576 := by omega
  replace hs1 : ∀ i (h : i < l1.length), l1[i].k.size ≤ 1048576 ∧ l1[i].v.size ≤ 1048576 := fun i h => by have := tot4_mem l1 i h; omega
  replace hn2 : l2.length ≤ 1048576 := by omega
  replace hd2 : dr2.length ≤ 1048576 := by omega
  replace hs2 : ∀ i (h : i < l2.length), l2[i].k.size ≤ 1048576 ∧ l2[i].v.size ≤ 1048576 := fun i h => by have := tot4_mem l2 i h; omega
  clear hr1 hr3
  have T1 := fun w h => toVersion_any nx1 sq1 (.slice a1 l1.length ca1) l1 w h hn1
  have T2 := fun w h h' => toEdit_any nx2 sq2 (.slice qa2 dr2.length qc2) (.slice a2 l2.length ca2) dr2 l2 w h h' hd2 hn2
  have S := fun {u q u' w} h h1 h' => specApply_any nx1 sq1 nx2 sq2 u q u' l1 dr2 l2 w h h1 h' hn1 hd2 hn2 hs1 hs2
  have I := fun {u q u' w} h h1 h' => implApply_any nx1 sq1 nx2 sq2 u q u' l1 dr2 l2 w h h1 h' hn1 hd2 hn2 hs1 hs2
  have HL := (show (apA nx1 sq1 l1 nx2 sq2 dr2 l2).length ≤ 30 from by unfold apA; split; (rename_i h; unfold apB at h; simp only [Bool.and_eq_true] at h; exact goodV_len h.2); simp)
  generalize apX nx1 sq1 l1 nx2 sq2 dr2 l2 = RX at *
  generalize apY nx1 sq1 l1 nx2 sq2 dr2 l2 = RY at *
  generalize apA nx1 sq1 l1 nx2 sq2 dr2 l2 = RA at *
  generalize apB nx1 sq1 l1 nx2 sq2 dr2 l2 = ok at *
  have NB := fun w => run_neq_bool_same w ok
  clear hs1 hs2
  have xl := X.1
  have x0 := X.2.1 0 _ rfl
  have x1 := X.2.1 1 _ rfl
  have x2 := X.2.1 2 _ rfl
  have yl := Y.1
  have y0 := Y.2.1 0 _ rfl
  have y1 := Y.2.1 1 _ rfl
  have y2 := Y.2.1 2 _ rfl
  have y3 := Y.2.1 3 _ rfl
  go_wp2_with fail
  clear xl x0 x1 x2 yl y0 y1 y2 y3
  go_cut [6, 7] from 17 (fun s6 s7 wc => ∃ (b : Nat) (Paa : Option Addr) (Pac : Nat), s6 = .pointer (some ⟨b, 0, none⟩) ∧ s7 = .bool ok ∧ Box wc w.heap.size [.int .i64 nx1, .int .i64 sq1, .slice a1 l1.length ca1] ∧ Box wc (w.heap.size + 1) [.int .i64 nx2, .int .i64 sq2, .slice qa2 dr2.length qc2, .slice a2 l2.length ca2] ∧ Box wc b [.int .i64 RX, .int .i64 RY, .slice Paa RA.length Pac] ∧ wc.ownsRow w.heap.size 82 4 (.slice Paa RA.length Pac) RA.length (flat4 RA) ∧ w.heap.size + 1 < b ∧ Below w.heap.size w wc)
  case first =>
    have hD : Below (w2).heap.size (w2) (w2).drew := (Below.refl _ _).drew
    replace hB := below_then hB hD
    replace X := X.below hD
    replace Y := Y.below hD
    clear hD
    refine wp_region_held_drew (S := fun w' => Box w' w.heap.size [.int .i64 nx1, .int .i64 sq1, .slice a1 l1.length ca1] ∧ Box w' (w.heap.size + 1) [.int .i64 nx2, .int .i64 sq2, .slice qa2 dr2.length qc2, .slice a2 l2.length ca2]) (by kernel_rfl) ⟨X, Y⟩ (fun hHeld => ?_)
    generalize (w2).drew = v0 at *
    refine wpAnyH_take (i := 0) (oi := { dst := some 28, op := Op.load 49 (Operand.tmp 2), type := 49, pos := "exact.go:7042", after := #[], guard := none }) (v := .agg #[.int .i64 nx1, .int .i64 sq1, .slice a1 l1.length ca1]) rfl (by kernel_rfl) (by kernel_rfl) (by kernel_rfl) (fun _ _ _ h => h) (Or.inl ⟨by rfl, ?_⟩) (by assumption) ?_
    · intro wx hSw
      have e0 := hSw.1.2.1 0 _ rfl; have e1 := hSw.1.2.1 1 _ rfl; have e2 := hSw.1.2.1 2 _ rfl; clear hHeld; go_simp
    simp only [Act.put, List.setIfInBounds_toArray, List.set_cons_zero, List.set_cons_succ]
    refine wpAnyH_take (i := 2) (oi := { dst := some 30, op := Op.load 55 (Operand.tmp 3), type := 55, pos := "exact.go:7042", after := #[], guard := none }) (v := .agg #[.int .i64 nx2, .int .i64 sq2, .slice qa2 dr2.length qc2, .slice a2 l2.length ca2]) rfl (by kernel_rfl) (by kernel_rfl) (by kernel_rfl) (fun _ _ _ h => h) (Or.inl ⟨by rfl, ?_⟩) (by assumption) ?_
    · intro wx hSw
      have e0 := hSw.2.2.1 0 _ rfl; have e1 := hSw.2.2.1 1 _ rfl; have e2 := hSw.2.2.1 2 _ rfl; have e3 := hSw.2.2.1 3 _ rfl; clear hHeld; go_simp
    simp only [Act.put, List.setIfInBounds_toArray, List.set_cons_zero, List.set_cons_succ]
    refine wpAnyH_ready (rs := [1, 8]) (by kernel_rfl) (by simp) ?_
    refine (AllReadyH.cons (o := { dst := some 29, op := Op.call { callee := Callee.value (Operand.func 32), args := #[Operand.tmp 28], argTypes := #[49] }, type := 25, pos := "exact.go:7042", after := #[{ on := 0, ground := Ground.data }], guard := none }) rfl (fun K hK => ?_) (AllReadyH.cons (o := { dst := some 6, op := Op.alloc 25, type := 0, pos := "exact.go:7042", after := #[], guard := none }) rfl (fun K hK => ?_) AllReadyH.nil))
    · clear hHeld
      go_simp
      refine (T1 _ (hv1.below hB)).mono ?_
      rintro e v1 ⟨g3, rfl, o3, hbv⟩
      have hzc := hB.size
      replace hB := below_then hB hbv
      replace X := X.below hbv
      replace Y := Y.below hbv
      clear hbv hzc
      refine hK.out _ _ ⟨X, Y⟩ (fun hHeld => ?_)
      clear hK K
      refine wpAnyH_ready (rs := [3, 8]) (by kernel_rfl) (by simp) ?_
      refine (AllReadyH.cons (o := { dst := some 31, op := Op.call { callee := Callee.value (Operand.func 35), args := #[Operand.tmp 30], argTypes := #[55] }, type := 30, pos := "exact.go:7042", after := #[{ on := 2, ground := Ground.data }, { on := 1, ground := Ground.chain }], guard := none }) rfl (fun K hK => ?_) (AllReadyH.cons (o := { dst := some 6, op := Op.alloc 25, type := 0, pos := "exact.go:7042", after := #[], guard := none }) rfl (fun K hK => ?_) AllReadyH.nil))
      · clear hHeld
        go_simp
        refine (T2 _ (hq2.below hB) (hv2.below hB)).mono ?_
        rintro e v2 ⟨gq4, g4, rfl, oq4, o4, hbv⟩
        have hzc := hB.size
        replace hB := below_then hB hbv
        replace X := X.below hbv
        replace Y := Y.below hbv
        replace o3 := owns_below o3 hbv
        clear hbv hzc
        refine hK.out _ _ ⟨X, Y⟩ (fun hHeld => ?_)
        clear hK K
        refine wpAnyH_ready (rs := [4, 8]) (by kernel_rfl) (by simp) ?_
        refine (AllReadyH.cons (o := { dst := some 32, op := Op.call { callee := Callee.value (Operand.func 17), args := #[Operand.tmp 29, Operand.tmp 31], argTypes := #[25, 30] }, type := 33, pos := "exact.go:7042", after := #[{ on := 1, ground := Ground.data }, { on := 3, ground := Ground.data }, { on := 3, ground := Ground.chain }], guard := none }) rfl (fun K hK => ?_) (AllReadyH.cons (o := { dst := some 6, op := Op.alloc 25, type := 0, pos := "exact.go:7042", after := #[], guard := none }) rfl (fun K hK => ?_) AllReadyH.nil))
        · clear hHeld
          go_simp
          refine (S (IX_of_owns o3 rfl) (IL_of_owns oq4 (by simp)) (IR_of_owns o4 rfl)).mono ?_
          rintro e v3 ⟨Pu2, rfl, PA, hbv⟩
          have hzc := hB.size
          replace hB := below_then hB hbv
          replace X := X.below hbv
          replace Y := Y.below hbv
          replace o3 := owns_below o3 hbv
          replace oq4 := owns_below oq4 hbv
          replace o4 := owns_below o4 hbv
          obtain ⟨Paa, Pac, rfl⟩ := owns_shape PA
          replace PA := owns_mono PA hzc
          clear hbv hzc
          refine hK.out _ _ ⟨X, Y⟩ (fun hHeld => ?_)
          clear hK K
          refine wpAnyH_take (i := 5) (oi := { dst := some 27, op := Op.move (Operand.tmp 32), type := 33, pos := "exact.go:7042", after := #[{ on := 4, ground := Ground.data }], guard := none }) (v := .tuple #[.agg #[.int .i64 RX, .int .i64 RY, .slice Paa RA.length Pac], .bool ok]) rfl (by kernel_rfl) (by kernel_rfl) (by kernel_rfl) (fun _ _ _ h => h) (Or.inl ⟨by rfl, ?_⟩) (by assumption) ?_
          · intro wx hSw
            clear hSw hHeld; go_simp
          simp only [Act.put, List.setIfInBounds_toArray, List.set_cons_zero, List.set_cons_succ]
          refine wpAnyH_take (i := 6) (oi := { dst := some 33, op := Op.extract (Operand.tmp 27) 0, type := 25, pos := "exact.go:7042", after := #[{ on := 5, ground := Ground.data }], guard := none }) (v := .agg #[.int .i64 RX, .int .i64 RY, .slice Paa RA.length Pac]) rfl (by kernel_rfl) (by kernel_rfl) (by kernel_rfl) (fun _ _ _ h => h) (Or.inl ⟨by rfl, ?_⟩) (by assumption) ?_
          · intro wx hSw
            clear hSw hHeld; go_simp
          simp only [Act.put, List.setIfInBounds_toArray, List.set_cons_zero, List.set_cons_succ]
          refine wpAnyH_take (i := 7) (oi := { dst := some 34, op := Op.extract (Operand.tmp 27) 1, type := 4, pos := "exact.go:7042", after := #[{ on := 5, ground := Ground.data }, { on := 9, ground := Ground.gcOnly Departure.lateStores }], guard := none }) (v := .bool ok) rfl (by kernel_rfl) (by kernel_rfl) (by kernel_rfl) (fun _ _ _ h => h) (Or.inl ⟨by rfl, ?_⟩) (by assumption) ?_
          · intro wx hSw
            clear hSw hHeld; go_simp
          simp only [Act.put, List.setIfInBounds_toArray, List.set_cons_zero, List.set_cons_succ]
          refine wpAnyH_ready (rs := [8]) (by kernel_rfl) (by simp) ?_
          refine (AllReadyH.cons (o := { dst := some 6, op := Op.alloc 25, type := 0, pos := "exact.go:7042", after := #[], guard := none }) rfl (fun K hK => ?_) AllReadyH.nil)
          clear hHeld
          have Z := Box.new v3 #[.int .i64 0, .int .i64 0, .slice none 0 0] 25
          have hkX := X.1
          have hkY := Y.1
          have hko3 := owns_below_lt o3
          have hkoq4 := owns_below_lt oq4
          have hko4 := owns_below_lt o4
          have hkPA := owns_below_lt PA
          have hkw := hB.size
          have hA := below_alloc v3 (.cells #[.int .i64 0, .int .i64 0, .slice none 0 0] 25)
          replace hB := below_then hB hA
          replace X := X.below hA
          replace Y := Y.below hA
          replace o3 := owns_below o3 hA
          replace oq4 := owns_below oq4 hA
          replace o4 := owns_below o4 hA
          replace PA := owns_below PA hA
          clear hA
          go_simp
          refine hK.out _ _ ⟨X, Y⟩ (fun hHeld => ?_)
          clear hK K
          generalize v3.alloc (.cells #[.int .i64 0, .int .i64 0, .slice none 0 0] 25) = v4 at *
          generalize v3.heap.size = b at *
          have neo3 := fun g hg => Nat.ne_of_lt (hko3 g hg)
          clear hko3
          have neoq4 := fun g hg => Nat.ne_of_lt (hkoq4 g hg)
          clear hkoq4
          have neo4 := fun g hg => Nat.ne_of_lt (hko4 g hg)
          clear hko4
          have nePA := fun g hg => Nat.ne_of_lt (hkPA g hg)
          clear hkPA
          refine wpAnyH_ready (rs := [9]) (by kernel_rfl) (by simp) ?_
          refine (AllReadyH.cons (o := { dst := none, op := Op.store 25 (Operand.tmp 6) (Operand.tmp 33), type := 0, pos := "exact.go:7042", after := #[{ on := 8, ground := Ground.data }, { on := 6, ground := Ground.data }, { on := 4, ground := Ground.chain }, { on := 0, ground := Ground.phase }, { on := 1, ground := Ground.phase }, { on := 2, ground := Ground.phase }, { on := 3, ground := Ground.phase }, { on := 4, ground := Ground.phase }, { on := 5, ground := Ground.phase }, { on := 6, ground := Ground.phase }, { on := 7, ground := Ground.textOnly Departure.lateStores }, { on := 8, ground := Ground.phase }], guard := none }) rfl (fun K hK => ?_) AllReadyH.nil)
          clear hHeld
          obtain ⟨zl, t0, t1, t2, f0, f1, f2⟩ := Z.c3
          have hC := put3_chg v4 b (.int .i64 RX) (.int .i64 RY) (.slice Paa RA.length Pac)
          have Xn := hC.box X (by omega)
          have Yn := hC.box Y (by omega)
          have PAn := hC.owns PA (fun g hg hh => nePA g hg hh)
          have Zn := put3_box Z (.int .i64 RX) (.int .i64 RY) (.slice Paa RA.length Pac)
          have hBn := hB.trans (hC.below (B := w.heap.size) hB.size (fun k hk => by omega))
          clear hC
          go_simp
          refine hK.out _ (put3 v4 b (.int .i64 RX) (.int .i64 RY) (.slice Paa RA.length Pac)) ⟨Xn, Yn⟩ (fun hHeld => ?_)
          clear hK K t0 t1 t2 f0 f1 f2
          refine wpAnyH_take (i := 10) (oi := { dst := some 7, op := Op.assign (Operand.tmp 34), type := 4, pos := "exact.go:7042", after := #[{ on := 7, ground := Ground.data }, { on := 9, ground := Ground.chain }, { on := 0, ground := Ground.phase }, { on := 1, ground := Ground.phase }, { on := 2, ground := Ground.phase }, { on := 3, ground := Ground.phase }, { on := 4, ground := Ground.phase }, { on := 5, ground := Ground.phase }, { on := 6, ground := Ground.phase }, { on := 7, ground := Ground.phase }, { on := 8, ground := Ground.phase }, { on := 9, ground := Ground.phase }], guard := none }) (v := .bool ok) rfl (by kernel_rfl) (by kernel_rfl) (by kernel_rfl) (fun _ _ _ h => h) (Or.inl ⟨by rfl, ?_⟩) (by assumption) ?_
          · intro wx hSw
            clear hSw hHeld; go_simp
          simp only [Act.put, List.setIfInBounds_toArray, List.set_cons_zero, List.set_cons_succ]
          clear hHeld
          refine wpAnyH_done (by kernel_rfl) ?_ _
          go_wp2_with fail
          go_meet
          case rel => exact ⟨b, _, _, rfl, rfl, Xn, Yn, Zn, PAn, by omega, hBn⟩
        · clear hHeld
          have Z := Box.new v2 #[.int .i64 0, .int .i64 0, .slice none 0 0] 25
          have hkX := X.1
          have hkY := Y.1
          have hko3 := owns_below_lt o3
          have hkoq4 := owns_below_lt oq4
          have hko4 := owns_below_lt o4
          have hkw := hB.size
          have hA := below_alloc v2 (.cells #[.int .i64 0, .int .i64 0, .slice none 0 0] 25)
          replace hB := below_then hB hA
          replace X := X.below hA
          replace Y := Y.below hA
          replace o3 := owns_below o3 hA
          replace oq4 := owns_below oq4 hA
          replace o4 := owns_below o4 hA
          clear hA
          go_simp
          refine hK.out _ _ ⟨X, Y⟩ (fun hHeld => ?_)
          clear hK K
          generalize v2.alloc (.cells #[.int .i64 0, .int .i64 0, .slice none 0 0] 25) = v5 at *
          generalize v2.heap.size = b at *
          have neo3 := fun g hg => Nat.ne_of_lt (hko3 g hg)
          clear hko3
          have neoq4 := fun g hg => Nat.ne_of_lt (hkoq4 g hg)
          clear hkoq4
          have neo4 := fun g hg => Nat.ne_of_lt (hko4 g hg)
          clear hko4
          refine wpAnyH_ready (rs := [4]) (by kernel_rfl) (by simp) ?_
          refine (AllReadyH.cons (o := { dst := some 32, op := Op.call { callee := Callee.value (Operand.func 17), args := #[Operand.tmp 29, Operand.tmp 31], argTypes := #[25, 30] }, type := 33, pos := "exact.go:7042", after := #[{ on := 1, ground := Ground.data }, { on := 3, ground := Ground.data }, { on := 3, ground := Ground.chain }], guard := none }) rfl (fun K hK => ?_) AllReadyH.nil)
          clear hHeld
          go_simp
          refine (S (IX_of_owns o3 rfl) (IL_of_owns oq4 (by simp)) (IR_of_owns o4 rfl)).mono ?_
          rintro e v6 ⟨Pu2, rfl, PA, hbv⟩
          have hzb := Z.1
          have hzc := hB.size
          replace hB := below_then hB hbv
          replace X := X.below hbv
          replace Y := Y.below hbv
          replace o3 := owns_below o3 hbv
          replace oq4 := owns_below oq4 hbv
          replace o4 := owns_below o4 hbv
          replace Z := Z.below hbv
          obtain ⟨Paa, Pac, rfl⟩ := owns_shape PA
          have nePA := fun g hg => Nat.ne_of_gt (Nat.lt_of_lt_of_le hzb (owns_ge PA g hg))
          replace PA := owns_mono PA hzc
          clear hbv hzc
          refine hK.out _ _ ⟨X, Y⟩ (fun hHeld => ?_)
          clear hK K
          refine wpAnyH_take (i := 5) (oi := { dst := some 27, op := Op.move (Operand.tmp 32), type := 33, pos := "exact.go:7042", after := #[{ on := 4, ground := Ground.data }], guard := none }) (v := .tuple #[.agg #[.int .i64 RX, .int .i64 RY, .slice Paa RA.length Pac], .bool ok]) rfl (by kernel_rfl) (by kernel_rfl) (by kernel_rfl) (fun _ _ _ h => h) (Or.inl ⟨by rfl, ?_⟩) (by assumption) ?_
          · intro wx hSw
            clear hSw hHeld; go_simp
          simp only [Act.put, List.setIfInBounds_toArray, List.set_cons_zero, List.set_cons_succ]
          refine wpAnyH_take (i := 6) (oi := { dst := some 33, op := Op.extract (Operand.tmp 27) 0, type := 25, pos := "exact.go:7042", after := #[{ on := 5, ground := Ground.data }], guard := none }) (v := .agg #[.int .i64 RX, .int .i64 RY, .slice Paa RA.length Pac]) rfl (by kernel_rfl) (by kernel_rfl) (by kernel_rfl) (fun _ _ _ h => h) (Or.inl ⟨by rfl, ?_⟩) (by assumption) ?_
          · intro wx hSw
            clear hSw hHeld; go_simp
          simp only [Act.put, List.setIfInBounds_toArray, List.set_cons_zero, List.set_cons_succ]
          refine wpAnyH_take (i := 7) (oi := { dst := some 34, op := Op.extract (Operand.tmp 27) 1, type := 4, pos := "exact.go:7042", after := #[{ on := 5, ground := Ground.data }, { on := 9, ground := Ground.gcOnly Departure.lateStores }], guard := none }) (v := .bool ok) rfl (by kernel_rfl) (by kernel_rfl) (by kernel_rfl) (fun _ _ _ h => h) (Or.inl ⟨by rfl, ?_⟩) (by assumption) ?_
          · intro wx hSw
            clear hSw hHeld; go_simp
          simp only [Act.put, List.setIfInBounds_toArray, List.set_cons_zero, List.set_cons_succ]
          refine wpAnyH_ready (rs := [9]) (by kernel_rfl) (by simp) ?_
          refine (AllReadyH.cons (o := { dst := none, op := Op.store 25 (Operand.tmp 6) (Operand.tmp 33), type := 0, pos := "exact.go:7042", after := #[{ on := 8, ground := Ground.data }, { on := 6, ground := Ground.data }, { on := 4, ground := Ground.chain }, { on := 0, ground := Ground.phase }, { on := 1, ground := Ground.phase }, { on := 2, ground := Ground.phase }, { on := 3, ground := Ground.phase }, { on := 4, ground := Ground.phase }, { on := 5, ground := Ground.phase }, { on := 6, ground := Ground.phase }, { on := 7, ground := Ground.textOnly Departure.lateStores }, { on := 8, ground := Ground.phase }], guard := none }) rfl (fun K hK => ?_) AllReadyH.nil)
          clear hHeld
          obtain ⟨zl, t0, t1, t2, f0, f1, f2⟩ := Z.c3
          have hC := put3_chg v6 b (.int .i64 RX) (.int .i64 RY) (.slice Paa RA.length Pac)
          have Xn := hC.box X (by omega)
          have Yn := hC.box Y (by omega)
          have PAn := hC.owns PA (fun g hg hh => nePA g hg hh)
          have Zn := put3_box Z (.int .i64 RX) (.int .i64 RY) (.slice Paa RA.length Pac)
          have hBn := hB.trans (hC.below (B := w.heap.size) hB.size (fun k hk => by omega))
          clear hC
          go_simp
          refine hK.out _ (put3 v6 b (.int .i64 RX) (.int .i64 RY) (.slice Paa RA.length Pac)) ⟨Xn, Yn⟩ (fun hHeld => ?_)
          clear hK K t0 t1 t2 f0 f1 f2
          refine wpAnyH_take (i := 10) (oi := { dst := some 7, op := Op.assign (Operand.tmp 34), type := 4, pos := "exact.go:7042", after := #[{ on := 7, ground := Ground.data }, { on := 9, ground := Ground.chain }, { on := 0, ground := Ground.phase }, { on := 1, ground := Ground.phase }, { on := 2, ground := Ground.phase }, { on := 3, ground := Ground.phase }, { on := 4, ground := Ground.phase }, { on := 5, ground := Ground.phase }, { on := 6, ground := Ground.phase }, { on := 7, ground := Ground.phase }, { on := 8, ground := Ground.phase }, { on := 9, ground := Ground.phase }], guard := none }) (v := .bool ok) rfl (by kernel_rfl) (by kernel_rfl) (by kernel_rfl) (fun _ _ _ h => h) (Or.inl ⟨by rfl, ?_⟩) (by assumption) ?_
          · intro wx hSw
            clear hSw hHeld; go_simp
          simp only [Act.put, List.setIfInBounds_toArray, List.set_cons_zero, List.set_cons_succ]
          clear hHeld
          refine wpAnyH_done (by kernel_rfl) ?_ _
          go_wp2_with fail
          go_meet
          case rel => exact ⟨b, _, _, rfl, rfl, Xn, Yn, Zn, PAn, by omega, hBn⟩
      · clear hHeld
        have Z := Box.new v1 #[.int .i64 0, .int .i64 0, .slice none 0 0] 25
        have hkX := X.1
        have hkY := Y.1
        have hko3 := owns_below_lt o3
        have hkw := hB.size
        have hA := below_alloc v1 (.cells #[.int .i64 0, .int .i64 0, .slice none 0 0] 25)
        replace hB := below_then hB hA
        replace X := X.below hA
        replace Y := Y.below hA
        replace o3 := owns_below o3 hA
        clear hA
        go_simp
        refine hK.out _ _ ⟨X, Y⟩ (fun hHeld => ?_)
        clear hK K
        generalize v1.alloc (.cells #[.int .i64 0, .int .i64 0, .slice none 0 0] 25) = v7 at *
        generalize v1.heap.size = b at *
        have neo3 := fun g hg => Nat.ne_of_lt (hko3 g hg)
        clear hko3
        refine wpAnyH_ready (rs := [3]) (by kernel_rfl) (by simp) ?_
        refine (AllReadyH.cons (o := { dst := some 31, op := Op.call { callee := Callee.value (Operand.func 35), args := #[Operand.tmp 30], argTypes := #[55] }, type := 30, pos := "exact.go:7042", after := #[{ on := 2, ground := Ground.data }, { on := 1, ground := Ground.chain }], guard := none }) rfl (fun K hK => ?_) AllReadyH.nil)
        clear hHeld
        go_simp
        refine (T2 _ (hq2.below hB) (hv2.below hB)).mono ?_
        rintro e v8 ⟨gq4, g4, rfl, oq4, o4, hbv⟩
        have hzb := Z.1
        have hzc := hB.size
        replace hB := below_then hB hbv
        replace X := X.below hbv
        replace Y := Y.below hbv
        replace o3 := owns_below o3 hbv
        replace Z := Z.below hbv
        clear hbv hzc
        refine hK.out _ _ ⟨X, Y⟩ (fun hHeld => ?_)
        clear hK K
        refine wpAnyH_ready (rs := [4]) (by kernel_rfl) (by simp) ?_
        refine (AllReadyH.cons (o := { dst := some 32, op := Op.call { callee := Callee.value (Operand.func 17), args := #[Operand.tmp 29, Operand.tmp 31], argTypes := #[25, 30] }, type := 33, pos := "exact.go:7042", after := #[{ on := 1, ground := Ground.data }, { on := 3, ground := Ground.data }, { on := 3, ground := Ground.chain }], guard := none }) rfl (fun K hK => ?_) AllReadyH.nil)
        clear hHeld
        go_simp
        refine (S (IX_of_owns o3 rfl) (IL_of_owns oq4 (by simp)) (IR_of_owns o4 rfl)).mono ?_
        rintro e v9 ⟨Pu2, rfl, PA, hbv⟩
        have hzb := Z.1
        have hzc := hB.size
        replace hB := below_then hB hbv
        replace X := X.below hbv
        replace Y := Y.below hbv
        replace o3 := owns_below o3 hbv
        replace Z := Z.below hbv
        replace oq4 := owns_below oq4 hbv
        replace o4 := owns_below o4 hbv
        obtain ⟨Paa, Pac, rfl⟩ := owns_shape PA
        have nePA := fun g hg => Nat.ne_of_gt (Nat.lt_of_lt_of_le hzb (owns_ge PA g hg))
        replace PA := owns_mono PA hzc
        clear hbv hzc
        refine hK.out _ _ ⟨X, Y⟩ (fun hHeld => ?_)
        clear hK K
        refine wpAnyH_take (i := 5) (oi := { dst := some 27, op := Op.move (Operand.tmp 32), type := 33, pos := "exact.go:7042", after := #[{ on := 4, ground := Ground.data }], guard := none }) (v := .tuple #[.agg #[.int .i64 RX, .int .i64 RY, .slice Paa RA.length Pac], .bool ok]) rfl (by kernel_rfl) (by kernel_rfl) (by kernel_rfl) (fun _ _ _ h => h) (Or.inl ⟨by rfl, ?_⟩) (by assumption) ?_
        · intro wx hSw
          clear hSw hHeld; go_simp
        simp only [Act.put, List.setIfInBounds_toArray, List.set_cons_zero, List.set_cons_succ]
        refine wpAnyH_take (i := 6) (oi := { dst := some 33, op := Op.extract (Operand.tmp 27) 0, type := 25, pos := "exact.go:7042", after := #[{ on := 5, ground := Ground.data }], guard := none }) (v := .agg #[.int .i64 RX, .int .i64 RY, .slice Paa RA.length Pac]) rfl (by kernel_rfl) (by kernel_rfl) (by kernel_rfl) (fun _ _ _ h => h) (Or.inl ⟨by rfl, ?_⟩) (by assumption) ?_
        · intro wx hSw
          clear hSw hHeld; go_simp
        simp only [Act.put, List.setIfInBounds_toArray, List.set_cons_zero, List.set_cons_succ]
        refine wpAnyH_take (i := 7) (oi := { dst := some 34, op := Op.extract (Operand.tmp 27) 1, type := 4, pos := "exact.go:7042", after := #[{ on := 5, ground := Ground.data }, { on := 9, ground := Ground.gcOnly Departure.lateStores }], guard := none }) (v := .bool ok) rfl (by kernel_rfl) (by kernel_rfl) (by kernel_rfl) (fun _ _ _ h => h) (Or.inl ⟨by rfl, ?_⟩) (by assumption) ?_
        · intro wx hSw
          clear hSw hHeld; go_simp
        simp only [Act.put, List.setIfInBounds_toArray, List.set_cons_zero, List.set_cons_succ]
        refine wpAnyH_ready (rs := [9]) (by kernel_rfl) (by simp) ?_
        refine (AllReadyH.cons (o := { dst := none, op := Op.store 25 (Operand.tmp 6) (Operand.tmp 33), type := 0, pos := "exact.go:7042", after := #[{ on := 8, ground := Ground.data }, { on := 6, ground := Ground.data }, { on := 4, ground := Ground.chain }, { on := 0, ground := Ground.phase }, { on := 1, ground := Ground.phase }, { on := 2, ground := Ground.phase }, { on := 3, ground := Ground.phase }, { on := 4, ground := Ground.phase }, { on := 5, ground := Ground.phase }, { on := 6, ground := Ground.phase }, { on := 7, ground := Ground.textOnly Departure.lateStores }, { on := 8, ground := Ground.phase }], guard := none }) rfl (fun K hK => ?_) AllReadyH.nil)
        clear hHeld
        obtain ⟨zl, t0, t1, t2, f0, f1, f2⟩ := Z.c3
        have hC := put3_chg v9 b (.int .i64 RX) (.int .i64 RY) (.slice Paa RA.length Pac)
        have Xn := hC.box X (by omega)
        have Yn := hC.box Y (by omega)
        have PAn := hC.owns PA (fun g hg hh => nePA g hg hh)
        have Zn := put3_box Z (.int .i64 RX) (.int .i64 RY) (.slice Paa RA.length Pac)
        have hBn := hB.trans (hC.below (B := w.heap.size) hB.size (fun k hk => by omega))
        clear hC
        go_simp
        refine hK.out _ (put3 v9 b (.int .i64 RX) (.int .i64 RY) (.slice Paa RA.length Pac)) ⟨Xn, Yn⟩ (fun hHeld => ?_)
        clear hK K t0 t1 t2 f0 f1 f2
        refine wpAnyH_take (i := 10) (oi := { dst := some 7, op := Op.assign (Operand.tmp 34), type := 4, pos := "exact.go:7042", after := #[{ on := 7, ground := Ground.data }, { on := 9, ground := Ground.chain }, { on := 0, ground := Ground.phase }, { on := 1, ground := Ground.phase }, { on := 2, ground := Ground.phase }, { on := 3, ground := Ground.phase }, { on := 4, ground := Ground.phase }, { on := 5, ground := Ground.phase }, { on := 6, ground := Ground.phase }, { on := 7, ground := Ground.phase }, { on := 8, ground := Ground.phase }, { on := 9, ground := Ground.phase }], guard := none }) (v := .bool ok) rfl (by kernel_rfl) (by kernel_rfl) (by kernel_rfl) (fun _ _ _ h => h) (Or.inl ⟨by rfl, ?_⟩) (by assumption) ?_
        · intro wx hSw
          clear hSw hHeld; go_simp
        simp only [Act.put, List.setIfInBounds_toArray, List.set_cons_zero, List.set_cons_succ]
        clear hHeld
        refine wpAnyH_done (by kernel_rfl) ?_ _
        go_wp2_with fail
        go_meet
        case rel => exact ⟨b, _, _, rfl, rfl, Xn, Yn, Zn, PAn, by omega, hBn⟩
    · clear hHeld
      have Z := Box.new v0 #[.int .i64 0, .int .i64 0, .slice none 0 0] 25
      have hkX := X.1
      have hkY := Y.1
      have hkw := hB.size
      have hA := below_alloc v0 (.cells #[.int .i64 0, .int .i64 0, .slice none 0 0] 25)
      replace hB := below_then hB hA
      replace X := X.below hA
      replace Y := Y.below hA
      clear hA
      go_simp
      refine hK.out _ _ ⟨X, Y⟩ (fun hHeld => ?_)
      clear hK K
      generalize v0.alloc (.cells #[.int .i64 0, .int .i64 0, .slice none 0 0] 25) = v10 at *
      generalize v0.heap.size = b at *
      refine wpAnyH_ready (rs := [1]) (by kernel_rfl) (by simp) ?_
      refine (AllReadyH.cons (o := { dst := some 29, op := Op.call { callee := Callee.value (Operand.func 32), args := #[Operand.tmp 28], argTypes := #[49] }, type := 25, pos := "exact.go:7042", after := #[{ on := 0, ground := Ground.data }], guard := none }) rfl (fun K hK => ?_) AllReadyH.nil)
      clear hHeld
      go_simp
      refine (T1 _ (hv1.below hB)).mono ?_
      rintro e v11 ⟨g3, rfl, o3, hbv⟩
      have hzb := Z.1
      have hzc := hB.size
      replace hB := below_then hB hbv
      replace X := X.below hbv
      replace Y := Y.below hbv
      replace Z := Z.below hbv
      clear hbv hzc
      refine hK.out _ _ ⟨X, Y⟩ (fun hHeld => ?_)
      clear hK K
      refine wpAnyH_ready (rs := [3]) (by kernel_rfl) (by simp) ?_
      refine (AllReadyH.cons (o := { dst := some 31, op := Op.call { callee := Callee.value (Operand.func 35), args := #[Operand.tmp 30], argTypes := #[55] }, type := 30, pos := "exact.go:7042", after := #[{ on := 2, ground := Ground.data }, { on := 1, ground := Ground.chain }], guard := none }) rfl (fun K hK => ?_) AllReadyH.nil)
      clear hHeld
      go_simp
      refine (T2 _ (hq2.below hB) (hv2.below hB)).mono ?_
      rintro e v12 ⟨gq4, g4, rfl, oq4, o4, hbv⟩
      have hzb := Z.1
      have hzc := hB.size
      replace hB := below_then hB hbv
      replace X := X.below hbv
      replace Y := Y.below hbv
      replace Z := Z.below hbv
      replace o3 := owns_below o3 hbv
      clear hbv hzc
      refine hK.out _ _ ⟨X, Y⟩ (fun hHeld => ?_)
      clear hK K
      refine wpAnyH_ready (rs := [4]) (by kernel_rfl) (by simp) ?_
      refine (AllReadyH.cons (o := { dst := some 32, op := Op.call { callee := Callee.value (Operand.func 17), args := #[Operand.tmp 29, Operand.tmp 31], argTypes := #[25, 30] }, type := 33, pos := "exact.go:7042", after := #[{ on := 1, ground := Ground.data }, { on := 3, ground := Ground.data }, { on := 3, ground := Ground.chain }], guard := none }) rfl (fun K hK => ?_) AllReadyH.nil)
      clear hHeld
      go_simp
      refine (S (IX_of_owns o3 rfl) (IL_of_owns oq4 (by simp)) (IR_of_owns o4 rfl)).mono ?_
      rintro e v13 ⟨Pu2, rfl, PA, hbv⟩
      have hzb := Z.1
      have hzc := hB.size
      replace hB := below_then hB hbv
      replace X := X.below hbv
      replace Y := Y.below hbv
      replace Z := Z.below hbv
      replace o3 := owns_below o3 hbv
      replace oq4 := owns_below oq4 hbv
      replace o4 := owns_below o4 hbv
      obtain ⟨Paa, Pac, rfl⟩ := owns_shape PA
      have nePA := fun g hg => Nat.ne_of_gt (Nat.lt_of_lt_of_le hzb (owns_ge PA g hg))
      replace PA := owns_mono PA hzc
      clear hbv hzc
      refine hK.out _ _ ⟨X, Y⟩ (fun hHeld => ?_)
      clear hK K
      refine wpAnyH_take (i := 5) (oi := { dst := some 27, op := Op.move (Operand.tmp 32), type := 33, pos := "exact.go:7042", after := #[{ on := 4, ground := Ground.data }], guard := none }) (v := .tuple #[.agg #[.int .i64 RX, .int .i64 RY, .slice Paa RA.length Pac], .bool ok]) rfl (by kernel_rfl) (by kernel_rfl) (by kernel_rfl) (fun _ _ _ h => h) (Or.inl ⟨by rfl, ?_⟩) (by assumption) ?_
      · intro wx hSw
        clear hSw hHeld; go_simp
      simp only [Act.put, List.setIfInBounds_toArray, List.set_cons_zero, List.set_cons_succ]
      refine wpAnyH_take (i := 6) (oi := { dst := some 33, op := Op.extract (Operand.tmp 27) 0, type := 25, pos := "exact.go:7042", after := #[{ on := 5, ground := Ground.data }], guard := none }) (v := .agg #[.int .i64 RX, .int .i64 RY, .slice Paa RA.length Pac]) rfl (by kernel_rfl) (by kernel_rfl) (by kernel_rfl) (fun _ _ _ h => h) (Or.inl ⟨by rfl, ?_⟩) (by assumption) ?_
      · intro wx hSw
        clear hSw hHeld; go_simp
      simp only [Act.put, List.setIfInBounds_toArray, List.set_cons_zero, List.set_cons_succ]
      refine wpAnyH_take (i := 7) (oi := { dst := some 34, op := Op.extract (Operand.tmp 27) 1, type := 4, pos := "exact.go:7042", after := #[{ on := 5, ground := Ground.data }, { on := 9, ground := Ground.gcOnly Departure.lateStores }], guard := none }) (v := .bool ok) rfl (by kernel_rfl) (by kernel_rfl) (by kernel_rfl) (fun _ _ _ h => h) (Or.inl ⟨by rfl, ?_⟩) (by assumption) ?_
      · intro wx hSw
        clear hSw hHeld; go_simp
      simp only [Act.put, List.setIfInBounds_toArray, List.set_cons_zero, List.set_cons_succ]
      refine wpAnyH_ready (rs := [9]) (by kernel_rfl) (by simp) ?_
      refine (AllReadyH.cons (o := { dst := none, op := Op.store 25 (Operand.tmp 6) (Operand.tmp 33), type := 0, pos := "exact.go:7042", after := #[{ on := 8, ground := Ground.data }, { on := 6, ground := Ground.data }, { on := 4, ground := Ground.chain }, { on := 0, ground := Ground.phase }, { on := 1, ground := Ground.phase }, { on := 2, ground := Ground.phase }, { on := 3, ground := Ground.phase }, { on := 4, ground := Ground.phase }, { on := 5, ground := Ground.phase }, { on := 6, ground := Ground.phase }, { on := 7, ground := Ground.textOnly Departure.lateStores }, { on := 8, ground := Ground.phase }], guard := none }) rfl (fun K hK => ?_) AllReadyH.nil)
      clear hHeld
      obtain ⟨zl, t0, t1, t2, f0, f1, f2⟩ := Z.c3
      have hC := put3_chg v13 b (.int .i64 RX) (.int .i64 RY) (.slice Paa RA.length Pac)
      have Xn := hC.box X (by omega)
      have Yn := hC.box Y (by omega)
      have PAn := hC.owns PA (fun g hg hh => nePA g hg hh)
      have Zn := put3_box Z (.int .i64 RX) (.int .i64 RY) (.slice Paa RA.length Pac)
      have hBn := hB.trans (hC.below (B := w.heap.size) hB.size (fun k hk => by omega))
      clear hC
      go_simp
      refine hK.out _ (put3 v13 b (.int .i64 RX) (.int .i64 RY) (.slice Paa RA.length Pac)) ⟨Xn, Yn⟩ (fun hHeld => ?_)
      clear hK K t0 t1 t2 f0 f1 f2
      refine wpAnyH_take (i := 10) (oi := { dst := some 7, op := Op.assign (Operand.tmp 34), type := 4, pos := "exact.go:7042", after := #[{ on := 7, ground := Ground.data }, { on := 9, ground := Ground.chain }, { on := 0, ground := Ground.phase }, { on := 1, ground := Ground.phase }, { on := 2, ground := Ground.phase }, { on := 3, ground := Ground.phase }, { on := 4, ground := Ground.phase }, { on := 5, ground := Ground.phase }, { on := 6, ground := Ground.phase }, { on := 7, ground := Ground.phase }, { on := 8, ground := Ground.phase }, { on := 9, ground := Ground.phase }], guard := none }) (v := .bool ok) rfl (by kernel_rfl) (by kernel_rfl) (by kernel_rfl) (fun _ _ _ h => h) (Or.inl ⟨by rfl, ?_⟩) (by assumption) ?_
      · intro wx hSw
        clear hSw hHeld; go_simp
      simp only [Act.put, List.setIfInBounds_toArray, List.set_cons_zero, List.set_cons_succ]
      clear hHeld
      refine wpAnyH_done (by kernel_rfl) ?_ _
      go_wp2_with fail
      go_meet
      case rel => exact ⟨b, _, _, rfl, rfl, Xn, Yn, Zn, PAn, by omega, hBn⟩
  case rest =>
    clear X Y hB S
    obtain ⟨bp, Paa, Pac, rfl, rfl, X, Y, P, PA, hbp, hB⟩ := hcut
    have hlPA := owns_below_lt PA
    have hzc0 := hB.size
    have hxc := X.1
    have hyc := Y.1
    have hpc := P.1
    have xl := X.1
    have x0 := X.2.1 0 _ rfl
    have x1 := X.2.1 1 _ rfl
    have x2 := X.2.1 2 _ rfl
    go_wp2_with fail
    refine (T1 _ (hv1.below hB)).mono ?_
    rintro e w3 ⟨g3, rfl, o3, hb3⟩
    replace hB := below_then hB hb3
    replace X := X.below hb3
    replace Y := Y.below hb3
    replace P := P.below hb3
    replace PA := owns_below PA hb3
    clear xl x0 x1 x2
    have hlo3 := owns_below_lt o3
    have hgo3 := owns_ge o3
    have hz3 := hb3.size
    clear hb3
    have BX := below_alloc w3 (.cells #[.int .i64 nx1, .int .i64 sq1, .slice (some ⟨g3, 0, none⟩) l1.length l1.length] 25)
    have A := Box.new w3 #[.int .i64 nx1, .int .i64 sq1, .slice (some ⟨g3, 0, none⟩) l1.length l1.length] 25
    replace hB := below_then hB BX
    replace X := X.below BX
    replace Y := Y.below BX
    replace P := P.below BX
    replace PA := owns_below PA BX
    replace o3 := owns_below o3 BX
    clear BX
    have yl := Y.1
    have y0 := Y.2.1 0 _ rfl
    have y1 := Y.2.1 1 _ rfl
    have y2 := Y.2.1 2 _ rfl
    have y3 := Y.2.1 3 _ rfl
    go_wp2_with fail
    refine (T2 _ (hq2.below hB) (hv2.below hB)).mono ?_
    rintro e w4 ⟨gq4, g4, rfl, oq4, o4, hb4⟩
    replace hB := below_then hB hb4
    replace X := X.below hb4
    replace Y := Y.below hb4
    replace P := P.below hb4
    replace PA := owns_below PA hb4
    replace o3 := owns_below o3 hb4
    replace A := A.below hb4
    clear yl y0 y1 y2 y3
    have hloq4 := owns_below_lt oq4
    have hgoq4 := owns_ge oq4
    have hlo4 := owns_below_lt o4
    have hgo4 := owns_ge o4
    have hz4 := hb4.size
    simp only [World.size_alloc] at hz4 hgoq4 hgo4
    clear hb4
    have BX := below_alloc w4 (.cells #[.int .i64 nx2, .int .i64 sq2, .slice (some ⟨gq4, 0, none⟩) dr2.length dr2.length, .slice (some ⟨g4, 0, none⟩) l2.length l2.length] 30)
    have B := Box.new w4 #[.int .i64 nx2, .int .i64 sq2, .slice (some ⟨gq4, 0, none⟩) dr2.length dr2.length, .slice (some ⟨g4, 0, none⟩) l2.length l2.length] 30
    replace hB := below_then hB BX
    replace X := X.below BX
    replace Y := Y.below BX
    replace P := P.below BX
    replace PA := owns_below PA BX
    replace o3 := owns_below o3 BX
    replace A := A.below BX
    replace oq4 := owns_below oq4 BX
    replace o4 := owns_below o4 BX
    clear BX
    have pl := A.1
    have p0 := A.2.1 0 _ rfl
    have p1 := A.2.1 1 _ rfl
    have p2 := A.2.1 2 _ rfl
    have ql := B.1
    have q0 := B.2.1 0 _ rfl
    have q1 := B.2.1 1 _ rfl
    have q2 := B.2.1 2 _ rfl
    have q3 := B.2.1 3 _ rfl
    go_wp2_with fail
    refine (I (IX_of_owns o3 rfl) (IL_of_owns oq4 (by simp)) (IR_of_owns o4 rfl)).mono ?_
    rintro e w5 ⟨Qu2, rfl, QA, hb5⟩
    replace hB := below_then hB hb5
    replace X := X.below hb5
    replace Y := Y.below hb5
    replace P := P.below hb5
    replace PA := owns_below PA hb5
    replace o3 := owns_below o3 hb5
    replace A := A.below hb5
    replace oq4 := owns_below oq4 hb5
    replace o4 := owns_below o4 hb5
    replace B := B.below hb5
    clear pl p0 p1 p2 ql q0 q1 q2 q3
    obtain ⟨Qaa, Qac, rfl⟩ := owns_shape QA
    have hgQA := owns_ge QA
    have hlQA := owns_below_lt QA
    have hz5 := hb5.size
    simp only [World.size_alloc] at hz5 hgQA
    clear hb5
    have BX := below_alloc w5 (.cells #[.int .i64 RX, .int .i64 RY, .slice Qaa RA.length Qac] 25)
    have Q := Box.new w5 #[.int .i64 RX, .int .i64 RY, .slice Qaa RA.length Qac] 25
    replace hB := below_then hB BX
    replace X := X.below BX
    replace Y := Y.below BX
    replace P := P.below BX
    replace PA := owns_below PA BX
    replace o3 := owns_below o3 BX
    replace A := A.below BX
    replace oq4 := owns_below oq4 BX
    replace o4 := owns_below o4 BX
    replace B := B.below BX
    replace QA := owns_below QA BX
    clear BX
    have pl := P.1
    have p0 := P.2.1 0 _ rfl
    have p1 := P.2.1 1 _ rfl
    have p2 := P.2.1 2 _ rfl
    have ql := Q.1
    have q0 := Q.2.1 0 _ rfl
    have q1 := Q.2.1 1 _ rfl
    have q2 := Q.2.1 2 _ rfl
    go_wp2_with fail
    refine (eqVersion_same _ _ _ _ RA _ (IR_of_owns QA rfl) (IR_of_owns PA rfl) (by omega)).mono ?_
    rintro e w6 ⟨rfl, hb6⟩
    replace hB := below_then hB hb6
    replace X := X.below hb6
    replace Y := Y.below hb6
    replace P := P.below hb6
    replace PA := owns_below PA hb6
    replace o3 := owns_below o3 hb6
    replace A := A.below hb6
    replace oq4 := owns_below oq4 hb6
    replace o4 := owns_below o4 hb6
    replace B := B.below hb6
    replace QA := owns_below QA hb6
    replace Q := Q.below hb6
    clear pl p0 p1 p2 ql q0 q1 q2
    have hz6 := hb6.size
    simp only [World.size_alloc] at hz6
    clear hb6
    have pl := X.1
    have p0 := X.2.1 0 _ rfl
    have p1 := X.2.1 1 _ rfl
    have p2 := X.2.1 2 _ rfl
    have ql := A.1
    have q0 := A.2.1 0 _ rfl
    have q1 := A.2.1 1 _ rfl
    have q2 := A.2.1 2 _ rfl
    have hvv := hv1.below hB
    go_wp2_with fail
    go_region_held3 (fun w' => (w'.cell? ⟨w.heap.size, 0, none⟩ = some (.int .i64 nx1) ∧ w'.cell? ⟨w.heap.size, 1, none⟩ = some (.int .i64 sq1) ∧ w'.cell? ⟨w.heap.size, 2, none⟩ = some (.slice a1 l1.length ca1)) ∧ w'.cell? ⟨w3.heap.size, 0, none⟩ = some (.int .i64 nx1) ∧ w'.cell? ⟨w3.heap.size, 1, none⟩ = some (.int .i64 sq1) ∧ w'.cell? ⟨w3.heap.size, 2, none⟩ = some (.slice (some ⟨g3, 0, none⟩) l1.length l1.length)) (go_keep) (first | (go_at_call 32; refine (T1 _ (hvv.below (Below.refl _ _).drew)).mono ?_; rintro e w7 ⟨g9, rfl, o9, hb7'⟩; have hb7 := below_undrew hb7'; have p0 := (X.below hb7).2.1 0 _ rfl; have p1 := (X.below hb7).2.1 1 _ rfl; have p2 := (X.below hb7).2.1 2 _ rfl; have q0 := (A.below hb7).2.1 0 _ rfl; have q1 := (A.below hb7).2.1 1 _ rfl; have q2 := (A.below hb7).2.1 2 _ rfl) | (go_at_call 27; refine (eqVersion_same _ _ _ _ l1 _ ((IR_of_owns o3 rfl).below hb7) (IR_of_owns o9 rfl) hn1).mono ?_; rintro e w7b ⟨rfl, hb8⟩; have p0 := (X.below (below_then hb7 hb8)).2.1 0 _ rfl; have p1 := (X.below (below_then hb7 hb8)).2.1 1 _ rfl; have p2 := (X.below (below_then hb7 hb8)).2.1 2 _ rfl; have q0 := (A.below (below_then hb7 hb8)).2.1 0 _ rfl; have q1 := (A.below (below_then hb7 hb8)).2.1 1 _ rfl; have q2 := (A.below (below_then hb7 hb8)).2.1 2 _ rfl))
    all_goals
      have hb78 := below_then hb7 hb8
      replace hB := below_then hB hb78
      replace X := X.below hb78
      replace Y := Y.below hb78
      replace P := P.below hb78
      replace PA := owns_below PA hb78
      replace o3 := owns_below o3 hb78
      replace A := A.below hb78
      replace oq4 := owns_below oq4 hb78
      replace o4 := owns_below o4 hb78
      replace B := B.below hb78
      replace QA := owns_below QA hb78
      replace Q := Q.below hb78
      have hzw7 := hb78.size
      clear hb7' hb7 hb8 hb78 hvv o9 pl p0 p1 p2 ql q0 q1 q2
      have pl := Y.1
      have p0 := Y.2.1 0 _ rfl
      have p1 := Y.2.1 1 _ rfl
      have p2 := Y.2.1 2 _ rfl
      have p3 := Y.2.1 3 _ rfl
      have ql := B.1
      have q0 := B.2.1 0 _ rfl
      have q1 := B.2.1 1 _ rfl
      have q2 := B.2.1 2 _ rfl
      have q3 := B.2.1 3 _ rfl
      have hvv := hv2.below hB
      have hqq := hq2.below hB
      go_wp2_with fail
      go_region_held3 (fun w' => (w'.cell? ⟨w.heap.size + 1, 0, none⟩ = some (.int .i64 nx2) ∧ w'.cell? ⟨w.heap.size + 1, 1, none⟩ = some (.int .i64 sq2) ∧ w'.cell? ⟨w.heap.size + 1, 2, none⟩ = some (.slice qa2 dr2.length qc2) ∧ w'.cell? ⟨w.heap.size + 1, 3, none⟩ = some (.slice a2 l2.length ca2)) ∧ w'.cell? ⟨w4.heap.size, 0, none⟩ = some (.int .i64 nx2) ∧ w'.cell? ⟨w4.heap.size, 1, none⟩ = some (.int .i64 sq2) ∧ w'.cell? ⟨w4.heap.size, 2, none⟩ = some (.slice (some ⟨gq4, 0, none⟩) dr2.length dr2.length) ∧ w'.cell? ⟨w4.heap.size, 3, none⟩ = some (.slice (some ⟨g4, 0, none⟩) l2.length l2.length)) (go_keep) (first | (go_at_call 35; refine (T2 _ (hqq.below (Below.refl _ _).drew) (hvv.below (Below.refl _ _).drew)).mono ?_; rintro e w8 ⟨gq8, g8, rfl, oq8, o8, hb7'⟩; have hb7 := below_undrew hb7'; have p0 := (Y.below hb7).2.1 0 _ rfl; have p1 := (Y.below hb7).2.1 1 _ rfl; have p2 := (Y.below hb7).2.1 2 _ rfl; have p3 := (Y.below hb7).2.1 3 _ rfl; have q0 := (B.below hb7).2.1 0 _ rfl; have q1 := (B.below hb7).2.1 1 _ rfl; have q2 := (B.below hb7).2.1 2 _ rfl; have q3 := (B.below hb7).2.1 3 _ rfl) | (go_at_call 36; refine (eqEdit_same _ _ _ _ _ _ dr2 l2 _ ((IL_of_owns oq4 (by simp)).below hb7) (IL_of_owns oq8 (by simp)) ((IR_of_owns o4 rfl).below hb7) (IR_of_owns o8 rfl) hd2 hn2).mono ?_; rintro e w8b ⟨rfl, hb8⟩; have p0 := (Y.below (below_then hb7 hb8)).2.1 0 _ rfl; have p1 := (Y.below (below_then hb7 hb8)).2.1 1 _ rfl; have p2 := (Y.below (below_then hb7 hb8)).2.1 2 _ rfl; have p3 := (Y.below (below_then hb7 hb8)).2.1 3 _ rfl; have q0 := (B.below (below_then hb7 hb8)).2.1 0 _ rfl; have q1 := (B.below (below_then hb7 hb8)).2.1 1 _ rfl; have q2 := (B.below (below_then hb7 hb8)).2.1 2 _ rfl; have q3 := (B.below (below_then hb7 hb8)).2.1 3 _ rfl))
      all_goals
        have hb78 := below_then hb7 hb8
        replace hB := below_then hB hb78
        replace X := X.below hb78
        replace Y := Y.below hb78
        replace P := P.below hb78
        replace PA := owns_below PA hb78
        replace o3 := owns_below o3 hb78
        replace A := A.below hb78
        replace oq4 := owns_below oq4 hb78
        replace o4 := owns_below o4 hb78
        replace B := B.below hb78
        replace QA := owns_below QA hb78
        replace Q := Q.below hb78
        have hzw8 := hb78.size
        clear hb7' hb7 hb8 hb78 hvv hqq oq8 o8 pl p0 p1 p2 p3 ql q0 q1 q2 q3
        have pl := A.1
        have p0 := A.2.1 0 _ rfl
        have p1 := A.2.1 1 _ rfl
        have p2 := A.2.1 2 _ rfl
        go_wp2_with fail
        refine (markVersion_own _ _ _ _ l1 1 _ o3 hn1 (by omega) (by omega)).mono ?_
        rintro e w9 ⟨rfl, _, hc⟩
        clear pl p0 p1 p2
        replace hB := hB.trans (hc.below (B := w.heap.size) (by omega) (fun b h => by rcases h with h | h <;> (try (have := hlo3 _ h)) <;> (try (have := hgo3 _ h)) <;> omega))
        replace X := hc.box X (fun h => by rcases h with h | h <;> (try (have := hlo3 _ h)) <;> (try (have := hgo3 _ h)) <;> omega)
        replace Y := hc.box Y (fun h => by rcases h with h | h <;> (try (have := hlo3 _ h)) <;> (try (have := hgo3 _ h)) <;> omega)
        replace P := hc.box P (fun h => by rcases h with h | h <;> (try (have := hlo3 _ h)) <;> (try (have := hgo3 _ h)) <;> omega)
        replace PA := hc.owns PA (fun b hb h => by have := hlPA b hb; rcases h with h | h <;> (try (have := hlo3 _ h)) <;> (try (have := hgo3 _ h)) <;> omega)
        replace oq4 := hc.owns oq4 (fun b hb h => by have := hloq4 b hb; have := hgoq4 b hb; rcases h with h | h <;> (try (have := hlo3 _ h)) <;> (try (have := hgo3 _ h)) <;> omega)
        replace o4 := hc.owns o4 (fun b hb h => by have := hlo4 b hb; have := hgo4 b hb; rcases h with h | h <;> (try (have := hlo3 _ h)) <;> (try (have := hgo3 _ h)) <;> omega)
        replace B := hc.box B (fun h => by rcases h with h | h <;> (try (have := hlo3 _ h)) <;> (try (have := hgo3 _ h)) <;> omega)
        replace QA := hc.owns QA (fun b hb h => by have := hlQA b hb; have := hgQA b hb; rcases h with h | h <;> (try (have := hlo3 _ h)) <;> (try (have := hgo3 _ h)) <;> omega)
        replace Q := hc.box Q (fun h => by rcases h with h | h <;> (try (have := hlo3 _ h)) <;> (try (have := hgo3 _ h)) <;> omega)
        have hzw9 := hc.size
        clear hc o3 A
        have pl := B.1
        have p0 := B.2.1 0 _ rfl
        have p1 := B.2.1 1 _ rfl
        have p2 := B.2.1 2 _ rfl
        have p3 := B.2.1 3 _ rfl
        go_wp2_with fail
        refine (markEdit_own _ _ _ _ _ _ _ _ l2 (1 + 4 * l1.length) _ oq4 (by simp) o4 hd2 hn2 (by omega) (by omega)).mono ?_
        rintro e w10 ⟨rfl, _, _, hc⟩
        clear pl p0 p1 p2 p3
        replace hB := hB.trans (hc.below (B := w.heap.size) (by omega) (fun b h => by rcases h with h | h | h <;> (try (have := hloq4 _ h)) <;> (try (have := hgoq4 _ h)) <;> (try (have := hlo4 _ h)) <;> (try (have := hgo4 _ h)) <;> omega))
        replace X := hc.box X (fun h => by rcases h with h | h | h <;> (try (have := hloq4 _ h)) <;> (try (have := hgoq4 _ h)) <;> (try (have := hlo4 _ h)) <;> (try (have := hgo4 _ h)) <;> omega)
        replace Y := hc.box Y (fun h => by rcases h with h | h | h <;> (try (have := hloq4 _ h)) <;> (try (have := hgoq4 _ h)) <;> (try (have := hlo4 _ h)) <;> (try (have := hgo4 _ h)) <;> omega)
        replace P := hc.box P (fun h => by rcases h with h | h | h <;> (try (have := hloq4 _ h)) <;> (try (have := hgoq4 _ h)) <;> (try (have := hlo4 _ h)) <;> (try (have := hgo4 _ h)) <;> omega)
        replace PA := hc.owns PA (fun b hb h => by have := hlPA b hb; rcases h with h | h | h <;> (try (have := hloq4 _ h)) <;> (try (have := hgoq4 _ h)) <;> (try (have := hlo4 _ h)) <;> (try (have := hgo4 _ h)) <;> omega)
        replace QA := hc.owns QA (fun b hb h => by have := hlQA b hb; have := hgQA b hb; rcases h with h | h | h <;> (try (have := hloq4 _ h)) <;> (try (have := hgoq4 _ h)) <;> (try (have := hlo4 _ h)) <;> (try (have := hgo4 _ h)) <;> omega)
        replace Q := hc.box Q (fun h => by rcases h with h | h | h <;> (try (have := hloq4 _ h)) <;> (try (have := hgoq4 _ h)) <;> (try (have := hlo4 _ h)) <;> (try (have := hgo4 _ h)) <;> omega)
        have hzw10 := hc.size
        clear hc oq4 o4 B
        have pl := P.1
        have p0 := P.2.1 0 _ rfl
        have p1 := P.2.1 1 _ rfl
        have p2 := P.2.1 2 _ rfl
        have ql := Q.1
        have q0 := Q.2.1 0 _ rfl
        have q1 := Q.2.1 1 _ rfl
        have q2 := Q.2.1 2 _ rfl
        go_wp2_with fail
        refine (eqVersion_same _ _ _ _ RA _ (IR_of_owns QA rfl) (IR_of_owns PA rfl) (by omega)).mono ?_
        rintro e w11 ⟨rfl, hb⟩
        replace hB := below_then hB hb
        replace X := X.below hb
        replace Y := Y.below hb
        replace P := P.below hb
        replace PA := owns_below PA hb
        replace QA := owns_below QA hb
        replace Q := Q.below hb
        clear pl p0 p1 p2 ql q0 q1 q2
        have hz11 := hb.size
        clear hb
        have ql := Q.1
        have q0 := Q.2.1 0 _ rfl
        have q1 := Q.2.1 1 _ rfl
        have q2 := Q.2.1 2 _ rfl
        go_wp2_with fail
        refine (markVersion_own _ _ _ _ RA 1 _ QA (by omega) (by omega) (by omega)).mono ?_
        rintro e w12 ⟨rfl, MA, hc⟩
        clear ql q0 q1 q2
        replace hB := hB.trans (hc.below (B := w.heap.size) (by omega) (fun b h => by rcases h with h | h <;> (try (have := hgQA _ h)) <;> (try (have := hlQA _ h)) <;> omega))
        replace X := hc.box X (fun h => by rcases h with h | h <;> (try (have := hgQA _ h)) <;> (try (have := hlQA _ h)) <;> omega)
        replace Y := hc.box Y (fun h => by rcases h with h | h <;> (try (have := hgQA _ h)) <;> (try (have := hlQA _ h)) <;> omega)
        replace P := hc.box P (fun h => by rcases h with h | h <;> (try (have := hgQA _ h)) <;> (try (have := hlQA _ h)) <;> omega)
        replace PA := hc.owns PA (fun b hb h => by have := hlPA b hb; rcases h with h | h <;> (try (have := hgQA _ h)) <;> (try (have := hlQA _ h)) <;> omega)
        replace Q := hc.box Q (fun h => by rcases h with h | h <;> (try (have := hgQA _ h)) <;> (try (have := hlQA _ h)) <;> omega)
        have hzw12 := hc.size
        clear hc QA
        have ql := Q.1
        have q0 := Q.2.1 0 _ rfl
        have q1 := Q.2.1 1 _ rfl
        have q2 := Q.2.1 2 _ rfl
        go_wp2_with fail
        refine (heldVersion_at _ _ _ RA.length 1 _ (IR_of_owns MA (mkIts_length _ _).symm) (by omega) (by omega) (by omega)).mono ?_
        rintro e w13 ⟨rfl, hb⟩
        replace hB := below_then hB hb
        replace X := X.below hb
        replace Y := Y.below hb
        replace P := P.below hb
        replace PA := owns_below PA hb
        replace Q := Q.below hb
        replace MA := owns_below MA hb
        clear ql q0 q1 q2 hb
        replace MA := owns_mono MA (base' := w.heap.size) (by rw [World.size_alloc]; omega)
        have xl := X.1
        have x0 := X.2.1 0 _ rfl
        have x1 := X.2.1 1 _ rfl
        have x2 := X.2.1 2 _ rfl
        have yl := Y.1
        have y0 := Y.2.1 0 _ rfl
        have y1 := Y.2.1 1 _ rfl
        have y2 := Y.2.1 2 _ rfl
        have y3 := Y.2.1 3 _ rfl
        go_wp2_with fail
        clear xl x0 x1 x2 yl y0 y1 y2 y3
        go_cut [15, 16] from 17 (fun s15 s16 wc => ∃ (b : Nat) (Haa : Option Addr) (Hac : Nat), s15 = .pointer (some ⟨b, 0, none⟩) ∧ s16 = .bool ok ∧ Box wc w.heap.size [.int .i64 nx1, .int .i64 sq1, .slice a1 l1.length ca1] ∧ Box wc (w.heap.size + 1) [.int .i64 nx2, .int .i64 sq2, .slice qa2 dr2.length qc2, .slice a2 l2.length ca2] ∧ Box wc b [.int .i64 RX, .int .i64 RY, .slice Haa RA.length Hac] ∧ wc.ownsRow w.heap.size 82 4 (.slice Haa RA.length Hac) RA.length (flat4 RA) ∧ Box wc bp [.int .i64 RX, .int .i64 RY, .slice Paa RA.length Pac] ∧ wc.ownsRow w.heap.size 82 4 (.slice Paa RA.length Pac) RA.length (flat4 RA) ∧ Box wc w5.heap.size [.int .i64 RX, .int .i64 RY, .slice Qaa RA.length Qac] ∧ wc.ownsRow w.heap.size 82 4 (.slice Qaa RA.length Qac) RA.length (flat4 (mkIts 1 RA.length)) ∧ w.heap.size + 1 < b ∧ Below w.heap.size w wc)
        case first =>
          have hD : Below (w13).heap.size (w13) (w13).drew := (Below.refl _ _).drew
          replace hB := below_then hB hD
          replace X := X.below hD
          replace Y := Y.below hD
          replace P := P.below hD
          replace PA := owns_below PA hD
          replace Q := Q.below hD
          replace MA := owns_below MA hD
          clear hD
          refine wp_region_held_drew (S := fun w' => Box w' w.heap.size [.int .i64 nx1, .int .i64 sq1, .slice a1 l1.length ca1] ∧ Box w' (w.heap.size + 1) [.int .i64 nx2, .int .i64 sq2, .slice qa2 dr2.length qc2, .slice a2 l2.length ca2]) (by kernel_rfl) ⟨X, Y⟩ (fun hHeld => ?_)
          generalize (w13).drew = v0 at *
          refine wpAnyH_take (i := 0) (oi := { dst := some 95, op := Op.load 49 (Operand.tmp 2), type := 49, pos := "exact.go:7071", after := #[], guard := none }) (v := .agg #[.int .i64 nx1, .int .i64 sq1, .slice a1 l1.length ca1]) rfl (by kernel_rfl) (by kernel_rfl) (by kernel_rfl) (fun _ _ _ h => h) (Or.inl ⟨by rfl, ?_⟩) (by assumption) ?_
          · intro wx hSw
            have e0 := hSw.1.2.1 0 _ rfl; have e1 := hSw.1.2.1 1 _ rfl; have e2 := hSw.1.2.1 2 _ rfl; clear hHeld; go_simp
          simp only [Act.put, List.setIfInBounds_toArray, List.set_cons_zero, List.set_cons_succ]
          refine wpAnyH_take (i := 2) (oi := { dst := some 97, op := Op.load 55 (Operand.tmp 3), type := 55, pos := "exact.go:7071", after := #[], guard := none }) (v := .agg #[.int .i64 nx2, .int .i64 sq2, .slice qa2 dr2.length qc2, .slice a2 l2.length ca2]) rfl (by kernel_rfl) (by kernel_rfl) (by kernel_rfl) (fun _ _ _ h => h) (Or.inl ⟨by rfl, ?_⟩) (by assumption) ?_
          · intro wx hSw
            have e0 := hSw.2.2.1 0 _ rfl; have e1 := hSw.2.2.1 1 _ rfl; have e2 := hSw.2.2.1 2 _ rfl; have e3 := hSw.2.2.1 3 _ rfl; clear hHeld; go_simp
          simp only [Act.put, List.setIfInBounds_toArray, List.set_cons_zero, List.set_cons_succ]
          refine wpAnyH_ready (rs := [1, 8]) (by kernel_rfl) (by simp) ?_
          refine (AllReadyH.cons (o := { dst := some 96, op := Op.call { callee := Callee.value (Operand.func 32), args := #[Operand.tmp 95], argTypes := #[49] }, type := 25, pos := "exact.go:7071", after := #[{ on := 0, ground := Ground.data }], guard := none }) rfl (fun K hK => ?_) (AllReadyH.cons (o := { dst := some 15, op := Op.alloc 25, type := 0, pos := "exact.go:7071", after := #[], guard := none }) rfl (fun K hK => ?_) AllReadyH.nil))
          · clear hHeld
            go_simp
            refine (T1 _ (hv1.below hB)).mono ?_
            rintro e v1 ⟨g13, rfl, o13, hbv⟩
            have hzc := hB.size
            replace hB := below_then hB hbv
            replace X := X.below hbv
            replace Y := Y.below hbv
            replace P := P.below hbv
            replace PA := owns_below PA hbv
            replace Q := Q.below hbv
            replace MA := owns_below MA hbv
            clear hbv hzc
            refine hK.out _ _ ⟨X, Y⟩ (fun hHeld => ?_)
            clear hK K
            refine wpAnyH_ready (rs := [3, 8]) (by kernel_rfl) (by simp) ?_
            refine (AllReadyH.cons (o := { dst := some 98, op := Op.call { callee := Callee.value (Operand.func 35), args := #[Operand.tmp 97], argTypes := #[55] }, type := 30, pos := "exact.go:7071", after := #[{ on := 2, ground := Ground.data }, { on := 1, ground := Ground.chain }], guard := none }) rfl (fun K hK => ?_) (AllReadyH.cons (o := { dst := some 15, op := Op.alloc 25, type := 0, pos := "exact.go:7071", after := #[], guard := none }) rfl (fun K hK => ?_) AllReadyH.nil))
            · clear hHeld
              go_simp
              refine (T2 _ (hq2.below hB) (hv2.below hB)).mono ?_
              rintro e v2 ⟨gq14, g14, rfl, oq14, o14, hbv⟩
              have hzc := hB.size
              replace hB := below_then hB hbv
              replace X := X.below hbv
              replace Y := Y.below hbv
              replace P := P.below hbv
              replace PA := owns_below PA hbv
              replace Q := Q.below hbv
              replace MA := owns_below MA hbv
              replace o13 := owns_below o13 hbv
              clear hbv hzc
              refine hK.out _ _ ⟨X, Y⟩ (fun hHeld => ?_)
              clear hK K
              refine wpAnyH_ready (rs := [4, 8]) (by kernel_rfl) (by simp) ?_
              refine (AllReadyH.cons (o := { dst := some 99, op := Op.call { callee := Callee.value (Operand.func 16), args := #[Operand.tmp 96, Operand.tmp 98], argTypes := #[25, 30] }, type := 33, pos := "exact.go:7071", after := #[{ on := 1, ground := Ground.data }, { on := 3, ground := Ground.data }, { on := 3, ground := Ground.chain }], guard := none }) rfl (fun K hK => ?_) (AllReadyH.cons (o := { dst := some 15, op := Op.alloc 25, type := 0, pos := "exact.go:7071", after := #[], guard := none }) rfl (fun K hK => ?_) AllReadyH.nil))
              · clear hHeld
                go_simp
                refine (I (IX_of_owns o13 rfl) (IL_of_owns oq14 (by simp)) (IR_of_owns o14 rfl)).mono ?_
                rintro e v3 ⟨Hu2, rfl, HA, hbv⟩
                have hzc := hB.size
                replace hB := below_then hB hbv
                replace X := X.below hbv
                replace Y := Y.below hbv
                replace P := P.below hbv
                replace PA := owns_below PA hbv
                replace Q := Q.below hbv
                replace MA := owns_below MA hbv
                replace o13 := owns_below o13 hbv
                replace oq14 := owns_below oq14 hbv
                replace o14 := owns_below o14 hbv
                obtain ⟨Haa, Hac, rfl⟩ := owns_shape HA
                replace HA := owns_mono HA hzc
                clear hbv hzc
                refine hK.out _ _ ⟨X, Y⟩ (fun hHeld => ?_)
                clear hK K
                refine wpAnyH_take (i := 5) (oi := { dst := some 94, op := Op.move (Operand.tmp 99), type := 33, pos := "exact.go:7071", after := #[{ on := 4, ground := Ground.data }], guard := none }) (v := .tuple #[.agg #[.int .i64 RX, .int .i64 RY, .slice Haa RA.length Hac], .bool ok]) rfl (by kernel_rfl) (by kernel_rfl) (by kernel_rfl) (fun _ _ _ h => h) (Or.inl ⟨by rfl, ?_⟩) (by assumption) ?_
                · intro wx hSw
                  clear hSw hHeld; go_simp
                simp only [Act.put, List.setIfInBounds_toArray, List.set_cons_zero, List.set_cons_succ]
                refine wpAnyH_take (i := 6) (oi := { dst := some 100, op := Op.extract (Operand.tmp 94) 0, type := 25, pos := "exact.go:7071", after := #[{ on := 5, ground := Ground.data }], guard := none }) (v := .agg #[.int .i64 RX, .int .i64 RY, .slice Haa RA.length Hac]) rfl (by kernel_rfl) (by kernel_rfl) (by kernel_rfl) (fun _ _ _ h => h) (Or.inl ⟨by rfl, ?_⟩) (by assumption) ?_
                · intro wx hSw
                  clear hSw hHeld; go_simp
                simp only [Act.put, List.setIfInBounds_toArray, List.set_cons_zero, List.set_cons_succ]
                refine wpAnyH_take (i := 7) (oi := { dst := some 101, op := Op.extract (Operand.tmp 94) 1, type := 4, pos := "exact.go:7071", after := #[{ on := 5, ground := Ground.data }, { on := 9, ground := Ground.gcOnly Departure.lateStores }], guard := none }) (v := .bool ok) rfl (by kernel_rfl) (by kernel_rfl) (by kernel_rfl) (fun _ _ _ h => h) (Or.inl ⟨by rfl, ?_⟩) (by assumption) ?_
                · intro wx hSw
                  clear hSw hHeld; go_simp
                simp only [Act.put, List.setIfInBounds_toArray, List.set_cons_zero, List.set_cons_succ]
                refine wpAnyH_ready (rs := [8]) (by kernel_rfl) (by simp) ?_
                refine (AllReadyH.cons (o := { dst := some 15, op := Op.alloc 25, type := 0, pos := "exact.go:7071", after := #[], guard := none }) rfl (fun K hK => ?_) AllReadyH.nil)
                clear hHeld
                have Z := Box.new v3 #[.int .i64 0, .int .i64 0, .slice none 0 0] 25
                have hkX := X.1
                have hkY := Y.1
                have hkP := P.1
                have hkPA := owns_below_lt PA
                have hkQ := Q.1
                have hkMA := owns_below_lt MA
                have hko13 := owns_below_lt o13
                have hkoq14 := owns_below_lt oq14
                have hko14 := owns_below_lt o14
                have hkHA := owns_below_lt HA
                have hkw := hB.size
                have hA := below_alloc v3 (.cells #[.int .i64 0, .int .i64 0, .slice none 0 0] 25)
                replace hB := below_then hB hA
                replace X := X.below hA
                replace Y := Y.below hA
                replace P := P.below hA
                replace PA := owns_below PA hA
                replace Q := Q.below hA
                replace MA := owns_below MA hA
                replace o13 := owns_below o13 hA
                replace oq14 := owns_below oq14 hA
                replace o14 := owns_below o14 hA
                replace HA := owns_below HA hA
                clear hA
                go_simp
                refine hK.out _ _ ⟨X, Y⟩ (fun hHeld => ?_)
                clear hK K
                generalize v3.alloc (.cells #[.int .i64 0, .int .i64 0, .slice none 0 0] 25) = v4 at *
                generalize v3.heap.size = b at *
                have nePA := fun g hg => Nat.ne_of_lt (hkPA g hg)
                clear hkPA
                have neMA := fun g hg => Nat.ne_of_lt (hkMA g hg)
                clear hkMA
                have neo13 := fun g hg => Nat.ne_of_lt (hko13 g hg)
                clear hko13
                have neoq14 := fun g hg => Nat.ne_of_lt (hkoq14 g hg)
                clear hkoq14
                have neo14 := fun g hg => Nat.ne_of_lt (hko14 g hg)
                clear hko14
                have neHA := fun g hg => Nat.ne_of_lt (hkHA g hg)
                clear hkHA
                refine wpAnyH_ready (rs := [9]) (by kernel_rfl) (by simp) ?_
                refine (AllReadyH.cons (o := { dst := none, op := Op.store 25 (Operand.tmp 15) (Operand.tmp 100), type := 0, pos := "exact.go:7071", after := #[{ on := 8, ground := Ground.data }, { on := 6, ground := Ground.data }, { on := 4, ground := Ground.chain }, { on := 0, ground := Ground.phase }, { on := 1, ground := Ground.phase }, { on := 2, ground := Ground.phase }, { on := 3, ground := Ground.phase }, { on := 4, ground := Ground.phase }, { on := 5, ground := Ground.phase }, { on := 6, ground := Ground.phase }, { on := 7, ground := Ground.textOnly Departure.lateStores }, { on := 8, ground := Ground.phase }], guard := none }) rfl (fun K hK => ?_) AllReadyH.nil)
                clear hHeld
                obtain ⟨zl, t0, t1, t2, f0, f1, f2⟩ := Z.c3
                have hC := put3_chg v4 b (.int .i64 RX) (.int .i64 RY) (.slice Haa RA.length Hac)
                have Xn := hC.box X (by omega)
                have Yn := hC.box Y (by omega)
                have Pn := hC.box P (by omega)
                have PAn := hC.owns PA (fun g hg hh => nePA g hg hh)
                have Qn := hC.box Q (by omega)
                have MAn := hC.owns MA (fun g hg hh => neMA g hg hh)
                have HAn := hC.owns HA (fun g hg hh => neHA g hg hh)
                have Zn := put3_box Z (.int .i64 RX) (.int .i64 RY) (.slice Haa RA.length Hac)
                have hBn := hB.trans (hC.below (B := w.heap.size) hB.size (fun k hk => by omega))
                clear hC
                go_simp
                refine hK.out _ (put3 v4 b (.int .i64 RX) (.int .i64 RY) (.slice Haa RA.length Hac)) ⟨Xn, Yn⟩ (fun hHeld => ?_)
                clear hK K t0 t1 t2 f0 f1 f2
                refine wpAnyH_take (i := 10) (oi := { dst := some 16, op := Op.assign (Operand.tmp 101), type := 4, pos := "exact.go:7071", after := #[{ on := 7, ground := Ground.data }, { on := 9, ground := Ground.chain }, { on := 0, ground := Ground.phase }, { on := 1, ground := Ground.phase }, { on := 2, ground := Ground.phase }, { on := 3, ground := Ground.phase }, { on := 4, ground := Ground.phase }, { on := 5, ground := Ground.phase }, { on := 6, ground := Ground.phase }, { on := 7, ground := Ground.phase }, { on := 8, ground := Ground.phase }, { on := 9, ground := Ground.phase }], guard := none }) (v := .bool ok) rfl (by kernel_rfl) (by kernel_rfl) (by kernel_rfl) (fun _ _ _ h => h) (Or.inl ⟨by rfl, ?_⟩) (by assumption) ?_
                · intro wx hSw
                  clear hSw hHeld; go_simp
                simp only [Act.put, List.setIfInBounds_toArray, List.set_cons_zero, List.set_cons_succ]
                clear hHeld
                refine wpAnyH_done (by kernel_rfl) ?_ _
                go_wp2_with fail
                go_meet
                case rel => exact ⟨b, _, _, rfl, rfl, Xn, Yn, Zn, HAn, Pn, PAn, Qn, MAn, by omega, hBn⟩
              · clear hHeld
                have Z := Box.new v2 #[.int .i64 0, .int .i64 0, .slice none 0 0] 25
                have hkX := X.1
                have hkY := Y.1
                have hkP := P.1
                have hkPA := owns_below_lt PA
                have hkQ := Q.1
                have hkMA := owns_below_lt MA
                have hko13 := owns_below_lt o13
                have hkoq14 := owns_below_lt oq14
                have hko14 := owns_below_lt o14
                have hkw := hB.size
                have hA := below_alloc v2 (.cells #[.int .i64 0, .int .i64 0, .slice none 0 0] 25)
                replace hB := below_then hB hA
                replace X := X.below hA
                replace Y := Y.below hA
                replace P := P.below hA
                replace PA := owns_below PA hA
                replace Q := Q.below hA
                replace MA := owns_below MA hA
                replace o13 := owns_below o13 hA
                replace oq14 := owns_below oq14 hA
                replace o14 := owns_below o14 hA
                clear hA
                go_simp
                refine hK.out _ _ ⟨X, Y⟩ (fun hHeld => ?_)
                clear hK K
                generalize v2.alloc (.cells #[.int .i64 0, .int .i64 0, .slice none 0 0] 25) = v5 at *
                generalize v2.heap.size = b at *
                have nePA := fun g hg => Nat.ne_of_lt (hkPA g hg)
                clear hkPA
                have neMA := fun g hg => Nat.ne_of_lt (hkMA g hg)
                clear hkMA
                have neo13 := fun g hg => Nat.ne_of_lt (hko13 g hg)
                clear hko13
                have neoq14 := fun g hg => Nat.ne_of_lt (hkoq14 g hg)
                clear hkoq14
                have neo14 := fun g hg => Nat.ne_of_lt (hko14 g hg)
                clear hko14
                refine wpAnyH_ready (rs := [4]) (by kernel_rfl) (by simp) ?_
                refine (AllReadyH.cons (o := { dst := some 99, op := Op.call { callee := Callee.value (Operand.func 16), args := #[Operand.tmp 96, Operand.tmp 98], argTypes := #[25, 30] }, type := 33, pos := "exact.go:7071", after := #[{ on := 1, ground := Ground.data }, { on := 3, ground := Ground.data }, { on := 3, ground := Ground.chain }], guard := none }) rfl (fun K hK => ?_) AllReadyH.nil)
                clear hHeld
                go_simp
                refine (I (IX_of_owns o13 rfl) (IL_of_owns oq14 (by simp)) (IR_of_owns o14 rfl)).mono ?_
                rintro e v6 ⟨Hu2, rfl, HA, hbv⟩
                have hzb := Z.1
                have hzc := hB.size
                replace hB := below_then hB hbv
                replace X := X.below hbv
                replace Y := Y.below hbv
                replace P := P.below hbv
                replace PA := owns_below PA hbv
                replace Q := Q.below hbv
                replace MA := owns_below MA hbv
                replace o13 := owns_below o13 hbv
                replace oq14 := owns_below oq14 hbv
                replace o14 := owns_below o14 hbv
                replace Z := Z.below hbv
                obtain ⟨Haa, Hac, rfl⟩ := owns_shape HA
                have neHA := fun g hg => Nat.ne_of_gt (Nat.lt_of_lt_of_le hzb (owns_ge HA g hg))
                replace HA := owns_mono HA hzc
                clear hbv hzc
                refine hK.out _ _ ⟨X, Y⟩ (fun hHeld => ?_)
                clear hK K
                refine wpAnyH_take (i := 5) (oi := { dst := some 94, op := Op.move (Operand.tmp 99), type := 33, pos := "exact.go:7071", after := #[{ on := 4, ground := Ground.data }], guard := none }) (v := .tuple #[.agg #[.int .i64 RX, .int .i64 RY, .slice Haa RA.length Hac], .bool ok]) rfl (by kernel_rfl) (by kernel_rfl) (by kernel_rfl) (fun _ _ _ h => h) (Or.inl ⟨by rfl, ?_⟩) (by assumption) ?_
                · intro wx hSw
                  clear hSw hHeld; go_simp
                simp only [Act.put, List.setIfInBounds_toArray, List.set_cons_zero, List.set_cons_succ]
                refine wpAnyH_take (i := 6) (oi := { dst := some 100, op := Op.extract (Operand.tmp 94) 0, type := 25, pos := "exact.go:7071", after := #[{ on := 5, ground := Ground.data }], guard := none }) (v := .agg #[.int .i64 RX, .int .i64 RY, .slice Haa RA.length Hac]) rfl (by kernel_rfl) (by kernel_rfl) (by kernel_rfl) (fun _ _ _ h => h) (Or.inl ⟨by rfl, ?_⟩) (by assumption) ?_
                · intro wx hSw
                  clear hSw hHeld; go_simp
                simp only [Act.put, List.setIfInBounds_toArray, List.set_cons_zero, List.set_cons_succ]
                refine wpAnyH_take (i := 7) (oi := { dst := some 101, op := Op.extract (Operand.tmp 94) 1, type := 4, pos := "exact.go:7071", after := #[{ on := 5, ground := Ground.data }, { on := 9, ground := Ground.gcOnly Departure.lateStores }], guard := none }) (v := .bool ok) rfl (by kernel_rfl) (by kernel_rfl) (by kernel_rfl) (fun _ _ _ h => h) (Or.inl ⟨by rfl, ?_⟩) (by assumption) ?_
                · intro wx hSw
                  clear hSw hHeld; go_simp
                simp only [Act.put, List.setIfInBounds_toArray, List.set_cons_zero, List.set_cons_succ]
                refine wpAnyH_ready (rs := [9]) (by kernel_rfl) (by simp) ?_
                refine (AllReadyH.cons (o := { dst := none, op := Op.store 25 (Operand.tmp 15) (Operand.tmp 100), type := 0, pos := "exact.go:7071", after := #[{ on := 8, ground := Ground.data }, { on := 6, ground := Ground.data }, { on := 4, ground := Ground.chain }, { on := 0, ground := Ground.phase }, { on := 1, ground := Ground.phase }, { on := 2, ground := Ground.phase }, { on := 3, ground := Ground.phase }, { on := 4, ground := Ground.phase }, { on := 5, ground := Ground.phase }, { on := 6, ground := Ground.phase }, { on := 7, ground := Ground.textOnly Departure.lateStores }, { on := 8, ground := Ground.phase }], guard := none }) rfl (fun K hK => ?_) AllReadyH.nil)
                clear hHeld
                obtain ⟨zl, t0, t1, t2, f0, f1, f2⟩ := Z.c3
                have hC := put3_chg v6 b (.int .i64 RX) (.int .i64 RY) (.slice Haa RA.length Hac)
                have Xn := hC.box X (by omega)
                have Yn := hC.box Y (by omega)
                have Pn := hC.box P (by omega)
                have PAn := hC.owns PA (fun g hg hh => nePA g hg hh)
                have Qn := hC.box Q (by omega)
                have MAn := hC.owns MA (fun g hg hh => neMA g hg hh)
                have HAn := hC.owns HA (fun g hg hh => neHA g hg hh)
                have Zn := put3_box Z (.int .i64 RX) (.int .i64 RY) (.slice Haa RA.length Hac)
                have hBn := hB.trans (hC.below (B := w.heap.size) hB.size (fun k hk => by omega))
                clear hC
                go_simp
                refine hK.out _ (put3 v6 b (.int .i64 RX) (.int .i64 RY) (.slice Haa RA.length Hac)) ⟨Xn, Yn⟩ (fun hHeld => ?_)
                clear hK K t0 t1 t2 f0 f1 f2
                refine wpAnyH_take (i := 10) (oi := { dst := some 16, op := Op.assign (Operand.tmp 101), type := 4, pos := "exact.go:7071", after := #[{ on := 7, ground := Ground.data }, { on := 9, ground := Ground.chain }, { on := 0, ground := Ground.phase }, { on := 1, ground := Ground.phase }, { on := 2, ground := Ground.phase }, { on := 3, ground := Ground.phase }, { on := 4, ground := Ground.phase }, { on := 5, ground := Ground.phase }, { on := 6, ground := Ground.phase }, { on := 7, ground := Ground.phase }, { on := 8, ground := Ground.phase }, { on := 9, ground := Ground.phase }], guard := none }) (v := .bool ok) rfl (by kernel_rfl) (by kernel_rfl) (by kernel_rfl) (fun _ _ _ h => h) (Or.inl ⟨by rfl, ?_⟩) (by assumption) ?_
                · intro wx hSw
                  clear hSw hHeld; go_simp
                simp only [Act.put, List.setIfInBounds_toArray, List.set_cons_zero, List.set_cons_succ]
                clear hHeld
                refine wpAnyH_done (by kernel_rfl) ?_ _
                go_wp2_with fail
                go_meet
                case rel => exact ⟨b, _, _, rfl, rfl, Xn, Yn, Zn, HAn, Pn, PAn, Qn, MAn, by omega, hBn⟩
            · clear hHeld
              have Z := Box.new v1 #[.int .i64 0, .int .i64 0, .slice none 0 0] 25
              have hkX := X.1
              have hkY := Y.1
              have hkP := P.1
              have hkPA := owns_below_lt PA
              have hkQ := Q.1
              have hkMA := owns_below_lt MA
              have hko13 := owns_below_lt o13
              have hkw := hB.size
              have hA := below_alloc v1 (.cells #[.int .i64 0, .int .i64 0, .slice none 0 0] 25)
              replace hB := below_then hB hA
              replace X := X.below hA
              replace Y := Y.below hA
              replace P := P.below hA
              replace PA := owns_below PA hA
              replace Q := Q.below hA
              replace MA := owns_below MA hA
              replace o13 := owns_below o13 hA
              clear hA
              go_simp
              refine hK.out _ _ ⟨X, Y⟩ (fun hHeld => ?_)
              clear hK K
              generalize v1.alloc (.cells #[.int .i64 0, .int .i64 0, .slice none 0 0] 25) = v7 at *
              generalize v1.heap.size = b at *
              have nePA := fun g hg => Nat.ne_of_lt (hkPA g hg)
              clear hkPA
              have neMA := fun g hg => Nat.ne_of_lt (hkMA g hg)
              clear hkMA
              have neo13 := fun g hg => Nat.ne_of_lt (hko13 g hg)
              clear hko13
              refine wpAnyH_ready (rs := [3]) (by kernel_rfl) (by simp) ?_
              refine (AllReadyH.cons (o := { dst := some 98, op := Op.call { callee := Callee.value (Operand.func 35), args := #[Operand.tmp 97], argTypes := #[55] }, type := 30, pos := "exact.go:7071", after := #[{ on := 2, ground := Ground.data }, { on := 1, ground := Ground.chain }], guard := none }) rfl (fun K hK => ?_) AllReadyH.nil)
              clear hHeld
              go_simp
              refine (T2 _ (hq2.below hB) (hv2.below hB)).mono ?_
              rintro e v8 ⟨gq14, g14, rfl, oq14, o14, hbv⟩
              have hzb := Z.1
              have hzc := hB.size
              replace hB := below_then hB hbv
              replace X := X.below hbv
              replace Y := Y.below hbv
              replace P := P.below hbv
              replace PA := owns_below PA hbv
              replace Q := Q.below hbv
              replace MA := owns_below MA hbv
              replace o13 := owns_below o13 hbv
              replace Z := Z.below hbv
              clear hbv hzc
              refine hK.out _ _ ⟨X, Y⟩ (fun hHeld => ?_)
              clear hK K
              refine wpAnyH_ready (rs := [4]) (by kernel_rfl) (by simp) ?_
              refine (AllReadyH.cons (o := { dst := some 99, op := Op.call { callee := Callee.value (Operand.func 16), args := #[Operand.tmp 96, Operand.tmp 98], argTypes := #[25, 30] }, type := 33, pos := "exact.go:7071", after := #[{ on := 1, ground := Ground.data }, { on := 3, ground := Ground.data }, { on := 3, ground := Ground.chain }], guard := none }) rfl (fun K hK => ?_) AllReadyH.nil)
              clear hHeld
              go_simp
              refine (I (IX_of_owns o13 rfl) (IL_of_owns oq14 (by simp)) (IR_of_owns o14 rfl)).mono ?_
              rintro e v9 ⟨Hu2, rfl, HA, hbv⟩
              have hzb := Z.1
              have hzc := hB.size
              replace hB := below_then hB hbv
              replace X := X.below hbv
              replace Y := Y.below hbv
              replace P := P.below hbv
              replace PA := owns_below PA hbv
              replace Q := Q.below hbv
              replace MA := owns_below MA hbv
              replace o13 := owns_below o13 hbv
              replace Z := Z.below hbv
              replace oq14 := owns_below oq14 hbv
              replace o14 := owns_below o14 hbv
              obtain ⟨Haa, Hac, rfl⟩ := owns_shape HA
              have neHA := fun g hg => Nat.ne_of_gt (Nat.lt_of_lt_of_le hzb (owns_ge HA g hg))
              replace HA := owns_mono HA hzc
              clear hbv hzc
              refine hK.out _ _ ⟨X, Y⟩ (fun hHeld => ?_)
              clear hK K
              refine wpAnyH_take (i := 5) (oi := { dst := some 94, op := Op.move (Operand.tmp 99), type := 33, pos := "exact.go:7071", after := #[{ on := 4, ground := Ground.data }], guard := none }) (v := .tuple #[.agg #[.int .i64 RX, .int .i64 RY, .slice Haa RA.length Hac], .bool ok]) rfl (by kernel_rfl) (by kernel_rfl) (by kernel_rfl) (fun _ _ _ h => h) (Or.inl ⟨by rfl, ?_⟩) (by assumption) ?_
              · intro wx hSw
                clear hSw hHeld; go_simp
              simp only [Act.put, List.setIfInBounds_toArray, List.set_cons_zero, List.set_cons_succ]
              refine wpAnyH_take (i := 6) (oi := { dst := some 100, op := Op.extract (Operand.tmp 94) 0, type := 25, pos := "exact.go:7071", after := #[{ on := 5, ground := Ground.data }], guard := none }) (v := .agg #[.int .i64 RX, .int .i64 RY, .slice Haa RA.length Hac]) rfl (by kernel_rfl) (by kernel_rfl) (by kernel_rfl) (fun _ _ _ h => h) (Or.inl ⟨by rfl, ?_⟩) (by assumption) ?_
              · intro wx hSw
                clear hSw hHeld; go_simp
              simp only [Act.put, List.setIfInBounds_toArray, List.set_cons_zero, List.set_cons_succ]
              refine wpAnyH_take (i := 7) (oi := { dst := some 101, op := Op.extract (Operand.tmp 94) 1, type := 4, pos := "exact.go:7071", after := #[{ on := 5, ground := Ground.data }, { on := 9, ground := Ground.gcOnly Departure.lateStores }], guard := none }) (v := .bool ok) rfl (by kernel_rfl) (by kernel_rfl) (by kernel_rfl) (fun _ _ _ h => h) (Or.inl ⟨by rfl, ?_⟩) (by assumption) ?_
              · intro wx hSw
                clear hSw hHeld; go_simp
              simp only [Act.put, List.setIfInBounds_toArray, List.set_cons_zero, List.set_cons_succ]
              refine wpAnyH_ready (rs := [9]) (by kernel_rfl) (by simp) ?_
              refine (AllReadyH.cons (o := { dst := none, op := Op.store 25 (Operand.tmp 15) (Operand.tmp 100), type := 0, pos := "exact.go:7071", after := #[{ on := 8, ground := Ground.data }, { on := 6, ground := Ground.data }, { on := 4, ground := Ground.chain }, { on := 0, ground := Ground.phase }, { on := 1, ground := Ground.phase }, { on := 2, ground := Ground.phase }, { on := 3, ground := Ground.phase }, { on := 4, ground := Ground.phase }, { on := 5, ground := Ground.phase }, { on := 6, ground := Ground.phase }, { on := 7, ground := Ground.textOnly Departure.lateStores }, { on := 8, ground := Ground.phase }], guard := none }) rfl (fun K hK => ?_) AllReadyH.nil)
              clear hHeld
              obtain ⟨zl, t0, t1, t2, f0, f1, f2⟩ := Z.c3
              have hC := put3_chg v9 b (.int .i64 RX) (.int .i64 RY) (.slice Haa RA.length Hac)
              have Xn := hC.box X (by omega)
              have Yn := hC.box Y (by omega)
              have Pn := hC.box P (by omega)
              have PAn := hC.owns PA (fun g hg hh => nePA g hg hh)
              have Qn := hC.box Q (by omega)
              have MAn := hC.owns MA (fun g hg hh => neMA g hg hh)
              have HAn := hC.owns HA (fun g hg hh => neHA g hg hh)
              have Zn := put3_box Z (.int .i64 RX) (.int .i64 RY) (.slice Haa RA.length Hac)
              have hBn := hB.trans (hC.below (B := w.heap.size) hB.size (fun k hk => by omega))
              clear hC
              go_simp
              refine hK.out _ (put3 v9 b (.int .i64 RX) (.int .i64 RY) (.slice Haa RA.length Hac)) ⟨Xn, Yn⟩ (fun hHeld => ?_)
              clear hK K t0 t1 t2 f0 f1 f2
              refine wpAnyH_take (i := 10) (oi := { dst := some 16, op := Op.assign (Operand.tmp 101), type := 4, pos := "exact.go:7071", after := #[{ on := 7, ground := Ground.data }, { on := 9, ground := Ground.chain }, { on := 0, ground := Ground.phase }, { on := 1, ground := Ground.phase }, { on := 2, ground := Ground.phase }, { on := 3, ground := Ground.phase }, { on := 4, ground := Ground.phase }, { on := 5, ground := Ground.phase }, { on := 6, ground := Ground.phase }, { on := 7, ground := Ground.phase }, { on := 8, ground := Ground.phase }, { on := 9, ground := Ground.phase }], guard := none }) (v := .bool ok) rfl (by kernel_rfl) (by kernel_rfl) (by kernel_rfl) (fun _ _ _ h => h) (Or.inl ⟨by rfl, ?_⟩) (by assumption) ?_
              · intro wx hSw
                clear hSw hHeld; go_simp
              simp only [Act.put, List.setIfInBounds_toArray, List.set_cons_zero, List.set_cons_succ]
              clear hHeld
              refine wpAnyH_done (by kernel_rfl) ?_ _
              go_wp2_with fail
              go_meet
              case rel => exact ⟨b, _, _, rfl, rfl, Xn, Yn, Zn, HAn, Pn, PAn, Qn, MAn, by omega, hBn⟩
          · clear hHeld
            have Z := Box.new v0 #[.int .i64 0, .int .i64 0, .slice none 0 0] 25
            have hkX := X.1
            have hkY := Y.1
            have hkP := P.1
            have hkPA := owns_below_lt PA
            have hkQ := Q.1
            have hkMA := owns_below_lt MA
            have hkw := hB.size
            have hA := below_alloc v0 (.cells #[.int .i64 0, .int .i64 0, .slice none 0 0] 25)
            replace hB := below_then hB hA
            replace X := X.below hA
            replace Y := Y.below hA
            replace P := P.below hA
            replace PA := owns_below PA hA
            replace Q := Q.below hA
            replace MA := owns_below MA hA
            clear hA
            go_simp
            refine hK.out _ _ ⟨X, Y⟩ (fun hHeld => ?_)
            clear hK K
            generalize v0.alloc (.cells #[.int .i64 0, .int .i64 0, .slice none 0 0] 25) = v10 at *
            generalize v0.heap.size = b at *
            have nePA := fun g hg => Nat.ne_of_lt (hkPA g hg)
            clear hkPA
            have neMA := fun g hg => Nat.ne_of_lt (hkMA g hg)
            clear hkMA
            refine wpAnyH_ready (rs := [1]) (by kernel_rfl) (by simp) ?_
            refine (AllReadyH.cons (o := { dst := some 96, op := Op.call { callee := Callee.value (Operand.func 32), args := #[Operand.tmp 95], argTypes := #[49] }, type := 25, pos := "exact.go:7071", after := #[{ on := 0, ground := Ground.data }], guard := none }) rfl (fun K hK => ?_) AllReadyH.nil)
            clear hHeld
            go_simp
            refine (T1 _ (hv1.below hB)).mono ?_
            rintro e v11 ⟨g13, rfl, o13, hbv⟩
            have hzb := Z.1
            have hzc := hB.size
            replace hB := below_then hB hbv
            replace X := X.below hbv
            replace Y := Y.below hbv
            replace P := P.below hbv
            replace PA := owns_below PA hbv
            replace Q := Q.below hbv
            replace MA := owns_below MA hbv
            replace Z := Z.below hbv
            clear hbv hzc
            refine hK.out _ _ ⟨X, Y⟩ (fun hHeld => ?_)
            clear hK K
            refine wpAnyH_ready (rs := [3]) (by kernel_rfl) (by simp) ?_
            refine (AllReadyH.cons (o := { dst := some 98, op := Op.call { callee := Callee.value (Operand.func 35), args := #[Operand.tmp 97], argTypes := #[55] }, type := 30, pos := "exact.go:7071", after := #[{ on := 2, ground := Ground.data }, { on := 1, ground := Ground.chain }], guard := none }) rfl (fun K hK => ?_) AllReadyH.nil)
            clear hHeld
            go_simp
            refine (T2 _ (hq2.below hB) (hv2.below hB)).mono ?_
            rintro e v12 ⟨gq14, g14, rfl, oq14, o14, hbv⟩
            have hzb := Z.1
            have hzc := hB.size
            replace hB := below_then hB hbv
            replace X := X.below hbv
            replace Y := Y.below hbv
            replace P := P.below hbv
            replace PA := owns_below PA hbv
            replace Q := Q.below hbv
            replace MA := owns_below MA hbv
            replace Z := Z.below hbv
            replace o13 := owns_below o13 hbv
            clear hbv hzc
            refine hK.out _ _ ⟨X, Y⟩ (fun hHeld => ?_)
            clear hK K
            refine wpAnyH_ready (rs := [4]) (by kernel_rfl) (by simp) ?_
            refine (AllReadyH.cons (o := { dst := some 99, op := Op.call { callee := Callee.value (Operand.func 16), args := #[Operand.tmp 96, Operand.tmp 98], argTypes := #[25, 30] }, type := 33, pos := "exact.go:7071", after := #[{ on := 1, ground := Ground.data }, { on := 3, ground := Ground.data }, { on := 3, ground := Ground.chain }], guard := none }) rfl (fun K hK => ?_) AllReadyH.nil)
            clear hHeld
            go_simp
            refine (I (IX_of_owns o13 rfl) (IL_of_owns oq14 (by simp)) (IR_of_owns o14 rfl)).mono ?_
            rintro e v13 ⟨Hu2, rfl, HA, hbv⟩
            have hzb := Z.1
            have hzc := hB.size
            replace hB := below_then hB hbv
            replace X := X.below hbv
            replace Y := Y.below hbv
            replace P := P.below hbv
            replace PA := owns_below PA hbv
            replace Q := Q.below hbv
            replace MA := owns_below MA hbv
            replace Z := Z.below hbv
            replace o13 := owns_below o13 hbv
            replace oq14 := owns_below oq14 hbv
            replace o14 := owns_below o14 hbv
            obtain ⟨Haa, Hac, rfl⟩ := owns_shape HA
            have neHA := fun g hg => Nat.ne_of_gt (Nat.lt_of_lt_of_le hzb (owns_ge HA g hg))
            replace HA := owns_mono HA hzc
            clear hbv hzc
            refine hK.out _ _ ⟨X, Y⟩ (fun hHeld => ?_)
            clear hK K
            refine wpAnyH_take (i := 5) (oi := { dst := some 94, op := Op.move (Operand.tmp 99), type := 33, pos := "exact.go:7071", after := #[{ on := 4, ground := Ground.data }], guard := none }) (v := .tuple #[.agg #[.int .i64 RX, .int .i64 RY, .slice Haa RA.length Hac], .bool ok]) rfl (by kernel_rfl) (by kernel_rfl) (by kernel_rfl) (fun _ _ _ h => h) (Or.inl ⟨by rfl, ?_⟩) (by assumption) ?_
            · intro wx hSw
              clear hSw hHeld; go_simp
            simp only [Act.put, List.setIfInBounds_toArray, List.set_cons_zero, List.set_cons_succ]
            refine wpAnyH_take (i := 6) (oi := { dst := some 100, op := Op.extract (Operand.tmp 94) 0, type := 25, pos := "exact.go:7071", after := #[{ on := 5, ground := Ground.data }], guard := none }) (v := .agg #[.int .i64 RX, .int .i64 RY, .slice Haa RA.length Hac]) rfl (by kernel_rfl) (by kernel_rfl) (by kernel_rfl) (fun _ _ _ h => h) (Or.inl ⟨by rfl, ?_⟩) (by assumption) ?_
            · intro wx hSw
              clear hSw hHeld; go_simp
            simp only [Act.put, List.setIfInBounds_toArray, List.set_cons_zero, List.set_cons_succ]
            refine wpAnyH_take (i := 7) (oi := { dst := some 101, op := Op.extract (Operand.tmp 94) 1, type := 4, pos := "exact.go:7071", after := #[{ on := 5, ground := Ground.data }, { on := 9, ground := Ground.gcOnly Departure.lateStores }], guard := none }) (v := .bool ok) rfl (by kernel_rfl) (by kernel_rfl) (by kernel_rfl) (fun _ _ _ h => h) (Or.inl ⟨by rfl, ?_⟩) (by assumption) ?_
            · intro wx hSw
              clear hSw hHeld; go_simp
            simp only [Act.put, List.setIfInBounds_toArray, List.set_cons_zero, List.set_cons_succ]
            refine wpAnyH_ready (rs := [9]) (by kernel_rfl) (by simp) ?_
            refine (AllReadyH.cons (o := { dst := none, op := Op.store 25 (Operand.tmp 15) (Operand.tmp 100), type := 0, pos := "exact.go:7071", after := #[{ on := 8, ground := Ground.data }, { on := 6, ground := Ground.data }, { on := 4, ground := Ground.chain }, { on := 0, ground := Ground.phase }, { on := 1, ground := Ground.phase }, { on := 2, ground := Ground.phase }, { on := 3, ground := Ground.phase }, { on := 4, ground := Ground.phase }, { on := 5, ground := Ground.phase }, { on := 6, ground := Ground.phase }, { on := 7, ground := Ground.textOnly Departure.lateStores }, { on := 8, ground := Ground.phase }], guard := none }) rfl (fun K hK => ?_) AllReadyH.nil)
            clear hHeld
            obtain ⟨zl, t0, t1, t2, f0, f1, f2⟩ := Z.c3
            have hC := put3_chg v13 b (.int .i64 RX) (.int .i64 RY) (.slice Haa RA.length Hac)
            have Xn := hC.box X (by omega)
            have Yn := hC.box Y (by omega)
            have Pn := hC.box P (by omega)
            have PAn := hC.owns PA (fun g hg hh => nePA g hg hh)
            have Qn := hC.box Q (by omega)
            have MAn := hC.owns MA (fun g hg hh => neMA g hg hh)
            have HAn := hC.owns HA (fun g hg hh => neHA g hg hh)
            have Zn := put3_box Z (.int .i64 RX) (.int .i64 RY) (.slice Haa RA.length Hac)
            have hBn := hB.trans (hC.below (B := w.heap.size) hB.size (fun k hk => by omega))
            clear hC
            go_simp
            refine hK.out _ (put3 v13 b (.int .i64 RX) (.int .i64 RY) (.slice Haa RA.length Hac)) ⟨Xn, Yn⟩ (fun hHeld => ?_)
            clear hK K t0 t1 t2 f0 f1 f2
            refine wpAnyH_take (i := 10) (oi := { dst := some 16, op := Op.assign (Operand.tmp 101), type := 4, pos := "exact.go:7071", after := #[{ on := 7, ground := Ground.data }, { on := 9, ground := Ground.chain }, { on := 0, ground := Ground.phase }, { on := 1, ground := Ground.phase }, { on := 2, ground := Ground.phase }, { on := 3, ground := Ground.phase }, { on := 4, ground := Ground.phase }, { on := 5, ground := Ground.phase }, { on := 6, ground := Ground.phase }, { on := 7, ground := Ground.phase }, { on := 8, ground := Ground.phase }, { on := 9, ground := Ground.phase }], guard := none }) (v := .bool ok) rfl (by kernel_rfl) (by kernel_rfl) (by kernel_rfl) (fun _ _ _ h => h) (Or.inl ⟨by rfl, ?_⟩) (by assumption) ?_
            · intro wx hSw
              clear hSw hHeld; go_simp
            simp only [Act.put, List.setIfInBounds_toArray, List.set_cons_zero, List.set_cons_succ]
            clear hHeld
            refine wpAnyH_done (by kernel_rfl) ?_ _
            go_wp2_with fail
            go_meet
            case rel => exact ⟨b, _, _, rfl, rfl, Xn, Yn, Zn, HAn, Pn, PAn, Qn, MAn, by omega, hBn⟩
        case rest =>
          clear X Y hB I T1 T2 P PA Q MA
          obtain ⟨bh, Haa, Hac, rfl, rfl, X, Y, H, HA, P, PA, Q, MA, hbh, hB⟩ := hcut
          have pl := P.1
          have p0 := P.2.1 0 _ rfl
          have p1 := P.2.1 1 _ rfl
          have p2 := P.2.1 2 _ rfl
          have ql := H.1
          have q0 := H.2.1 0 _ rfl
          have q1 := H.2.1 1 _ rfl
          have q2 := H.2.1 2 _ rfl
          go_wp2_with fail
          refine (eqVersion_same _ _ _ _ RA _ (IR_of_owns HA rfl) (IR_of_owns PA rfl) (by omega)).mono ?_
          rintro e w15 ⟨rfl, hb⟩
          replace hB := below_then hB hb
          replace P := P.below hb
          replace Q := Q.below hb
          replace H := H.below hb
          replace PA := owns_below PA hb
          replace MA := owns_below MA hb
          replace HA := owns_below HA hb
          clear pl p0 p1 p2 ql q0 q1 q2 hb
          have ql := Q.1
          have q0 := Q.2.1 0 _ rfl
          have q1 := Q.2.1 1 _ rfl
          have q2 := Q.2.1 2 _ rfl
          go_wp2_with fail
          refine (heldVersion_at _ _ _ RA.length 1 _ (IR_of_owns MA (mkIts_length _ _).symm) (by omega) (by omega) (by omega)).mono ?_
          rintro e w16 ⟨rfl, hb⟩
          replace hB := below_then hB hb
          replace P := P.below hb
          replace Q := Q.below hb
          replace H := H.below hb
          replace PA := owns_below PA hb
          replace MA := owns_below MA hb
          replace HA := owns_below HA hb
          clear ql q0 q1 q2 hb
          go_wp2
          go_ret
          exact ⟨rfl, hB⟩
end Go.Proofs.Ytenbdjlhcadhaaa
