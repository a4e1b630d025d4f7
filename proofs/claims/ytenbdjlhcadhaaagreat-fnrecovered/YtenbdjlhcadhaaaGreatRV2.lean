/-
  RecoverVersion: the program's side.
-/
import Derived.Test.YtenbdjlhcadhaaaGreatAPSToLNew
namespace Go.Proofs.YtenbdjlhcadhaaaGreat
open Go.RowKit
set_option linter.unusedVariables false
set_option maxRecDepth 100000

set_option maxHeartbeats 8000000 in
theorem implRecover_any (s : ByteArray) (w : World) (hs : s.size ≤ 1048576) :
    Calls Tryz.prog 10 #[.string s] w fun e w' => ∃ u, e = .returned (.tuple #[.agg #[.int .i64 (rvE s).1.1, .int .i64 (rvE s).1.2.1, u], .int .i64 ((rvE s).2 : Nat), .bool true]) ∧ w'.ownsRow w.heap.size 71 4 u (rvE s).1.2.2.length (flat4 (rvE s).1.2.2) ∧ Below w.heap.size w w' := by
  have H0 : Hid (rv (60 - 0) s (1, 0, []) 0 = rvE s) := rfl
  generalize rvE s = RR at *
  obtain ⟨⟨RX, RY, RL⟩, RK⟩ := RR
  dsimp only at *
  have hB := below_alloc w (.cells #[.int .i64 0, .int .i64 0, .slice none 0 0] 35)
  have R := Box.new w #[.int .i64 0, .int .i64 0, .slice none 0 0] 35
  go_enter Tryz.func10, Tryz.ntmps10
  go_wp2_with fail
  refine (implNew_any _).mono ?_
  rintro e w1 ⟨rfl, hb1⟩
  replace R := R.below hb1
  replace hB := below_then hB hb1
  clear hb1
  obtain ⟨W1, hW1⟩ : ∃ W1, W1 = w1.alloc (.cells #[.int .i64 1, .int .i64 0, .slice none 0 0] 35) := ⟨_, rfl⟩
  have V : Box W1 w1.heap.size [.int .i64 1, .int .i64 0, .slice none 0 0] := by rw [hW1]; exact Box.new w1 #[.int .i64 1, .int .i64 0, .slice none 0 0] 35
  have hb1 : Below w1.heap.size w1 W1 := by rw [hW1]; exact below_alloc _ _
  have hRl := R.1
  replace R := R.below hb1
  replace hB := below_then hB hb1
  clear hb1
  go_wp2_with fail
  rw [← hW1]; clear hW1
  generalize w1.heap.size = vb at *
  have hVl := V.1
  have hz1 := hB.size
  go_loopw [0, 6] (fun s0 s6 wr => ∃ (k : Nat) (r : ByteArray) (vx vy : Int) (vl : List Mt) (u : Value), k ≤ 60 ∧ s0 = .string r ∧ s6 = .int .i64 k ∧ r.size ≤ 1048576 ∧ rv (60 - k) r (vx, vy, vl) k = ((RX, RY, RL), RK) ∧ goodV vx vy vl = true ∧ Box wr vb [.int .i64 vx, .int .i64 vy, u] ∧ wr.ownsRow w.heap.size 71 4 u vl.length (flat4 vl) ∧ (∀ g, u.ownBlock = some g → W1.heap.size ≤ g) ∧ Chg (fun j => j = vb ∨ W1.heap.size ≤ j) W1 wr) (fun _ i _ => 60 - (intOf i).toNat)
  case atStart => exact ⟨0, s, 1, 0, [], _, by omega, rfl, rfl, hs, H0.out, start_good, V, World.ownsRow_nil _ _ _ _, (fun g hg => by simp [Value.ownBlock] at hg), Chg.refl _ _⟩
  case round =>
    clear V H0
    obtain ⟨k, r, vx, vy, vl, u, hk, rfl, rfl, hrs, hrv, hgv, Vr, Ow, hgu, hC⟩ := hrel
    have HRV : Hid (rv (60 - k) r (vx, vy, vl) k = ((RX, RY, RL), RK)) := hrv
    clear hrv
    obtain ⟨ua, uc, rfl⟩ := owns_shape Ow
    have Rr := hC.box R (by omega)
    have hBr := hB.trans (hC.below (B := w.heap.size) hz1 (fun j hj => by omega))
    have hzr := hC.size
    by_cases hlt : k < 60
    · obtain ⟨f, hf⟩ : ∃ f, 60 - k = f + 1 := ⟨60 - k - 1, by omega⟩
      have HNX : Hid (stGo (vx, vy, vl) r = true → rv (60 - (k + 1)) (tfL r) (stNx (vx, vy, vl) r) (k + 1) = ((RX, RY, RL), RK) ∧ goodV (stNx (vx, vy, vl) r).1 (stNx (vx, vy, vl) r).2.1 (stNx (vx, vy, vl) r).2.2 = true) := fun h => by
        have h1 := HRV.out
        rw [hf, rv_go h] at h1
        rw [show 60 - (k + 1) = f from by omega]
        exact ⟨h1, go_good h⟩
      have HNO : Hid (stGo (vx, vy, vl) r = false → ((vx, vy, vl), k) = ((RX, RY, RL), RK)) := fun h => by
        have h1 := HRV.out
        rw [rv_no h] at h1
        exact h1
      have TF := implTakeFrame_any r wr hrs
      have RE := fun W => implRead_any (tfT r) W (by have := tfT_size r; omega)
      obtain ⟨hvn, hvs⟩ := good_sizes hgv
      obtain ⟨e1, e2, e3⟩ := rd_sizes (tfT r)
      have AP : ∀ W u q u', IX W u vl → IL W q (rdE (tfT r)).2.2.1 → IR W u' (rdE (tfT r)).2.2.2 → Calls Tryz.prog 18 #[.agg #[.int .i64 vx, .int .i64 vy, u], .agg #[.int .i64 (rdE (tfT r)).1, .int .i64 (rdE (tfT r)).2.1, q, u']] W fun e w' => ∃ x, e = .returned (.tuple #[.agg #[.int .i64 (stNx (vx, vy, vl) r).1, .int .i64 (stNx (vx, vy, vl) r).2.1, x], .bool (stGo (vx, vy, vl) r)]) ∧ w'.ownsRow W.heap.size 71 4 x (stNx (vx, vy, vl) r).2.2.length (flat4 (stNx (vx, vy, vl) r).2.2) ∧ Below W.heap.size W w' := fun W u q u' h1 h2 h3 => implApply_any vx vy _ _ u q u' vl _ _ W h1 h2 h3 (by omega) (by omega) (by omega) hvs e3
      have SL := fun w => str_from r (tfN r) w (tfN_le r)
      have hL : r.extract (tfN r) r.size = tfL r := rfl
      have hls := tfL_size r
      rw [hL] at SL
      clear HRV hL hvs e3 hf f
      generalize stGo (vx, vy, vl) r = go at *
      generalize stNx (vx, vy, vl) r = N at *
      obtain ⟨Nx, Ny, Nl⟩ := N
      generalize rdE (tfT r) = E at *
      obtain ⟨Ex, Ey, Ed, Ea⟩ := E
      generalize rdB (tfT r) = eb at *
      generalize tfT r = fr at *
      generalize tfOk r = ok at *
      generalize tfL r = r2 at *
      generalize tfN r = n at *
      dsimp only at *
      go_wp2_with fail
      refine TF.mono ?_
      rintro e w3 ⟨rfl, hb3⟩
      replace Vr := Vr.below hb3
      replace Ow := owns_below Ow hb3
      replace Rr := Rr.below hb3
      replace hBr := below_then hBr hb3
      replace hC := hC.trans (Chg.of_below hb3)
      clear TF hb3 hzr
      go_wp2_with fail
      refine (RE _).mono ?_
      rintro e w4 ⟨eu, ev, rfl, OD, OA, hb4⟩
      replace Vr := Vr.below hb4
      replace Ow := owns_below Ow hb4
      replace Rr := Rr.below hb4
      replace hBr := below_then hBr hb4
      replace hC := hC.trans (Chg.of_below hb4)
      clear RE hb4
      obtain ⟨da, dc, rfl⟩ := owns_shape OD
      obtain ⟨aa, ac, rfl⟩ := owns_shape OA
      obtain ⟨W4, hW4⟩ : ∃ W4, W4 = w4.alloc (.cells #[.int .i64 Ex, .int .i64 Ey, .slice da Ed.length dc, .slice aa Ea.length ac] 26) := ⟨_, rfl⟩
      have EB : Box W4 w4.heap.size [.int .i64 Ex, .int .i64 Ey, .slice da Ed.length dc, .slice aa Ea.length ac] := by rw [hW4]; exact Box.new w4 #[.int .i64 Ex, .int .i64 Ey, .slice da Ed.length dc, .slice aa Ea.length ac] 26
      have hb4 : Below w4.heap.size w4 W4 := by rw [hW4]; exact below_alloc _ _
      obtain ⟨vl4, v0, v1, v2, _⟩ := Vr.c3
      replace Vr := Vr.below hb4
      replace Ow := owns_below Ow hb4
      replace Rr := Rr.below hb4
      replace OD := owns_below OD hb4
      replace OA := owns_below OA hb4
      replace hBr := below_then hBr hb4
      replace hC := hC.trans (Chg.of_below hb4)
      clear hb4
      have AP2 := AP W4 _ _ _ (IX_of_owns Ow rfl) (IL_of_owns OD rfl) (IR_of_owns OA rfl)
      clear AP
      obtain ⟨el, x0, x1, x2, x3, _⟩ := EB.e4
      subst hW4
      go_wp2_with fail
      refine AP2.mono ?_
      rintro e w5 ⟨x, rfl, OX, hb5⟩
      have hzX := hC.size
      have hgX := owns_ge OX
      replace Vr := Vr.below hb5
      replace Ow := owns_below Ow hb5
      replace Rr := Rr.below hb5
      replace hC := hC.trans (Chg.of_below hb5)
      have hzB := hBr.size
      replace hBr := below_then hBr hb5
      replace OX := owns_mono OX hzB
      clear AP2 hb5 OD OA EB el x0 x1 x2 x3 vl4 v0 v1 v2
      obtain ⟨xa, xc, rfl⟩ := owns_shape OX
      obtain ⟨W5, hW5⟩ : ∃ W5, W5 = w5.alloc (.cells #[.int .i64 Nx, .int .i64 Ny, .slice xa Nl.length xc] 35) := ⟨_, rfl⟩
      have CB : Box W5 w5.heap.size [.int .i64 Nx, .int .i64 Ny, .slice xa Nl.length xc] := by rw [hW5]; exact Box.new w5 #[.int .i64 Nx, .int .i64 Ny, .slice xa Nl.length xc] 35
      have hb5 : Below w5.heap.size w5 W5 := by rw [hW5]; exact below_alloc _ _
      have V5 := Vr
      have R5 := Rr
      have O5 := Ow
      have hB5 := hBr
      have hV5 := Vr.1
      replace Vr := Vr.below hb5
      replace Ow := owns_below Ow hb5
      replace Rr := Rr.below hb5
      replace OX := owns_below OX hb5
      replace hBr := below_then hBr hb5
      replace hC := hC.trans (Chg.of_below hb5)
      clear hb5
      cases go
      · have hE := HNO.out (by trivial)
        simp only [Prod.mk.injEq] at hE
        obtain ⟨⟨rfl, rfl, rfl⟩, rfl⟩ := hE
        obtain ⟨vl5, v0, v1, v2, _⟩ := V5.c3
        obtain ⟨hr, r0, r1, r2', f0, f1, f2⟩ := R5.c3
        have hCE := put3_chg w5 w.heap.size (.int .i64 vx) (.int .i64 vy) (.slice ua vl.length uc)
        have OE := owns_below (hCE.owns O5 (fun g hg hh => by have := hgu g hg; omega)) (below_alloc _ (.cells #[.int .i64 Nx, .int .i64 Ny, .slice xa Nl.length xc] 35))
        have hq := hB5.trans (hCE.below (B := w.heap.size) hB5.size (fun k hk => by omega))
        have hBE := hq.alloc hq.size (.cells #[.int .i64 Nx, .int .i64 Ny, .slice xa Nl.length xc] 35)
        obtain ⟨_, s0, s1, s2, _⟩ := ((put3_box R5 (.int .i64 vx) (.int .i64 vy) (.slice ua vl.length uc)).alloc (.cells #[.int .i64 Nx, .int .i64 Ny, .slice xa Nl.length xc] 35)).c3
        unfold put3 at OE hBE s0 s1 s2
        clear HNX HNO SL hCE hq hW5 CB Vr Rr Ow OX hBr hC
        go_wp2
        exact bodyPost_ret (v := .tuple #[.agg #[.int .i64 vx, .int .i64 vy, .slice ua vl.length uc], .int .i64 (k : Int), .bool true]) (by simp [results, Tryz.results10, go_sem, s0, s1, s2]) rfl ⟨_, rfl, OE, hBE⟩
      · obtain ⟨hrv2, hgv2⟩ := HNX.out (by trivial)
        have HR2 : Hid (rv (60 - (k + 1)) r2 (Nx, Ny, Nl) (k + 1) = ((RX, RY, RL), RK)) := hrv2
        clear HNX HNO hrv2
        go_wp2_with fail
        rw [← hW5]; clear hW5
        have hD : Below W5.heap.size W5 W5.drew := (Below.refl _ _).drew
        replace Vr := Vr.below hD
        replace CB := CB.below hD
        replace OX := owns_below OX hD
        replace hC := hC.trans (Chg.of_below hD)
        clear hD
        refine wp_region_held_drew (S := fun w' => Box w' w5.heap.size [.int .i64 Nx, .int .i64 Ny, .slice xa Nl.length xc]) (by kernel_rfl) CB (fun hHeld => ?_)
        generalize W5.drew = v0 at *
        refine wpAnyH_take (i := 0) (oi := { dst := some 36, op := Op.load 35 (Operand.tmp 12), type := 35, pos := "l9_version.go:110", after := #[], guard := none }) (v := .agg #[.int .i64 Nx, .int .i64 Ny, .slice xa Nl.length xc]) rfl (by kernel_rfl) (by kernel_rfl) (by kernel_rfl) (fun _ _ _ h => h) (Or.inl ⟨by rfl, ?_⟩) (by assumption) ?_
        · intro wx hSw
          have e0 := hSw.2.1 0 _ rfl; have e1 := hSw.2.1 1 _ rfl; have e2 := hSw.2.1 2 _ rfl; clear hHeld; go_simp
        simp only [Act.put, List.setIfInBounds_toArray, List.set_cons_zero, List.set_cons_succ]
        refine wpAnyH_take (i := 1) (oi := { dst := some 37, op := Op.move (Operand.tmp 0), type := 9, pos := "l9_version.go:110", after := #[], guard := none }) (v := .string r) rfl (by kernel_rfl) (by kernel_rfl) (by kernel_rfl) (fun _ _ _ h => h) (Or.inl ⟨by rfl, ?_⟩) (by assumption) ?_
        · intro wx hSw
          clear hSw hHeld; go_simp
        simp only [Act.put, List.setIfInBounds_toArray, List.set_cons_zero, List.set_cons_succ]
        refine wpAnyH_take (i := 2) (oi := { dst := some 38, op := Op.move (Operand.tmp 8), type := 3, pos := "l9_version.go:110", after := #[], guard := none }) (v := .int .i64 (n : Int)) rfl (by kernel_rfl) (by kernel_rfl) (by kernel_rfl) (fun _ _ _ h => h) (Or.inl ⟨by rfl, ?_⟩) (by assumption) ?_
        · intro wx hSw
          clear hSw hHeld; go_simp
        simp only [Act.put, List.setIfInBounds_toArray, List.set_cons_zero, List.set_cons_succ]
        refine wpAnyH_take (i := 3) (oi := { dst := some 39, op := Op.slice 9 (Operand.tmp 37) (some (Operand.tmp 38)) none none, type := 9, pos := "l9_version.go:110", after := #[{ on := 1, ground := Ground.data }, { on := 2, ground := Ground.data }], guard := none }) (v := .string r2) rfl (by kernel_rfl) (by kernel_rfl) (by kernel_rfl) (fun _ _ _ h => h) (Or.inl ⟨by rfl, ?_⟩) (by assumption) ?_
        · intro wx hSw
          clear hSw hHeld; have e := SL wx; go_simp
        simp only [Act.put, List.setIfInBounds_toArray, List.set_cons_zero, List.set_cons_succ]
        obtain ⟨vl5, v0', v1, v2, f0, f1, f2⟩ := Vr.c3
        refine wpAnyH_ready (rs := [4]) (by kernel_rfl) (by simp) ?_
        refine AllReadyH.cons (o := { dst := none, op := Op.store 35 (Operand.tmp 5) (Operand.tmp 36), type := 0, pos := "l9_version.go:110", after := #[{ on := 0, ground := Ground.data }, { on := 0, ground := Ground.phase }, { on := 1, ground := Ground.textOnly Departure.lateStores }, { on := 2, ground := Ground.textOnly Departure.lateStores }, { on := 3, ground := Ground.textOnly Departure.lateStoresUnsure }], guard := none }) rfl (fun K hK => ?_) AllReadyH.nil
        clear hHeld
        have hC6 := put3_chg v0 vb (.int .i64 Nx) (.int .i64 Ny) (.slice xa Nl.length xc)
        have V6 := put3_box Vr (.int .i64 Nx) (.int .i64 Ny) (.slice xa Nl.length xc)
        have CB6 := hC6.box CB (by omega)
        have OX6 := hC6.owns OX (fun g hg hh => by have := hgX g hg; omega)
        have hCn := hC.trans (hC6.mono fun j hj => .inl hj)
        clear hC6
        go_simp
        refine hK.out _ (put3 v0 vb (.int .i64 Nx) (.int .i64 Ny) (.slice xa Nl.length xc)) CB6 (fun hHeld => ?_)
        clear hK K v0' v1 v2 f0 f1 f2 vl5 Vr CB OX hC
        refine wpAnyH_take (i := 5) (oi := { dst := some 0, op := Op.assign (Operand.tmp 39), type := 9, pos := "l9_version.go:110", after := #[{ on := 3, ground := Ground.data }, { on := 4, ground := Ground.chain }, { on := 0, ground := Ground.phase }, { on := 1, ground := Ground.phase }, { on := 2, ground := Ground.phase }, { on := 3, ground := Ground.phase }, { on := 4, ground := Ground.phase }], guard := none }) (v := .string r2) rfl (by kernel_rfl) (by kernel_rfl) (by kernel_rfl) (fun _ _ _ h => h) (Or.inl ⟨by rfl, ?_⟩) (by assumption) ?_
        · intro wx hSw
          clear hSw hHeld; go_simp
        simp only [Act.put, List.setIfInBounds_toArray, List.set_cons_zero]
        clear hHeld
        refine wpAnyH_done (by kernel_rfl) ?_ _
        go_wp2
        go_roundw
        case rel => exact ⟨k + 1, r2, Nx, Ny, Nl, _, by omega, rfl, by go_num, by omega, HR2.out, hgv2, V6, OX6, fun g hg => by have := hgX g hg; omega, hCn⟩
        case measure => simp [intOf]; omega
    · obtain rfl : k = 60 := by omega
      have hE := HRV.out
      simp only [rv, Nat.sub_self, Prod.mk.injEq] at hE
      obtain ⟨⟨rfl, rfl, rfl⟩, rfl⟩ := hE
      obtain ⟨vl5, v0, v1, v2, _⟩ := Vr.c3
      obtain ⟨hr, r0, r1, r2', f0, f1, f2⟩ := Rr.c3
      clear HRV
      have hCE := put3_chg wr w.heap.size (.int .i64 vx) (.int .i64 vy) (.slice ua vl.length uc)
      have OE := hCE.owns Ow (fun g hg hh => by have := hgu g hg; omega)
      have hBE := hBr.trans (hCE.below (B := w.heap.size) hBr.size (fun k hk => by omega))
      clear hCE
      go_wp2
      exact bodyPost_ret (v := .tuple #[.agg #[.int .i64 vx, .int .i64 vy, .slice ua vl.length uc], .int .i64 60, .bool true]) (by simp [results, Tryz.results10, go_sem, r0, r1, r2']) rfl ⟨_, rfl, OE, hBE⟩
end Go.Proofs.YtenbdjlhcadhaaaGreat
