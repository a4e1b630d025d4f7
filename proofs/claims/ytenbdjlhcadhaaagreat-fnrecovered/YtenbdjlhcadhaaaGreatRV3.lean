/-
  RecoverVersion: the specification's side.
-/
import Derived.Test.YtenbdjlhcadhaaaGreatRV2
namespace Go.Proofs.YtenbdjlhcadhaaaGreat
open Go.RowKit
set_option linter.unusedVariables false
set_option maxRecDepth 100000

/-- The frames from here on, so many at most. -/
def frs : Nat → ByteArray → List ByteArray
  | 0, _ => []
  | f + 1, r => if tfOk r then tfT r :: frs f (tfL r) else []
theorem tfL_ext (s : ByteArray) (a : Nat) (ha : a ≤ s.size) : tfL (s.extract a s.size) = s.extract (a + tfN (s.extract a s.size)) s.size := by
  apply bl_inj
  unfold tfL
  rw [bl_from, bl_from, bl_from, List.drop_drop]
theorem rf_frs (s : ByteArray) : ∀ (f a : Nat), a ≤ s.size → (rf s f a).1 = frs f (s.extract a s.size) := by
  intro f
  induction f with
  | zero => intro a _; rfl
  | succ f ih =>
    intro a ha
    simp only [rf, frs]
    by_cases h : tfOk (s.extract a s.size) = true
    · rw [if_pos h, if_pos h]
      have hn := tfN_le (s.extract a s.size)
      rw [ext_size s a ha] at hn
      rw [tfL_ext s a ha, ← ih _ (by omega)]
    · rw [if_neg h, if_neg h]
theorem frames_frs (s : ByteArray) : framesOf s = frs 60 s := by
  unfold framesOf
  rw [rf_frs s 60 0 (Nat.zero_le _)]
  congr 1
  apply bl_inj
  rw [bl_from]; rfl
theorem frs_len : ∀ (f : Nat) (r : ByteArray), (frs f r).length ≤ f := by
  intro f
  induction f with
  | zero => intro r; simp [frs]
  | succ f ih =>
    intro r
    simp only [frs]
    split
    · simp only [List.length_cons]; have := ih (tfL r); omega
    · simp
theorem frs_some {f : Nat} {r x : ByteArray} {L : List ByteArray} (h : frs f r = x :: L) : ∃ f', f = f' + 1 ∧ tfOk r = true ∧ x = tfT r ∧ L = frs f' (tfL r) := by
  cases f with
  | zero => simp [frs] at h
  | succ f =>
    simp only [frs] at h
    by_cases ho : tfOk r = true
    · rw [if_pos ho] at h
      injection h with h1 h2
      exact ⟨f, rfl, ho, h1.symm, h2.symm⟩
    · rw [if_neg ho] at h; cases h
theorem frs_none {f : Nat} {r : ByteArray} (h : frs f r = []) : f = 0 ∨ tfOk r = false := by
  cases f with
  | zero => exact .inl rfl
  | succ f =>
    right
    simp only [frs] at h
    cases ho : tfOk r with
    | false => rfl
    | true => rw [if_pos ho] at h; cases h
theorem rv_none {f : Nat} {r : ByteArray} {v : St} {k : Nat} (h : frs f r = []) : rv f r v k = (v, k) := by
  rcases frs_none h with rfl | h
  · rfl
  · refine rv_no ?_
    cases hg : stGo v r with
    | false => rfl
    | true => rw [(go_ok hg).1] at h; cases h
theorem rv_unread {f : Nat} {r : ByteArray} {v : St} {k : Nat} (h : rdB (tfT r) = false) : rv f r v k = (v, k) := by
  refine rv_no ?_
  cases hg : stGo v r with
  | false => rfl
  | true => rw [(go_ok hg).2] at h; cases h

set_option maxHeartbeats 8000000 in
theorem specRecover_any (s : ByteArray) (w : World) (hs : s.size ≤ 1048576) :
    Calls Tryz.prog 11 #[.string s] w fun e w' => ∃ u, e = .returned (.tuple #[.agg #[.int .i64 (rvE s).1.1, .int .i64 (rvE s).1.2.1, u], .int .i64 ((rvE s).2 : Nat), .bool true]) ∧ w'.ownsRow w.heap.size 71 4 u (rvE s).1.2.2.length (flat4 (rvE s).1.2.2) ∧ Below w.heap.size w w' := by
  have H0 : Hid (rv (60 - 0) s (1, 0, []) 0 = rvE s) := rfl
  have HF : Hid (framesOf s = frs (60 - 0) s) := frames_frs s
  have LF := fun W => l2Frames_any s W hs
  have hL60 : (framesOf s).length ≤ 60 := by rw [frames_frs]; exact frs_len 60 s
  generalize rvE s = RR at *
  obtain ⟨⟨RX, RY, RL⟩, RK⟩ := RR
  generalize framesOf s = L at *
  generalize framesEnd s = fe at *
  dsimp only at *
  have hB := below_alloc w (.cells #[.int .i64 0, .int .i64 0, .slice none 0 0] 35)
  have R := Box.new w #[.int .i64 0, .int .i64 0, .slice none 0 0] 35
  go_enter Tryz.func11, Tryz.ntmps11
  go_wp2_with fail
  refine (LF _).mono ?_
  rintro e w0 ⟨fv, rfl, OF, hb0⟩
  replace R := R.below hb0
  replace hB := below_then hB hb0
  clear LF hb0
  obtain ⟨fa, fc, rfl⟩ := owns_shape OF
  go_wp2_with fail
  refine (specNew_any _).mono ?_
  rintro e w1 ⟨rfl, hb1⟩
  replace R := R.below hb1
  replace OF := owns_below OF hb1
  replace hB := below_then hB hb1
  clear hb1
  obtain ⟨W1, hW1⟩ : ∃ W1, W1 = w1.alloc (.cells #[.int .i64 1, .int .i64 0, .slice none 0 0] 35) := ⟨_, rfl⟩
  have V : Box W1 w1.heap.size [.int .i64 1, .int .i64 0, .slice none 0 0] := by rw [hW1]; exact Box.new w1 #[.int .i64 1, .int .i64 0, .slice none 0 0] 35
  have hb1 : Below w1.heap.size w1 W1 := by rw [hW1]; exact below_alloc _ _
  have hRl := R.1
  have hlF := owns_below_lt OF
  replace R := R.below hb1
  replace OF := owns_below OF hb1
  replace hB := below_then hB hb1
  clear hb1
  go_wp2
  rw [← hW1]; clear hW1
  generalize w1.heap.size = vb at *
  have hVl := V.1
  have hz1 := hB.size
  go_loopw [22] (fun i wr => ∃ (k : Nat) (r : ByteArray) (vx vy : Int) (vl : List Mt) (u : Value), k ≤ L.length ∧ i = .int .i64 k ∧ L.drop k = frs (60 - k) r ∧ rv (60 - k) r (vx, vy, vl) k = ((RX, RY, RL), RK) ∧ goodV vx vy vl = true ∧ Box wr vb [.int .i64 vx, .int .i64 vy, u] ∧ wr.ownsRow w.heap.size 71 4 u vl.length (flat4 vl) ∧ (∀ g, u.ownBlock = some g → W1.heap.size ≤ g) ∧ Chg (fun j => j = vb ∨ W1.heap.size ≤ j) W1 wr) (fun i _ => L.length - (intOf i).toNat)
  case atStart => exact ⟨0, s, 1, 0, [], _, Nat.zero_le _, rfl, HF.out, H0.out, start_good, V, World.ownsRow_nil _ _ _ _, (fun g hg => by simp [Value.ownBlock] at hg), Chg.refl _ _⟩
  case round =>
    clear V H0 HF
    obtain ⟨k, r, vx, vy, vl, u, hk, rfl, hfr, hrv, hgv, Vr, Ow, hgu, hC⟩ := hrel
    have HFR : Hid (L.drop k = frs (60 - k) r) := hfr
    have HRV : Hid (rv (60 - k) r (vx, vy, vl) k = ((RX, RY, RL), RK)) := hrv
    clear hrv hfr
    obtain ⟨ua, uc, rfl⟩ := owns_shape Ow
    have Rr := hC.box R (by omega)
    have hBr := hB.trans (hC.below (B := w.heap.size) hz1 (fun j hj => by omega))
    have OFr := hC.owns OF (fun g hg hh => by have := hlF g hg; omega)
    have hzr := hC.size
    by_cases hlt : k < L.length
    · obtain ⟨f, hf, hok, hx, hL⟩ := frs_some (by rw [← HFR.out]; exact List.drop_eq_getElem_cons hlt)
      obtain ⟨fa', fc', hve, hcf⟩ := SL_of_owns OFr
      simp only [Value.slice.injEq, true_and] at hve
      obtain ⟨rfl, rfl⟩ := hve
      obtain ⟨fb, fo, rfl, hfl, hcell⟩ := hcf (by intro e; simp [e] at hlt)
      have hc0 := hcell k hlt
      rw [hx] at hc0
      have HNX : Hid (stGo (vx, vy, vl) r = true → L.drop (k + 1) = frs (60 - (k + 1)) (tfL r) ∧ rv (60 - (k + 1)) (tfL r) (stNx (vx, vy, vl) r) (k + 1) = ((RX, RY, RL), RK) ∧ goodV (stNx (vx, vy, vl) r).1 (stNx (vx, vy, vl) r).2.1 (stNx (vx, vy, vl) r).2.2 = true) := fun h => by
        have h1 := HRV.out
        rw [hf, rv_go h] at h1
        rw [show 60 - (k + 1) = f from by omega]
        exact ⟨hL, h1, go_good h⟩
      have HNO : Hid (stGo (vx, vy, vl) r = false → ((vx, vy, vl), k) = ((RX, RY, RL), RK)) := fun h => by
        have h1 := HRV.out
        rw [rv_no h] at h1
        exact h1
      have HNR : Hid (rdB (tfT r) = false → ((vx, vy, vl), k) = ((RX, RY, RL), RK)) := fun h => by
        have h1 := HRV.out
        rw [rv_unread h] at h1
        exact h1
      have RE := fun W => l9Read_any (tfT r) W (tfT_size r)
      obtain ⟨hvn, hvs⟩ := good_sizes hgv
      obtain ⟨e1, e2, e3⟩ := rd_sizes (tfT r)
      have AP : ∀ W u q u', IX W u vl → IL W q (rdE (tfT r)).2.2.1 → IR W u' (rdE (tfT r)).2.2.2 → Calls Tryz.prog 39 #[.agg #[.int .i64 vx, .int .i64 vy, u], .agg #[.int .i64 (rdE (tfT r)).1, .int .i64 (rdE (tfT r)).2.1, q, u']] W fun e w' => ∃ x, e = .returned (.tuple #[.agg #[.int .i64 (stNx (vx, vy, vl) r).1, .int .i64 (stNx (vx, vy, vl) r).2.1, x], .bool (stGo (vx, vy, vl) r)]) ∧ w'.ownsRow W.heap.size 71 4 x (stNx (vx, vy, vl) r).2.2.length (flat4 (stNx (vx, vy, vl) r).2.2) ∧ Below W.heap.size W w' := fun W u q u' h1 h2 h3 => l9Apply_any vx vy _ _ u q u' vl _ _ W h1 h2 h3 (by omega) (by omega) (by omega) hvs e3 hgv
      clear HRV HFR hvs e3 hf hL hx hcell hcf hok
      generalize stGo (vx, vy, vl) r = go at *
      generalize stNx (vx, vy, vl) r = N at *
      obtain ⟨Nx, Ny, Nl⟩ := N
      generalize rdE (tfT r) = E at *
      obtain ⟨Ex, Ey, Ed, Ea⟩ := E
      generalize rdB (tfT r) = eb at *
      generalize tfT r = fr at *
      generalize tfL r = r2 at *
      dsimp only at *
      go_wp2_with fail
      refine (RE _).mono ?_
      rintro e w4 ⟨eu, ev, rfl, OD, OA, hb4⟩
      replace Vr := Vr.below hb4
      replace Ow := owns_below Ow hb4
      replace Rr := Rr.below hb4
      replace hBr := below_then hBr hb4
      replace hC := hC.trans (Chg.of_below hb4)
      clear RE hb4 hc0 OFr
      obtain ⟨da, dc, rfl⟩ := owns_shape OD
      obtain ⟨aa, ac, rfl⟩ := owns_shape OA
      obtain ⟨W4, hW4⟩ : ∃ W4, W4 = w4.alloc (.cells #[.int .i64 Ex, .int .i64 Ey, .slice da Ed.length dc, .slice aa Ea.length ac] 26) := ⟨_, rfl⟩
      have EB : Box W4 w4.heap.size [.int .i64 Ex, .int .i64 Ey, .slice da Ed.length dc, .slice aa Ea.length ac] := by rw [hW4]; exact Box.new w4 #[.int .i64 Ex, .int .i64 Ey, .slice da Ed.length dc, .slice aa Ea.length ac] 26
      have hb4 : Below w4.heap.size w4 W4 := by rw [hW4]; exact below_alloc _ _
      obtain ⟨vl4, v0, v1, v2, _⟩ := Vr.c3
      cases eb
      · have hE := HNR.out (by trivial)
        simp only [Prod.mk.injEq] at hE
        obtain ⟨⟨rfl, rfl, rfl⟩, rfl⟩ := hE
        obtain ⟨hr, r0, r1, r2', f0, f1, f2⟩ := Rr.c3
        have hCE := put3_chg w4 w.heap.size (.int .i64 vx) (.int .i64 vy) (.slice ua vl.length uc)
        have OE := owns_below (hCE.owns Ow (fun g hg hh => by have := hgu g hg; omega)) (below_alloc _ (.cells #[.int .i64 Ex, .int .i64 Ey, .slice da Ed.length dc, .slice aa Ea.length ac] 26))
        have hq := hBr.trans (hCE.below (B := w.heap.size) hBr.size (fun k hk => by omega))
        have hBE := hq.alloc hq.size (.cells #[.int .i64 Ex, .int .i64 Ey, .slice da Ed.length dc, .slice aa Ea.length ac] 26)
        obtain ⟨_, s0, s1, s2, _⟩ := ((put3_box Rr (.int .i64 vx) (.int .i64 vy) (.slice ua vl.length uc)).alloc (.cells #[.int .i64 Ex, .int .i64 Ey, .slice da Ed.length dc, .slice aa Ea.length ac] 26)).c3
        unfold put3 at OE hBE s0 s1 s2
        clear HNX HNO HNR AP hCE hq hW4 EB hb4 OD OA Vr Rr Ow hBr hC
        go_wp2
        exact bodyPost_ret (v := .tuple #[.agg #[.int .i64 vx, .int .i64 vy, .slice ua vl.length uc], .int .i64 (k : Int), .bool true]) (by simp [results, Tryz.results11, go_sem, s0, s1, s2]) rfl ⟨_, rfl, OE, hBE⟩
      replace Vr := Vr.below hb4
      replace Ow := owns_below Ow hb4
      replace Rr := Rr.below hb4
      replace OD := owns_below OD hb4
      replace OA := owns_below OA hb4
      replace hBr := below_then hBr hb4
      replace hC := hC.trans (Chg.of_below hb4)
      clear hb4 HNR
      have AP2 := AP W4 _ _ _ (IX_of_owns Ow rfl) (IL_of_owns OD rfl) (IR_of_owns OA rfl)
      clear AP
      obtain ⟨el, x0, x1, x2, x3, _⟩ := EB.e4
      subst hW4
      go_wp2_with fail
      refine AP2.mono ?_
      rintro e w5 ⟨x, rfl, OX, hb5⟩
      have hzX := hC.size
      have hgX := owns_ge OX
      replace Vr := Vr.below hb5
      replace Ow := owns_below Ow hb5
      replace Rr := Rr.below hb5
      replace hC := hC.trans (Chg.of_below hb5)
      have hzB := hBr.size
      replace hBr := below_then hBr hb5
      replace OX := owns_mono OX hzB
      clear AP2 hb5 OD OA EB el x0 x1 x2 x3 vl4 v0 v1 v2
      obtain ⟨xa, xc, rfl⟩ := owns_shape OX
      obtain ⟨vl5, v0, v1, v2, g0, g1, g2⟩ := Vr.c3
      cases go
      · have hE := HNO.out (by trivial)
        simp only [Prod.mk.injEq] at hE
        obtain ⟨⟨rfl, rfl, rfl⟩, rfl⟩ := hE
        obtain ⟨hr, r0, r1, r2', f0, f1, f2⟩ := Rr.c3
        have hCE := put3_chg w5 w.heap.size (.int .i64 vx) (.int .i64 vy) (.slice ua vl.length uc)
        have OE := owns_below (hCE.owns Ow (fun g hg hh => by have := hgu g hg; omega)) (below_alloc _ (.cells #[.int .i64 Nx, .int .i64 Ny, .slice xa Nl.length xc] 35))
        have hq := hBr.trans (hCE.below (B := w.heap.size) hBr.size (fun k hk => by omega))
        have hBE := hq.alloc hq.size (.cells #[.int .i64 Nx, .int .i64 Ny, .slice xa Nl.length xc] 35)
        obtain ⟨_, s0, s1, s2, _⟩ := ((put3_box Rr (.int .i64 vx) (.int .i64 vy) (.slice ua vl.length uc)).alloc (.cells #[.int .i64 Nx, .int .i64 Ny, .slice xa Nl.length xc] 35)).c3
        unfold put3 at OE hBE s0 s1 s2
        clear HNX HNO hCE hq Vr Rr Ow OX hBr hC
        go_wp2
        exact bodyPost_ret (v := .tuple #[.agg #[.int .i64 vx, .int .i64 vy, .slice ua vl.length uc], .int .i64 (k : Int), .bool true]) (by simp [results, Tryz.results11, go_sem, s0, s1, s2]) rfl ⟨_, rfl, OE, hBE⟩
      · obtain ⟨hfr2, hrv2, hgv2⟩ := HNX.out (by trivial)
        have HR2 : Hid (L.drop (k + 1) = frs (60 - (k + 1)) r2 ∧ rv (60 - (k + 1)) r2 (Nx, Ny, Nl) (k + 1) = ((RX, RY, RL), RK)) := ⟨hfr2, hrv2⟩
        have hC6 := put3_chg w5 vb (.int .i64 Nx) (.int .i64 Ny) (.slice xa Nl.length xc)
        have V6 := (put3_box Vr (.int .i64 Nx) (.int .i64 Ny) (.slice xa Nl.length xc)).alloc (.cells #[.int .i64 Nx, .int .i64 Ny, .slice xa Nl.length xc] 35)
        have OX6 := owns_below (hC6.owns OX (fun g hg hh => by have := hgX g hg; omega)) (below_alloc _ (.cells #[.int .i64 Nx, .int .i64 Ny, .slice xa Nl.length xc] 35))
        have hCn := (hC.trans (hC6.mono fun j hj => .inl hj)).trans (Chg.of_below (below_alloc _ (.cells #[.int .i64 Nx, .int .i64 Ny, .slice xa Nl.length xc] 35)))
        unfold put3 at V6 OX6 hCn
        clear HNX HNO hrv2 hfr2 hC6 Vr Rr Ow OX hBr hC
        go_wp2
        go_roundw
        case rel => exact ⟨k + 1, r2, Nx, Ny, Nl, _, by omega, by go_num, HR2.out.1, HR2.out.2, hgv2, V6, OX6, fun g hg => by have := hgX g hg; omega, hCn⟩
        case measure => simp [intOf]; omega
    · obtain rfl : k = L.length := by omega
      have hE := HRV.out
      rw [rv_none (by rw [← HFR.out]; simp)] at hE
      simp only [Prod.mk.injEq] at hE
      obtain ⟨⟨rfl, rfl, rfl⟩, rfl⟩ := hE
      obtain ⟨vl5, v0, v1, v2, _⟩ := Vr.c3
      obtain ⟨hr, r0, r1, r2', f0, f1, f2⟩ := Rr.c3
      clear HRV HFR
      have hCE := put3_chg wr w.heap.size (.int .i64 vx) (.int .i64 vy) (.slice ua vl.length uc)
      have OE := hCE.owns Ow (fun g hg hh => by have := hgu g hg; omega)
      have hBE := hBr.trans (hCE.below (B := w.heap.size) hBr.size (fun k hk => by omega))
      clear hCE
      go_wp2
      exact bodyPost_ret (v := .tuple #[.agg #[.int .i64 vx, .int .i64 vy, .slice ua vl.length uc], .int .i64 (L.length : Int), .bool true]) (by simp [results, Tryz.results11, go_sem, r0, r1, r2']) rfl ⟨_, rfl, OE, hBE⟩
end Go.Proofs.YtenbdjlhcadhaaaGreat
