/-
  The walk of FnRecovered.
-/
import Derived.Test.YtenbdjlhcadhaaaGreatRW1
import Derived.Test.YtenbdjlhcadhaaaGreatVS0ToVS1
import Derived.Test.YtenbdjlhcadhaaaGreatD2ToD5
import Derived.Deep.Cut
namespace Go.Proofs.YtenbdjlhcadhaaaGreat
open Go.RowKit Go.Maps
set_option linter.unusedVariables false
set_option maxRecDepth 100000

theorem frs_small : ∀ (f : Nat) (r : ByteArray) (i : Nat) (h : i < (frs f r).length), (frs f r)[i].size ≤ 1000
  | 0, r, i, h => by simp [frs] at h
  | f + 1, r, i, h => by
    by_cases ho : tfOk r = true
    · have hfr : frs (f + 1) r = tfT r :: frs f (tfL r) := by simp only [frs]; rw [if_pos ho]
      simp only [hfr]
      cases i with
      | zero => exact tfT_size r
      | succ i => exact frs_small f (tfL r) i (by rw [hfr] at h; simpa using h)
    · have hfr : frs (f + 1) r = [] := by simp only [frs]; rw [if_neg ho]
      rw [hfr] at h
      simp at h
theorem frames_small (t : ByteArray) : ∀ i (h : i < (framesOf t).length), (framesOf t)[i].size ≤ 1000 := by
  rw [frames_frs]
  exact frs_small 60 t
theorem frames_len (t : ByteArray) : (framesOf t).length ≤ 60 := by rw [frames_frs]; exact frs_len 60 t

set_option maxHeartbeats 64000000 in
theorem lawRecovered (v0 v1 : Value) (l0 l1 : List UInt8) (w : World) (hv0w : YL w v0 l0) (hv1 : YL w v1 l1) (hl0 : l0.length ≤ maxLen) (hl1 : l1.length ≤ maxLen) :
    Calls Tryz.prog 3 #[v0, v1] w fun e w' => e = .returned (.bool true) ∧ Below w.heap.size w w' := by
  have hv0' := hv0w
  have hv1' := hv1
  obtain ⟨va0, vc0, rfl, _⟩ := hv0'
  obtain ⟨vb0, vd0, rfl, _⟩ := hv1'
  have hq0 : l0.length ≤ 9223372036854775807 := hl0
  have hq1 : l1.length ≤ 9223372036854775807 := hl1
  by_cases hg : wrap64 ((l0.length : Int) + l1.length) ≤ 1048576
  rotate_left
  · have hg' : 1048576 < wrap64 ((l0.length : Int) + l1.length) := by omega
    clear hv0w hv1 hg
    go_enter Tryz.func3, Tryz.ntmps3
    go_wp2
    go_ret
    exact ⟨rfl, Below.refl _ _⟩
  · have hg2 : ¬ 1048576 < wrap64 ((l0.length : Int) + l1.length) := by omega
    go_enter Tryz.func3, Tryz.ntmps3
    go_wp2_with fail
    refine (drawED_any _ l0 _ hv0w hl0).mono ?_
    rintro e w1 ⟨ax, ay, u1, u2, D0, A0, rfl, DE, hB⟩
    have oD := DE.oD
    have oA := DE.oA
    have hdl := DE.dl
    have hal := DE.al
    have hsA : ∀ i (h : i < A0.length), A0[i].k.size ≤ 1048576 ∧ A0[i].v.size ≤ 1048576 := fun i h => by have := DE.sz i h; omega
    clear DE hg hg2 hq1
    obtain ⟨ga, gc, rfl⟩ := owns_shape oD
    obtain ⟨ha, hc, rfl⟩ := owns_shape oA
    have bx1 := below_alloc w1 (.cells #[.int .i64 ax, .int .i64 ay, .slice ga D0.length gc, .slice ha A0.length hc] 26)
    replace hB := below_then hB bx1
    replace oD := owns_below oD bx1
    replace oA := owns_below oA bx1
    have P5 := Box.new w1 #[.int .i64 ax, .int .i64 ay, .slice ga D0.length gc, .slice ha A0.length hc] 26
    clear bx1
    have KI := fun W' u1 u2 h h' => implEditBytes_any ax ay u1 u2 D0 A0 W' h h' (by omega) (by omega) hsA
    have KS := fun W' h h' => specEditBytes_any ax ay (.slice ga D0.length gc) (.slice ha A0.length hc) D0 A0 W' h h' (by omega) (by omega) hsA
    have hts0 := edT_size ax ay D0 A0
    cases hok : edB ax ay D0 A0 with
    | false =>
      rw [hok] at KI KS
      clear hok
      generalize edT ax ay D0 A0 = s0 at *
      obtain ⟨_, p0, p1, p2, p3⟩ := P5.c4
      go_wp2_with fail
      refine (KI _ _ _ (IL_of_owns oD rfl) (IR_of_owns oA rfl)).mono ?_
      rintro e w2 ⟨rfl, hb2⟩
      replace hB := below_then hB hb2
      replace oD := owns_below oD hb2
      replace oA := owns_below oA hb2
      replace P5 := P5.below hb2
      have hz2 := hb2.size
      clear hb2
      clear p0 p1 p2 p3
      obtain ⟨_, p0, p1, p2, p3⟩ := P5.c4
      go_wp2_with fail
      refine (KS _ (IL_of_owns oD rfl) (IR_of_owns oA rfl)).mono ?_
      rintro e w3 ⟨rfl, hb3⟩
      replace hB := below_then hB hb3
      replace oD := owns_below oD hb3
      replace oA := owns_below oA hb3
      replace P5 := P5.below hb3
      have hz3 := hb3.size
      clear hb3
      clear p0 p1 p2 p3 KS
      clear KI hsA hdl hal
      clear P5 oD oA
      go_wp2_with fail
      refine (drawRV_any _ l1 _ (hv1.below hB) hl1).mono ?_
      rintro e w4 ⟨t, rfl, hts, hb⟩
      replace hB := below_then hB hb
      have hz4 := hb.size
      clear hb
      have KI := fun W' => implRecover_any t W' (by omega)
      have KS := fun W' => specRecover_any t W' (by omega)
      have hgd := rvE_good t
      have hn60 := rvE_le t
      have HRC : Hid (∀ k, Rcv t (t.extract 0 k)) := fun k => rcv_of (front t k)
      have HRL : Hid (∀ k, (rvE (t.extract 0 k)).2 ≤ (rvE t).2) := fun k => (HRC.out k).le
      generalize rvE t = RR at *
      obtain ⟨⟨rx, ry, rl⟩, rn⟩ := RR
      dsimp only at KI KS hgd hn60
      obtain ⟨hrl, hrs⟩ := good_sizes hgd
      go_wp2_with fail
      refine (KI _).mono ?_
      rintro e w5 ⟨u7, rfl, O7, hb5⟩
      replace hB := below_then hB hb5
      have hz5 := hb5.size
      clear hb5
      clear KI
      obtain ⟨ka, kc, rfl⟩ := owns_shape O7
      have bx5 := below_alloc w5 (.cells #[.int .i64 rx, .int .i64 ry, .slice ka rl.length kc] 35)
      replace hB := below_then hB bx5
      replace O7 := owns_below O7 bx5
      have P15 := Box.new w5 #[.int .i64 rx, .int .i64 ry, .slice ka rl.length kc] 35
      clear bx5
      go_wp2_with fail
      refine (KS _).mono ?_
      rintro e w6 ⟨u8, rfl, O8, hb6⟩
      replace hB := below_then hB hb6
      replace O7 := owns_below O7 hb6
      replace P15 := P15.below hb6
      have hz6 := hb6.size
      clear hb6
      clear KS
      obtain ⟨ma, mc, rfl⟩ := owns_shape O8
      have bx6 := below_alloc w6 (.cells #[.int .i64 rx, .int .i64 ry, .slice ma rl.length mc] 35)
      replace hB := below_then hB bx6
      replace O7 := owns_below O7 bx6
      replace P15 := P15.below bx6
      replace O8 := owns_below O8 bx6
      have P18 := Box.new w6 #[.int .i64 rx, .int .i64 ry, .slice ma rl.length mc] 35
      clear bx6
      obtain ⟨_, p0, p1, p2, _⟩ := P15.c3
      obtain ⟨_, q0, q1, q2, _⟩ := P18.c3
      go_wp2_with fail
      refine (sameVersions_same rx ry _ _ rl _ (IR_of_owns O7 rfl) (IR_of_owns O8 rfl) (by omega)).mono ?_
      rintro e w7 ⟨rfl, hb7⟩
      replace hB := below_then hB hb7
      replace O7 := owns_below O7 hb7
      replace P15 := P15.below hb7
      replace O8 := owns_below O8 hb7
      replace P18 := P18.below hb7
      have hz7 := hb7.size
      clear hb7
      clear p0 p1 p2 q0 q1 q2 P18 O8
      have KG := fun W' h => implGoodV_any rx ry (.slice ka rl.length kc) rl W' h (by omega) hrs
      rw [hgd] at KG
      obtain ⟨_, p0, p1, p2, _⟩ := P15.c3
      go_wp2_with fail
      refine (KG _ (IX_of_owns O7 rfl)).mono ?_
      rintro e w8 ⟨rfl, hb8⟩
      replace hB := below_then hB hb8
      replace O7 := owns_below O7 hb8
      replace P15 := P15.below hb8
      have hz8 := hb8.size
      clear hb8
      clear p0 p1 p2 KG P15 O7 hrs hrl hgd
      have hv0 := hv0w.below hB
      go_upto_if 132 with fail
      go_cut [21] from 130 (fun s21 wc => ∃ k : Nat, s21 = .int .i64 k ∧ k ≤ t.size ∧ wc = w8)
      case first =>
        by_cases ht0 : 0 < t.size
        · have gt : (0 : Int) < (t.size : Int) := by omega
          have gtb : decide ((0 : Int) < (t.size : Int)) = true := decide_eq_true gt
          obtain ⟨m, hm⟩ : ∃ m, m = t.size + 1 := ⟨_, rfl⟩
          have Em : (t.size : Int) + 1 = (m : Int) := by omega
          have gm : ¬ (m : Int) = 0 := by omega
          have V1 : IntKind.i64.wrap (m : Int) = (m : Int) := by rw [IntKind.wrap_i64]; omega
          go_wp2_with fail
          refine (numberOf_any _ l0 _ hv0 (by omega)).mono ?_
          rintro e wn ⟨⟨x, rfl, hx⟩, rfl⟩
          have hm0 : 0 < m := by omega
          have hmm : m ≤ 200000 := by omega
          have hlt := Nat.mod_lt x hm0
          obtain ⟨kk, hkk⟩ : ∃ kk, kk = x % m := ⟨_, rfl⟩
          have EK : (x : Int) % (m : Int) = (kk : Int) := by omega
          have EK2 : Int.tmod (x : Int) (m : Int) = (kk : Int) := by rw [Int.tmod_eq_emod_of_nonneg (by omega)]; exact EK
          rw [← hkk] at hlt
          have VK : IntKind.i64.wrap (kk : Int) = (kk : Int) := by rw [IntKind.wrap_i64]; omega
          have hkT : kk ≤ t.size := by omega
          clear hkk hm hlt EK hm0 hmm hx
          go_wp2_with fail
          go_meet
          exact ⟨kk, rfl, hkT, rfl⟩
        · have gt : ¬ (0 : Int) < (t.size : Int) := by omega
          have gtb : decide ((0 : Int) < (t.size : Int)) = false := decide_eq_false gt
          go_wp2_with fail
          go_meet
          exact ⟨0, rfl, Nat.zero_le _, rfl⟩
      case rest =>
        obtain ⟨k, rfl, hk, rfl⟩ := hcut
        clear hv0
        have KI := fun W' => implRecover_any (t.extract 0 k) W' (by rw [ByteArray.size_extract]; omega)
        have RC := HRC.out k
        have hle : (rvE (t.extract 0 k)).2 ≤ rn := HRL.out k
        have hxgd := rvE_good (t.extract 0 k)
        have hgc := chn_good RC
        have hln := RC.len
        have hok := RC.ok
        have hfin := RC.fin
        clear HRC HRL RC
        have HSM : Hid (∀ i (h : i < (framesOf t).length), (framesOf t)[i].size ≤ 1000) := frames_small t
        have hfl := frames_len t
        have KF := fun W' => specReadFrames_any t W' (by omega)
        generalize rvE (t.extract 0 k) = RX at *
        obtain ⟨⟨xx, xy, xl⟩, xn⟩ := RX
        dsimp only at KI hle hgc hln hok hfin hxgd
        obtain ⟨hxl, _⟩ := good_sizes hxgd
        generalize framesOf t = FS at *
        generalize framesEnd t = FE at *
        have HOK : Hid (∀ i, i < xn → ∃ h : i < FS.length, rdB FS[i] = true ∧ stB (chn (1, 0, []) FS i) FS[i] = true) := hok
        have HGC : Hid (∀ i, i ≤ xn → goodV (chn (1, 0, []) FS i).1 (chn (1, 0, []) FS i).2.1 (chn (1, 0, []) FS i).2.2 = true) := hgc
        have HFI : Hid (chn (1, 0, []) FS xn = (xx, xy, xl)) := hfin
        clear hok hgc hfin hxgd
        have gk1 : (k : Int) ≤ (t.size : Int) := by omega
        have gk0 : (0 : Int) ≤ (k : Int) := by omega
        have gx0 : ¬ (xn : Int) < 0 := by omega
        have gx1 : ¬ (rn : Int) < (xn : Int) := by omega
        have gx2 : (xn : Int) ≤ (rn : Int) := by omega
        go_wp2_with fail
        refine (KI _).mono ?_
        rintro e w9 ⟨u9, rfl, O9, hb9⟩
        replace hB := below_then hB hb9
        have hz9 := hb9.size
        clear hb9
        clear KI
        obtain ⟨na, nc, rfl⟩ := owns_shape O9
        have bx9 := below_alloc w9 (.cells #[.int .i64 xx, .int .i64 xy, .slice na xl.length nc] 35)
        replace hB := below_then hB bx9
        replace O9 := owns_below O9 bx9
        have P22 := Box.new w9 #[.int .i64 xx, .int .i64 xy, .slice na xl.length nc] 35
        clear bx9
        go_wp2_with fail
        refine (implNew_any _).mono ?_
        rintro e w10 ⟨rfl, hb10⟩
        replace hB := below_then hB hb10
        replace O9 := owns_below O9 hb10
        replace P22 := P22.below hb10
        have hz10 := hb10.size
        clear hb10
        have hP22 := P22.1
        have hO9 := owns_below_lt O9
        have hqB := hB.size
        have bx10 := below_alloc w10 (.cells #[.int .i64 1, .int .i64 0, .slice none 0 0] 35)
        replace hB := below_then hB bx10
        replace O9 := owns_below O9 bx10
        replace P22 := P22.below bx10
        have P25 := Box.new w10 #[.int .i64 1, .int .i64 0, .slice none 0 0] 35
        clear bx10
        obtain ⟨p25, hp25⟩ : ∃ p25, p25 = w10.heap.size := ⟨_, rfl⟩
        rw [← hp25] at P25 hP22 hO9 hqB
        have HP25 : Hid (p25 = w10.heap.size) := hp25
        clear hp25
        go_wp2_with fail
        refine (KF _).mono ?_
        rintro e w11 ⟨u10, rfl, OF, hb11⟩
        replace hB := below_then hB hb11
        replace O9 := owns_below O9 hb11
        replace P22 := P22.below hb11
        replace P25 := P25.below hb11
        have hz11 := hb11.size
        clear hb11
        clear KF
        obtain ⟨fa, fc, rfl⟩ := owns_shape OF
        have HFB : Hid (∀ g, (Value.slice fa FS.length fc).ownBlock = some g → p25 < g) := fun g hg => by have h1 := owns_ge OF g hg; have h2 := HP25.out; simp only [World.size_alloc] at h1; omega
        go_wp2_with fail
        rw [← HP25.out]
        have ISL := SL_of_owns OF
        obtain ⟨fa2, fc2, hfe, hfcell⟩ := ISL
        simp only [Value.slice.injEq, true_and] at hfe
        obtain ⟨rfl, rfl⟩ := hfe
        have hpl := P25.1
        go_loopw [29] (fun i wr => ∃ (n : Nat) (u : Value), n ≤ xn ∧ i = .int .i64 n ∧ Box wr p25 [.int .i64 (chn (1, 0, []) FS n).1, .int .i64 (chn (1, 0, []) FS n).2.1, u] ∧ wr.ownsRow (p25 + 1) 71 4 u (chn (1, 0, []) FS n).2.2.length (flat4 (chn (1, 0, []) FS n).2.2) ∧ Chg (fun j => j = p25 ∨ w11.heap.size ≤ j) w11 wr) (fun i _ => xn - (intOf i).toNat)
        case atStart => exact ⟨0, .slice none 0 0, Nat.zero_le _, rfl, P25, World.ownsRow_nil _ _ _ _, Chg.refl _ _⟩
        case round =>
          clear P25
          obtain ⟨n, u, hn, rfl, P25, oy, hC⟩ := hrel
          have hz := hC.size
          have hgd := HGC.out n hn
          by_cases hlt : n < xn
          · obtain ⟨hF, hrd, hst⟩ := HOK.out n hlt
            have hcs := chn_succ (1, 0, []) FS n hF
            have hsm := HSM.out n hF
            obtain ⟨fb, fo, rfl, hfl2, hcell⟩ := hfcell (by intro e; rw [e] at hF; simp at hF)
            have hfb : ¬ (fb = p25 ∨ w11.heap.size ≤ fb) := by have := HFB.out fb rfl; omega
            have hc0 := (hC.cell (p := ⟨fb, fo + n, none⟩) hfl2 hfb).trans (hcell n hF)
            have hfl3 : fb < wr.heap.size := by omega
            clear hcell hfcell
            generalize FS[n] = x at *
            generalize hY : chn (1, 0, []) FS n = Y at *
            generalize hY2 : chn (1, 0, []) FS (n + 1) = Y2 at *
            have HY2 : Hid (chn (1, 0, []) FS (n + 1) = Y2) := hY2
            obtain ⟨yx, yy, yl⟩ := Y
            obtain ⟨zx, zy, zl⟩ := Y2
            unfold stA at hcs
            unfold stB at hst
            have KR := fun W' => specRead_any x W' (by omega)
            obtain ⟨hrd1, hrd2, hrd3⟩ := rd_sizes x
            rw [hrd] at KR
            generalize rdE x = E at *
            obtain ⟨ex, ey, D, A⟩ := E
            dsimp only at hcs hst KR hrd1 hrd2 hrd3 hgd P25 oy
            simp only [Prod.mk.injEq] at hcs
            obtain ⟨hc1, hc2, hc3⟩ := hcs
            obtain ⟨hyl, hys⟩ := good_sizes hgd
            clear hY hY2 hgd hrd
            obtain ⟨ya, yc, rfl⟩ := owns_shape oy
            have KA := fun W' u1 u2 h h1 h2 => implApply_any yx yy ex ey (.slice ya yl.length yc) u1 u2 yl D A W' h h1 h2 (by omega) (by omega) (by omega) hys hrd3
            rw [hst, ← hc1, ← hc2, ← hc3] at KA
            clear hst hc1 hc2 hc3 hys hrd3
            go_wp2_with fail
            refine (KR _).mono ?_
            rintro e k1 ⟨u1, u2, rfl, oD, oA, hb1⟩
            replace P25 := P25.below hb1
            replace oy := owns_below oy hb1
            replace hC := hC.trans (Chg.of_below hb1)
            have hpk := P25.1
            clear hb1 KR hc0
            obtain ⟨da, dc, rfl⟩ := owns_shape oD
            obtain ⟨aa, ac, rfl⟩ := owns_shape oA
            have E := Box.new k1 #[.int .i64 ex, .int .i64 ey, .slice da D.length dc, .slice aa A.length ac] 26
            have hA := below_alloc k1 (.cells #[.int .i64 ex, .int .i64 ey, .slice da D.length dc, .slice aa A.length ac] 26)
            replace P25 := P25.below hA
            replace oy := owns_below oy hA
            replace oD := owns_below oD hA
            replace oA := owns_below oA hA
            replace hC := hC.trans (Chg.of_below hA)
            clear hA
            obtain ⟨_, p0, p1, p2, _⟩ := P25.c3
            obtain ⟨_, e0, e1, e2, e3⟩ := E.c4
            have hpk2 := P25.1
            go_wp2_with fail
            refine (KA _ _ _ (IX_of_owns oy rfl) (IL_of_owns oD rfl) (IR_of_owns oA rfl)).mono ?_
            rintro e k2 ⟨u3, rfl, oz, hb2⟩
            replace P25 := P25.below hb2
            replace hC := hC.trans (Chg.of_below hb2)
            clear hb2 KA p0 p1 p2 e0 e1 e2 e3 E oD oA oy
            replace oz := owns_mono' oz (show p25 + 1 ≤ _ from hpk2)
            obtain ⟨za, zc, rfl⟩ := owns_shape oz
            have Z := Box.new k2 #[.int .i64 zx, .int .i64 zy, .slice za zl.length zc] 35
            have hA := below_alloc k2 (.cells #[.int .i64 zx, .int .i64 zy, .slice za zl.length zc] 35)
            replace P25 := P25.below hA
            replace oz := owns_below oz hA
            replace hC := hC.trans (Chg.of_below hA)
            clear hA
            obtain ⟨W9, hW9⟩ : ∃ W9, W9 = k2.alloc (.cells #[.int .i64 zx, .int .i64 zy, .slice za zl.length zc] 35) := ⟨_, rfl⟩
            rw [← hW9] at P25 oz hC Z
            have HW9 : Hid (W9 = k2.alloc (.cells #[.int .i64 zx, .int .i64 zy, .slice za zl.length zc] 35)) := hW9
            clear hW9
            have Q := put3_box P25 (.int .i64 zx) (.int .i64 zy) (.slice za zl.length zc)
            have hch := put3_chg W9 p25 (.int .i64 zx) (.int .i64 zy) (.slice za zl.length zc)
            have oz2 := hch.owns oz (fun g hg q => by have := owns_ge oz g hg; omega)
            have hC2 := hC.trans (hch.mono fun j hj => .inl hj)
            obtain ⟨hpl9, p0, p1, p2, f0, f1, f2⟩ := P25.c3
            obtain ⟨hzl9, z0, z1, z2, _⟩ := Z.c3
            clear hch oz P25 Z hC
            rw [HW9.out] at p0 p1 p2 f0 f1 f2 z0 z1 z2 Q oz2 hC2 hpl9 hzl9
            clear HW9
            go_wp2
            go_roundw
            case rel => exact ⟨n + 1, .slice za zl.length zc, by omega, by go_num, by rw [HY2.out]; exact Q, by rw [HY2.out]; exact oz2, hC2⟩
            case measure => simp [intOf]; omega
          · obtain rfl : n = xn := by omega
            have hqC := hB.size
            rw [HFI.out] at P25 oy
            dsimp only at P25 oy
            have P22r := hC.box P22 (by omega)
            have O9r := hC.owns O9 (fun g hg q => by have := hO9 g hg; omega)
            have hBr := below_chg hB hC (fun j hj => by omega)
            clear hfcell HOK HGC HFI HSM P22 O9 hC hB OF hgd
            obtain ⟨ya, yc, rfl⟩ := owns_shape oy
            obtain ⟨_, p0, p1, p2, _⟩ := P25.c3
            obtain ⟨_, q0, q1, q2, _⟩ := P22r.c3
            go_wp2_with fail
            refine (sameVersions_same xx xy _ _ xl _ (IR_of_owns O9r rfl) (IR_of_owns oy rfl) (by omega)).mono ?_
            rintro e k1 ⟨rfl, hb1⟩
            have hBf := below_then hBr hb1
            clear hBr hb1 P25 P22r O9r oy p0 p1 p2 q0 q1 q2
            go_wp2
            go_ret
            exact ⟨by simp, hBf⟩
    | true =>
      obtain ⟨e1, e2⟩ := rd_ed hok
      rw [hok] at KI KS
      have KR := fun W' => implRead_any (edT ax ay D0 A0) W' (by omega)
      rw [e1, e2] at KR
      dsimp only at KR
      clear hok e1 e2
      generalize edT ax ay D0 A0 = s0 at *
      obtain ⟨_, p0, p1, p2, p3⟩ := P5.c4
      go_wp2_with fail
      refine (KI _ _ _ (IL_of_owns oD rfl) (IR_of_owns oA rfl)).mono ?_
      rintro e w2 ⟨rfl, hb2⟩
      replace hB := below_then hB hb2
      replace oD := owns_below oD hb2
      replace oA := owns_below oA hb2
      replace P5 := P5.below hb2
      have hz2 := hb2.size
      clear hb2
      clear p0 p1 p2 p3
      obtain ⟨_, p0, p1, p2, p3⟩ := P5.c4
      go_wp2_with fail
      refine (KS _ (IL_of_owns oD rfl) (IR_of_owns oA rfl)).mono ?_
      rintro e w3 ⟨rfl, hb3⟩
      replace hB := below_then hB hb3
      replace oD := owns_below oD hb3
      replace oA := owns_below oA hb3
      replace P5 := P5.below hb3
      have hz3 := hb3.size
      clear hb3
      clear p0 p1 p2 p3 KS
      go_wp2_with fail
      refine (KR _).mono ?_
      rintro e w4 ⟨u3, u4, rfl, E1, E2, hb4⟩
      replace hB := below_then hB hb4
      replace oD := owns_below oD hb4
      replace oA := owns_below oA hb4
      replace P5 := P5.below hb4
      have hz4 := hb4.size
      clear hb4
      clear KR
      obtain ⟨ia, ic, rfl⟩ := owns_shape E1
      obtain ⟨ja, jc, rfl⟩ := owns_shape E2
      have bx4 := below_alloc w4 (.cells #[.int .i64 ax, .int .i64 ay, .slice ia D0.length ic, .slice ja A0.length jc] 26)
      replace hB := below_then hB bx4
      replace oD := owns_below oD bx4
      replace oA := owns_below oA bx4
      replace P5 := P5.below bx4
      replace E1 := owns_below E1 bx4
      replace E2 := owns_below E2 bx4
      have P10 := Box.new w4 #[.int .i64 ax, .int .i64 ay, .slice ia D0.length ic, .slice ja A0.length jc] 26
      clear bx4
      obtain ⟨_, p0, p1, p2, p3⟩ := P10.c4
      go_wp2_with fail
      refine (KI _ _ _ (IL_of_owns E1 rfl) (IR_of_owns E2 rfl)).mono ?_
      rintro e w5 ⟨rfl, hb5⟩
      replace hB := below_then hB hb5
      replace oD := owns_below oD hb5
      replace oA := owns_below oA hb5
      replace P5 := P5.below hb5
      replace E1 := owns_below E1 hb5
      replace E2 := owns_below E2 hb5
      replace P10 := P10.below hb5
      have hz5 := hb5.size
      clear hb5
      clear p0 p1 p2 p3 KI
      obtain ⟨_, p0, p1, p2, p3⟩ := P10.c4
      obtain ⟨_, q0, q1, q2, q3⟩ := P5.c4
      go_wp2_with fail
      refine (sameInts_same _ _ D0 _ (IL_of_owns E1 rfl) (IL_of_owns oD rfl) (by omega)).mono ?_
      rintro e w6 ⟨rfl, hb6⟩
      replace hB := below_then hB hb6
      replace oD := owns_below oD hb6
      replace oA := owns_below oA hb6
      replace P5 := P5.below hb6
      replace E1 := owns_below E1 hb6
      replace E2 := owns_below E2 hb6
      replace P10 := P10.below hb6
      have hz6 := hb6.size
      clear hb6
      clear p0 p1 p2 p3 q0 q1 q2 q3 hsA hdl hal
      clear P10 P5 E1 E2 oD oA
      go_wp2_with fail
      refine (drawRV_any _ l1 _ (hv1.below hB) hl1).mono ?_
      rintro e w7 ⟨t, rfl, hts, hb⟩
      replace hB := below_then hB hb
      have hz7 := hb.size
      clear hb
      have KI := fun W' => implRecover_any t W' (by omega)
      have KS := fun W' => specRecover_any t W' (by omega)
      have hgd := rvE_good t
      have hn60 := rvE_le t
      have HRC : Hid (∀ k, Rcv t (t.extract 0 k)) := fun k => rcv_of (front t k)
      have HRL : Hid (∀ k, (rvE (t.extract 0 k)).2 ≤ (rvE t).2) := fun k => (HRC.out k).le
      generalize rvE t = RR at *
      obtain ⟨⟨rx, ry, rl⟩, rn⟩ := RR
      dsimp only at KI KS hgd hn60
      obtain ⟨hrl, hrs⟩ := good_sizes hgd
      go_wp2_with fail
      refine (KI _).mono ?_
      rintro e w8 ⟨u7, rfl, O7, hb8⟩
      replace hB := below_then hB hb8
      have hz8 := hb8.size
      clear hb8
      clear KI
      obtain ⟨ka, kc, rfl⟩ := owns_shape O7
      have bx8 := below_alloc w8 (.cells #[.int .i64 rx, .int .i64 ry, .slice ka rl.length kc] 35)
      replace hB := below_then hB bx8
      replace O7 := owns_below O7 bx8
      have P15 := Box.new w8 #[.int .i64 rx, .int .i64 ry, .slice ka rl.length kc] 35
      clear bx8
      go_wp2_with fail
      refine (KS _).mono ?_
      rintro e w9 ⟨u8, rfl, O8, hb9⟩
      replace hB := below_then hB hb9
      replace O7 := owns_below O7 hb9
      replace P15 := P15.below hb9
      have hz9 := hb9.size
      clear hb9
      clear KS
      obtain ⟨ma, mc, rfl⟩ := owns_shape O8
      have bx9 := below_alloc w9 (.cells #[.int .i64 rx, .int .i64 ry, .slice ma rl.length mc] 35)
      replace hB := below_then hB bx9
      replace O7 := owns_below O7 bx9
      replace P15 := P15.below bx9
      replace O8 := owns_below O8 bx9
      have P18 := Box.new w9 #[.int .i64 rx, .int .i64 ry, .slice ma rl.length mc] 35
      clear bx9
      obtain ⟨_, p0, p1, p2, _⟩ := P15.c3
      obtain ⟨_, q0, q1, q2, _⟩ := P18.c3
      go_wp2_with fail
      refine (sameVersions_same rx ry _ _ rl _ (IR_of_owns O7 rfl) (IR_of_owns O8 rfl) (by omega)).mono ?_
      rintro e w10 ⟨rfl, hb10⟩
      replace hB := below_then hB hb10
      replace O7 := owns_below O7 hb10
      replace P15 := P15.below hb10
      replace O8 := owns_below O8 hb10
      replace P18 := P18.below hb10
      have hz10 := hb10.size
      clear hb10
      clear p0 p1 p2 q0 q1 q2 P18 O8
      have KG := fun W' h => implGoodV_any rx ry (.slice ka rl.length kc) rl W' h (by omega) hrs
      rw [hgd] at KG
      obtain ⟨_, p0, p1, p2, _⟩ := P15.c3
      go_wp2_with fail
      refine (KG _ (IX_of_owns O7 rfl)).mono ?_
      rintro e w11 ⟨rfl, hb11⟩
      replace hB := below_then hB hb11
      replace O7 := owns_below O7 hb11
      replace P15 := P15.below hb11
      have hz11 := hb11.size
      clear hb11
      clear p0 p1 p2 KG P15 O7 hrs hrl hgd
      have hv0 := hv0w.below hB
      go_upto_if 132 with fail
      go_cut [21] from 130 (fun s21 wc => ∃ k : Nat, s21 = .int .i64 k ∧ k ≤ t.size ∧ wc = w11)
      case first =>
        by_cases ht0 : 0 < t.size
        · have gt : (0 : Int) < (t.size : Int) := by omega
          have gtb : decide ((0 : Int) < (t.size : Int)) = true := decide_eq_true gt
          obtain ⟨m, hm⟩ : ∃ m, m = t.size + 1 := ⟨_, rfl⟩
          have Em : (t.size : Int) + 1 = (m : Int) := by omega
          have gm : ¬ (m : Int) = 0 := by omega
          have V1 : IntKind.i64.wrap (m : Int) = (m : Int) := by rw [IntKind.wrap_i64]; omega
          go_wp2_with fail
          refine (numberOf_any _ l0 _ hv0 (by omega)).mono ?_
          rintro e wn ⟨⟨x, rfl, hx⟩, rfl⟩
          have hm0 : 0 < m := by omega
          have hmm : m ≤ 200000 := by omega
          have hlt := Nat.mod_lt x hm0
          obtain ⟨kk, hkk⟩ : ∃ kk, kk = x % m := ⟨_, rfl⟩
          have EK : (x : Int) % (m : Int) = (kk : Int) := by omega
          have EK2 : Int.tmod (x : Int) (m : Int) = (kk : Int) := by rw [Int.tmod_eq_emod_of_nonneg (by omega)]; exact EK
          rw [← hkk] at hlt
          have VK : IntKind.i64.wrap (kk : Int) = (kk : Int) := by rw [IntKind.wrap_i64]; omega
          have hkT : kk ≤ t.size := by omega
          clear hkk hm hlt EK hm0 hmm hx
          go_wp2_with fail
          go_meet
          exact ⟨kk, rfl, hkT, rfl⟩
        · have gt : ¬ (0 : Int) < (t.size : Int) := by omega
          have gtb : decide ((0 : Int) < (t.size : Int)) = false := decide_eq_false gt
          go_wp2_with fail
          go_meet
          exact ⟨0, rfl, Nat.zero_le _, rfl⟩
      case rest =>
        obtain ⟨k, rfl, hk, rfl⟩ := hcut
        clear hv0
        have KI := fun W' => implRecover_any (t.extract 0 k) W' (by rw [ByteArray.size_extract]; omega)
        have RC := HRC.out k
        have hle : (rvE (t.extract 0 k)).2 ≤ rn := HRL.out k
        have hxgd := rvE_good (t.extract 0 k)
        have hgc := chn_good RC
        have hln := RC.len
        have hok := RC.ok
        have hfin := RC.fin
        clear HRC HRL RC
        have HSM : Hid (∀ i (h : i < (framesOf t).length), (framesOf t)[i].size ≤ 1000) := frames_small t
        have hfl := frames_len t
        have KF := fun W' => specReadFrames_any t W' (by omega)
        generalize rvE (t.extract 0 k) = RX at *
        obtain ⟨⟨xx, xy, xl⟩, xn⟩ := RX
        dsimp only at KI hle hgc hln hok hfin hxgd
        obtain ⟨hxl, _⟩ := good_sizes hxgd
        generalize framesOf t = FS at *
        generalize framesEnd t = FE at *
        have HOK : Hid (∀ i, i < xn → ∃ h : i < FS.length, rdB FS[i] = true ∧ stB (chn (1, 0, []) FS i) FS[i] = true) := hok
        have HGC : Hid (∀ i, i ≤ xn → goodV (chn (1, 0, []) FS i).1 (chn (1, 0, []) FS i).2.1 (chn (1, 0, []) FS i).2.2 = true) := hgc
        have HFI : Hid (chn (1, 0, []) FS xn = (xx, xy, xl)) := hfin
        clear hok hgc hfin hxgd
        have gk1 : (k : Int) ≤ (t.size : Int) := by omega
        have gk0 : (0 : Int) ≤ (k : Int) := by omega
        have gx0 : ¬ (xn : Int) < 0 := by omega
        have gx1 : ¬ (rn : Int) < (xn : Int) := by omega
        have gx2 : (xn : Int) ≤ (rn : Int) := by omega
        go_wp2_with fail
        refine (KI _).mono ?_
        rintro e w12 ⟨u9, rfl, O9, hb12⟩
        replace hB := below_then hB hb12
        have hz12 := hb12.size
        clear hb12
        clear KI
        obtain ⟨na, nc, rfl⟩ := owns_shape O9
        have bx12 := below_alloc w12 (.cells #[.int .i64 xx, .int .i64 xy, .slice na xl.length nc] 35)
        replace hB := below_then hB bx12
        replace O9 := owns_below O9 bx12
        have P22 := Box.new w12 #[.int .i64 xx, .int .i64 xy, .slice na xl.length nc] 35
        clear bx12
        go_wp2_with fail
        refine (implNew_any _).mono ?_
        rintro e w13 ⟨rfl, hb13⟩
        replace hB := below_then hB hb13
        replace O9 := owns_below O9 hb13
        replace P22 := P22.below hb13
        have hz13 := hb13.size
        clear hb13
        have hP22 := P22.1
        have hO9 := owns_below_lt O9
        have hqB := hB.size
        have bx13 := below_alloc w13 (.cells #[.int .i64 1, .int .i64 0, .slice none 0 0] 35)
        replace hB := below_then hB bx13
        replace O9 := owns_below O9 bx13
        replace P22 := P22.below bx13
        have P25 := Box.new w13 #[.int .i64 1, .int .i64 0, .slice none 0 0] 35
        clear bx13
        obtain ⟨p25, hp25⟩ : ∃ p25, p25 = w13.heap.size := ⟨_, rfl⟩
        rw [← hp25] at P25 hP22 hO9 hqB
        have HP25 : Hid (p25 = w13.heap.size) := hp25
        clear hp25
        go_wp2_with fail
        refine (KF _).mono ?_
        rintro e w14 ⟨u10, rfl, OF, hb14⟩
        replace hB := below_then hB hb14
        replace O9 := owns_below O9 hb14
        replace P22 := P22.below hb14
        replace P25 := P25.below hb14
        have hz14 := hb14.size
        clear hb14
        clear KF
        obtain ⟨fa, fc, rfl⟩ := owns_shape OF
        have HFB : Hid (∀ g, (Value.slice fa FS.length fc).ownBlock = some g → p25 < g) := fun g hg => by have h1 := owns_ge OF g hg; have h2 := HP25.out; simp only [World.size_alloc] at h1; omega
        go_wp2_with fail
        rw [← HP25.out]
        have ISL := SL_of_owns OF
        obtain ⟨fa2, fc2, hfe, hfcell⟩ := ISL
        simp only [Value.slice.injEq, true_and] at hfe
        obtain ⟨rfl, rfl⟩ := hfe
        have hpl := P25.1
        go_loopw [29] (fun i wr => ∃ (n : Nat) (u : Value), n ≤ xn ∧ i = .int .i64 n ∧ Box wr p25 [.int .i64 (chn (1, 0, []) FS n).1, .int .i64 (chn (1, 0, []) FS n).2.1, u] ∧ wr.ownsRow (p25 + 1) 71 4 u (chn (1, 0, []) FS n).2.2.length (flat4 (chn (1, 0, []) FS n).2.2) ∧ Chg (fun j => j = p25 ∨ w14.heap.size ≤ j) w14 wr) (fun i _ => xn - (intOf i).toNat)
        case atStart => exact ⟨0, .slice none 0 0, Nat.zero_le _, rfl, P25, World.ownsRow_nil _ _ _ _, Chg.refl _ _⟩
        case round =>
          clear P25
          obtain ⟨n, u, hn, rfl, P25, oy, hC⟩ := hrel
          have hz := hC.size
          have hgd := HGC.out n hn
          by_cases hlt : n < xn
          · obtain ⟨hF, hrd, hst⟩ := HOK.out n hlt
            have hcs := chn_succ (1, 0, []) FS n hF
            have hsm := HSM.out n hF
            obtain ⟨fb, fo, rfl, hfl2, hcell⟩ := hfcell (by intro e; rw [e] at hF; simp at hF)
            have hfb : ¬ (fb = p25 ∨ w14.heap.size ≤ fb) := by have := HFB.out fb rfl; omega
            have hc0 := (hC.cell (p := ⟨fb, fo + n, none⟩) hfl2 hfb).trans (hcell n hF)
            have hfl3 : fb < wr.heap.size := by omega
            clear hcell hfcell
            generalize FS[n] = x at *
            generalize hY : chn (1, 0, []) FS n = Y at *
            generalize hY2 : chn (1, 0, []) FS (n + 1) = Y2 at *
            have HY2 : Hid (chn (1, 0, []) FS (n + 1) = Y2) := hY2
            obtain ⟨yx, yy, yl⟩ := Y
            obtain ⟨zx, zy, zl⟩ := Y2
            unfold stA at hcs
            unfold stB at hst
            have KR := fun W' => specRead_any x W' (by omega)
            obtain ⟨hrd1, hrd2, hrd3⟩ := rd_sizes x
            rw [hrd] at KR
            generalize rdE x = E at *
            obtain ⟨ex, ey, D, A⟩ := E
            dsimp only at hcs hst KR hrd1 hrd2 hrd3 hgd P25 oy
            simp only [Prod.mk.injEq] at hcs
            obtain ⟨hc1, hc2, hc3⟩ := hcs
            obtain ⟨hyl, hys⟩ := good_sizes hgd
            clear hY hY2 hgd hrd
            obtain ⟨ya, yc, rfl⟩ := owns_shape oy
            have KA := fun W' u1 u2 h h1 h2 => implApply_any yx yy ex ey (.slice ya yl.length yc) u1 u2 yl D A W' h h1 h2 (by omega) (by omega) (by omega) hys hrd3
            rw [hst, ← hc1, ← hc2, ← hc3] at KA
            clear hst hc1 hc2 hc3 hys hrd3
            go_wp2_with fail
            refine (KR _).mono ?_
            rintro e k1 ⟨u1, u2, rfl, oD, oA, hb1⟩
            replace P25 := P25.below hb1
            replace oy := owns_below oy hb1
            replace hC := hC.trans (Chg.of_below hb1)
            have hpk := P25.1
            clear hb1 KR hc0
            obtain ⟨da, dc, rfl⟩ := owns_shape oD
            obtain ⟨aa, ac, rfl⟩ := owns_shape oA
            have E := Box.new k1 #[.int .i64 ex, .int .i64 ey, .slice da D.length dc, .slice aa A.length ac] 26
            have hA := below_alloc k1 (.cells #[.int .i64 ex, .int .i64 ey, .slice da D.length dc, .slice aa A.length ac] 26)
            replace P25 := P25.below hA
            replace oy := owns_below oy hA
            replace oD := owns_below oD hA
            replace oA := owns_below oA hA
            replace hC := hC.trans (Chg.of_below hA)
            clear hA
            obtain ⟨_, p0, p1, p2, _⟩ := P25.c3
            obtain ⟨_, e0, e1, e2, e3⟩ := E.c4
            have hpk2 := P25.1
            go_wp2_with fail
            refine (KA _ _ _ (IX_of_owns oy rfl) (IL_of_owns oD rfl) (IR_of_owns oA rfl)).mono ?_
            rintro e k2 ⟨u3, rfl, oz, hb2⟩
            replace P25 := P25.below hb2
            replace hC := hC.trans (Chg.of_below hb2)
            clear hb2 KA p0 p1 p2 e0 e1 e2 e3 E oD oA oy
            replace oz := owns_mono' oz (show p25 + 1 ≤ _ from hpk2)
            obtain ⟨za, zc, rfl⟩ := owns_shape oz
            have Z := Box.new k2 #[.int .i64 zx, .int .i64 zy, .slice za zl.length zc] 35
            have hA := below_alloc k2 (.cells #[.int .i64 zx, .int .i64 zy, .slice za zl.length zc] 35)
            replace P25 := P25.below hA
            replace oz := owns_below oz hA
            replace hC := hC.trans (Chg.of_below hA)
            clear hA
            obtain ⟨W9, hW9⟩ : ∃ W9, W9 = k2.alloc (.cells #[.int .i64 zx, .int .i64 zy, .slice za zl.length zc] 35) := ⟨_, rfl⟩
            rw [← hW9] at P25 oz hC Z
            have HW9 : Hid (W9 = k2.alloc (.cells #[.int .i64 zx, .int .i64 zy, .slice za zl.length zc] 35)) := hW9
            clear hW9
            have Q := put3_box P25 (.int .i64 zx) (.int .i64 zy) (.slice za zl.length zc)
            have hch := put3_chg W9 p25 (.int .i64 zx) (.int .i64 zy) (.slice za zl.length zc)
            have oz2 := hch.owns oz (fun g hg q => by have := owns_ge oz g hg; omega)
            have hC2 := hC.trans (hch.mono fun j hj => .inl hj)
            obtain ⟨hpl9, p0, p1, p2, f0, f1, f2⟩ := P25.c3
            obtain ⟨hzl9, z0, z1, z2, _⟩ := Z.c3
            clear hch oz P25 Z hC
            rw [HW9.out] at p0 p1 p2 f0 f1 f2 z0 z1 z2 Q oz2 hC2 hpl9 hzl9
            clear HW9
            go_wp2
            go_roundw
            case rel => exact ⟨n + 1, .slice za zl.length zc, by omega, by go_num, by rw [HY2.out]; exact Q, by rw [HY2.out]; exact oz2, hC2⟩
            case measure => simp [intOf]; omega
          · obtain rfl : n = xn := by omega
            have hqC := hB.size
            rw [HFI.out] at P25 oy
            dsimp only at P25 oy
            have P22r := hC.box P22 (by omega)
            have O9r := hC.owns O9 (fun g hg q => by have := hO9 g hg; omega)
            have hBr := below_chg hB hC (fun j hj => by omega)
            clear hfcell HOK HGC HFI HSM P22 O9 hC hB OF hgd
            obtain ⟨ya, yc, rfl⟩ := owns_shape oy
            obtain ⟨_, p0, p1, p2, _⟩ := P25.c3
            obtain ⟨_, q0, q1, q2, _⟩ := P22r.c3
            go_wp2_with fail
            refine (sameVersions_same xx xy _ _ xl _ (IR_of_owns O9r rfl) (IR_of_owns oy rfl) (by omega)).mono ?_
            rintro e k1 ⟨rfl, hb1⟩
            have hBf := below_then hBr hb1
            clear hBr hb1 P25 P22r O9r oy p0 p1 p2 q0 q1 q2
            go_wp2
            go_ret
            exact ⟨by simp, hBf⟩
end Go.Proofs.YtenbdjlhcadhaaaGreat
