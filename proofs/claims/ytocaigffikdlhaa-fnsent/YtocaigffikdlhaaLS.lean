/-
  The walk of FnSent.
-/
import Derived.Test.YtocaigffikdlhaaSN
import Derived.Test.YtocaigffikdlhaaDP
import Derived.Test.YtocaigffikdlhaaDXToSM
import Derived.Test.YtocaigffikdlhaaIPLToLWantOf
namespace Go.Proofs.Ytocaigffikdlhaa
open Go.RowKit Go.Maps
set_option linter.unusedVariables false
set_option maxRecDepth 100000

theorem madeF (n : Nat) : (madeCells (Value.bool false).cells (n * 1)).toList = (List.replicate n false).map Value.bool := by
  rw [Nat.mul_one]
  apply List.ext_getElem?
  intro i
  by_cases hi : i < n
  · have hc : (Value.bool false).cells = #[.bool false] := rfl
    rw [hc]
    simp [madeCells, hi, Nat.mod_one]
  · rw [List.getElem?_eq_none (by simp [madeCells]; omega), List.getElem?_eq_none (by simp; omega)]
theorem Try.info4f : (Try.prog.info? 4).map (fun i => (i.zero, i.size, i.bytes)) = some (some (.bool false), 1, 1) := by kernel_rfl
theorem pt_false {L : List ByteArray} {O F : List Int} (h : ptB L O F = false) : ptR L O F = [] := by unfold ptR; rw [h]; rfl
theorem pt_true {L : List ByteArray} {O F : List Int} (h : ptB L O F = true) : ckB L = true ∧ ckR L = ckL L ∧ O.length ≤ 400 := by
  unfold ptB at h
  rw [Bool.and_eq_true, Bool.and_eq_true, decide_eq_true_eq] at h
  exact ⟨h.1.1, by unfold ckR; rw [h.1.1]; rfl, h.1.2⟩
theorem rc_succ (C : List Ck) (O F : List Int) (k : Nat) (hk : k < O.length) (hf : k < F.length) : rc C O F (k + 1) = rc C O F k + if rtB C O[k] F[k] then 1 else 0 := by
  have hO : O.getD k 0 = O[k] := by simp [List.getD_eq_getElem?_getD, hk]
  have hFk : F.getD k 0 = F[k] := by simp [List.getD_eq_getElem?_getD, hf]
  rw [← hO, ← hFk]; rfl
theorem sn_succ (C : List Ck) (O F : List Int) (k : Nat) (hk : k < O.length) (hf : k < F.length) : sn C O F (k + 1) = if rtB C O[k] F[k] then (sn C O F k).set O[k].toNat true else sn C O F k := by
  have hO : O.getD k 0 = O[k] := by simp [List.getD_eq_getElem?_getD, hk]
  have hFk : F.getD k 0 = F[k] := by simp [List.getD_eq_getElem?_getD, hf]
  rw [← hO, ← hFk]; rfl
theorem rt_low (C : List Ck) (n f : Int) (h : n < 0) : rtB C n f = false := by unfold rtB; rw [decide_eq_false (by omega : ¬ 0 ≤ n)]; rfl
theorem rt_high (C : List Ck) (n f : Int) (h : ¬ n < C.length) : rtB C n f = false := by unfold rtB; rw [decide_eq_false h]; simp
theorem rt_flip (C : List Ck) (m : Nat) (f : Int) (hm : m < C.length) (h0 : 0 ≤ f) (h1 : f < 8 * (C[m].k.size : Int)) : rtB C m f = false := by
  have eg : C.getD ((m : Int)).toNat default = C[m] := by rw [show ((m : Int)).toNat = m from by omega]; simp [List.getD_eq_getElem?_getD, hm]
  unfold rtB
  rw [eg, decide_eq_true h0, decide_eq_true h1]; simp
theorem rt_right (C : List Ck) (m : Nat) (f : Int) (hm : m < C.length) (h : ¬ (0 ≤ f ∧ f < 8 * (C[m].k.size : Int))) : rtB C m f = true := by
  have eg : C.getD ((m : Int)).toNat default = C[m] := by rw [show ((m : Int)).toNat = m from by omega]; simp [List.getD_eq_getElem?_getD, hm]
  unfold rtB
  rw [eg]
  simp only [Bool.and_eq_true, decide_eq_true_eq, Bool.not_eq_true', Bool.and_eq_false_iff, decide_eq_false_iff_not]
  omega
theorem all_take (l : List Bool) (k : Nat) (h : k < l.length) : (l.take (k + 1)).all id = ((l.take k).all id && l[k]) := by
  rw [List.take_succ_eq_append_getElem h, List.all_append]; simp
theorem bset (l : List Bool) (m : Nat) : (l.map Value.bool).set m (.bool true) = (l.set m true).map Value.bool := by rw [List.map_set]
theorem drewN_cell (w : World) (q : Nat) (p : Addr) : (w.drewN q).cell? p = w.cell? p := rfl
theorem _root_.Go.World.ownsRow.drewN {w : World} {base : Nat} {e : TypeId} {size : Nat} {v : Value} {n : Nat} {xs : List Value} (h : w.ownsRow base e size v n xs) (q : Nat) : (w.drewN q).ownsRow base e size v n xs := h
theorem cell_drewN {w : World} {base g cap n : Nat} {xs : List Value} (h : w.ownsRow base 4 1 (.slice (some ⟨g, 0, none⟩) n cap) n xs) (m : Nat) (hm : m < n) : ∃ u, (∀ q, (w.drewN q).cell? ⟨g, m, none⟩ = some u) ∧ ∀ q, (w.drewN q).frozen? ⟨g, m, none⟩ = false := by
  have hl := h.1
  have hc := h.cellAt m (by omega)
  rw [List.getElem?_eq_getElem (by omega)] at hc
  exact ⟨_, fun q => hc, fun q => h.frozenAt m⟩
set_option maxHeartbeats 64000000 in
theorem law3 (v0 : Value) (l0 : List UInt8) (w : World) (hv0 : YL w v0 l0) (hl0 : l0.length ≤ maxLen) :
    Calls Try.prog 3 #[v0] w fun e w' => e = .returned (.bool true) ∧ Below w.heap.size w w' := by
  have hv0' := hv0
  obtain ⟨va, vc, rfl, _⟩ := hv0'
  obtain ⟨j0, hj, hy0, hy1, hy2⟩ := info_parts Try.info4f
  have hl1 := hl0
  unfold maxLen at hl1
  by_cases hg : (l0.length : Int) ≤ 1048576
  rotate_left
  · clear hv0
    go_enter Try.func3, Try.ntmps3
    go_wp2
    go_ret
    exact ⟨rfl, Below.refl _ _⟩
  · have R1 := fun w b => run_neq_bool_same5 w b
    go_enter Try.func3, Try.ntmps3
    go_wp2_with fail
    refine (drawPT_any _ l0 _ hv0 hl0).mono ?_
    rintro e w1 ⟨⟨fv, ov, lv, Fs, O, F, rfl, ⟨hL, hsz, hOF, hO1⟩, oL, oO, oF⟩, hB⟩
    have HSZ : Hid (∀ i (h : i < Fs.length), Fs[i].size ≤ 1048576) := fun i h => by have := hsz i h; omega
    have HOF : Hid (O.length = F.length) := hOF
    have hF1 : F.length ≤ 1000 := by omega
    clear hv0 hsz hOF
    obtain ⟨la, lb, rfl⟩ := owns_shape oL
    obtain ⟨oa, ob, rfl⟩ := owns_shape oO
    obtain ⟨fa, fb, rfl⟩ := owns_shape oF
    go_wp2_with fail
    refine (implPlay_any _ _ _ Fs O F _ (SL_of_owns oL) (IL_of_owns oO rfl) (IL_of_owns oF rfl) (by omega) HSZ.out (by omega) (by omega)).mono ?_
    rintro e w2 ⟨u1, rfl, T1, hb2⟩
    replace hB := below_then hB hb2
    replace oL := owns_below oL hb2
    replace oO := owns_below oO hb2
    replace oF := owns_below oF hb2
    have hz2 := hb2.size
    clear hb2
    obtain ⟨ta, tb, rfl⟩ := owns_shape T1
    go_wp2_with fail
    refine (specPlay_any _ _ _ Fs O F _ (SL_of_owns oL) (IL_of_owns oO rfl) (IL_of_owns oF rfl) (by omega) HSZ.out (by omega) (by omega)).mono ?_
    rintro e w3 ⟨u2, rfl, T2, hb3⟩
    replace hB := below_then hB hb3
    replace oL := owns_below oL hb3
    replace oO := owns_below oO hb3
    replace oF := owns_below oF hb3
    replace T1 := owns_below T1 hb3
    have hz3 := hb3.size
    clear hb3
    obtain ⟨tc, td, rfl⟩ := owns_shape T2
    have hpl : (ptR Fs O F).length ≤ 1048576 := by have := ptR_len Fs O F; omega
    have hnn : ((ptN Fs O F : Int) == (ptN Fs O F : Int)) = true := by simp
    go_wp2_with fail
    refine (sameTexts_any _ _ (ptR Fs O F) _ (SL_of_owns T1) (SL_of_owns T2) hpl).mono ?_
    rintro e w4 ⟨rfl, hb4⟩
    replace hB := below_then hB hb4
    replace oL := owns_below oL hb4
    replace oO := owns_below oO hb4
    replace oF := owns_below oF hb4
    replace T1 := owns_below T1 hb4
    replace T2 := owns_below T2 hb4
    have hz4 := hb4.size
    clear hb4
    clear T2 hnn
    cases hpt : ptB Fs O F with
    | false =>
      have e := pt_false hpt
      simp only [e, List.length_nil]
      clear T1 oL oO oF e hpt hpl
      go_wp2
      go_ret
      exact ⟨rfl, hB⟩
    | true =>
      obtain ⟨hck, hckR, hO4⟩ := pt_true hpt
      obtain ⟨sN, sT, sF⟩ := sent hpt
      have hC2 := ckR_200 Fs
      have HCS : Hid (∀ i (h : i < (ckR Fs).length), (ckR Fs)[i].k.size ≤ 4001) := ckR_sz Fs
      have KC := fun W' h => implChunks_any (.slice la Fs.length lb) Fs W' h (by omega) HSZ.out
      have KD := fun W' h => specChunks_any (.slice la Fs.length lb) Fs W' h (by omega) HSZ.out
      rw [hck] at KC KD
      rw [hckR] at KC KD hC2 HCS
      clear hck hckR hpt
      generalize ckL Fs = C at *
      have HSN : Hid (ptN Fs O F = rc C O F O.length) := sN
      have HST : Hid ((sn C O F O.length).all id = true → ptR Fs O F = Fs) := sT
      have HSF : Hid ((sn C O F O.length).all id = false → ptR Fs O F = []) := sF
      clear sN sT sF
      generalize ptN Fs O F = pN at *
      generalize ptR Fs O F = pR at *
      go_wp2_with fail
      refine (KC _ (SL_of_owns oL)).mono ?_
      rintro e w5 ⟨u3, rfl, C1, hb5⟩
      replace hB := below_then hB hb5
      replace oL := owns_below oL hb5
      replace oO := owns_below oO hb5
      replace oF := owns_below oF hb5
      replace T1 := owns_below T1 hb5
      have hz5 := hb5.size
      clear hb5
      clear KC
      obtain ⟨ca, cb, rfl⟩ := owns_shape C1
      go_wp2_with fail
      refine (KD _ (SL_of_owns oL)).mono ?_
      rintro e w6 ⟨u4, rfl, C2, hb6⟩
      replace hB := below_then hB hb6
      replace oL := owns_below oL hb6
      replace oO := owns_below oO hb6
      replace oF := owns_below oF hb6
      replace T1 := owns_below T1 hb6
      replace C1 := owns_below C1 hb6
      have hz6 := hb6.size
      clear hb6
      clear KD
      obtain ⟨cc, cd, rfl⟩ := owns_shape C2
      go_wp2_with fail
      refine (sameChunks_any _ _ C _ (IR_of_owns C1 rfl) (IR_of_owns C2 rfl) (by omega)).mono ?_
      rintro e w7 ⟨rfl, hb7⟩
      replace hB := below_then hB hb7
      replace oL := owns_below oL hb7
      replace oO := owns_below oO hb7
      replace oF := owns_below oF hb7
      replace T1 := owns_below T1 hb7
      replace C1 := owns_below C1 hb7
      replace C2 := owns_below C2 hb7
      have hz7 := hb7.size
      clear hb7
      clear C2
      go_wp2_with (at_make; refine wpList_make_full _ rfl _ _ 34 rfl w7.heap.size 4 j0 _ 1 Try.underlying34 hj hy0 hy1 .i64 .i64 _ _ C.length rfl rfl rfl rfl (by rw [hy2]; omega) (by unfold maxLen; omega) (Nat.le_refl _) ?_; intro w9 hS9 hgr9; refine StopA.go ?_)
      rw [madeF] at hS9
      have hb9 : Below w7.heap.size w7 w9 := (Below.refl _ _).grown hgr9 (Nat.le_refl _) (by simp)
      have hlt9 := (owns_lt hS9).2
      clear hgr9
      unfold StopA
      have iO := IL_of_owns oO rfl
      obtain ⟨_, _, he, hcO⟩ := iO
      simp only [Value.slice.injEq, true_and] at he
      obtain ⟨rfl, rfl⟩ := he
      have iF := IL_of_owns oF rfl
      obtain ⟨_, _, he, hcF⟩ := iF
      simp only [Value.slice.injEq, true_and] at he
      obtain ⟨rfl, rfl⟩ := he
      have iC := IR_of_owns C1 rfl
      obtain ⟨_, _, he, hcC⟩ := iC
      simp only [Value.slice.injEq, true_and] at he
      obtain ⟨rfl, rfl⟩ := he
      clear oO oF C1
      go_wp2_with fail
      go_loopw [17, 94] (fun t i wr => ∃ k : Nat, k ≤ O.length ∧ i = .int .i64 k ∧ t = .int .i64 (rc C O F k : Nat) ∧ wr.ownsRow w7.heap.size 4 1 (.slice (some ⟨w7.heap.size, 0, none⟩) C.length C.length) C.length ((sn C O F k).map Value.bool) ∧ Below w7.heap.size w7 wr ∧ w7.heap.size < wr.heap.size) (fun _ i _ => O.length - (intOf i).toNat)
      case atStart => exact ⟨0, Nat.zero_le _, rfl, rfl, hS9, hb9, hlt9⟩
      case round =>
        clear hS9 hb9 hlt9
        obtain ⟨k, hk, rfl, rfl, hS, hb, hwl⟩ := hrel
        have hrl := rc_le C O F k
        by_cases hlt : k < O.length
        · have hltF : k < F.length := by have := HOF.out; omega
          obtain ⟨b1, o1, rfl, hbl1, hcell1⟩ := hcO (by intro e; simp [e] at hlt)
          obtain ⟨b2, o2, rfl, hbl2, hcell2⟩ := hcF (by intro e; simp [e] at hltF)
          have c1 := (hb.cell (p := ⟨b1, o1 + k, none⟩) hbl1).trans (hcell1 k hlt)
          have c2 := (hb.cell (p := ⟨b2, o2 + k, none⟩) hbl2).trans (hcell2 k hltF)
          have HRC : Hid (rc C O F (k + 1) = rc C O F k + if rtB C O[k] F[k] then 1 else 0) := rc_succ C O F k hlt hltF
          have HSN2 : Hid (sn C O F (k + 1) = if rtB C O[k] F[k] then (sn C O F k).set O[k].toNat true else sn C O F k) := sn_succ C O F k hlt hltF
          have hz := hb.size
          have hz1 : b1 < wr.heap.size := by omega
          have hz2 : b2 < wr.heap.size := by omega
          generalize O[k] = n at *
          generalize F[k] = f at *
          have kb1 : decide ((k : Int) < (F.length : Int)) = true := by simp; omega
          by_cases hn0 : n < 0
          · have hr := rt_low C n f hn0
            have g0 : decide (n < 0) = true := by simpa using hn0
            have HR1 : Hid (rc C O F (k + 1) = rc C O F k) := by show _ = _; rw [HRC.out, hr]; rfl
            have HR2 : Hid (sn C O F (k + 1) = sn C O F k) := by show _ = _; rw [HSN2.out, hr]; rfl
            clear HRC HSN2 hr hcell1 hcell2 hcO hcF hcC 
            go_wp2_with fail
            go_quiet (fail)
            go_wp2
            go_roundw
            case rel => exact ⟨k + 1, by omega, by go_num, by rw [HR1.out], by rw [HR2.out]; exact hS.drewN _, below_drewN hb _, hwl⟩
            case measure => simp [intOf]; omega
          have g0 : decide (n < 0) = false := by simp; omega
          by_cases hn1 : (C.length : Int) ≤ n
          · have hr := rt_high C n f (by omega)
            have g1 : decide ((C.length : Int) ≤ n) = true := by simpa using hn1
            have HR1 : Hid (rc C O F (k + 1) = rc C O F k) := by show _ = _; rw [HRC.out, hr]; rfl
            have HR2 : Hid (sn C O F (k + 1) = sn C O F k) := by show _ = _; rw [HSN2.out, hr]; rfl
            clear HRC HSN2 hr hcell1 hcell2 hcO hcF hcC 
            go_wp2_with fail
            go_quiet (fail)
            go_wp2
            go_roundw
            case rel => exact ⟨k + 1, by omega, by go_num, by rw [HR1.out], by rw [HR2.out]; exact hS.drewN _, below_drewN hb _, hwl⟩
            case measure => simp [intOf]; omega
          have g1 : decide ((C.length : Int) ≤ n) = false := by simp; omega
          obtain ⟨m, rfl⟩ := Int.eq_ofNat_of_zero_le (show 0 ≤ n from by omega)
          have hmC : m < C.length := by omega
          have g1n : decide (C.length ≤ m) = false := by simp; omega
          by_cases hf0 : f < 0
          · have hr := rt_right C m f hmC (by omega)
            have g2 : decide (0 ≤ f) = false := by simp; omega
            have HR1 : Hid (rc C O F (k + 1) = rc C O F k + 1) := by show _ = _; rw [HRC.out, hr]; rfl
            have HR2 : Hid (sn C O F (k + 1) = (sn C O F k).set m true) := by show _ = _; rw [HSN2.out, hr]; rfl
            obtain ⟨su, sc0, sf0⟩ := cell_drewN hS m hmC
            have HSD : Hid (∀ q, ((wr.drewN q).setCell ⟨w7.heap.size, m, none⟩ (.bool true)).ownsRow w7.heap.size 4 1 (.slice (some ⟨w7.heap.size, 0, none⟩) C.length C.length) C.length ((sn C O F (k + 1)).map Value.bool)) := fun q => by rw [HR2.out, ← bset]; exact ((hS.drewN q).stored m (.bool true)).1
            clear HRC HSN2 HR2 hr hcell1 hcell2 hcO hcF hcC hS 
            go_wp2_with fail
            go_quiet (fail)
            go_wp2
            go_roundw
            case rel => exact ⟨k + 1, by omega, by go_num, by rw [HR1.out]; go_num, HSD.out _, (below_drewN hb _).setCell (p := ⟨w7.heap.size, m, none⟩) (by simp) _, by simpa using hwl⟩
            case measure => simp [intOf]; omega
          have g2 : decide (0 ≤ f) = true := by simp; omega
          obtain ⟨b3, o3, rfl, hbl3, hcell3⟩ := hcC (by intro e; simp [e] at hmC)
          have c3 := (hb.cell (p := ⟨b3, o3 + m * 4 + 2, none⟩) hbl3).trans (hcell3 m hmC).2.2.1
          have hz3 : b3 < wr.heap.size := by omega
          have hsz := HCS.out m hmC
          obtain ⟨z8, E8⟩ : ∃ z8 : Int, (8 : Int) * (C[m].k.size : Int) = z8 := ⟨_, rfl⟩
          by_cases hf1 : f < 8 * (C[m].k.size : Int)
          · have hr := rt_flip C m f hmC (by omega) hf1
            rw [E8] at hf1
            have g3 : decide (f < z8) = true := by simpa using hf1
            generalize C[m].k = ck at *
            have HR1 : Hid (rc C O F (k + 1) = rc C O F k) := by show _ = _; rw [HRC.out, hr]; rfl
            have HR2 : Hid (sn C O F (k + 1) = sn C O F k) := by show _ = _; rw [HSN2.out, hr]; rfl
            clear HRC HSN2 hr hcell1 hcell2 hcO hcF hcC hcell3 hf1
            go_wp2_with fail
            go_quiet (fail)
            go_wp2
            go_roundw
            case rel => exact ⟨k + 1, by omega, by go_num, by rw [HR1.out], by rw [HR2.out]; exact hS.drewN _, below_drewN hb _, hwl⟩
            case measure => simp [intOf]; omega
          · have hr := rt_right C m f hmC (by omega)
            rw [E8] at hf1
            have g3 : decide (f < z8) = false := by simpa using hf1
            generalize C[m].k = ck at *
            have HR1 : Hid (rc C O F (k + 1) = rc C O F k + 1) := by show _ = _; rw [HRC.out, hr]; rfl
            have HR2 : Hid (sn C O F (k + 1) = (sn C O F k).set m true) := by show _ = _; rw [HSN2.out, hr]; rfl
            obtain ⟨su, sc0, sf0⟩ := cell_drewN hS m hmC
            have HSD : Hid (∀ q, ((wr.drewN q).setCell ⟨w7.heap.size, m, none⟩ (.bool true)).ownsRow w7.heap.size 4 1 (.slice (some ⟨w7.heap.size, 0, none⟩) C.length C.length) C.length ((sn C O F (k + 1)).map Value.bool)) := fun q => by rw [HR2.out, ← bset]; exact ((hS.drewN q).stored m (.bool true)).1
            clear HRC HSN2 HR2 hr hcell1 hcell2 hcO hcF hcC hS hcell3 hf1
            go_wp2_with fail
            go_quiet (fail)
            go_wp2
            go_roundw
            case rel => exact ⟨k + 1, by omega, by go_num, by rw [HR1.out]; go_num, HSD.out _, (below_drewN hb _).setCell (p := ⟨w7.heap.size, m, none⟩) (by simp) _, by simpa using hwl⟩
            case measure => simp [intOf]; omega
        · obtain rfl : k = O.length := by omega
          clear hcO hcF hcC
          have hB2 := below_then hB hb
          have oL2 := owns_below oL hb
          have T12 := owns_below T1 hb
          clear hB oL T1 hlt hk
          have HSL : Hid ((sn C O F O.length).length = C.length) := sn_length C O F O.length
          obtain ⟨SN, hSN⟩ : ∃ SN, SN = sn C O F O.length := ⟨_, rfl⟩
          rw [← hSN] at hS HST HSF HSL
          clear hSN
          have HRN : Hid (rc C O F O.length = pN) := HSN.out.symm
          have hS2 := hS
          skip
          rw [HRN.out] at hrl ⊢
          clear HSN HRN
          have hcell : ∀ i (h : i < SN.length), wr.cell? ⟨w7.heap.size, i, none⟩ = some (.bool SN[i]) := fun i h => by
            have hi : i < C.length := by rw [HSL.out] at h; exact h
            rw [hS.cellAt i (by omega)]
            simp [h]
          have HCE : Hid _ := hcell
          clear hcell
          go_wp2_with fail
          go_loopw [20, 136] (fun t i w7 => ∃ k : Nat, k ≤ C.length ∧ i = .int .i64 k ∧ t = .bool ((SN.take k).all id) ∧ w7 = wr) (fun _ i _ => C.length - (intOf i).toNat)
          case atStart => exact ⟨0, Nat.zero_le _, rfl, by simp, rfl⟩
          case round =>
            obtain ⟨k, hk, rfl, rfl, rfl⟩ := hrel
            by_cases hlt : k < C.length
            · have hlS : k < SN.length := by rw [HSL.out]; exact hlt
              have c0 := HCE.out k hlS
              have HA : Hid ((SN.take (k + 1)).all id = ((SN.take k).all id && SN[k])) := all_take SN k hlS
              generalize SN[k] = bs at *
              generalize (SN.take k).all id = bt at *
              cases bt with
              | false =>
                go_wp2
                go_roundw
                case rel => exact ⟨k + 1, by omega, by go_num, by rw [HA.out]; rfl, by first | rfl | trivial⟩
                case measure => simp [intOf]; omega
              | true =>
                go_wp2
                go_roundw
                case rel => exact ⟨k + 1, by omega, by go_num, by rw [HA.out]; simp, by first | rfl | trivial⟩
                case measure => simp [intOf]; omega
            · obtain rfl : k = C.length := by omega
              rw [show SN.take C.length = SN from List.take_of_length_le (by rw [HSL.out]; omega)]
              have eqN : ((pN : Int) == (pN : Int)) = true := by simp
              cases hal : SN.all id with
              | true =>
                have e := HST.out hal
                subst e
                clear HST HSF hal HCE hS HSL
                go_wp2_with fail
                refine (sameTexts_any _ _ pR _ (SL_of_owns T12) (SL_of_owns oL2) (by omega)).mono ?_
                rintro e w7 ⟨rfl, hb7⟩
                have hB7 := below_then hB2 hb7
                clear T12 oL2 hb7
                go_wp2
                go_ret
                exact ⟨rfl, hB7⟩
              | false =>
                have e := HSF.out hal
                subst e
                clear HST HSF hal HCE hS HSL T12 oL2
                go_wp2
                go_ret
                exact ⟨rfl, hB2⟩
end Go.Proofs.Ytocaigffikdlhaa
