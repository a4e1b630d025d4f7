/-
  Files put together: plainly; both FinishTaking.
-/
import Derived.Test.YtocaigffikdlhaaMS
namespace Go.Proofs.Ytocaigffikdlhaa
open Go.RowKit Go.Maps
set_option linter.unusedVariables false
set_option maxRecDepth 100000

/-- A chunk's bytes behind those of its file; all chunks so. -/
def asS (acc : List ByteArray) (c : Ck) : List ByteArray := acc.set c.n.toNat (acc.getD c.n.toNat ⟨#[]⟩ ++ c.k)
def asF (n : Nat) (G : List Ck) : List ByteArray := G.foldl asS (List.replicate n ⟨#[]⟩)
theorem asF_take (n : Nat) (G : List Ck) (k : Nat) (h : k < G.length) : asF n (G.take (k + 1)) = asS (asF n (G.take k)) G[k] := by
  unfold asF
  rw [List.take_succ_eq_append_getElem h, List.foldl_append]; rfl
theorem asS_length (acc : List ByteArray) (c : Ck) : (asS acc c).length = acc.length := by simp [asS]
theorem foldS_length (G : List Ck) : ∀ acc, (G.foldl asS acc).length = acc.length := by
  induction G with
  | nil => intro acc; rfl
  | cons c r ih => intro acc; rw [List.foldl_cons, ih, asS_length]
theorem asF_length (n : Nat) (G : List Ck) : (asF n G).length = n := by unfold asF; rw [foldS_length]; simp
theorem asS_size {acc : List ByteArray} {c : Ck} {m : Nat} (h : ∀ i (h : i < acc.length), acc[i].size ≤ m) (hc : c.k.size ≤ 64) : ∀ i (h : i < (asS acc c).length), (asS acc c)[i].size ≤ m + 64 := by
  intro i hi
  have hi' : i < acc.length := by rw [asS_length] at hi; exact hi
  simp only [asS]
  rw [List.getElem_set]
  split
  · rename_i e
    have : acc.getD c.n.toNat ⟨#[]⟩ = acc[i] := by rw [e]; simp [List.getD_eq_getElem?_getD, hi']
    rw [this, ByteArray.size_append]
    have := h i hi'
    omega
  · have := h i hi'; omega
theorem asF_size {n : Nat} {G : List Ck} (hG : ∀ i (h : i < G.length), G[i].k.size ≤ 64) : ∀ k, k ≤ G.length → ∀ i (h : i < (asF n (G.take k)).length), (asF n (G.take k))[i].size ≤ 64 * k := by
  intro k
  induction k with
  | zero =>
    intro _ i hi
    simp [asF]
    rfl
  | succ k ih =>
    intro hk i hi
    have e := asF_take n G k (by omega)
    have := asS_size (c := G[k]) (ih (by omega)) (hG k (by omega)) i (by rw [← e]; exact hi)
    simp only [e]
    omega
/-- Each file has the sum that is wanted. -/
def smB (W : List Wt) (F : List ByteArray) : Bool := (List.range W.length).all fun i => decide (((csum (F.getD i ⟨#[]⟩).data.toList : Nat) : Int) = (W.getD i default).d)
def smT (W : List Wt) (F : List ByteArray) (k : Nat) : Bool := (List.range k).all fun i => decide (((csum (F.getD i ⟨#[]⟩).data.toList : Nat) : Int) = (W.getD i default).d)
theorem smT_succ (W : List Wt) (F : List ByteArray) (k : Nat) (h : k < W.length) (h2 : k < F.length) : smT W F (k + 1) = (smT W F k && decide (((csum F[k].data.toList : Nat) : Int) = W[k].d)) := by
  simp [smT, List.range_succ, List.all_append, List.getD_eq_getElem?_getD, h, h2]
theorem smB_no (W : List Wt) (F : List ByteArray) (k : Nat) (h : k < W.length) (h2 : k < F.length) (hn : ¬ ((csum F[k].data.toList : Nat) : Int) = W[k].d) : smB W F = false := by
  unfold smB
  rw [List.all_eq_false]
  refine ⟨k, List.mem_range.2 h, ?_⟩
  simp [List.getD_eq_getElem?_getD, h, h2]
  exact hn
def lfB (W : List Wt) (G : List Ck) : Bool := (msL W G).isEmpty && smB W (asF W.length G)
def lfR (W : List Wt) (G : List Ck) : List ByteArray := if lfB W G then asF W.length G else []
def fnB (W : List Wt) (G : List Ck) : Bool := gtB W G && lfB W G
def fnR (W : List Wt) (G : List Ck) : List ByteArray := if fnB W G then asF W.length G else []
theorem fnR_len (W : List Wt) (G : List Ck) : (fnR W G).length ≤ 1000 := by
  unfold fnR
  cases h : fnB W G with
  | false => simp
  | true =>
    unfold fnB at h
    rw [Bool.and_eq_true] at h
    have := ((gtB_iff W G).1 h.1).1.1
    simp [asF_length]; omega
theorem ft_small {W : List Wt} {c : Ck} (h : ftB W c = true) : c.k.size ≤ 64 := by
  have := (ftB_iff W c).1 h
  omega
theorem ft_file {W : List Wt} {c : Ck} (h : ftB W c = true) : 0 ≤ c.n ∧ c.n < W.length := by
  have := (ftB_iff W c).1 h
  omega

set_option maxHeartbeats 64000000 in
theorem implFin_any (a c : Value) (W : List Wt) (G : List Ck) (w : World) (h : TR w a c W G) (hn : W.length ≤ 1048576) (hm : G.length ≤ 1048576) (hs : ∀ i (h : i < G.length), G[i].k.size ≤ 1048576) :
    Calls Try.prog 28 #[.agg #[a, c]] w fun e w' => ∃ u, e = .returned (.tuple #[u, .bool (fnB W G)]) ∧ w'.ownsRow w.heap.size 9 1 u (fnR W G).length ((fnR W G).map Value.string) ∧ Below w.heap.size w w' := by
  have KM := fun W' (hb : Below w.heap.size w W') => implMiss_any a c W G W' (h.below hb) hn hm hs
  obtain ⟨⟨wa, wb, rfl, hwc⟩, ca, cb, rfl, hcc⟩ := h
  have X := Box.new w #[.slice wa W.length wb, .slice ca G.length cb] 41
  have B := below_alloc w (.cells #[.slice wa W.length wb, .slice ca G.length cb] 41)
  have HFB : fnB W G = (gtB W G && ((msL W G).isEmpty && smB W (asF W.length G))) := rfl
  have HFR : fnR W G = if fnB W G then asF W.length G else [] := rfl
  clear hs
  cases hg : gtB W G with
  | false =>
    have HF1 : Hid (fnB W G = false) := by show _ = _; rw [HFB, hg]; rfl
    have HF2 : Hid (fnR W G = []) := by show _ = _; rw [HFR, HF1.out]; rfl
    have HMR : Hid (msR W G = []) := by show _ = _; unfold msR; rw [hg]; rfl
    rw [HF1.out, HF2.out]
    rw [hg, HMR.out] at KM
    clear hwc hcc HFB HFR hg HMR
    go_enter Try.func28, Try.ntmps28
    go_wp2_with fail
    refine (KM _ B).mono ?_
    rintro e w1 ⟨u, rfl, O1, hb1⟩
    replace B := below_then B hb1
    obtain ⟨ua, uc, rfl⟩ := owns_shape O1
    clear hb1 KM X O1
    go_wp2
    go_ret2
    exact ⟨_, rfl, World.ownsRow_nil _ _ _ _, B⟩
  | true =>
  have HMR : msR W G = msL W G := by unfold msR; rw [hg]; rfl
  obtain ⟨hok, h200, hgc⟩ := (gtB_iff W G).1 hg
  have h12 := hok.1
  have hml := msL_len W G hok
  have HFT := fun i h => gcB_ft hgc i h
  rw [hg, HMR] at KM
  rw [hg, Bool.true_and] at HFB
  by_cases hE : (msL W G).length = 0
  rotate_left
  · have HF1 : Hid (fnB W G = false) := by
      show _ = _; rw [HFB]
      have : (msL W G).isEmpty = false := by cases hx : msL W G with | nil => rw [hx] at hE; simp at hE | cons _ _ => rfl
      rw [this]; rfl
    have HF2 : Hid (fnR W G = []) := by show _ = _; rw [HFR, HF1.out]; rfl
    rw [HF1.out, HF2.out]
    clear hwc hcc HFB HFR hg HMR HFT hok hgc
    generalize msL W G = M at *
    have hE2 : 0 < M.length := by omega
    clear hE
    go_enter Try.func28, Try.ntmps28
    go_wp2_with fail
    refine (KM _ B).mono ?_
    rintro e w1 ⟨u, rfl, O1, hb1⟩
    replace B := below_then B hb1
    obtain ⟨ua, uc, rfl⟩ := owns_shape O1
    clear hb1 KM X O1
    go_wp2
    go_ret2
    exact ⟨_, rfl, World.ownsRow_nil _ _ _ _, B⟩
  have HM0 : msL W G = [] := List.eq_nil_of_length_eq_zero hE
  rw [HM0] at KM HFB
  rw [show (([] : List Ck).isEmpty && smB W (asF W.length G)) = smB W (asF W.length G) from rfl] at HFB
  have HLF : Hid (fnB W G = smB W (asF W.length G)) := HFB
  have HLR : Hid (fnR W G = if fnB W G then asF W.length G else []) := HFR
  clear HFB HFR hg HMR hE HM0 hml hok hgc
  go_enter Try.func28, Try.ntmps28
  go_wp2_with fail
  refine (KM _ B).mono ?_
  rintro e w2 ⟨u, rfl, O1, hb1⟩
  replace B := below_then B hb1
  replace X := X.below hb1
  obtain ⟨ua, uc, rfl⟩ := owns_shape O1
  simp only [List.length_nil] at O1 ⊢
  clear hb1 KM O1
  obtain ⟨i0, hi, hz0, hzs, hzb⟩ := info_parts Try.info9g
  obtain ⟨hx, x0, x1⟩ := X.c2
  go_wp2_with (at_make; refine wpList_make_full _ rfl _ _ 23 rfl w2.heap.size 9 i0 _ 1 Try.underlying23 hi hz0 hzs .i64 .i64 _ _ W.length rfl rfl rfl rfl (by rw [hzb]; omega) (by unfold maxLen; omega) (Nat.le_refl _) ?_; intro w3 hown0 hgr0; refine StopA.go ?_)
  rw [madeS] at hown0
  have hb0 : Below w2.heap.size w2 w3 := (Below.refl _ _).grown hgr0 (Nat.le_refl _) (by simp)
  have hlt0 : w2.heap.size < w3.heap.size := (owns_lt hown0).2
  clear hgr0 hi hz0 hzs hzb hx x0 x1
  have X3 := X.below hb0
  have HA0 : Hid (asF W.length (G.take 0) = List.replicate W.length ⟨#[]⟩) := rfl
  have HAL : Hid (asF W.length (G.take G.length) = asF W.length G) := by show _ = _; rw [List.take_length]
  obtain ⟨hx, x0, x1⟩ := X3.c2
  have hz2 := B.size
  unfold StopA
  go_wp2
  clear hx x0 x1 X3
  go_loopw [30] (fun i wr => ∃ k : Nat, k ≤ G.length ∧ i = .int .i64 k ∧ wr.ownsRow w2.heap.size 9 1 (.slice (some ⟨w2.heap.size, 0, none⟩) W.length W.length) W.length ((asF W.length (G.take k)).map Value.string) ∧ Below w2.heap.size w2 wr) (fun i _ => G.length - (intOf i).toNat)
  case atStart => exact ⟨0, Nat.zero_le _, rfl, by rw [HA0.out]; exact hown0, hb0⟩
  case round =>
    clear hown0 hb0 hlt0
    obtain ⟨k, hk, rfl, hown, hb⟩ := hrel
    by_cases hlt : k < G.length
    · obtain ⟨b, off, rfl, hbl, hcell⟩ := hcc (by intro e; simp [e] at hlt)
      obtain ⟨y0, y1, y2, y3⟩ := hcell k hlt
      have hBr := below_then B hb
      have c0 := (hBr.cell (p := ⟨b, off + k * 4, none⟩) hbl).trans y0
      have c1 := (hBr.cell (p := ⟨b, off + k * 4 + 1, none⟩) hbl).trans y1
      have c2 := (hBr.cell (p := ⟨b, off + k * 4 + 2, none⟩) hbl).trans y2
      have c3 := (hBr.cell (p := ⟨b, off + k * 4 + 3, none⟩) hbl).trans y3
      have hft := HFT k hlt
      have hsm := ft_small hft
      have hfl := ft_file hft
      have HTK : Hid (asF W.length (G.take (k + 1)) = asS (asF W.length (G.take k)) G[k]) := asF_take W.length G k hlt
      have HSZ := asF_size (n := W.length) (fun i h => ft_small (HFT i h)) k hk
      have hal := asF_length W.length (G.take k)
      clear y0 y1 y2 y3 hcell hcc hft HFT hwc HAL HA0
      generalize G[k] = y at *
      obtain ⟨yn, yd, yk, yv⟩ := y
      dsimp only at *
      obtain ⟨i, rfl⟩ := Int.eq_ofNat_of_zero_le hfl.1
      have hi : i < W.length := by omega
      generalize asF W.length (G.take k) = A at *
      have hiA : i < A.length := by omega
      have hss := HSZ i hiA
      have HAS : Hid (asF W.length (G.take (k + 1)) = A.set i (A[i] ++ yk)) := by
        show _ = _
        rw [HTK.out]
        simp only [asS]
        rw [show ((i : Int)).toNat = i from by omega, show A.getD i ⟨#[]⟩ = A[i] from by simp [List.getD_eq_getElem?_getD, hiA]]
      have d0 : wr.cell? ⟨w2.heap.size, i, none⟩ = some (.string A[i]) := by rw [hown.cellAt i (by omega)]; simp [hiA]
      have f0 := hown.frozenAt i
      have hz := hb.size
      have hgl := (owns_lt hown).2
      have BA := below_alloc wr (.cells #[.int .i64 i, .int .i64 yd, .string yk, .int .u32 yv] 37)
      have Y0 := Box.new wr #[.int .i64 i, .int .i64 yd, .string yk, .int .u32 yv] 37
      have hown1 := owns_below hown BA
      have hb1 := below_then hb BA
      have HMS : Hid ((A.set i (A[i] ++ yk)).map Value.string = (A.map Value.string).set i (.string (A[i] ++ yk))) := by show _ = _; rw [List.map_set]
      have hAk : A[i].size + yk.size ≤ 100000 := by omega
      obtain ⟨W0, hW0⟩ : ∃ W0, W0 = wr.alloc (.cells #[.int .i64 i, .int .i64 yd, .string yk, .int .u32 yv] 37) := ⟨_, rfl⟩
      rw [← hW0] at Y0 BA hown1 hb1
      have HW0 : Hid (W0 = wr.alloc (.cells #[.int .i64 i, .int .i64 yd, .string yk, .int .u32 yv] 37)) := hW0
      clear hW0 hown hb HSZ HTK hal
      generalize A[i] = sa at *
      have hsa1 : sa.size ≤ 100000 := by omega
      have hyk1 : yk.size ≤ 100000 := by omega
      go_upto_region 8 with fail
      have hw0 := HW0.out.symm
      rw [hw0]
      clear hw0 HW0 c0 c1 c2 c3
      have e0 := (BA.cell (p := ⟨w2.heap.size, i, none⟩) hgl).trans d0
      have ef := (BA.frozen (p := ⟨w2.heap.size, i, none⟩) hgl).trans f0
      obtain ⟨hy, p0, p1, p2, p3⟩ := Y0.c4
      have hgl2 := (owns_lt hown1).2
      have HO : Hid _ := (hown1.stored i (.string (sa ++ yk))).1
      have hbF := (hb1.setCell (p := ⟨w2.heap.size, i, none⟩) (Nat.le_refl _) (.string (sa ++ yk))).drew
      have HBF : Hid _ := hbF
      clear d0 f0 BA hown1 hb1 Y0 hbF
      go_region
      go_wp2
      go_roundw
      case rel => exact ⟨k + 1, by omega, by go_num, by rw [HAS.out, HMS.out]; exact HO.out, HBF.out⟩
      case measure => simp [intOf]; omega
    · obtain rfl : k = G.length := by omega
      rw [HAL.out] at hown
      have X3 := X.below hb
      obtain ⟨hx, x0, x1⟩ := X3.c2
      have hal := asF_length W.length G
      have HSZ := asF_size (n := W.length) (fun i h => ft_small (HFT i h)) G.length (Nat.le_refl _)
      rw [HAL.out] at HSZ
      have HSMT := fun k h h2 => smT_succ W (asF W.length G) k h h2
      have HSMN := fun k h h2 hn => smB_no W (asF W.length G) k h h2 hn
      have HSMA : Hid (smT W (asF W.length G) W.length = smB W (asF W.length G)) := rfl
      have HLFB := HLF
      have HLFR := HLR
      clear HLF HLR
      clear hcc HFT HA0 HAL X
      generalize asF W.length G = A at *
      have HAl : Hid (A.length = W.length) := hal
      go_wp2
      clear hx x0 x1
      have HOW : Hid _ := hown
      go_loopw [47] (fun i wx => ∃ k : Nat, k ≤ W.length ∧ i = .int .i64 k ∧ smT W A k = true ∧ wx.ownsRow w2.heap.size 9 1 (.slice (some ⟨w2.heap.size, 0, none⟩) W.length W.length) W.length (A.map Value.string) ∧ Below w2.heap.size w2 wx) (fun i _ => W.length - (intOf i).toNat)
      case atStart => exact ⟨0, Nat.zero_le _, rfl, rfl, hown, hb⟩
      case round =>
        clear hown hb HOW
        obtain ⟨k, hk, rfl, hsmt, hown, hb⟩ := hrel
        by_cases hlt : k < W.length
        · obtain ⟨b, off, rfl, hbl, hcell⟩ := hwc (by intro e; simp [e] at hlt)
          have hBr := below_then B hb
          have c0 := (hBr.cell (p := ⟨b, off + k * 2, none⟩) hbl).trans (hcell k hlt).1
          have c1 := (hBr.cell (p := ⟨b, off + k * 2 + 1, none⟩) hbl).trans (hcell k hlt).2
          have hkA : k < A.length := by rw [HAl.out]; exact hlt
          have hss := HSZ k hkA
          have hsu := HSMT k hlt hkA
          have hno := HSMN k hlt hkA
          have d0 : wr.cell? ⟨w2.heap.size, k, none⟩ = some (.string A[k]) := by rw [hown.cellAt k (by omega)]; simp [hkA]
          have KS := fun w => implSum_any A[k] w (by omega)
          have hz := hb.size
          have hgl := (owns_lt hown).2
          clear hcell hwc HSZ HSMT HSMN hBr
          generalize A[k] = sa at *
          generalize csum sa.data.toList = cs at *
          generalize W[k] = sw at *
          obtain ⟨t, sd⟩ := sw
          dsimp only at *
          have BA := below_alloc wr (.cells #[.int .i64 t, .int .u32 sd] 54)
          have Y0 := Box.new wr #[.int .i64 t, .int .u32 sd] 54
          have hown1 := owns_below hown BA
          have hb1 := below_then hb BA
          obtain ⟨W0, hW0⟩ : ∃ W0, W0 = wr.alloc (.cells #[.int .i64 t, .int .u32 sd] 54) := ⟨_, rfl⟩
          rw [← hW0] at Y0 BA hown1 hb1
          have HW0 : Hid (W0 = wr.alloc (.cells #[.int .i64 t, .int .u32 sd] 54)) := hW0
          clear hW0 hown hb
          have e0 := (BA.cell (p := ⟨w2.heap.size, k, none⟩) hgl).trans d0
          have hz0 := BA.size
          obtain ⟨hy, p0, p1⟩ := Y0.c2
          have hgl0 : w2.heap.size < W0.heap.size := by omega
          have qe := fun x : WC W0.heap.size W0 => (x.ok.cell (p := ⟨w2.heap.size, k, none⟩) hgl0).trans e0
          have qp1 := fun x : WC W0.heap.size W0 => (x.ok.cell (p := ⟨wr.heap.size, 1, none⟩) hy).trans p1
          have hne : Nonempty (WC W0.heap.size W0) := ⟨⟨_, Below.refl _ _⟩⟩
          clear d0 e0 p0 p1 Y0 BA
          by_cases hcs : ((cs : Nat) : Int) = sd
          · have HT2 : Hid (smT W A (k + 1) = true) := by show _ = _; rw [hsu, hsmt]; simp [hcs]
            have gne : (((cs : Nat) : Int) != sd) = false := by simp [hcs]
            clear hsu hno hsmt hcs HLFB HLFR
            go_upto_region 13 with fail
            have hw0 := HW0.out.symm
            rw [hw0]
            clear hw0 HW0 c0 c1
            refine wp_region_calm (B := W0.heap.size) (W := W0) (by kernel_rfl) (by kernel_rfl) (Below.refl _ _) ?_
            repeat (go_big_quiet_step (first | (go_at_call 79; with_reducible exact calm_of_below (Nat.le_refl _) (KS _))))
            refine wpQuiet_nil ?_
            intro _ hw'
            obtain ⟨x, hx⟩ := hw'
            subst hx
            have hB2 := below_then hb1 x.ok
            have hO2 := owns_below hown1 x.ok
            clear qe qp1 hne hown1 hb1
            generalize x.w = w5 at *
            clear x
            go_wp2
            go_roundw
            case rel => exact ⟨k + 1, by omega, by go_num, HT2.out, hO2, hB2⟩
            case measure => simp [intOf]; omega
          · have HNO : Hid (smB W A = false) := hno hcs
            have gne : (((cs : Nat) : Int) != sd) = true := by simp [hcs]
            have HF1 : Hid (fnB W G = false) := by show _ = _; rw [HLFB.out, HNO.out]
            have HF2 : Hid (fnR W G = []) := by show _ = _; rw [HLFR.out, HF1.out]; rfl
            clear hsu hno hsmt hcs HLFB HLFR
            go_upto_region 13 with fail
            have hw0 := HW0.out.symm
            rw [hw0]
            clear hw0 HW0 c0 c1
            refine wp_region_calm (B := W0.heap.size) (W := W0) (by kernel_rfl) (by kernel_rfl) (Below.refl _ _) ?_
            repeat (go_big_quiet_step (first | (go_at_call 79; with_reducible exact calm_of_below (Nat.le_refl _) (KS _))))
            refine wpQuiet_nil ?_
            intro _ hw'
            obtain ⟨x, hx⟩ := hw'
            subst hx
            have hB2 := below_then B (below_then hb1 x.ok)
            clear qe qp1 hne hown1 hb1
            generalize x.w = w5 at *
            clear x
            go_wp2
            go_ret2
            exact ⟨_, by rw [HF1.out]; rfl, by rw [HF2.out]; exact World.ownsRow_nil _ _ _ _, hB2⟩
        · obtain rfl : k = W.length := by omega
          have HF1 : Hid (fnB W G = true) := by show _ = _; rw [HLFB.out, ← HSMA.out, hsmt]
          have HF2 : Hid (fnR W G = A) := by show _ = _; rw [HLFR.out, HF1.out]; rfl
          clear hwc HSZ HSMT HSMN HLFB HLFR hsmt
          go_wp2
          go_ret2
          exact ⟨_, by rw [HF1.out]; rfl, by rw [HF2.out, HAl.out]; exact owns_mono' hown hz2, below_then B hb⟩
end Go.Proofs.Ytocaigffikdlhaa
