/-
  Good takings: plainly; hasGoodChunks, both GoodTaking.
-/
import Derived.Test.YtocaigffikdlhaaFTToFG
namespace Go.Proofs.Ytocaigffikdlhaa
open Go.RowKit Go.Maps
set_option linter.unusedVariables false
set_option maxRecDepth 100000

/-- The chunk at i fits, and is behind the one ahead. -/
def gcAt (W : List Wt) (G : List Ck) (i : Nat) : Bool := ftB W (G.getD i default) && (i == 0 || ltC (G.getD (i - 1) default) (G.getD i default))
def gcTo (W : List Wt) (G : List Ck) (i : Nat) : Bool := (List.range i).all (gcAt W G)
def gcB (W : List Wt) (G : List Ck) : Bool := gcTo W G G.length
def gtB (W : List Wt) (G : List Ck) : Bool := gwB W && decide (G.length ≤ 200) && gcB W G
theorem gcTo_succ (W : List Wt) (G : List Ck) (i : Nat) : gcTo W G (i + 1) = (gcTo W G i && gcAt W G i) := by
  simp [gcTo, List.range_succ, List.all_append]
theorem gcTo_stop (W : List Wt) (G : List Ck) (i : Nat) (hi : i < G.length) (h : gcAt W G i = false) : gcB W G = false := by
  unfold gcB gcTo
  rw [List.all_eq_false]
  exact ⟨i, List.mem_range.2 hi, by simp [h]⟩
theorem gcB_at {W : List Wt} {G : List Ck} (h : gcB W G = true) {i : Nat} (hi : i < G.length) : gcAt W G i = true := by
  unfold gcB gcTo at h
  rw [List.all_eq_true] at h
  exact h i (List.mem_range.2 hi)
theorem getC_at (l : List Ck) (i : Nat) (h : i < l.length) : l.getD i default = l[i] := by simp [List.getD_eq_getElem?_getD, h]
theorem gcAt_zero (W : List Wt) (G : List Ck) (h : 0 < G.length) : gcAt W G 0 = ftB W G[0] := by
  unfold gcAt; rw [getC_at G 0 h]; simp
theorem gcAt_pos (W : List Wt) (G : List Ck) (i : Nat) (h : i < G.length) (h0 : 0 < i) : gcAt W G i = (ftB W G[i] && ltC (G[i - 1]'(by omega)) G[i]) := by
  unfold gcAt; rw [getC_at G i h, getC_at G (i - 1) (by omega)]
  have : (i == 0) = false := beq_false_of_ne (by omega)
  rw [this]; rfl

set_option maxHeartbeats 32000000 in
theorem hasGood_any (a c : Value) (W : List Wt) (G : List Ck) (w : World) (h : TR w a c W G) (hok : wOk W) (hG : G.length ≤ 200) (hs : ∀ i (h : i < G.length), G[i].k.size ≤ 1048576) :
    Calls Try.prog 78 #[.agg #[a, c]] w fun e w' => e = .returned (.bool (gcB W G)) ∧ Below w.heap.size w w' := by
  have HTR := fun W' (hb : Below w.heap.size w W') => h.below hb
  obtain ⟨⟨wa, wb, rfl, hwc⟩, ca, cb, rfl, hcc⟩ := h
  have X0 := Box.new w #[.slice wa W.length wb, .slice ca G.length cb] 41
  have B0 := below_alloc w (.cells #[.slice wa W.length wb, .slice ca G.length cb] 41)
  clear hwc
  go_enter Try.func78, Try.ntmps78
  go_wp2
  go_loopw [8] (fun i wr => ∃ k : Nat, k ≤ G.length ∧ i = .int .i64 k ∧ gcTo W G k = true ∧ Below w.heap.size w wr ∧ Box wr w.heap.size [.slice wa W.length wb, .slice ca G.length cb]) (fun i _ => G.length - (intOf i).toNat)
  case atStart => exact ⟨0, Nat.zero_le _, rfl, rfl, B0, X0⟩
  case round =>
    clear B0 X0
    obtain ⟨k, hk, rfl, hgt, hb, X⟩ := hrel
    by_cases hlt : k < G.length
    · obtain ⟨b, off, rfl, hbl, hcell⟩ := hcc (by intro e; simp [e] at hlt)
      obtain ⟨y0, y1, y2, y3⟩ := hcell k hlt
      have hz := hb.size
      have hbr : b < wr.heap.size := by omega
      have c0 := (hb.cell (p := ⟨b, off + k * 4, none⟩) hbl).trans y0
      have c1 := (hb.cell (p := ⟨b, off + k * 4 + 1, none⟩) hbl).trans y1
      have c2 := (hb.cell (p := ⟨b, off + k * 4 + 2, none⟩) hbl).trans y2
      have c3 := (hb.cell (p := ⟨b, off + k * 4 + 3, none⟩) hbl).trans y3
      have hxs := hs k hlt
      have BA := below_alloc wr (.cells #[.int .i64 G[k].n, .int .i64 G[k].d, .string G[k].k, .int .u32 G[k].v] 37)
      have X0 := X.below BA
      have Y0 := Box.new wr #[.int .i64 G[k].n, .int .i64 G[k].d, .string G[k].k, .int .u32 G[k].v] 37
      have hb0 := below_then hb BA
      have hTR := HTR _ hb0
      have KF0 := fun W' (hb : Below w.heap.size w W') => fits_any (.slice wa W.length wb) (.slice (some ⟨b, off, none⟩) G.length cb) W G G[k] W' (HTR _ hb) hok hxs
      have HAT0 := fun (h : k = 0) => gcAt_zero W G (by omega)
      have HATP := fun (h : 0 < k) => gcAt_pos W G k hlt h
      have HST := gcTo_stop W G k hlt
      have HSU : gcTo W G (k + 1) = (gcTo W G k && gcAt W G k) := gcTo_succ W G k
      rw [hgt, Bool.true_and] at HSU
      have hbW0 : b < (wr.alloc (.cells #[.int .i64 G[k].n, .int .i64 G[k].d, .string G[k].k, .int .u32 G[k].v] 37)).heap.size := by simp; omega
      obtain ⟨W0, hW0⟩ : ∃ W0, W0 = wr.alloc (.cells #[.int .i64 G[k].n, .int .i64 G[k].d, .string G[k].k, .int .u32 G[k].v] 37) := ⟨_, rfl⟩
      rw [← hW0] at X0 Y0 hb0 hTR hbW0
      have HW0 : Hid (W0 = wr.alloc (.cells #[.int .i64 G[k].n, .int .i64 G[k].d, .string G[k].k, .int .u32 G[k].v] 37)) := hW0
      clear hW0 BA y0 y1 y2 y3 hs hTR
      have KF : ∀ n : WC W0.heap.size W0, _ := fun n => KF0 n.w (below_then hb0 n.ok)
      obtain ⟨hxl, s0, s1⟩ := X0.c2
      obtain ⟨hy, p0, p1, p2, p3⟩ := Y0.c4
      have qs0 := fun x : WC W0.heap.size W0 => (x.ok.cell (p := ⟨w.heap.size, 0, none⟩) hxl).trans s0
      have qs1 := fun x : WC W0.heap.size W0 => (x.ok.cell (p := ⟨w.heap.size, 1, none⟩) hxl).trans s1
      have qp0 := fun x : WC W0.heap.size W0 => (x.ok.cell (p := ⟨wr.heap.size, 0, none⟩) hy).trans p0
      have qp1 := fun x : WC W0.heap.size W0 => (x.ok.cell (p := ⟨wr.heap.size, 1, none⟩) hy).trans p1
      have qp2 := fun x : WC W0.heap.size W0 => (x.ok.cell (p := ⟨wr.heap.size, 2, none⟩) hy).trans p2
      have qp3 := fun x : WC W0.heap.size W0 => (x.ok.cell (p := ⟨wr.heap.size, 3, none⟩) hy).trans p3
      have hne : Nonempty (WC W0.heap.size W0) := ⟨⟨_, Below.refl _ _⟩⟩
      clear s0 s1 p0 p1 p2 p3 Y0 KF0 HTR
      cases hf : ftB W G[k] with
      | false =>
        have HG : Hid (gcB W G = false) := HST (by
          rcases Nat.eq_zero_or_pos k with h | h
          · subst h; rw [HAT0 rfl, hf]
          · rw [HATP h, hf]; rfl)
        rw [hf] at KF
        clear HAT0 HATP HST HSU hf hcell hcc hgt hb X hok
        generalize G[k] = x at *
        go_upto_region 4 with fail
        have hw0 := HW0.out.symm
        rw [hw0]
        clear hw0 HW0 c0 c1 c2 c3
        refine wp_region_calm (B := W0.heap.size) (W := W0) (by kernel_rfl) (by kernel_rfl) (Below.refl _ _) ?_
        repeat (go_big_quiet_step (first | (go_at_call 99; with_reducible exact calm_of_below (Nat.le_refl _) (KF _))))
        refine wpQuiet_nil ?_
        intro _ hw'
        obtain ⟨x, hx⟩ := hw'
        subst hx
        have hB2 := below_then hb0 x.ok
        have X2 := X0.below x.ok
        clear qs0 qs1 qp0 qp1 qp2 qp3 hne X0
        generalize x.w = w3 at *
        clear x
        go_wp2
        go_ret
        exact ⟨by rw [HG.out]; rfl, hB2⟩
      | true =>
        rw [hf] at KF
        by_cases h0 : k = 0
        · have HT : Hid (gcTo W G (k + 1) = true) := by show _ = _; rw [HSU]; subst h0; rw [HAT0 rfl, hf]
          clear HAT0 HATP HST HSU hf hcell hcc hgt hb X hok
          subst h0
          simp only [Nat.zero_mul, Nat.add_zero] at c0 c1 c2 c3
          generalize G[0] = x at *
          go_upto_region 4 with fail
          have hw0 := HW0.out.symm
          rw [hw0]
          clear hw0 HW0 c0 c1 c2 c3
          refine wp_region_calm (B := W0.heap.size) (W := W0) (by kernel_rfl) (by kernel_rfl) (Below.refl _ _) ?_
          repeat (go_big_quiet_step (first | (go_at_call 99; with_reducible exact calm_of_below (Nat.le_refl _) (KF _))))
          refine wpQuiet_nil ?_
          intro _ hw'
          obtain ⟨x, hx⟩ := hw'
          subst hx
          have hB2 := below_then hb0 x.ok
          have X2 := X0.below x.ok
          clear qs0 qs1 qp0 qp1 qp2 qp3 hne X0
          generalize x.w = w3 at *
          clear x
          go_wp2
          go_roundw
          case rel => exact ⟨1, by omega, by go_num, HT.out, hB2, X2⟩
          case measure => simp [intOf]; omega
        · have hk0 : 0 < k := by omega
          have hap := HATP hk0
          rw [hf, Bool.true_and] at hap
          obtain ⟨y0, y1, y2, y3⟩ := hcell (k - 1) (by omega)
          have d0 := fun x : WC W0.heap.size W0 => ((below_then hb0 x.ok).cell (p := ⟨b, off + (k - 1) * 4, none⟩) hbl).trans y0
          have d1 := fun x : WC W0.heap.size W0 => ((below_then hb0 x.ok).cell (p := ⟨b, off + (k - 1) * 4 + 1, none⟩) hbl).trans y1
          have d2 := fun x : WC W0.heap.size W0 => ((below_then hb0 x.ok).cell (p := ⟨b, off + (k - 1) * 4 + 2, none⟩) hbl).trans y2
          have d3 := fun x : WC W0.heap.size W0 => ((below_then hb0 x.ok).cell (p := ⟨b, off + (k - 1) * 4 + 3, none⟩) hbl).trans y3
          have KL := fun (x : WC W0.heap.size W0) => comparePlaces_any (G[k - 1]'(by omega)) G[k] x.w
          have hkm : ((k : Int) - 1) = ((k - 1 : Nat) : Int) := by omega
          have hwm : IntKind.i64.wrap ((k : Int) - 1) = ((k - 1 : Nat) : Int) := by rw [IntKind.wrap_i64]; omega
          have hkl : k - 1 < G.length := by omega
          have hg0 : decide ((0 : Int) < (k : Int)) = true := decide_eq_true (by omega)
          have hg1 : decide (0 < k) = true := decide_eq_true (by omega)
          have hLC := cmpC_lt (G[k - 1]'(by omega)) G[k]
          cases hl : ltC (G[k - 1]'(by omega)) G[k] with
          | false =>
            have HG : Hid (gcB W G = false) := HST (by rw [hap, hl])
            have hge : decide ((0 : Int) ≤ cmpC (G[k - 1]'(by omega)) G[k]) = true := decide_eq_true (by rw [hl] at hLC; have : ¬ cmpC (G[k - 1]'(by omega)) G[k] < 0 := fun h => absurd (hLC.1 h) (by simp); omega)
            have hge2 : (0 : Int) ≤ cmpC (G[k - 1]'(by omega)) G[k] := of_decide_eq_true hge
            try rw [hl] at KL
            clear HAT0 HATP HST HSU hf hcell hcc hgt hb X hok hap hl hLC y0 y1 y2 y3
            generalize G[k - 1] = y at *
            generalize G[k] = x at *
            generalize k - 1 = km at *
            generalize cmpC y x = r at *
            go_upto_region 4 with fail
            have hw0 := HW0.out.symm
            rw [hw0]
            clear hw0 HW0 c0 c1 c2 c3
            refine wp_region_calm (B := W0.heap.size) (W := W0) (by kernel_rfl) (by kernel_rfl) (Below.refl _ _) ?_
            repeat (go_big_quiet_step (first | (go_at_call 99; with_reducible exact calm_of_below (Nat.le_refl _) (KF _)) | (go_at_call 103; with_reducible exact calm_of_below (Nat.le_refl _) (KL _))))
            refine wpQuiet_nil ?_
            intro _ hw'
            obtain ⟨x, hx⟩ := hw'
            subst hx
            have hB2 := below_then hb0 x.ok
            have X2 := X0.below x.ok
            clear qs0 qs1 qp0 qp1 qp2 qp3 hne X0
            generalize x.w = w3 at *
            clear x
            clear d0 d1 d2 d3
            go_wp2
            go_ret
            exact ⟨by rw [HG.out]; rfl, hB2⟩
          | true =>
            have HT : Hid (gcTo W G (k + 1) = true) := by show _ = _; rw [HSU, hap, hl]
            have hge : decide ((0 : Int) ≤ cmpC (G[k - 1]'(by omega)) G[k]) = false := decide_eq_false (by have := hLC.2 hl; omega)
            have hge2 : ¬ (0 : Int) ≤ cmpC (G[k - 1]'(by omega)) G[k] := of_decide_eq_false hge
            try rw [hl] at KL
            clear HAT0 HATP HST HSU hf hcell hcc hgt hb X hok hap hl hLC y0 y1 y2 y3
            generalize G[k - 1] = y at *
            generalize G[k] = x at *
            generalize k - 1 = km at *
            generalize cmpC y x = r at *
            go_upto_region 4 with fail
            have hw0 := HW0.out.symm
            rw [hw0]
            clear hw0 HW0 c0 c1 c2 c3
            refine wp_region_calm (B := W0.heap.size) (W := W0) (by kernel_rfl) (by kernel_rfl) (Below.refl _ _) ?_
            repeat (go_big_quiet_step (first | (go_at_call 99; with_reducible exact calm_of_below (Nat.le_refl _) (KF _)) | (go_at_call 103; with_reducible exact calm_of_below (Nat.le_refl _) (KL _))))
            refine wpQuiet_nil ?_
            intro _ hw'
            obtain ⟨x, hx⟩ := hw'
            subst hx
            have hB2 := below_then hb0 x.ok
            have X2 := X0.below x.ok
            clear qs0 qs1 qp0 qp1 qp2 qp3 hne X0
            generalize x.w = w3 at *
            clear x
            clear d0 d1 d2 d3
            go_wp2
            go_roundw
            case rel => exact ⟨k + 1, by omega, by go_num, HT.out, hB2, X2⟩
            case measure => simp [intOf]; omega
    · obtain rfl : k = G.length := by omega
      have HG : Hid (gcB W G = true) := hgt
      clear hcc hs hgt X HTR
      go_wp2
      go_ret
      exact ⟨by rw [HG.out]; rfl, hb⟩
end Go.Proofs.Ytocaigffikdlhaa
