/-
  A drawn list with towers: skip.
-/
import Derived.Test.YtdaldkcildbcmaaDoorFS
namespace Go.Proofs.YtdaldkcildbcmaaDoor
open Go.RowKit
set_option linter.unusedVariables false
set_option maxRecDepth 100000

set_option maxHeartbeats 32000000 in
theorem skip_any (b : Nat) (l : List UInt8) (K : Nat) (w : World) (h : Cur w b l K) (hl : l.length ≤ 9223372036854775807) (hK : K ≤ 1000) :
    Calls Tryd.prog 37 #[.pointer (some ⟨b, 0, none⟩)] w fun e w' => (∃ hv tv H T sb, e = .returned (.agg #[hv, tv]) ∧ FinS w' (w.heap.size + 1) (fun q => q = sb) hv tv H T) ∧ Cur w' b l (K + 60000) ∧ Chg (· = b) w w' := by
  have hbl := h.lt
  obtain ⟨W0, hW0⟩ : ∃ W, W = w.alloc (.cells #[.slice none 0 0, .slice none 0 0] 26) := ⟨_, rfl⟩
  have hB0 : Below w.heap.size w W0 := by rw [hW0]; exact below_alloc _ _
  have R : Box W0 w.heap.size [.slice none 0 0, .slice none 0 0] := by rw [hW0]; exact Box.new w #[.slice none 0 0, .slice none 0 0] 26
  have hz0 : w.heap.size < W0.heap.size := by rw [hW0]; simp
  have hc := h.chg hB0
  have hch : Chg (· = b) w W0 := Chg.of_below hB0
  clear h hB0
  go_enter Tryd.func37, Tryd.ntmps37
  go_upto_region 1 with fail
  rw [← hW0]
  clear hW0
  go_wp2_with fail
  refine (specNew_any W0).mono ?_
  rintro e w1 ⟨⟨g1, c1, rfl, oH⟩, hb1⟩
  replace R := R.below hb1
  replace hc := hc.chg hb1
  replace hch := hch.trans (Chg.of_below hb1)
  have hz1 := hb1.size
  clear hb1
  have hg1l := owns_ge oH g1 rfl
  have hg1u := owns_below_lt oH g1 rfl
  have hBX := below_alloc w1 (.cells #[.slice (some ⟨g1, 0, none⟩) 5 c1, .slice none 0 0] 26)
  have X := Box.new w1 #[.slice (some ⟨g1, 0, none⟩) 5 c1, .slice none 0 0] 26
  have hlb := hc.lt
  replace R := R.below hBX
  replace oH := owns_below oH hBX
  replace hc := hc.chg hBX
  replace hch := hch.trans (Chg.of_below hBX)
  go_upto_region 2 with fail
  obtain ⟨w2, hW2⟩ : ∃ W, W = w1.alloc (.cells #[.slice (some ⟨g1, 0, none⟩) 5 c1, .slice none 0 0] 26) := ⟨_, rfl⟩
  have hz2 : w1.heap.size < w2.heap.size := by rw [hW2]; simp
  rw [← hW2] at X R oH hc hch ⊢
  clear hW2 hBX
  have X : Box w2 w1.heap.size [.slice (some ⟨g1, 0, none⟩) 5 c1, .slice none 0 0] := X
  obtain ⟨sb, hsb⟩ : ∃ sb, Hid (w1.heap.size = sb) := ⟨_, rfl⟩
  rw [hsb.out] at X ⊢
  have hsb1 : g1 < sb := by have := hsb.out; omega
  have hsb2 : w.heap.size < sb := by have := hsb.out; omega
  have hsb3 : b < sb := by have := hsb.out; omega
  clear hsb
  have hS : SkD w2 (w.heap.size + 1) (fun q => q = sb) (.slice (some ⟨g1, 0, none⟩) 5 c1) (.slice none 0 0) [-1, -1, -1, -1, -1] [] :=
    ⟨⟨g1, c1, [], [], rfl, OwnS.none (owns_lower oH (by omega)), (fun g hg => by cases hg), by omega, (fun g hg => by cases hg)⟩, rfl, by simp, fun i hi => by simp at hi⟩
  clear oH hg1l hg1u
  go_wp2_with fail
  refine (pick_any b l _ 14 _ hc hl (by omega) (by omega)).mono ?_
  rintro e w3 ⟨⟨n0, rfl, hn0⟩, hc1, hch1⟩
  replace X := hch1.box X (by omega)
  replace R := hch1.box R (by omega)
  replace hS := hS.chg hch1 (fun k hk _ e => by have e : k = b := e; omega)
  replace hch := hch.trans hch1
  replace hc := hc1
  have hzw3 := hch1.size
  clear hc1 hch1
  go_wp2_with fail
  refine (one_any b l _ 12 _ hc hl (by omega) (by omega)).mono ?_
  rintro e w4 ⟨⟨x12, rfl⟩, hc1, hch1⟩
  replace X := hch1.box X (by omega)
  replace R := hch1.box R (by omega)
  replace hS := hS.chg hch1 (fun k hk _ e => by have e : k = b := e; omega)
  replace hch := hch.trans hch1
  replace hc := hc1
  have hzw4 := hch1.size
  clear hc1 hch1
  go_upto_if 12 with fail
  go_cut [4] from 8 (fun s4 wc => ∃ k : Nat, k ≤ 70 ∧ s4 = .int .i64 k ∧ wc = w4)
  case first =>
    have hn70 : n0 ≤ 70 := by omega
    clear X R hS hc hch
    cases x12 with
    | true =>
      go_wp2_with fail
      go_meet
      case rel => exact ⟨70, by omega, rfl, rfl⟩
    | false =>
      go_wp2_with fail
      go_meet
      case rel => exact ⟨n0, hn70, rfl, rfl⟩
  case rest =>
    obtain ⟨k0, hk0, rfl, hwc⟩ := hcut
    replace hwc := hwc.symm
    subst hwc
    have hwz : w.heap.size < w4.heap.size := by have := X.1; omega
    obtain ⟨hv0, tv0, H0, T0, X, hS⟩ : ∃ hv tv H T, Box w4 sb [hv, tv] ∧ SkD w4 (w.heap.size + 1) (fun q => q = sb) hv tv H T := ⟨_, _, _, _, X, hS⟩
    replace hc := hc.mono (show _ ≤ K + 100 + 400 * (100 - k0) from by omega)
    clear hn0
    go_wp2_with fail
    go_loopw [4] (fun s4 wr => ∃ (k : Nat) (hv tv : Value) (H : List Int) (T : List Tw), k ≤ 70 ∧ s4 = .int .i64 k ∧ Box wr sb [hv, tv] ∧ Box wr w.heap.size [.slice none 0 0, .slice none 0 0] ∧ SkD wr (w.heap.size + 1) (fun q => q = sb) hv tv H T ∧ Cur wr b l (K + 100 + 400 * (100 - k)) ∧ Chg (· = b) w wr) (fun s4 _ => (intOf s4).toNat)
    case atStart => exact ⟨k0, hv0, tv0, H0, T0, hk0, rfl, X, R, hS, hc, hch⟩
    case round =>
      clear X R hS hc hch hk0
      obtain ⟨k, hv, tv, H, T, hk, rfl, X, R, hS, hc, hch⟩ := hrel
      have hzr := hch.size
      have hzx := X.1
      by_cases hlt : 0 < k
      · have hkl : (0 : Int) < (k : Int) := by omega
        go_wp2_with fail
        refine (item_any b l _ _ hc hl (by omega)).mono ?_
        rintro e w5 ⟨⟨ik, n1, d1, iv, rfl, hik, hiv⟩, hc1, hch1⟩
        replace X := hch1.box X (by omega)
        replace R := hch1.box R (by omega)
        replace hS := hS.chg hch1 (fun k hk _ e => by have e : k = b := e; omega)
        replace hch := hch.trans hch1
        replace hc := hc1
        have hzw5 := hch1.size
        clear hc1 hch1
        replace hS := hS.more (N' := fun q => q = sb ∨ q = w5.heap.size) (fun g e => e.elim .inl fun e => .inr (by omega))
        have hBX := below_alloc w5 (.cells #[.string ik, .int .i64 n1, .int .i64 d1, .string iv] 28)
        have Y := Box.new w5 #[.string ik, .int .i64 n1, .int .i64 d1, .string iv] 28
        have hlb5 := hc.lt
        replace X := X.below hBX
        replace R := R.below hBX
        replace hS := hS.below hBX
        replace hc := hc.chg hBX
        replace hch := hch.trans (Chg.of_below hBX)
        go_upto_region 8 with fail
        obtain ⟨w6, hW6⟩ : ∃ W, W = w5.alloc (.cells #[.string ik, .int .i64 n1, .int .i64 d1, .string iv] 28) := ⟨_, rfl⟩
        have hz6 : w5.heap.size < w6.heap.size := by rw [hW6]; simp
        rw [← hW6] at X Y R hS hc hch ⊢
        clear hW6 hBX
        have Y : Box w6 w5.heap.size [.string ik, .int .i64 n1, .int .i64 d1, .string iv] := Y
        obtain ⟨xb, hxb⟩ : ∃ xb, Hid (w5.heap.size = xb) := ⟨_, rfl⟩
        rw [hxb.out] at Y hS ⊢
        have hxb1 : sb < xb := by have := hxb.out; omega
        clear hxb
        go_upto_if 20 with fail
        go_cut [] from 13 to 31 (fun wc => ∃ n : Int, Box wc xb [.string ik, .int .i64 n, .int .i64 d1, .string iv] ∧ Box wc sb [hv, tv] ∧ Box wc w.heap.size [.slice none 0 0, .slice none 0 0] ∧ SkD wc (w.heap.size + 1) (fun q => q = sb) hv tv H T ∧ Cur wc b l (K + 100 + 400 * (100 - k) + 210) ∧ Chg (· = b) w wc)
        case first =>
          by_cases h20 : 20 < k
          · have h20i : (20 : Int) < (k : Int) := by omega
            go_wp2_with fail
            refine (pick_any b l _ 300 _ hc hl (by omega) (by omega)).mono ?_
            rintro e w7 ⟨⟨y, rfl, hy⟩, hc1, hch1⟩
            replace X := hch1.box X (by omega)
            replace R := hch1.box R (by omega)
            replace Y := hch1.box Y (by omega)
            replace hS := hS.chg hch1 (fun k hk _ e => by have e : k = b := e; omega)
            replace hch := hch.trans hch1
            replace hc := hc1
            have hzw7 := hch1.size
            clear hc1 hch1
            have Y7 := Y.set 1 (.int .i64 y) (by simp)
            obtain ⟨⟨f0, f1, f2, f3⟩, yl, y0, y1, y2, y3⟩ := Y.f4
            have X7 := X.setOther ⟨xb, 1, none⟩ (.int .i64 y) (by show xb ≠ sb; omega)
            have R7 := R.setOther ⟨xb, 1, none⟩ (.int .i64 y) (by show xb ≠ w.heap.size; omega)
            have hCy : Chg (fun q => q = xb) w7 (w7.setCell ⟨xb, 1, none⟩ (.int .i64 y)) := Chg.setCell (S := fun q => q = xb) (Chg.refl _ _) (p := ⟨xb, 1, none⟩) rfl _
            have hS7 := (hS.chg hCy (fun g _ h1 e => h1 (.inr e))).more (N' := fun q => q = sb) (fun g e => .inl (.inl e))
            have hc7 := cur_set hc (Nat.le_refl _) ⟨xb, 1, none⟩ (by show b < xb; omega) (.int .i64 y)
            have hch7 := chg_new hch ⟨xb, 1, none⟩ (by show w.heap.size ≤ xb; omega) (.int .i64 y)
            clear X R Y hS hc hch hy hCy
            go_wp2_with fail
            go_meet
            case rel => exact ⟨_, Y7, X7, R7, hS7, hc7.mono (by omega), hch7⟩
          · have h20i : ¬ (20 : Int) < (k : Int) := by omega
            have hc9 := hc.mono (show _ ≤ K + 100 + 400 * (100 - k) + 210 from by omega)
            have hS9 := hS.more (N' := fun q => q = sb) (fun g e => .inl (.inl e))
            clear hc hS
            go_wp2_with fail
            go_meet
            case rel => exact ⟨_, Y, X, R, hS9, hc9, hch⟩
        case rest =>
          clear X Y R hS hc hch
          obtain ⟨n, Y, X, R, hS, hc, hch⟩ := hcut
          generalize wc = w8 at *
          have hz8 := hch.size
          obtain ⟨ah, ch, ay, cap, rfl, rfl, hcy, hcm⟩ := hS.shape
          have KI := specInsert_any (.slice ah H.length ch) ay cap H T ⟨ik, n, d1, iv, []⟩ w8 hS.il hS.tws (by have := hS.h5; omega) hcy hcm (FitT.f3 hS.fit) (by show ik.size ≤ _; omega) (by show iv.size ≤ _; omega)
          dsimp only at KI
          have hzx8 := X.1
          obtain ⟨xl, x0, x1⟩ := X.c2
          obtain ⟨yl, y0, y1, y2, y3⟩ := Y.c4
          go_wp2_with fail
          refine KI.mono ?_
          rintro e w9 ⟨⟨u1, u2, ok, rfl, hres⟩, hb9⟩
          replace X := X.below hb9
          replace R := R.below hb9
          replace hS := hS.below hb9
          replace hc := hc.chg hb9
          replace hch := hch.trans (Chg.of_below hb9)
          have hz9 := hb9.size
          clear hb9 KI xl x0 x1 yl y0 y1 y2 y3 Y
          rcases hres with ⟨rfl, hI, ga, ca, gs, cs, he, ho⟩ | ⟨rfl, hI, rfl, rfl⟩
          · obtain ⟨ua, uc, hu2⟩ := slice_of ho.rows
            have hSn := SkD.ins (N := fun q => q = sb) hS.h5 hS.t60 hS.fit hI (by show ik.size ≤ _; omega) (by show iv.size ≤ _; omega) he ho (fun g e => by have e : g = sb := e; omega)
            obtain ⟨q0, q1, q2, q3⟩ := hSn
            have hSn : SkD w9 (w.heap.size + 1) (fun q => q = sb) u1 u2 (insHs H T ⟨ik, n, d1, iv, []⟩) (insTs H T ⟨ik, n, d1, iv, []⟩) := ⟨by obtain ⟨a1, a2, a3, a4, a5, a6, a7⟩ := q0; exact ⟨a1, a2, a3, a4, a5, a6.lower (by omega), a7⟩, q1, q2, q3⟩
            clear q0 q1 q2 q3 hS ho
            generalize insHs H T ⟨ik, n, d1, iv, []⟩ = Hn at *
            generalize insTs H T ⟨ik, n, d1, iv, []⟩ = Tn at *
            subst he hu2
            have hBY := below_alloc w9 (.cells #[.slice (some ⟨ga, 0, none⟩) H.length ca, .slice ua Tn.length uc] 26)
            have U := Box.new w9 #[.slice (some ⟨ga, 0, none⟩) H.length ca, .slice ua Tn.length uc] 26
            replace X := X.below hBY
            replace R := R.below hBY
            replace hSn := hSn.below hBY
            have hlb9 := hc.lt
            replace hc := hc.chg hBY
            replace hch := hch.trans (Chg.of_below hBY)
            obtain ⟨wA, hWA⟩ : ∃ W, W = w9.alloc (.cells #[.slice (some ⟨ga, 0, none⟩) H.length ca, .slice ua Tn.length uc] 26) := ⟨_, rfl⟩
            go_upto_region 11 with fail
            rw [← hWA] at U X R hSn hc hch ⊢
            have hzA : w9.heap.size < wA.heap.size := by rw [hWA]; simp
            clear hWA hBY
            obtain ⟨ul, v0, v1⟩ := U.c2
            obtain ⟨⟨f0, f1⟩, xl, x0, x1⟩ := X.f2
            have hC7 := put2_chg wA sb (.slice (some ⟨ga, 0, none⟩) H.length ca) (.slice ua Tn.length uc)
            have X7 := put2_box X (.slice (some ⟨ga, 0, none⟩) H.length ca) (.slice ua Tn.length uc)
            obtain ⟨W7, hW7⟩ : ∃ W, W = put2 wA sb (.slice (some ⟨ga, 0, none⟩) H.length ca) (.slice ua Tn.length uc) := ⟨_, rfl⟩
            rw [← hW7] at hC7 X7
            have R7 := hC7.box R (by omega)
            have hS7 := hSn.chg hC7 (fun g _ hg e => hg e)
            have hc7 : Cur W7 b l _ := cur_low hc (show b < sb from by omega) (hC7.below (B := sb) (by have := X.1; omega) (fun k e => by have e : k = sb := e; omega))
            have hch7 := chg_out hch hC7 (fun k e => .inr (by have e : k = sb := e; omega))
            clear X R hSn hc hch U hC7
            unfold put2 at hW7
            go_wp2_with fail
            rw [← hW7]
            go_roundw
            case rel => exact ⟨k - 1, _, _, _, _, by omega, by go_num, X7, R7, hS7, hc7.mono (by omega), hch7⟩
            case measure => simp [intOf]; omega
          · have hBY := below_alloc w9 (.cells #[.slice none 0 0, .slice none 0 0] 26)
            have U := Box.new w9 #[.slice none 0 0, .slice none 0 0] 26
            replace X := X.below hBY
            replace R := R.below hBY
            replace hS := hS.below hBY
            replace hc := hc.chg hBY
            replace hch := hch.trans (Chg.of_below hBY)
            go_upto_region 11 with fail
            obtain ⟨wA, hWA⟩ : ∃ W, W = w9.alloc (.cells #[.slice none 0 0, .slice none 0 0] 26) := ⟨_, rfl⟩
            rw [← hWA] at U X R hS hc hch ⊢
            clear hWA hBY U hI
            go_wp2_with fail
            go_roundw
            case rel => exact ⟨k - 1, _, _, _, _, by omega, by go_num, X, R, hS, hc.mono (by omega), hch⟩
            case measure => simp [intOf]; omega
      · obtain rfl : k = 0 := by omega
        replace hc := hc.mono (show _ ≤ K + 50000 from by omega)
        clear hk
        have hsbz := X.1
        go_wp2_with fail
        refine (pick_any b l _ 40 _ hc hl (by omega) (by omega)).mono ?_
        rintro e w5 ⟨⟨x4, rfl, hx4⟩, hc1, hch1⟩
        replace X := hch1.box X (by omega)
        replace R := hch1.box R (by omega)
        replace hS := hS.chg hch1 (fun k hk _ e => by have e : k = b := e; omega)
        replace hch := hch.trans hch1
        replace hc := hc1
        have hzw5 := hch1.size
        clear hc1 hch1
        go_upto_block 2 with fail
        go_cut [] from 8 (fun wc => ∃ (hv tv : Value) (H : List Int) (T : List Tw), Box wc sb [hv, tv] ∧ Box wc w.heap.size [.slice none 0 0, .slice none 0 0] ∧ FinS wc (w.heap.size + 1) (fun q => q = sb) hv tv H T ∧ Cur wc b l (K + 60000) ∧ Chg (· = b) w wc)
        case first =>
          by_cases e0 : x4 = 0
          · subst e0
            clear hx4
            obtain ⟨⟨g1, c1, gs, cs, rfl, oS, n1, n2, n3⟩, h5, h60, hft⟩ := hS
            obtain ⟨ay, cap, rfl⟩ := slice_of oS.rows
            have hS : SkD w5 (w.heap.size + 1) (fun q => q = sb) (.slice (some ⟨g1, 0, none⟩) H.length c1) (.slice ay T.length cap) H T := ⟨⟨g1, c1, gs, cs, rfl, oS, n1, n2, n3⟩, h5, h60, hft⟩
            have hg1 := oS.ge.2.1
            have hOC : ∀ W, (∀ S, (∀ g, w.heap.size + 1 ≤ g → ¬ g = sb → ¬ S g) → Chg S w5 W → OwnS W (w.heap.size + 1) H T (.slice ay T.length cap) g1 c1 gs cs) := fun W S hs hcc => by
              obtain ⟨p, q, r⟩ := oS.ge
              exact oS.chgD hcc (fun g hg => hs g (p g hg) (n1 g hg)) (hs g1 q n2) (fun g hg => hs g (r g hg) (n3 g hg))
            have hD : Below w5.heap.size w5 w5.drew := (Below.refl _ _).drew
            replace X := X.below hD
            replace R := R.below hD
            replace hS := hS.below hD
            have hW0 : Chg (fun q => q = b) w5 w5.drew := Chg.of_below hD
            replace hc := hc.chg hD
            replace hch := hch.trans (Chg.of_below hD)
            have hzva := hD.size
            clear hD
            go_wp2_with fail
            refine wp_region_held_drew (S := (fun w' => Box w' sb [.slice (some ⟨g1, 0, none⟩) H.length c1, .slice ay T.length cap])) (by kernel_rfl) X (fun hHeld => ?_)
            generalize w5.drew = va at *
            refine wpAnyH_take (i := 0) (oi := { dst := some 36, op := Op.fieldAddr 26 (Operand.tmp 3) 0, type := 0, pos := "l4_skip.go:241", after := #[], guard := none }) (v := .pointer (some ⟨sb, 0, none⟩)) rfl (by kernel_rfl) (by kernel_rfl) (by kernel_rfl) (fun _ _ _ h => h) (Or.inl ⟨by rfl, ?_⟩) (by assumption) ?_
            · intro wx hSw
              clear hHeld hSw; go_simp
            simp only [Act.put, List.setIfInBounds_toArray, List.set_cons_zero, List.set_cons_succ]
            refine wpAnyH_take (i := 1) (oi := { dst := some 37, op := Op.load 23 (Operand.tmp 36), type := 23, pos := "l4_skip.go:241", after := #[{ on := 0, ground := Ground.data }], guard := none }) (v := .slice (some ⟨g1, 0, none⟩) H.length c1) rfl (by kernel_rfl) (by kernel_rfl) (by kernel_rfl) (fun _ _ _ h => h) (Or.inl ⟨by rfl, ?_⟩) (by assumption) ?_
            · intro wx hSw
              have e := hSw.2.1 0 _ rfl; have e2 := hSw.1; clear hHeld hSw; go_simp
            simp only [Act.put, List.setIfInBounds_toArray, List.set_cons_zero, List.set_cons_succ]
            refine wpAnyH_take (i := 2) (oi := { dst := some 38, op := Op.move (Operand.tmp 0), type := 65, pos := "l4_skip.go:241", after := #[], guard := none }) (v := .pointer (some ⟨b, 0, none⟩)) rfl (by kernel_rfl) (by kernel_rfl) (by kernel_rfl) (fun _ _ _ h => h) (Or.inl ⟨by rfl, ?_⟩) (by assumption) ?_
            · intro wx hSw
              clear hHeld hSw; go_simp
            simp only [Act.put, List.setIfInBounds_toArray, List.set_cons_zero, List.set_cons_succ]
            refine wpAnyH_take (i := 4) (oi := { dst := some 40, op := Op.move (Operand.tmp 0), type := 65, pos := "l4_skip.go:241", after := #[], guard := none }) (v := .pointer (some ⟨b, 0, none⟩)) rfl (by kernel_rfl) (by kernel_rfl) (by kernel_rfl) (fun _ _ _ h => h) (Or.inl ⟨by rfl, ?_⟩) (by assumption) ?_
            · intro wx hSw
              clear hHeld hSw; go_simp
            simp only [Act.put, List.setIfInBounds_toArray, List.set_cons_zero, List.set_cons_succ]
            refine wpAnyH_ready (rs := [3]) (by kernel_rfl) (by simp) ?_
            refine AllReadyH.cons (o := { dst := some 39, op := Op.call { callee := Callee.value (Operand.func 76), args := #[Operand.tmp 38, Operand.const (Value.int IntKind.i64 5)], argTypes := #[65, 3] }, type := 3, pos := "l4_skip.go:241", after := #[{ on := 2, ground := Ground.data }], guard := none }) rfl (fun K hK => ?_) AllReadyH.nil
            clear hHeld
            go_simp
            refine (pick_any b l _ 5 _ hc hl (by omega) (by omega)).mono ?_
            rintro e w6 ⟨⟨y1, rfl, hy1⟩, hc1, hch1⟩
            replace X := hch1.box X (by omega)
            replace R := hch1.box R (by omega)
            replace hS := hS.chg hch1 (fun k hk _ e => by have e : k = b := e; omega)
            replace hch := hch.trans hch1
            replace hW0 := hW0.trans hch1
            replace hc := hc1
            have hzw6 := hch1.size
            clear hc1 hch1
            refine hK.out _ w6 X (fun hHeld => ?_)
            clear hK K
            try (simp only [Act.put, List.setIfInBounds_toArray, List.set_cons_zero, List.set_cons_succ])
            refine wpAnyH_ready (rs := [5]) (by kernel_rfl) (by simp) ?_
            refine AllReadyH.cons (o := { dst := some 41, op := Op.call { callee := Callee.value (Operand.func 76), args := #[Operand.tmp 40, Operand.const (Value.int IntKind.i64 20)], argTypes := #[65, 3] }, type := 3, pos := "l4_skip.go:241", after := #[{ on := 4, ground := Ground.data }, { on := 3, ground := Ground.chain }], guard := none }) rfl (fun K hK => ?_) AllReadyH.nil
            clear hHeld
            go_simp
            refine (pick_any b l _ 20 _ hc hl (by omega) (by omega)).mono ?_
            rintro e w7 ⟨⟨y2, rfl, hy2⟩, hc1, hch1⟩
            replace X := hch1.box X (by omega)
            replace R := hch1.box R (by omega)
            replace hS := hS.chg hch1 (fun k hk _ e => by have e : k = b := e; omega)
            replace hch := hch.trans hch1
            replace hW0 := hW0.trans hch1
            replace hc := hc1
            have hzw7 := hch1.size
            clear hc1 hch1
            refine hK.out _ w7 X (fun hHeld => ?_)
            clear hK K
            try (simp only [Act.put, List.setIfInBounds_toArray, List.set_cons_zero, List.set_cons_succ])
            have e7 : Hid (IntKind.i64.wrap ((y2 : Int) - 2) = (y2 : Int) - 2) := by show _ = _; rw [IntKind.wrap_i64]; omega
            have hy5 : y1 < 5 := by omega
            have hyl : (y1 : Int) < (H.length : Int) := by omega
            have hy5i : (y1 : Int) < 5 := by omega
            have hy5j : ¬ (5 : Int) ≤ (y1 : Int) := by omega
            have hy0 : (0 : Int) ≤ (y1 : Int) := by omega
            refine wpAnyH_take (i := 6) (oi := { dst := some 42, op := Op.binOp BinOp.sub 3 (Operand.tmp 41) (Operand.const (Value.int IntKind.i64 2)) 3, type := 3, pos := "l4_skip.go:241", after := #[{ on := 5, ground := Ground.data }], guard := none }) (v := .int .i64 ((y2 : Int) - 2)) rfl (by kernel_rfl) (by kernel_rfl) (by kernel_rfl) (fun _ _ _ h => h) (Or.inl ⟨by rfl, ?_⟩) (by assumption) ?_
            · intro wx hSw
              clear hHeld hSw; go_simp; exact e7.out
            simp only [Act.put, List.setIfInBounds_toArray, List.set_cons_zero, List.set_cons_succ]
            refine wpAnyH_take (i := 7) (oi := { dst := some 43, op := Op.indexAddr 23 (Operand.tmp 37) (Operand.tmp 39), type := 0, pos := "l4_skip.go:241", after := #[{ on := 1, ground := Ground.data }, { on := 3, ground := Ground.data }, { on := 0, ground := Ground.phase }, { on := 1, ground := Ground.phase }, { on := 2, ground := Ground.phase }, { on := 3, ground := Ground.phase }, { on := 4, ground := Ground.phase }, { on := 5, ground := Ground.phase }, { on := 6, ground := Ground.phase }], guard := none }) (v := .pointer (some ⟨g1, y1, none⟩)) rfl (by kernel_rfl) (by kernel_rfl) (by kernel_rfl) (fun _ _ _ h => h) (Or.inl ⟨by rfl, ?_⟩) (by assumption) ?_
            · intro wx hSw
              clear hHeld hSw; go_simp
            simp only [Act.put, List.setIfInBounds_toArray, List.set_cons_zero, List.set_cons_succ]
            refine wpAnyH_ready (rs := [8]) (by kernel_rfl) (by simp) ?_
            refine AllReadyH.cons (o := { dst := none, op := Op.store 3 (Operand.tmp 43) (Operand.tmp 42), type := 0, pos := "l4_skip.go:241", after := #[{ on := 7, ground := Ground.data }, { on := 6, ground := Ground.data }, { on := 5, ground := Ground.chain }, { on := 0, ground := Ground.phase }, { on := 1, ground := Ground.phase }, { on := 2, ground := Ground.phase }, { on := 3, ground := Ground.phase }, { on := 4, ground := Ground.phase }, { on := 5, ground := Ground.phase }, { on := 6, ground := Ground.phase }], guard := none }) rfl (fun K hK => ?_) AllReadyH.nil
            clear hHeld
            have oS7 := hOC w7 _ (fun g q1 q2 e => by have e : g = b := e; omega) hW0
            have hcell : ∃ u, w7.cell? ⟨g1, y1, none⟩ = some (.int .i64 u) := ⟨H[y1], by rw [oS7.head.cellAt y1 (by omega)]; simp [show y1 < H.length from by omega]⟩
            obtain ⟨u0, hu0⟩ := hcell
            have hfz := oS7.head.frozenAt y1
            have oS8 := oS7.putH y1 ((y2 : Int) - 2)
            have X7 := X.setOther ⟨g1, y1, none⟩ (.int .i64 ((y2 : Int) - 2)) (by show g1 ≠ sb; exact n2)
            have R7 := R.setOther ⟨g1, y1, none⟩ (.int .i64 ((y2 : Int) - 2)) (by show g1 ≠ w.heap.size; omega)
            have hc7 := cur_set hc (Nat.le_refl _) ⟨g1, y1, none⟩ (by show b < g1; omega) (.int .i64 ((y2 : Int) - 2))
            have hch7 := chg_new hch ⟨g1, y1, none⟩ (by show w.heap.size ≤ g1; omega) (.int .i64 ((y2 : Int) - 2))
            obtain ⟨W7, hW7⟩ : ∃ W, W = w7.setCell ⟨g1, y1, none⟩ (.int .i64 ((y2 : Int) - 2)) := ⟨_, rfl⟩
            rw [← hW7] at oS8 X7 R7 hc7 hch7
            have hS8 : SkD W7 (w.heap.size + 1) (fun q => q = sb) (.slice (some ⟨g1, 0, none⟩) H.length c1) (.slice ay T.length cap) (H.set y1 ((y2 : Int) - 2)) T := ⟨⟨g1, c1, gs, cs, by rw [List.length_set], oS8, n1, n2, n3⟩, by rw [List.length_set]; exact h5, h60, hft⟩
            have hgl : g1 < w7.heap.size := owns_below_lt oS7.head g1 rfl
            clear X R hS hc hch oS oS7 oS8 hOC hW0
            go_simp
            rw [← hW7]
            clear hW7 hu0 hfz
            refine hK.out _ W7 X7 (fun hHeld => ?_)
            clear hK K
            clear hHeld
            refine wpAnyH_done (by kernel_rfl) ?_ _
            go_wp2_with fail
            go_meet
            case rel => exact ⟨_, _, _, _, X7, R7, hS8.fin, hc7.mono (by omega), hch7⟩
          by_cases e1 : x4 = 1
          · subst e1
            clear hx4
            obtain ⟨⟨g1, c1, gs, cs, rfl, oS, n1, n2, n3⟩, h5, h60, hft⟩ := hS
            obtain ⟨ay, cap, rfl⟩ := slice_of oS.rows
            have hS : SkD w5 (w.heap.size + 1) (fun q => q = sb) (.slice (some ⟨g1, 0, none⟩) H.length c1) (.slice ay T.length cap) H T := ⟨⟨g1, c1, gs, cs, rfl, oS, n1, n2, n3⟩, h5, h60, hft⟩
            have hrm := owns_room oS.head
            match H, h5 with
            | x :: r, h5 =>
              have hr4 : r.length = 4 := by simpa using h5
              have HSL := fun W => sl_from23 g1 (r.length + 1) c1 W (by have := hrm.2.1; simp at this; omega) (by omega) (by have := hrm.2.1; simpa using this)
              obtain ⟨⟨f0, f1⟩, xl, x0, x1⟩ := X.f2
              have X7 := X.set 0 (.slice (some ⟨g1, 1, none⟩) 4 (c1 - 1)) (by simp)
              have R7 := R.setOther ⟨sb, 0, none⟩ (.slice (some ⟨g1, 1, none⟩) 4 (c1 - 1)) (by show sb ≠ w.heap.size; omega)
              have hc7 := cur_set hc (Nat.le_refl _) ⟨sb, 0, none⟩ (by show b < sb; omega) (.slice (some ⟨g1, 1, none⟩) 4 (c1 - 1))
              have hch7 := chg_new hch ⟨sb, 0, none⟩ (by show w.heap.size ≤ sb; omega) (.slice (some ⟨g1, 1, none⟩) 4 (c1 - 1))
              have hCx : Chg (fun q => q = sb) w5 (w5.setCell ⟨sb, 0, none⟩ (.slice (some ⟨g1, 1, none⟩) 4 (c1 - 1))) := Chg.setCell (S := fun q => q = sb) (Chg.refl _ _) (p := ⟨sb, 0, none⟩) rfl _
              have hS7 := hS.chg hCx (fun g _ h1 e => h1 e)
              have hF : FinS (w5.setCell ⟨sb, 0, none⟩ (.slice (some ⟨g1, 1, none⟩) 4 (c1 - 1))) (w.heap.size + 1) (fun q => q = sb) (.slice (some ⟨g1, 1, none⟩) 4 (c1 - 1)) (.slice ay T.length cap) r T :=
                ⟨by obtain ⟨_, _, a2, cp2, _, e2, e3, e4⟩ := hS7.shape; exact ⟨_, _, a2, cp2, by rw [hr4], e2, e3, e4⟩, by omega, h60, hft, fun S W h1 h2 => ⟨by have q := (hS7.fin.st S W h1 h2).1.tail; rw [hr4] at q; exact q, (hS7.fin.st S W h1 h2).2⟩⟩
              clear R hS hc hch oS hCx hS7 X
              simp only [List.length_cons] at x0 X7
              go_wp2_with (first | (refine wpList_sliceOp _ rfl 23 _ _ _ _ rfl _ (HSL _) ?_; simp only [Act.put, List.setIfInBounds_toArray, List.set_cons_zero, List.set_cons_succ]))
              go_meet
              case rel => exact ⟨_, _, _, _, X7, R7, hF, hc7.mono (by omega), hch7⟩
          by_cases e2 : x4 = 2
          · subst e2
            clear hx4
            obtain ⟨⟨g1, c1, gs, cs, rfl, oS, n1, n2, n3⟩, h5, h60, hft⟩ := hS
            obtain ⟨ay, cap, rfl⟩ := slice_of oS.rows
            match T, h60, hft, oS, n1 with
            | [], h60, hft, oS, n1 =>
              have hS : SkD w5 (w.heap.size + 1) (fun q => q = sb) (.slice (some ⟨g1, 0, none⟩) H.length c1) (.slice ay ([] : List Tw).length cap) H [] := ⟨⟨g1, c1, gs, cs, rfl, oS, n1, n2, n3⟩, h5, h60, hft⟩
              clear oS n1 n2 n3
              obtain ⟨xl, x0, x1⟩ := X.c2
              simp only [List.length_nil] at x1
              go_wp2_with fail
              go_meet
              case rel => exact ⟨_, _, _, _, X, R, hS.fin, hc.mono (by omega), hch⟩
            | t :: r, h60, hft, oS, n1 =>
              obtain ⟨gt, rfl⟩ : ∃ g, ay = some ⟨g, 0, none⟩ := by
                rcases oS.rows.2 with ⟨_, h0⟩ | ⟨g, c, cur, hv, _⟩
                · simp at h0
                · simp only [Value.slice.injEq] at hv; exact ⟨g, hv.1⟩
              have hS : SkD w5 (w.heap.size + 1) (fun q => q = sb) (.slice (some ⟨g1, 0, none⟩) H.length c1) (.slice (some ⟨gt, 0, none⟩) (t :: r).length cap) H (t :: r) := ⟨⟨g1, c1, gs, cs, rfl, oS, n1, n2, n3⟩, h5, h60, hft⟩
              obtain ⟨g0, c0, hg0, hgtl, hcl, _, _, _⟩ := ownS_first oS
              have hgt := oS.ge.1 gt rfl
              have hg0m : g0 ∈ gs := List.mem_of_getElem? hg0
              have hg0l := oS.ge.2.2 g0 hg0m
              have hf0 := hft 0 (by simp)
              have hOC : ∀ W, (∀ S, (∀ g, w.heap.size + 1 ≤ g → ¬ g = sb → ¬ S g) → Chg S w5 W → OwnS W (w.heap.size + 1) H (t :: r) (.slice (some ⟨gt, 0, none⟩) (t :: r).length cap) g1 c1 gs cs) := fun W S hs hcc => by
                obtain ⟨p, q, r⟩ := oS.ge
                exact oS.chgD hcc (fun g hg => hs g (p g hg) (n1 g hg)) (hs g1 q n2) (fun g hg => hs g (r g hg) (n3 g hg))
              have hlen0 : (0 : Int) < ((t :: r).length : Int) := by simp only [List.length_cons]; omega
              have hnx1 : 1 ≤ t.next.length := hf0.2.2.1
              have hnx0 : (0 : Int) < (t.next.length : Int) := by omega
              have hnxe : ¬ t.next = [] := fun e => by rw [e] at hnx1; simp at hnx1
              have hsbz5 := X.1
              obtain ⟨xl, x0, x1⟩ := X.c2
              go_upto_region 20 with fail
              clear xl x0 x1
              have hD : Below w5.heap.size w5 w5.drew := (Below.refl _ _).drew
              replace X := X.below hD
              replace R := R.below hD
              replace hS := hS.below hD
              have hW0 : Chg (fun q => q = b) w5 w5.drew := Chg.of_below hD
              replace hcl := (hD.cell (p := ⟨gt, 4, none⟩) hgtl).trans hcl
              replace hc := hc.chg hD
              replace hch := hch.trans (Chg.of_below hD)
              have hzva := hD.size
              clear hD
              go_wp2_with fail
              refine wp_region_held_drew (S := (fun w' => Box w' sb [.slice (some ⟨g1, 0, none⟩) H.length c1, .slice (some ⟨gt, 0, none⟩) (t :: r).length cap] ∧ w'.cell? ⟨gt, 4, none⟩ = some (.slice (some ⟨g0, 0, none⟩) t.next.length c0))) (by kernel_rfl) ⟨X, hcl⟩ (fun hHeld => ?_)
              generalize w5.drew = va at *
              refine wpAnyH_take (i := 0) (oi := { dst := some 56, op := Op.fieldAddr 26 (Operand.tmp 3) 1, type := 0, pos := "l4_skip.go:246", after := #[], guard := none }) (v := .pointer (some ⟨sb, 1, none⟩)) rfl (by kernel_rfl) (by kernel_rfl) (by kernel_rfl) (fun _ _ _ h => h) (Or.inl ⟨by rfl, ?_⟩) (by assumption) ?_
              · intro wx hSw
                clear hHeld hSw; go_simp
              simp only [Act.put, List.setIfInBounds_toArray, List.set_cons_zero, List.set_cons_succ]
              refine wpAnyH_take (i := 1) (oi := { dst := some 57, op := Op.load 24 (Operand.tmp 56), type := 24, pos := "l4_skip.go:246", after := #[{ on := 0, ground := Ground.data }], guard := none }) (v := .slice (some ⟨gt, 0, none⟩) (t :: r).length cap) rfl (by kernel_rfl) (by kernel_rfl) (by kernel_rfl) (fun _ _ _ h => h) (Or.inl ⟨by rfl, ?_⟩) (by assumption) ?_
              · intro wx hSw
                have e := hSw.1.2.1 1 _ rfl; have e2 := hSw.1.1; clear hHeld hSw; go_simp
              simp only [Act.put, List.setIfInBounds_toArray, List.set_cons_zero, List.set_cons_succ]
              refine wpAnyH_take (i := 2) (oi := { dst := some 58, op := Op.indexAddr 24 (Operand.tmp 57) (Operand.const (Value.int IntKind.i64 0)), type := 0, pos := "l4_skip.go:246", after := #[{ on := 1, ground := Ground.data }], guard := none }) (v := .pointer (some ⟨gt, 0, none⟩)) rfl (by kernel_rfl) (by kernel_rfl) (by kernel_rfl) (fun _ _ _ h => h) (Or.inl ⟨by rfl, ?_⟩) (by assumption) ?_
              · intro wx hSw
                clear hHeld hSw; go_simp
              simp only [Act.put, List.setIfInBounds_toArray, List.set_cons_zero, List.set_cons_succ]
              refine wpAnyH_take (i := 3) (oi := { dst := some 59, op := Op.fieldAddr 73 (Operand.tmp 58) 1, type := 0, pos := "l4_skip.go:246", after := #[{ on := 2, ground := Ground.data }], guard := none }) (v := .pointer (some ⟨gt, 4, none⟩)) rfl (by kernel_rfl) (by kernel_rfl) (by kernel_rfl) (fun _ _ _ h => h) (Or.inl ⟨by rfl, ?_⟩) (by assumption) ?_
              · intro wx hSw
                clear hHeld hSw; go_simp
              simp only [Act.put, List.setIfInBounds_toArray, List.set_cons_zero, List.set_cons_succ]
              refine wpAnyH_take (i := 4) (oi := { dst := some 60, op := Op.load 23 (Operand.tmp 59), type := 23, pos := "l4_skip.go:246", after := #[{ on := 3, ground := Ground.data }], guard := none }) (v := .slice (some ⟨g0, 0, none⟩) t.next.length c0) rfl (by kernel_rfl) (by kernel_rfl) (by kernel_rfl) (fun _ _ _ h => h) (Or.inl ⟨by rfl, ?_⟩) (by assumption) ?_
              · intro wx hSw
                have e := hSw.2; have e2 := World.block_lt_of_cell? _ _ e; clear hHeld; go_simp
              simp only [Act.put, List.setIfInBounds_toArray, List.set_cons_zero, List.set_cons_succ]
              refine wpAnyH_take (i := 5) (oi := { dst := some 61, op := Op.move (Operand.tmp 0), type := 65, pos := "l4_skip.go:246", after := #[], guard := none }) (v := .pointer (some ⟨b, 0, none⟩)) rfl (by kernel_rfl) (by kernel_rfl) (by kernel_rfl) (fun _ _ _ h => h) (Or.inl ⟨by rfl, ?_⟩) (by assumption) ?_
              · intro wx hSw
                clear hHeld hSw; go_simp
              simp only [Act.put, List.setIfInBounds_toArray, List.set_cons_zero, List.set_cons_succ]
              refine wpAnyH_ready (rs := [6]) (by kernel_rfl) (by simp) ?_
              refine AllReadyH.cons (o := { dst := some 62, op := Op.call { callee := Callee.value (Operand.func 76), args := #[Operand.tmp 61, Operand.const (Value.int IntKind.i64 9)], argTypes := #[65, 3] }, type := 3, pos := "l4_skip.go:246", after := #[{ on := 5, ground := Ground.data }], guard := none }) rfl (fun K hK => ?_) AllReadyH.nil
              clear hHeld
              go_simp
              refine (pick_any b l _ 9 _ hc hl (by omega) (by omega)).mono ?_
              rintro e w6 ⟨⟨y, rfl, hy⟩, hc1, hch1⟩
              replace X := hch1.box X (by omega)
              replace R := hch1.box R (by omega)
              replace hS := hS.chg hch1 (fun k hk _ e => by have e : k = b := e; omega)
              replace hch := hch.trans hch1
              replace hW0 := hW0.trans hch1
              replace hcl := (hch1.cell (p := ⟨gt, 4, none⟩) (by show gt < _; omega) (by show ¬ gt = b; omega)).trans hcl
              replace hc := hc1
              have hzw6 := hch1.size
              clear hc1 hch1
              refine hK.out _ w6 ⟨X, hcl⟩ (fun hHeld => ?_)
              clear hK K
              try (simp only [Act.put, List.setIfInBounds_toArray, List.set_cons_zero, List.set_cons_succ])
              have e7 : Hid (IntKind.i64.wrap ((y : Int) - 2) = (y : Int) - 2) := by show _ = _; rw [IntKind.wrap_i64]; omega
              refine wpAnyH_take (i := 7) (oi := { dst := some 63, op := Op.binOp BinOp.sub 3 (Operand.tmp 62) (Operand.const (Value.int IntKind.i64 2)) 3, type := 3, pos := "l4_skip.go:246", after := #[{ on := 6, ground := Ground.data }], guard := none }) (v := .int .i64 ((y : Int) - 2)) rfl (by kernel_rfl) (by kernel_rfl) (by kernel_rfl) (fun _ _ _ h => h) (Or.inl ⟨by rfl, ?_⟩) (by assumption) ?_
              · intro wx hSw
                clear hHeld hSw; go_simp; exact e7.out
              simp only [Act.put, List.setIfInBounds_toArray, List.set_cons_zero, List.set_cons_succ]
              refine wpAnyH_take (i := 8) (oi := { dst := some 64, op := Op.indexAddr 23 (Operand.tmp 60) (Operand.const (Value.int IntKind.i64 0)), type := 0, pos := "l4_skip.go:246", after := #[{ on := 4, ground := Ground.data }, { on := 0, ground := Ground.phase }, { on := 1, ground := Ground.phase }, { on := 2, ground := Ground.phase }, { on := 3, ground := Ground.phase }, { on := 4, ground := Ground.phase }, { on := 5, ground := Ground.phase }, { on := 6, ground := Ground.phase }, { on := 7, ground := Ground.phase }], guard := none }) (v := .pointer (some ⟨g0, 0, none⟩)) rfl (by kernel_rfl) (by kernel_rfl) (by kernel_rfl) (fun _ _ _ h => h) (Or.inl ⟨by rfl, ?_⟩) (by assumption) ?_
              · intro wx hSw
                clear hHeld hSw; go_simp
              simp only [Act.put, List.setIfInBounds_toArray, List.set_cons_zero, List.set_cons_succ]
              refine wpAnyH_ready (rs := [9]) (by kernel_rfl) (by simp) ?_
              refine AllReadyH.cons (o := { dst := none, op := Op.store 3 (Operand.tmp 64) (Operand.tmp 63), type := 0, pos := "l4_skip.go:246", after := #[{ on := 8, ground := Ground.data }, { on := 7, ground := Ground.data }, { on := 6, ground := Ground.chain }, { on := 0, ground := Ground.phase }, { on := 1, ground := Ground.phase }, { on := 2, ground := Ground.phase }, { on := 3, ground := Ground.phase }, { on := 4, ground := Ground.phase }, { on := 5, ground := Ground.phase }, { on := 6, ground := Ground.phase }, { on := 7, ground := Ground.phase }], guard := none }) rfl (fun K hK => ?_) AllReadyH.nil
              clear hHeld
              have oS7 := hOC w6 _ (fun g q1 q2 e => by have e : g = b := e; omega) hW0
              obtain ⟨g0', c0', hg0', _, _, _, hcs, hfz⟩ := ownS_first oS7
              obtain rfl : g0' = g0 := by rw [hg0] at hg0'; injection hg0' with e; exact e.symm
              obtain ⟨u0, hu0⟩ := hcs 0 (by omega)
              have hfz0 := hfz 0
              have hgs0 : gs[0]'(by have := oS7.len; simp at this; omega) = g0' := by have := List.getElem?_eq_some_iff.1 hg0; exact this.2
              have oS8 := oS7.putT 0 (by simp) 0 ((y : Int) - 2)
              rw [hgs0] at oS8
              simp only [List.getElem_cons_zero, List.set_cons_zero] at oS8
              have hg0s := n3 g0' hg0m
              have X7 := X.setOther ⟨g0', 0, none⟩ (.int .i64 ((y : Int) - 2)) (by show g0' ≠ sb; exact hg0s)
              have R7 := R.setOther ⟨g0', 0, none⟩ (.int .i64 ((y : Int) - 2)) (by show g0' ≠ w.heap.size; omega)
              have hc7 := cur_set hc (Nat.le_refl _) ⟨g0', 0, none⟩ (by show b < g0'; omega) (.int .i64 ((y : Int) - 2))
              have hch7 := chg_new hch ⟨g0', 0, none⟩ (by show w.heap.size ≤ g0'; omega) (.int .i64 ((y : Int) - 2))
              have hg0z : g0' < w6.heap.size := World.block_lt_of_cell? _ _ hu0
              have hcl7 : (w6.setCell ⟨g0', 0, none⟩ (.int .i64 ((y : Int) - 2))).cell? ⟨gt, 4, none⟩ = some (.slice (some ⟨g0', 0, none⟩) t.next.length c0) := by
                rw [World.cell?_setCell_far _ _ _ _ (by show g0' ≠ gt; intro e; exact (oS7.d1 gt rfl).1 (e ▸ hg0m))]; exact hcl
              obtain ⟨W7, hW7⟩ : ∃ W, W = w6.setCell ⟨g0', 0, none⟩ (.int .i64 ((y : Int) - 2)) := ⟨_, rfl⟩
              rw [← hW7] at oS8 X7 R7 hc7 hch7 hcl7
              have hS8 : SkD W7 (w.heap.size + 1) (fun q => q = sb) (.slice (some ⟨g1, 0, none⟩) H.length c1) (.slice (some ⟨gt, 0, none⟩) (t :: r).length cap) H (putNx t 0 ((y : Int) - 2) :: r) := ⟨⟨g1, c1, gs, cs, rfl, oS8, n1, n2, n3⟩, h5, h60, fun i hi => by
                cases i with
                | zero => exact ⟨hf0.1, hf0.2.1, by show 1 ≤ (t.next.set _ _).length; rw [List.length_set]; exact hf0.2.2.1, by show (t.next.set _ _).length ≤ 5; rw [List.length_set]; exact hf0.2.2.2⟩
                | succ i =>
                  have := hft (i + 1) (by simpa using hi)
                  have e : tw (putNx t 0 ((y : Int) - 2) :: r) ((i + 1 : Nat) : Int) = tw (t :: r) ((i + 1 : Nat) : Int) := by simp [tw, List.getD]
                  rw [e]; exact this⟩
              clear X R hS hc hch oS oS7 oS8 hOC hW0 hcl hft hf0 hcs hfz hgs0
              go_simp
              rw [← hW7]
              clear hW7 hu0 hfz0
              refine hK.out _ W7 ⟨X7, hcl7⟩ (fun hHeld => ?_)
              clear hK K
              clear hHeld
              refine wpAnyH_done (by kernel_rfl) ?_ _
              go_wp2_with fail
              go_meet
              case rel => exact ⟨_, _, _, _, X7, R7, hS8.fin, hc7.mono (by omega), hch7⟩
          have f0 : ¬ (x4 : Int) = 0 := by omega
          have f1 : ¬ (x4 : Int) = 1 := by omega
          have f2 : ¬ (x4 : Int) = 2 := by omega
          clear hx4
          go_wp2_with fail
          go_meet
          case rel => exact ⟨_, _, _, _, X, R, hS.fin, hc.mono (by omega), hch⟩
        case rest =>
          clear X R hS hc hch hx4
          obtain ⟨hv, tv, H, T, X, R, hS, hc, hch⟩ := hcut
          generalize wc = w6 at *
          have hz6 := hch.size
          have hsbx := X.1
          obtain ⟨a1, c1', ay, cap, rfl, rfl, hcy, hcm⟩ := hS.sh
          obtain ⟨xl, x0, x1⟩ := X.c2
          obtain ⟨⟨r0, r1⟩, rl, r2, r3⟩ := R.f2
          have hC7 := put2_chg w6 w.heap.size (.slice a1 H.length c1') (.slice ay T.length cap)
          have R7 := put2_box R (.slice a1 H.length c1') (.slice ay T.length cap)
          obtain ⟨W7, hW7⟩ : ∃ W, W = put2 w6 w.heap.size (.slice a1 H.length c1') (.slice ay T.length cap) := ⟨_, rfl⟩
          rw [← hW7] at hC7 R7
          have hch7 := chg_out hch hC7 (fun q hq => .inr (by have hq : q = w.heap.size := hq; omega))
          have hc7 : Cur W7 b l (K + 60000) := cur_low hc hbl (hC7.below (B := w.heap.size) (by omega) (fun q hq => by have hq : q = w.heap.size := hq; omega))
          have hF7 : FinS W7 (w.heap.size + 1) (fun q => q = sb) (.slice a1 H.length c1') (.slice ay T.length cap) H T :=
            ⟨hS.sh, hS.h5, hS.t60, hS.fit, fun S W h1 h2 => hS.st (fun q => q = w.heap.size ∨ S q) W ((hC7.mono (fun q e => .inl e)).trans (h1.mono fun q e => .inr e)) (fun g q1 q2 q3 => q3.elim (fun e => by omega) (h2 g q1 q2))⟩
          have HF : Hid ((∃ hv tv H2 T2, Ending.returned (.agg #[.slice a1 H.length c1', .slice ay T.length cap]) = .returned (.agg #[hv, tv]) ∧ FinS W7 (w.heap.size + 1) (fun q => q = sb) hv tv H2 T2) ∧ Cur W7 b l (K + 60000) ∧ Chg (· = b) w W7) := ⟨⟨_, _, H, T, rfl, hF7⟩, hc7, hch7⟩
          obtain ⟨tl, t0, t1⟩ := R7.c2
          clear X R hS hc hch hC7 R7 hch7 hc7 hF7
          unfold put2 at hW7
          go_wp2_with fail
          rw [← hW7]
          exact bodyPost_ret (v := .agg #[.slice a1 H.length c1', .slice ay T.length cap]) (by simp [results, Tryd.results37, go_sem, t0, t1]) rfl (by obtain ⟨⟨hv, tv, H2, T2, e, f⟩, g⟩ := HF.out; exact ⟨⟨hv, tv, H2, T2, sb, e, f⟩, g⟩)
end Go.Proofs.YtdaldkcildbcmaaDoor
