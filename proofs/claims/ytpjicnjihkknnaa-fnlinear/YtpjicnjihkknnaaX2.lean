/-
  The walk of the law laws.FnLinear.
-/
import Derived.Test.YtpjicnjihkknnaaX2a
import Derived.BigRegion
namespace Go.Proofs.Ytpjicnjihkknnaa
open Go.RowKit
set_option linter.unusedVariables false

set_option maxRecDepth 100000 in
set_option maxHeartbeats 4000000 in
theorem lawLinear (v u : Value) (l m : List UInt8) (w : World) (hv : YL w v l) (hu : YL w u m) (hl : l.length ≤ 9223372036854775807) (hm : m.length ≤ 9223372036854775807) (hg : wrap64 ((l.length : Int) + m.length) ≤ 1048576) :
    Calls Try.prog 4 #[v, u] w fun e w' => e = .returned (.bool true) ∧ Below w.heap.size w w' := by
  obtain ⟨i0, hi, hz0, hz1, hz2⟩ := info_parts Try.info5
  have hv' := hv
  have hu' := hu
  obtain ⟨va, vc, rfl, _⟩ := hv'
  obtain ⟨ua, uc, rfl, _⟩ := hu'
  go_enter Try.func4, Try.ntmps4
  go_wp2_with fail
  refine (drawSumOf_any _ l _ hv (by omega)).mono ?_
  rintro e w1 ⟨⟨s, rfl, hs⟩, hb1⟩
  go_wp2_with fail
  refine (drawSumOn_any _ m _ (hu.below hb1) (by omega)).mono ?_
  rintro e w2 ⟨⟨x, t, rfl, hx, ht⟩, hb2⟩
  have hB2 := below_then hb1 hb2
  clear hb1 hb2
  go_wp2_with fail
  refine (implSum_any s _ (by omega)).mono ?_
  rintro e w3 ⟨rfl, hb3⟩
  have hB3 := below_then hB2 hb3
  clear hb3 hB2
  go_wp2_with fail
  refine (specSum_any s _ (by omega)).mono ?_
  rintro e w4 ⟨rfl, hb4⟩
  have hB4 := below_then hB3 hb4
  clear hb4 hB3
  go_wp2_with fail
  refine (implOn_any x t _ (by omega) hx).mono ?_
  rintro e w5 ⟨rfl, hb5⟩
  have hB5 := below_then hB4 hb5
  clear hb5 hB4
  go_wp2_with fail
  refine (specOn_any x t _ (by omega) hx).mono ?_
  rintro e w6 ⟨rfl, hb6⟩
  have hB6 := below_then hB5 hb6
  clear hb6 hB5
  have hz6 := hB6.size
  go_wp2_with (first | (at_make; have := hown8; refine wpList_make_full _ rfl _ _ 22 rfl w8.heap.size 5 i0 _ 1 Try.underlying22 hi hz0 hz1 .i64 .i64 _ _ s.size rfl rfl rfl rfl (by rw [hz2]; omega) (by unfold maxLen; omega) (Nat.le_refl _) ?_; intro w9 hown9 hgr9; have hb9 : Below w8.heap.size w8 w9 := (Below.refl _ _).grown hgr9 (Nat.le_refl _) (by simp)) | (at_make; have := hown7; refine wpList_make_full _ rfl _ _ 22 rfl w7.heap.size 5 i0 _ 1 Try.underlying22 hi hz0 hz1 .i64 .i64 _ _ s.size rfl rfl rfl rfl (by rw [hz2]; omega) (by unfold maxLen; omega) (Nat.le_refl _) ?_; intro w8 hown8 hgr8; have hb8 : Below w7.heap.size w7 w8 := (Below.refl _ _).grown hgr8 (Nat.le_refl _) (by simp)) | (at_make; refine wpList_make_full _ rfl _ _ 22 rfl w6.heap.size 5 i0 _ 1 Try.underlying22 hi hz0 hz1 .i64 .i64 _ _ s.size rfl rfl rfl rfl (by rw [hz2]; omega) (by unfold maxLen; omega) (Nat.le_refl _) ?_; intro w7 hown7 hgr7; have hb7 : Below w6.heap.size w6 w7 := (Below.refl _ _).grown hgr7 (Nat.le_refl _) (by simp)))
  rw [madeB] at hown7 hown8 hown9
  have hzl : (List.replicate s.size (0 : UInt8)).length = s.size := by simp
  have r7 : Wr w7 w6.heap.size (List.replicate s.size 0) := Wr_of_owns (cap := s.size) (by rw [hzl]; exact hown7)
  have r8 : Wr w8 w7.heap.size (List.replicate s.size 0) := Wr_of_owns (cap := s.size) (by rw [hzl]; exact hown8)
  have r9 : Wr w9 w8.heap.size (List.replicate s.size 0) := Wr_of_owns (cap := s.size) (by rw [hzl]; exact hown9)
  have r79 := (r7.below hb8).below hb9
  have r89 := r8.below hb9
  have n78 := r7.1
  have n89 := r8.1
  have hB9 := below_then (below_then (below_then hB6 hb7) hb8) hb9
  obtain ⟨g1, hg1⟩ : ∃ g, g = w6.heap.size := ⟨_, rfl⟩
  obtain ⟨g2, hg2⟩ : ∃ g, g = w7.heap.size := ⟨_, rfl⟩
  obtain ⟨g3, hg3⟩ : ∃ g, g = w8.heap.size := ⟨_, rfl⟩
  rw [← hg1, ← hg2, ← hg3]
  rw [← hg1] at r79 n78 hz6
  rw [← hg2] at r89 n89 n78
  rw [← hg3] at r9 n89
  clear hg1 hg2 hg3 hown7 hown8 hown9 hgr7 hgr8 hgr9 hb7 hb8 hb9 r7 r8 hi hz0 hz1 hz2 hB6
  have hlen : s.data.toList.length = s.size := by simp
  go_loopw [52] (fun i wr => ∃ (j : Nat) (B C X : List UInt8), j ≤ s.size ∧ i = .int .i64 j ∧ B.length = s.size ∧ C.length = s.size ∧ X.length = s.size ∧ (∀ k (h1 : k < X.length) (h2 : k < s.data.toList.length) (h3 : k < B.length) (h4 : k < C.length), k < j → X[k].toNat = s.data.toList[k].toNat ^^^ B[k].toNat ^^^ C[k].toNat) ∧ Wr wr g1 B ∧ Wr wr g2 C ∧ Wr wr g3 X ∧ Below w.heap.size w wr) (fun i _ => s.size - (intOf i).toNat)
  case atStart => exact ⟨0, _, _, _, by omega, rfl, hzl, hzl, hzl, fun k _ _ _ _ h => by omega, r79, r89, r9, hB9⟩
  case round =>
    obtain ⟨j, B, C, X, hj, rfl, hlB, hlC, hlX, hall, hB, hC, hX, hb⟩ := hrel
    clear r79 r89 r9 hB9 hzl
    by_cases hlt : j < s.size
    · obtain ⟨dB, fB⟩ := hB.2 j (by omega)
      obtain ⟨dC, fC⟩ := hC.2 j (by omega)
      obtain ⟨dX, fX⟩ := hX.2 j (by omega)
      have l1 := hB.1
      have l2 := hC.1
      have l3 := hX.1
      obtain ⟨c1, e1⟩ : ∃ c : UInt8, (31 * (j : Int) + (t.size : Int)) % 256 = (c.toNat : Int) := u8_of _
      obtain ⟨c2, e2⟩ : ∃ c : UInt8, wrap64 (wrap64 ((j : Int) * (j : Int)) + (x : Int)) % 256 = (c.toNat : Int) := u8_of _
      have lc1 := c1.toNat_lt
      have lc2 := c2.toNat_lt
      have HB : Hid (Wr wr g1 B) := hB
      have HC : Hid (Wr wr g2 C) := hC
      have HX : Hid (Wr wr g3 X) := hX
      have HA : Hid (∀ k (h1 : k < X.length) (h2 : k < s.data.toList.length) (h3 : k < B.length) (h4 : k < C.length), k < j → X[k].toNat = s.data.toList[k].toNat ^^^ B[k].toNat ^^^ C[k].toNat) := hall
      clear hB hC hX hall
      generalize ((B[j]'(by omega)).toNat : Int) = oB at dB
      generalize ((C[j]'(by omega)).toNat : Int) = oC at dC
      generalize ((X[j]'(by omega)).toNat : Int) = oX at dX
      by_cases hjt : j < t.size
      · go_wp2_with fail
        have hB1 := (HB.out.set j (by omega) c1)
        have hC1 := (HC.out.other ⟨g1, j, none⟩ (by show g1 ≠ g2; omega) (.int .u8 (c1.toNat : Int)))
        have hX1 := (HX.out.other ⟨g1, j, none⟩ (by show g1 ≠ g3; omega) (.int .u8 (c1.toNat : Int)))
        have hb1 := hb.setCell (p := ⟨g1, j, none⟩) (show w.heap.size ≤ g1 from by omega) (.int .u8 (c1.toNat : Int))
        generalize wr.setCell ⟨g1, j, none⟩ (.int .u8 (c1.toNat : Int)) = W1 at *
        obtain ⟨dB1, fB1⟩ := hB1.2 j (by simpa using (show j < B.length from by omega))
        rw [List.getElem_set_self] at dB1
        have m1 := hB1.1
        have htj := u8_xor2 c1 (t[j]'hjt)
        go_region
        have hB1' := hB1.set j (by simpa using (show j < B.length from by omega)) (c1 ^^^ (t[j]'hjt))
        rw [List.set_set] at hB1'
        have hC1' := hC1.other ⟨g1, j, none⟩ (by show g1 ≠ g2; omega) (.int .u8 (((c1 ^^^ (t[j]'hjt)).toNat : Nat) : Int))
        have hX1' := hX1.other ⟨g1, j, none⟩ (by show g1 ≠ g3; omega) (.int .u8 (((c1 ^^^ (t[j]'hjt)).toNat : Nat) : Int))
        have hb1' := hb1.setCell (p := ⟨g1, j, none⟩) (show w.heap.size ≤ g1 from by omega) (.int .u8 (((c1 ^^^ (t[j]'hjt)).toNat : Nat) : Int))
        rw [UInt8.toNat_xor] at hB1' hC1' hX1' hb1'
        clear hB1 hC1 hX1 hb1 dB1 fB1
        have hB1 := hB1'.below ((Below.refl _ _).drew)
        have hC1 := hC1'.below ((Below.refl _ _).drew)
        have hX1 := hX1'.below ((Below.refl _ _).drew)
        have hb1 := hb1'.drew
        clear hB1' hC1' hX1' hb1'
        generalize (W1.setCell ⟨g1, j, none⟩ (.int .u8 ((c1.toNat ^^^ (t[j]'hjt).toNat : Nat) : Int))).drew = W2 at *
        generalize c1 ^^^ (t[j]'hjt) = D at *
        obtain ⟨dC1, fC1⟩ := hC1.2 j (by omega)
        have m2 := hC1.1
        have hB2 := hB1.other ⟨g2, j, none⟩ (by show g2 ≠ g1; omega) (.int .u8 (c2.toNat : Int))
        have hC2 := hC1.set j (by omega) c2
        have hX2 := hX1.other ⟨g2, j, none⟩ (by show g2 ≠ g3; omega) (.int .u8 (c2.toNat : Int))
        have hb2 := hb1.setCell (p := ⟨g2, j, none⟩) (show w.heap.size ≤ g2 from by omega) (.int .u8 (c2.toNat : Int))
        generalize ((C[j]'(by omega)).toNat : Int) = oC1 at dC1
        go_wp2_with fail
        generalize W2.setCell ⟨g2, j, none⟩ (.int .u8 (c2.toNat : Int)) = W3 at *
        obtain ⟨dB2, fB2⟩ := hB2.2 j (by simpa using (show j < B.length from by omega))
        obtain ⟨dC2, fC2⟩ := hC2.2 j (by simpa using (show j < C.length from by omega))
        obtain ⟨dX2, fX2⟩ := hX2.2 j (by omega)
        rw [List.getElem_set_self] at dB2 dC2
        have k1 := hB2.1
        have k2 := hC2.1
        have k3 := hX2.1
        have x1 := u8_xor2 (s[j]'hlt) D
        have x3 : bits BinOp.xor IntKind.u8 ((((s[j]'hlt).toNat ^^^ D.toNat : Nat)) : Int) (c2.toNat : Int) = ((((s[j]'hlt) ^^^ D ^^^ c2).toNat : Nat) : Int) := by rw [← UInt8.toNat_xor]; exact u8_xor2 _ _
        have hB3 := (hB2.other ⟨g3, j, none⟩ (by show g3 ≠ g1; omega) (.int .u8 ((((s[j]'hlt) ^^^ D ^^^ c2).toNat : Nat) : Int))).below ((Below.refl _ _).drew)
        have hC3 := (hC2.other ⟨g3, j, none⟩ (by show g3 ≠ g2; omega) (.int .u8 ((((s[j]'hlt) ^^^ D ^^^ c2).toNat : Nat) : Int))).below ((Below.refl _ _).drew)
        have hX3 := (hX2.set j (by omega) ((s[j]'hlt) ^^^ D ^^^ c2)).below ((Below.refl _ _).drew)
        have hb3 := (hb2.setCell (p := ⟨g3, j, none⟩) (show w.heap.size ≤ g3 from by omega) (.int .u8 ((((s[j]'hlt) ^^^ D ^^^ c2).toNat : Nat) : Int))).drew
        have HN : Hid _ := lin_step HA.out (show j < X.length from by omega) (show j < s.data.toList.length from by omega) (show j < B.length from by omega) (show j < C.length from by omega) D c2
        generalize ((X[j]'(by omega)).toNat : Int) = oX1 at dX2
        clear hB1 hC1 hX1 hb1 hB2 hC2 hX2 hb2 dC1 fC1
        go_region
        try rw [x3]
        try rw [UInt8.toNat_xor, UInt8.toNat_xor]
        rw [UInt8.toNat_xor, UInt8.toNat_xor] at hB3 hC3 hX3 hb3
        generalize (W3.setCell ⟨g3, j, none⟩ (.int .u8 (((s[j]'hlt).toNat ^^^ D.toNat ^^^ c2.toNat : Nat) : Int))).drew = W4 at *
        have HR : Hid _ := (⟨hB3, hC3, hX3, hb3⟩ : Wr W4 g1 (B.set j D) ∧ Wr W4 g2 (C.set j c2) ∧ Wr W4 g3 (X.set j ((s[j]'hlt) ^^^ D ^^^ c2)) ∧ Below w.heap.size w W4)
        clear hB3 hC3 hX3 hb3 dB2 dC2 dX2 fB2 fC2 fX2
        go_wp2_with fail
        go_roundw
        case rel => exact ⟨j + 1, B.set j D, C.set j c2, X.set j ((s[j]'hlt) ^^^ D ^^^ c2), by omega, by go_num, by simpa using hlB, by simpa using hlC, by simpa using hlX, HN.out, HR.out.1, HR.out.2.1, HR.out.2.2.1, HR.out.2.2.2⟩
        case measure => simp [intOf]; omega
      · go_wp2_with fail
        have hB1 := (HB.out.set j (by omega) c1)
        have hC1 := (HC.out.other ⟨g1, j, none⟩ (by show g1 ≠ g2; omega) (.int .u8 (c1.toNat : Int)))
        have hX1 := (HX.out.other ⟨g1, j, none⟩ (by show g1 ≠ g3; omega) (.int .u8 (c1.toNat : Int)))
        have hb1 := hb.setCell (p := ⟨g1, j, none⟩) (show w.heap.size ≤ g1 from by omega) (.int .u8 (c1.toNat : Int))
        generalize wr.setCell ⟨g1, j, none⟩ (.int .u8 (c1.toNat : Int)) = W1 at *
        obtain ⟨dC1, fC1⟩ := hC1.2 j (by omega)
        have m2 := hC1.1
        have hB2 := hB1.other ⟨g2, j, none⟩ (by show g2 ≠ g1; omega) (.int .u8 (c2.toNat : Int))
        have hC2 := hC1.set j (by omega) c2
        have hX2 := hX1.other ⟨g2, j, none⟩ (by show g2 ≠ g3; omega) (.int .u8 (c2.toNat : Int))
        have hb2 := hb1.setCell (p := ⟨g2, j, none⟩) (show w.heap.size ≤ g2 from by omega) (.int .u8 (c2.toNat : Int))
        generalize ((C[j]'(by omega)).toNat : Int) = oC1 at dC1
        generalize W1.setCell ⟨g2, j, none⟩ (.int .u8 (c2.toNat : Int)) = W3 at *
        obtain ⟨dB2, fB2⟩ := hB2.2 j (by simpa using (show j < B.length from by omega))
        obtain ⟨dC2, fC2⟩ := hC2.2 j (by simpa using (show j < C.length from by omega))
        obtain ⟨dX2, fX2⟩ := hX2.2 j (by omega)
        rw [List.getElem_set_self] at dB2 dC2
        have k1 := hB2.1
        have k2 := hC2.1
        have k3 := hX2.1
        have x1 := u8_xor2 (s[j]'hlt) c1
        have x3 : bits BinOp.xor IntKind.u8 ((((s[j]'hlt).toNat ^^^ c1.toNat : Nat)) : Int) (c2.toNat : Int) = ((((s[j]'hlt) ^^^ c1 ^^^ c2).toNat : Nat) : Int) := by rw [← UInt8.toNat_xor]; exact u8_xor2 _ _
        have hB3 := (hB2.other ⟨g3, j, none⟩ (by show g3 ≠ g1; omega) (.int .u8 ((((s[j]'hlt) ^^^ c1 ^^^ c2).toNat : Nat) : Int))).below ((Below.refl _ _).drew)
        have hC3 := (hC2.other ⟨g3, j, none⟩ (by show g3 ≠ g2; omega) (.int .u8 ((((s[j]'hlt) ^^^ c1 ^^^ c2).toNat : Nat) : Int))).below ((Below.refl _ _).drew)
        have hX3 := (hX2.set j (by omega) ((s[j]'hlt) ^^^ c1 ^^^ c2)).below ((Below.refl _ _).drew)
        have hb3 := (hb2.setCell (p := ⟨g3, j, none⟩) (show w.heap.size ≤ g3 from by omega) (.int .u8 ((((s[j]'hlt) ^^^ c1 ^^^ c2).toNat : Nat) : Int))).drew
        have HN : Hid _ := lin_step HA.out (show j < X.length from by omega) (show j < s.data.toList.length from by omega) (show j < B.length from by omega) (show j < C.length from by omega) c1 c2
        generalize ((X[j]'(by omega)).toNat : Int) = oX1 at dX2
        clear hB1 hC1 hX1 hb1 hB2 hC2 hX2 hb2 dC1 fC1
        go_region
        try rw [x3]
        try rw [UInt8.toNat_xor, UInt8.toNat_xor]
        rw [UInt8.toNat_xor, UInt8.toNat_xor] at hB3 hC3 hX3 hb3
        generalize (W3.setCell ⟨g3, j, none⟩ (.int .u8 (((s[j]'hlt).toNat ^^^ c1.toNat ^^^ c2.toNat : Nat) : Int))).drew = W4 at *
        have HR : Hid _ := (⟨hB3, hC3, hX3, hb3⟩ : Wr W4 g1 (B.set j c1) ∧ Wr W4 g2 (C.set j c2) ∧ Wr W4 g3 (X.set j ((s[j]'hlt) ^^^ c1 ^^^ c2)) ∧ Below w.heap.size w W4)
        clear hB3 hC3 hX3 hb3 dB2 dC2 dX2 fB2 fC2 fX2
        go_wp2_with fail
        go_roundw
        case rel => exact ⟨j + 1, B.set j c1, C.set j c2, X.set j ((s[j]'hlt) ^^^ c1 ^^^ c2), by omega, by go_num, by simpa using hlB, by simpa using hlC, by simpa using hlX, HN.out, HR.out.1, HR.out.2.1, HR.out.2.2.1, HR.out.2.2.2⟩
        case measure => simp [intOf]; omega
    · obtain rfl : j = s.size := by omega
      have hxor := csum_xor3 X s.data.toList B C (by omega) (by omega) (by omega) (num_xor3 X s.data.toList B C (by omega) (by omega) (by omega) (fun k h1 h2 h3 h4 => hall k h1 h2 h3 h4 (by omega)))
      have hsX : (⟨X.toArray⟩ : ByteArray).size ≤ 1048576 := by show X.toArray.size ≤ _; simp; omega
      have hsB : (⟨B.toArray⟩ : ByteArray).size ≤ 1048576 := by show B.toArray.size ≤ _; simp; omega
      have hsC : (⟨C.toArray⟩ : ByteArray).size ≤ 1048576 := by show C.toArray.size ≤ _; simp; omega
      have qX : ∀ y : WC wr.heap.size wr, (convert 22 9 (.slice (some ⟨g3, 0, none⟩) s.size s.size)).run Try.prog y.w = .ok (.string ⟨X.toArray⟩) y.w := fun y => conv_wr (hX.below y.ok) hlX
      have qB : ∀ y : WC wr.heap.size wr, (convert 22 9 (.slice (some ⟨g1, 0, none⟩) s.size s.size)).run Try.prog y.w = .ok (.string ⟨B.toArray⟩) y.w := fun y => conv_wr (hB.below y.ok) hlB
      have qC : ∀ y : WC wr.heap.size wr, (convert 22 9 (.slice (some ⟨g2, 0, none⟩) s.size s.size)).run Try.prog y.w = .ok (.string ⟨C.toArray⟩) y.w := fun y => conv_wr (hC.below y.ok) hlC
      have KX : Hid (∀ y : WC wr.heap.size wr, Calls Try.prog 23 #[.string ⟨X.toArray⟩] y.w fun e w'' => e = .returned (.int .u32 ((csum X : Nat) : Int)) ∧ ∃ m : WC wr.heap.size wr, w'' = m.w) := fun y => calm_of_below (Nat.le_refl _) (implSum_any ⟨X.toArray⟩ _ hsX)
      have KB : Hid (∀ y : WC wr.heap.size wr, Calls Try.prog 23 #[.string ⟨B.toArray⟩] y.w fun e w'' => e = .returned (.int .u32 ((csum B : Nat) : Int)) ∧ ∃ m : WC wr.heap.size wr, w'' = m.w) := fun y => calm_of_below (Nat.le_refl _) (implSum_any ⟨B.toArray⟩ _ hsB)
      have KC : Hid (∀ y : WC wr.heap.size wr, Calls Try.prog 23 #[.string ⟨C.toArray⟩] y.w fun e w'' => e = .returned (.int .u32 ((csum C : Nat) : Int)) ∧ ∃ m : WC wr.heap.size wr, w'' = m.w) := fun y => calm_of_below (Nat.le_refl _) (implSum_any ⟨C.toArray⟩ _ hsC)
      have KS : Hid (∀ y : WC wr.heap.size wr, Calls Try.prog 23 #[.string s] y.w fun e w'' => e = .returned (.int .u32 ((csum s.data.toList : Nat) : Int)) ∧ ∃ m : WC wr.heap.size wr, w'' = m.w) := fun y => calm_of_below (Nat.le_refl _) (implSum_any s _ (by omega))
      have x1 := u32_xor_nat (csum s.data.toList) (csum B) (csum_lt _) (csum_lt _)
      have x2 := u32_xor_nat (csum s.data.toList ^^^ csum B) (csum C) (Nat.xor_lt_two_pow (n := 32) (csum_lt _) (csum_lt _)) (csum_lt _)
      rw [← hxor] at x2
      have hne : Nonempty (WC wr.heap.size wr) := ⟨⟨_, Below.refl _ _⟩⟩
      clear hall hB hC hX hxor
      go_wp2_with fail
      refine wp_region_calm (B := wr.heap.size) (W := wr) (by kernel_rfl) (by kernel_rfl) (Below.refl _ _) ?_
      repeat (go_big_quiet_step ((go_at_call 23; first | exact KX.out _ | exact KS.out _ | exact KB.out _ | exact KC.out _)))
      refine wpQuiet_nil ?_
      intro _ hw'
      obtain ⟨y, hy⟩ := hw'
      subst hy
      have hby := hb.trans (y.ok.mono hb.size)
      by_cases hs0 : 0 < s.size
      · go_wp2_with fail
        refine (implTable_any _).mono ?_
        rintro e w7 ⟨g4, rfl, hr7, hg4, hb7⟩
        have hB7 := below_then hby hb7
        have d128 : w7.cell? ⟨g4, 128, none⟩ = some (.int .u32 2197175160) := by
          rw [cell_of_row _ _ _ _ _ _ hr7, tblA_at 128 (by omega)]; exact congrArg (fun n : Nat => some (Value.int .u32 (n : Int))) (by decide : ct 128 = 2197175160)
        have hl4 := (Array.getElem?_eq_some_iff.1 hr7).1
        clear hr7
        have hne7 : Nonempty (WC w7.heap.size w7) := ⟨⟨_, Below.refl _ _⟩⟩
        have hkE : (x : Int) % ((s.size : Int) + 1) = ((x % (s.size + 1) : Nat) : Int) := by simp
        rw [hkE]
        have hkl : x % (s.size + 1) ≤ s.size := by have := Nat.mod_lt x (show 0 < s.size + 1 from by omega); omega
        generalize x % (s.size + 1) = k at hkl ⊢
        clear hkE
        obtain ⟨T, D, q1, q2, pT, pD, KT, KD, KA⟩ := lin_tail2 s x k w7 hkl hs hx
        have hkl' : (k : Int) ≤ (s.size : Int) := by omega
        go_wp2_with fail
        refine wp_region_calm (B := w7.heap.size) (W := w7) (by kernel_rfl) (by kernel_rfl) (Below.refl _ _) ?_
        iterate 3 (go_big_quiet_step ((go_at_call 25; exact KT.out _)))
        refine quiet_slice rfl 9 _ _ _ rfl Try.underlying9 (.string T) (by rintro _ ⟨y, rfl⟩; exact pT y) ?_
        simp only [Act.put, List.setIfInBounds_toArray, List.set_cons_succ, List.set_cons_zero]
        iterate 3 (go_big_quiet_step ((go_at_call 25; exact KT.out _)))
        refine quiet_slice rfl 9 _ _ _ rfl Try.underlying9 (.string D) (by rintro _ ⟨y, rfl⟩; exact pD y) ?_
        simp only [Act.put, List.setIfInBounds_toArray, List.set_cons_succ, List.set_cons_zero]
        go_big_quiet_step ((go_at_call 25; exact KD.out _))
        iterate 5 (go_big_quiet_step ((go_at_call 25; exact KA.out _)))
        refine wpQuiet_nil ?_
        intro _ hw'
        obtain ⟨y2, hy2⟩ := hw'
        subst hy2
        go_wp2
        go_ret
        exact ⟨rfl, hB7.trans (y2.ok.mono hB7.size)⟩
      · go_wp2_with fail
        refine (implTable_any _).mono ?_
        rintro e w7 ⟨g4, rfl, hr7, hg4, hb7⟩
        have hB7 := below_then hby hb7
        have d128 : w7.cell? ⟨g4, 128, none⟩ = some (.int .u32 2197175160) := by
          rw [cell_of_row _ _ _ _ _ _ hr7, tblA_at 128 (by omega)]; exact congrArg (fun n : Nat => some (Value.int .u32 (n : Int))) (by decide : ct 128 = 2197175160)
        have hl4 := (Array.getElem?_eq_some_iff.1 hr7).1
        clear hr7
        have hne7 : Nonempty (WC w7.heap.size w7) := ⟨⟨_, Below.refl _ _⟩⟩
        obtain ⟨T, D, q1, q2, pT, pD, KT, KD, KA⟩ := lin_tail2 s x 0 w7 (by omega) hs hx
        simp only [Int.natCast_zero] at pT pD
        go_wp2_with fail
        refine wp_region_calm (B := w7.heap.size) (W := w7) (by kernel_rfl) (by kernel_rfl) (Below.refl _ _) ?_
        iterate 3 (go_big_quiet_step ((go_at_call 25; exact KT.out _)))
        refine quiet_slice rfl 9 _ _ _ rfl Try.underlying9 (.string T) (by rintro _ ⟨y, rfl⟩; exact pT y) ?_
        simp only [Act.put, List.setIfInBounds_toArray, List.set_cons_succ, List.set_cons_zero]
        iterate 3 (go_big_quiet_step ((go_at_call 25; exact KT.out _)))
        refine quiet_slice rfl 9 _ _ _ rfl Try.underlying9 (.string D) (by rintro _ ⟨y, rfl⟩; exact pD y) ?_
        simp only [Act.put, List.setIfInBounds_toArray, List.set_cons_succ, List.set_cons_zero]
        go_big_quiet_step ((go_at_call 25; exact KD.out _))
        iterate 5 (go_big_quiet_step ((go_at_call 25; exact KA.out _)))
        refine wpQuiet_nil ?_
        intro _ hw'
        obtain ⟨y2, hy2⟩ := hw'
        subst hy2
        go_wp2
        go_ret
        exact ⟨rfl, hB7.trans (y2.ok.mono hB7.size)⟩
end Go.Proofs.Ytpjicnjihkknnaa
