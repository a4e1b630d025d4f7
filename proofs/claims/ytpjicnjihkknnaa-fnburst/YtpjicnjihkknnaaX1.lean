/-
  The walk of the law laws.FnBurst.
-/
import Derived.Test.YtpjicnjihkknnaaD2
import Derived.Test.YtpjicnjihkknnaaS2
import Derived.Test.YtpjicnjihkknnaaK
namespace Go.Proofs.Ytpjicnjihkknnaa
open Go.RowKit
set_option linter.unusedVariables false

theorem xorv (c r : Nat) (hc : c < 256) (hr : r < 8) : bits BinOp.xor IntKind.u8 (c : Int) (2 ^ r % 256) = ((c ^^^ 2 ^ r : Nat) : Int) ∧ c ^^^ 2 ^ r < 2 ^ 8 := by
  have hp : 2 ^ r < 256 := by
    have : 2 ^ r ≤ 2 ^ 7 := Nat.pow_le_pow_right (by omega) (by omega)
    omega
  have e : (2 : Int) ^ r % 256 = ((2 ^ r : Nat) : Int) := by
    have h1 : ((2 ^ r : Nat) : Int) = (2 : Int) ^ r := by simp
    rw [← h1]
    generalize 2 ^ r = t at *
    omega
  rw [e]
  exact ⟨u8_xor_nat c (2 ^ r) hc hp, Nat.xor_lt_two_pow (by omega) (by omega)⟩
theorem two_mul_xor (p a b : Nat) : 2 ^ p * (a ^^^ b) = (2 ^ p * a) ^^^ (2 ^ p * b) := by
  have e : ∀ z : Nat, 2 ^ p * z = z <<< p := fun z => by rw [Nat.shiftLeft_eq, Nat.mul_comm]
  rw [e, e, e, Nat.shiftLeft_xor_distrib]

set_option maxRecDepth 100000 in
set_option maxHeartbeats 4000000 in
theorem lawBurst (v u : Value) (l m : List UInt8) (w : World) (hv : YL w v l) (hu : YL w u m) (hl : l.length ≤ 9223372036854775807) (hm : m.length ≤ 9223372036854775807) (hg : wrap64 ((l.length : Int) + m.length) ≤ 1048576) :
    Calls Try.prog 5 #[v, u] w fun e w' => e = .returned (.bool true) ∧ Below w.heap.size w w' := by
  have hv' := hv
  have hu' := hu
  obtain ⟨va, vc, rfl, _⟩ := hv'
  obtain ⟨ua, uc, rfl, _⟩ := hu'
  go_enter Try.func5, Try.ntmps5
  go_wp2_with fail
  refine (drawSumOf_any _ l _ hv (by omega)).mono ?_
  rintro e w1 ⟨⟨s, rfl, hs⟩, hb1⟩
  go_wp2_with fail
  refine (drawSumOn_any _ m _ (hu.below hb1) (by omega)).mono ?_
  rintro e w2 ⟨⟨x, t, rfl, hx, ht⟩, hb2⟩
  have hB2 := below_then hb1 hb2
  clear hb1 hb2
  go_wp2_with fail
  refine (implSum_any s _ (by omega)).mono ?_
  rintro e w3 ⟨rfl, hb3⟩
  have hB3 := below_then hB2 hb3
  clear hb3 hB2
  go_wp2_with fail
  refine (specSum_any s _ (by omega)).mono ?_
  rintro e w4 ⟨rfl, hb4⟩
  have hB4 := below_then hB3 hb4
  clear hb4 hB3
  by_cases hx0 : x = 0
  · subst hx0
    go_wp2
    go_ret
    exact ⟨rfl, hB4⟩
  · have g0 : ((x : Int) == 0) = false := by rw [beq_eq_false_iff_ne]; omega
    by_cases hs0 : s.size = 0
    · have g1 : ((s.size : Int) == 0) = true := by rw [beq_iff_eq]; omega
      go_wp2
      go_ret
      exact ⟨rfl, hB4⟩
    · have g1 : ((s.size : Int) == 0) = false := by rw [beq_eq_false_iff_ne]; omega
      go_wp2_with fail
      refine (numberOf_any _ m _ (hu.below hB4) (by omega)).mono ?_
      rintro e w5 ⟨⟨y, rfl, hy⟩, rfl⟩
      obtain ⟨cp, w6, hcv, hW, hb6⟩ := bytes_of s w5
      go_wp2_with fail
      have hAe : (y : Int) % (8 * (s.size : Int)) = ((y % (8 * s.size) : Nat) : Int) := by simp
      have hA : y % (8 * s.size) < 8 * s.size := Nat.mod_lt _ (by omega)
      rw [hAe]
      generalize y % (8 * s.size) = p at hA ⊢
      clear hAe hcv hy
      have hB6 := below_then hB4 hb6
      have hz6 := hb6.size
      have hz4 := hB4.size
      have hlen : s.data.toList.length = s.size := by simp
      obtain ⟨g, hg⟩ : ∃ g, g = w5.heap.size := ⟨_, rfl⟩
      rw [← hg] at hW ⊢
      have hgw : w.heap.size ≤ g := by omega
      clear hb6 hg hB4
      go_loopw [10, 11] (fun ch i wr => ∃ (j z : Nat) (c : Bool) (q : List UInt8), j ≤ 32 ∧ i = .int .i64 j ∧ ch = .bool c ∧ q.length = s.size ∧ z < 2 ^ j ∧ num q = num s.data.toList ^^^ (2 ^ p * z) ∧ (c = false → q = s.data.toList) ∧ (c = true → z ≠ 0) ∧ Wr wr g q ∧ Below w.heap.size w wr) (fun _ i _ => 32 - (intOf i).toNat)
      case atStart => exact ⟨0, 0, false, s.data.toList, by omega, rfl, rfl, hlen, by simp, by simp, fun _ => rfl, by simp, hW, hB6⟩
      case round =>
        obtain ⟨j, z, c, q, hj, rfl, rfl, hq, hz, hnum, hcf, hct, hWr, hb⟩ := hrel
        clear hW hB6
        by_cases hlt : j < 32
        · by_cases hbit : bits BinOp.and IntKind.u32 ((x : Int) / 2 ^ j) 1 = 1
          · by_cases hp : p + j < 8 * s.size
            · have hi : (p + j) / 8 < q.length := by omega
              obtain ⟨d0, f0⟩ := hWr.2 _ hi
              have hgl := hWr.1
              have hkl := q[(p + j) / 8].toNat_lt
              have hxv := xorv q[(p + j) / 8].toNat ((p + j) % 8) hkl (by omega)
              have HW : Hid _ := hWr.set _ hi (UInt8.ofNat (q[(p + j) / 8].toNat ^^^ 2 ^ ((p + j) % 8)))
              have HN : Hid (num (q.set ((p + j) / 8) (UInt8.ofNat (q[(p + j) / 8].toNat ^^^ 2 ^ ((p + j) % 8)))) = num s.data.toList ^^^ (2 ^ p * (z ^^^ 2 ^ j))) := by
                show _ = _
                rw [num_set q _ ((p + j) % 8) _ hi (by rw [UInt8.toNat_ofNat', Nat.mod_eq_of_lt hxv.2]), hnum, show 8 * ((p + j) / 8) + (p + j) % 8 = p + j from by omega, Nat.xor_assoc, two_mul_xor, Nat.pow_add]
              have HU : Hid (((UInt8.ofNat (q[(p + j) / 8].toNat ^^^ 2 ^ ((p + j) % 8))).toNat : Int) = bits BinOp.xor IntKind.u8 (q[(p + j) / 8].toNat : Int) (2 ^ ((p + j) % 8) % 256)) := by
                show _ = _
                rw [hxv.1, UInt8.toNat_ofNat', Nat.mod_eq_of_lt hxv.2]
              have hz2 : z ^^^ 2 ^ j < 2 ^ (j + 1) := Nat.xor_lt_two_pow (Nat.lt_of_lt_of_le hz (Nat.pow_le_pow_right (by omega) (by omega))) (Nat.pow_lt_pow_right (by omega) (by omega))
              have hz3 : z ^^^ 2 ^ j ≠ 0 := fun h => by have := xor_eq_zero h; omega
              clear hxv hWr hnum hcf hct
              go_wp2_with fail
              go_roundw
              case rel =>
                refine ⟨j + 1, z ^^^ 2 ^ j, true, q.set ((p + j) / 8) (UInt8.ofNat (q[(p + j) / 8].toNat ^^^ 2 ^ ((p + j) % 8))), by omega, by go_num, rfl, by simpa using hq, hz2, HN.out, by simp, fun _ => hz3, ?_, hb.setCell (by simp; omega) _⟩
                rw [← HU.out]
                exact HW.out
              case measure => simp [intOf]; omega
            · have HR : Hid _ := (⟨hnum, hcf, hct⟩ : num q = num s.data.toList ^^^ (2 ^ p * z) ∧ (c = false → q = s.data.toList) ∧ (c = true → z ≠ 0))
              have HW : Hid (Wr wr g q) := hWr
              have hz2 : z < 2 ^ (j + 1) := Nat.lt_of_lt_of_le hz (Nat.pow_le_pow_right (by omega) (by omega))
              clear hnum hcf hct hWr
              go_wp2_with fail
              go_roundw
              case rel => exact ⟨j + 1, z, c, q, by omega, by go_num, rfl, hq, hz2, HR.out.1, HR.out.2.1, HR.out.2.2, HW.out, hb⟩
              case measure => simp [intOf]; omega
          · have HR : Hid _ := (⟨hnum, hcf, hct⟩ : num q = num s.data.toList ^^^ (2 ^ p * z) ∧ (c = false → q = s.data.toList) ∧ (c = true → z ≠ 0))
            have HW : Hid (Wr wr g q) := hWr
            have hz2 : z < 2 ^ (j + 1) := Nat.lt_of_lt_of_le hz (Nat.pow_le_pow_right (by omega) (by omega))
            clear hnum hcf hct hWr
            go_wp2_with fail
            go_roundw
            case rel => exact ⟨j + 1, z, c, q, by omega, by go_num, rfl, hq, hz2, HR.out.1, HR.out.2.1, HR.out.2.2, HW.out, hb⟩
            case measure => simp [intOf]; omega
        · obtain rfl : j = 32 := by omega
          have hcv := conv_wr (cap := cp) hWr hq
          have hsz : (⟨q.toArray⟩ : ByteArray).size ≤ 1048576 := by show q.toArray.size ≤ _; simp; omega
          have HE : Hid ((((csum q : Nat) : Int) == ((csum s.data.toList : Nat) : Int)) = !c) := by
            show _ = _
            cases c with
            | false => rw [hcf rfl]; simp
            | true =>
              have := burst s.data.toList q p z (by omega) hnum (by omega) (by simpa using hz) (hct rfl)
              rw [Bool.not_true, beq_eq_false_iff_ne]
              intro h; exact this (by exact_mod_cast h)
          clear hnum hcf hct hWr
          go_wp2_with fail
          refine (implSum_any _ _ hsz).mono ?_
          rintro e w7 ⟨rfl, hb7⟩
          go_wp2_with fail
          refine (implSum_any s _ (by omega)).mono ?_
          rintro e w8 ⟨rfl, hb8⟩
          have hE := HE.out
          go_wp2_with fail
          go_ret
          exact ⟨by rfl, below_then (below_then hb hb7) hb8⟩
end Go.Proofs.Ytpjicnjihkknnaa
