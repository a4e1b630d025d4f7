/-
  spec.l4Tower, both TowerOfs.
-/
import Derived.Test.YtdaldkcildbcmaaDoorT2
namespace Go.Proofs.YtdaldkcildbcmaaDoor
open Go.RowKit Go.Shelf
set_option linter.unusedVariables false
set_option maxRecDepth 100000

theorem dec_short : ∀ (k n : Nat), n < 10 ^ (k + 1) → (Lib.decDigits n).length ≤ k + 1 := by
  intro k
  induction k with
  | zero => intro n h; rw [Lib.decDigits, dif_pos (by omega)]; simp
  | succ k ih =>
    intro n h
    rw [Lib.decDigits]
    split
    · simp
    · have := ih (n / 10) (by rw [Nat.pow_succ] at h; omega)
      rw [List.length_append]; simp only [List.length_cons, List.length_nil]; omega
/-- The text that a tower's height hangs on. -/
def twT (key : ByteArray) (n : Nat) : ByteArray := key ++ ⟨(Lib.decDigits n).toArray⟩
theorem twT_size (key : ByteArray) (n : Nat) (hk : key.size ≤ 16) (hn : n ≤ 1000000000) : (twT key n).size ≤ 1048576 := by
  have h := dec_short 9 n (by omega)
  unfold twT
  rw [ByteArray.size_append]
  have : (⟨(Lib.decDigits n).toArray⟩ : ByteArray).size = (Lib.decDigits n).length := by show (Lib.decDigits n).toArray.size = _; simp
  omega
def twN (key : ByteArray) (n : Nat) : Nat := 1 + twL 4 (csum (twT key n).data.toList)
theorem ctz_le (x : Nat) (h : x < 4294967296) : Lib.ctz 32 x ≤ 32 := by
  unfold Lib.ctz
  split
  · omega
  · obtain ⟨m, _, hm⟩ := Lib.ctzFrom_spec 32 x (by omega) (by omega)
    omega
theorem and_three (x : Nat) (h : x < 4294967296) : bits BinOp.and IntKind.u32 (x : Int) 3 = ((x % 4 : Nat) : Int) := by
  have := u32_and_nat x 3 h (by omega)
  rw [show x &&& 3 = x % 4 from Nat.and_two_pow_sub_one_eq_mod x 2] at this
  exact this
theorem TL.below {w w' : World} {v : Value} (h : TL w v) (hb : Below w.heap.size w w') : TL w' v := by
  obtain ⟨g, rfl, hg, hc⟩ := h
  exact ⟨g, rfl, Nat.lt_of_lt_of_le hg hb.size, fun i hi => (hb.cell (p := ⟨g, i, none⟩) hg).trans (hc i hi)⟩

set_option maxHeartbeats 2000000 in
theorem l4Tower_any (v : Value) (key : ByteArray) (n : Nat) (w : World) (hv : TL w v) (hk : key.size ≤ 16) (hn : n ≤ 1000000000) :
    Calls Tryd.prog 52 #[v, .string key, .int .i64 n] w fun e w' => e = .returned (.int .i64 (twN key n)) ∧ Below w.heap.size w w' := by
  have hT : key ++ ⟨(Lib.decDigits n).toArray⟩ = twT key n := rfl
  have hs := twT_size key n hk hn
  have HN : Hid (twN key n = 1 + twL 4 (csum (twT key n).data.toList)) := rfl
  have hd := dec_short 9 n (by omega)
  have hlt := con_lt (twT key n).data.toList 4294967295 (by omega)
  have hnv := not_val _ hlt
  have hcs : csum (twT key n).data.toList < 4294967296 := csum_lt _
  generalize twN key n = R at *
  go_enter Tryd.func52, Tryd.ntmps52
  go_wp2_with fail
  refine (l1Num_any n hn _).mono ?_
  rintro e w1 ⟨rfl, hb1⟩
  have hv1 := TL.below hv hb1
  clear hv
  go_wp2_with fail
  refine (l2On_any _ 4294967295 (twT key n) _ hv1 hs (by omega)).mono ?_
  rintro e w2 ⟨rfl, hw⟩
  rw [hw]; clear hw
  have hcv : ((4294967295 - con 4294967295 (twT key n).data.toList : Nat) : Int) = ((csum (twT key n).data.toList : Nat) : Int) := rfl
  rw [hcv] at hnv
  generalize con 4294967295 (twT key n).data.toList = cn at *
  generalize csum (twT key n).data.toList = H at *
  clear hcv hlt hs hT hd hv1 hk hn
  go_wp2_with fail
  go_loopw [7, 8] (fun hh t wr => ∃ j x : Nat, j ≤ 4 ∧ t = .int .i64 (1 + j) ∧ hh = .int .u32 x ∧ x < 4294967296 ∧ twL 4 H = j + twL (4 - j) x ∧ Below w.heap.size w wr) (fun _ t _ => 5 - (intOf t).toNat)
  case atStart => exact ⟨0, H, by omega, rfl, by rw [← hnv], hcs, by simp, hb1⟩
  case round =>
    obtain ⟨j, x, hj, rfl, rfl, hx, he, hb⟩ := hrel
    have HE : Hid (twL 4 H = j + twL (4 - j) x) := he
    have ha := and_three x hx
    clear he
    by_cases h4 : j = 4
    · subst h4
      have hR : R = 5 := by rw [HN.out, HE.out]; rfl
      go_wp2
      go_ret
      exact ⟨by rw [hR]; rfl, hb⟩
    · obtain ⟨f, hf⟩ : ∃ f, 4 - j = f + 1 := ⟨3 - j, by omega⟩
      rw [hf] at HE
      by_cases hm : x % 4 = 0
      · have HT : Hid (twL 4 H = j + 1 + twL (4 - (j + 1)) (x / 4)) := by
          show _ = _
          rw [HE.out, twL, if_pos hm, show 4 - (j + 1) = f from by omega]; omega
        rw [hm] at ha
        have h5 : (1 : Int) + j < 5 := by omega
        go_wp2
        go_roundw
        case rel => exact ⟨j + 1, x / 4, by omega, by go_num, by simp, by omega, HT.out, hb⟩
        case measure => simp [intOf]; omega
      · have hR : R = 1 + j := by rw [HN.out, HE.out, twL, if_neg hm]; omega
        have h5 : (1 : Int) + j < 5 := by omega
        have hne : (((x % 4 : Nat) : Int) == 0) = false := by simp; omega
        go_wp2
        go_ret
        exact ⟨by rw [hR]; simp, hb⟩

/-- The tables of the library that are read, as they lie. -/
def Tabs (w : World) : Prop := Lib.TabIs Tryd.prog w "internal/strconv.uint64pow10" .u64 Lib.pow10Tab ∧ TabAt (Tryd.laysTz_ren.g 0) Lib.deBruijn32tab w
theorem Tabs.below {w w' : World} (h : Tabs w) (hb : Below w.heap.size w w') : Tabs w' := by
  refine ⟨?_, fun j hj => ?_⟩
  · have h1 := h.1
    unfold Lib.TabIs at h1 ⊢
    unfold World.var? at h1 ⊢
    cases hg : Tryd.prog.globalNamed "internal/strconv.uint64pow10" with
    | none => rw [hg] at h1; exact h1
    | some g =>
      rw [hg] at h1
      simp only [Option.bind_some] at h1 ⊢
      have hlt : g < w.heap.size := by
        rcases Nat.lt_or_ge g w.heap.size with h' | h'
        · exact h'
        · rw [Array.getElem?_eq_none h'] at h1; cases h1
      rw [hb.block g hlt]
      exact h1
  · have h2 := h.2 j hj
    exact (hb.cell (p := ⟨Tryd.laysTz_ren.g 0, j, none⟩) (World.block_lt_of_cell? _ _ h2)).trans h2

/-- What TowerOf answers. -/
def toOk (key : ByteArray) (n : Int) : Bool := okKey key && okSeq n
def toN (key : ByteArray) (n : Int) : Int := if toOk key n then (twN key n.toNat : Int) else 0

set_option maxHeartbeats 2000000 in
theorem implTower_any (key : ByteArray) (n : Int) (w : World) (hk : key.size ≤ 1048576) (ht : Tabs w) :
    Calls Tryd.prog 23 #[.string key, .int .i64 n] w fun e w' => e = .returned (.tuple #[.int .i64 (toN key n), .bool (toOk key n)]) ∧ Below w.heap.size w w' := by
  have A := fun w => goodKey_any key w hk
  have S := fun w => goodSeq_any n w
  have HO : Hid (toOk key n = (okKey key && okSeq n)) := rfl
  have HN : Hid (toN key n = if toOk key n then (twN key n.toNat : Int) else 0) := rfl
  generalize toN key n = N at *
  generalize toOk key n = ok at *
  cases hK : okKey key with
  | false =>
    rw [hK] at A HO
    obtain rfl : ok = false := HO.out
    obtain rfl : N = 0 := HN.out
    clear HO HN
    go_enter Tryd.func23, Tryd.ntmps23
    go_wp2_with fail
    refine (A _).mono ?_
    rintro e w1 ⟨rfl, hw⟩
    rw [hw]; clear hw
    go_wp2
    go_ret2
    exact ⟨rfl, Below.refl _ _⟩
  | true =>
    cases hS : okSeq n with
    | false =>
      rw [hK, hS] at HO
      rw [hK] at A
      rw [hS] at S
      obtain rfl : ok = false := HO.out
      obtain rfl : N = 0 := HN.out
      clear HO HN
      go_enter Tryd.func23, Tryd.ntmps23
      go_wp2_with fail
      refine (A _).mono ?_
      rintro e w1 ⟨rfl, hw⟩
      rw [hw]; clear hw
      go_wp2_with fail
      refine (S _).mono ?_
      rintro e w1 ⟨rfl, hw⟩
      rw [hw]; clear hw
      go_wp2
      go_ret2
      exact ⟨rfl, Below.refl _ _⟩
    | true =>
      rw [hK, hS] at HO
      rw [hK] at A
      rw [hS] at S
      obtain rfl : ok = true := HO.out
      simp only [okKey, okSeq, Bool.and_eq_true, decide_eq_true_eq] at hK hS
      obtain ⟨m, rfl⟩ := Int.eq_ofNat_of_zero_le hS.1
      have hN : N = (twN key m : Int) := HN.out
      have hd := dec_short 9 m (by omega)
      have hT : key ++ ⟨(Lib.decDigits m).toArray⟩ = twT key m := rfl
      have hs := twT_size key m (by omega) (by omega)
      have hc := csum_lt (twT key m).data.toList
      have hE := tower_eq _ hc
      have hz := ctz_le _ hc
      have HW : Hid (twN key m = 1 + twL 4 (csum (twT key m).data.toList)) := rfl
      have TZ := fun w hT => tz_any _ hc w hT
      have KIt := fun w h => itoa_any (m : Int) (by omega) (by omega) w h
      rw [show ((m : Int)).toNat = m from rfl] at KIt
      clear HO HN
      go_enter Tryd.func23, Tryd.ntmps23
      go_wp2_with fail
      refine (A _).mono ?_
      rintro e w1 ⟨rfl, hw⟩
      rw [hw]; clear hw
      go_wp2_with fail
      refine (S _).mono ?_
      rintro e w1 ⟨rfl, hw⟩
      rw [hw]; clear hw
      go_wp2_with fail
      refine (KIt _ ht.1).mono ?_
      rintro e w2 ⟨rfl, hb2⟩
      have ht2 := ht.below hb2
      go_wp2_with fail
      refine (implSum_any (twT key m) _ hs).mono ?_
      rintro e w3 ⟨rfl, hb3⟩
      have ht3 := ht2.below hb3
      have hB3 := below_then hb2 hb3
      go_wp2_with fail
      refine (TZ _ ht3.2).mono ?_
      rintro e w4 ⟨rfl, hw⟩
      rw [hw]; clear hw
      generalize csum (twT key m).data.toList = H at *
      generalize Lib.ctz 32 H = z at *
      clear TZ KIt ht ht2 ht3 A S
      have hv : min (1 + (z : Int) / 2) 5 = N := by rw [hN, HW.out, ← hE]; omega
      have HV : Hid (min (1 + (z : Int) / 2) 5 = N) := hv
      clear hv hE hN
      go_wp2
      go_ret2
      exact ⟨by rw [← HV.out]; rfl, hB3⟩
end Go.Proofs.YtdaldkcildbcmaaDoor
