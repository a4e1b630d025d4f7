/-
  What a file's name is: impl.isNameByte, impl.isFileName, spec.l1Name, spec.l1In.
-/
import Derived.Test.YtbgemebpfcbloaaGa
import Derived.Test.YtbgemebpfcbloaaD
namespace Go.Proofs.Ytbgemebpfcbloaa
open Go.RowKit

theorem l1In_any (n lo hi : Int) (w : World) :
    Calls Try.prog 58 #[.int .i64 n, .int .i64 lo, .int .i64 hi] w fun e w' => e = .returned (.bool (decide (lo ≤ n) && decide (n ≤ hi))) ∧ w' = w := by
  by_cases h1 : lo ≤ n <;> by_cases h2 : n ≤ hi
  all_goals
    go_enter Try.func58, Try.ntmps58
    go_wp2
    go_ret
    simp [h1, h2]

theorem ret_bool {a b : Bool} (h : a = b) : Ending.returned (.bool a) = .returned (.bool b) := by rw [h]

set_option maxHeartbeats 1000000 in
theorem isNameByte_any (n : Int) (w : World) :
    Calls Try.prog 131 #[.int .u8 n] w fun e w' => e = .returned (.bool (okC n)) ∧ w' = w := by
  rcases (show n < 46 ∨ n = 46 ∨ n = 47 ∨ (48 ≤ n ∧ n ≤ 57) ∨ (57 < n ∧ n < 97) ∨ (97 ≤ n ∧ n ≤ 122) ∨ 122 < n from by omega) with h | h | h | ⟨h, h'⟩ | ⟨h, h'⟩ | ⟨h, h'⟩ | h
  all_goals
    try subst h
    go_enter Try.func131, Try.ntmps131
    go_wp2
    go_ret
    refine ⟨ret_bool ?_, rfl⟩
    rw [Bool.eq_iff_iff]
    simp [okC]
    try omega

set_option maxHeartbeats 1000000 in
theorem isFileName_any (s : ByteArray) (w : World) (hs : s.size ≤ 1048576) :
    Calls Try.prog 112 #[.string s] w fun e w' => e = .returned (.bool (okN s)) ∧ w' = w := by
  by_cases h1 : (s.size : Int) < 1
  · go_enter Try.func112, Try.ntmps112
    go_wp2
    go_ret
    exact ⟨ret_bool (by simp [okN]; omega), rfl⟩
  · by_cases h2 : (12 : Int) < s.size
    · go_enter Try.func112, Try.ntmps112
      go_wp2
      go_ret
      exact ⟨ret_bool (by simp [okN]; omega), rfl⟩
    · go_enter Try.func112, Try.ntmps112
      go_wp2
      go_loop [14] (fun i => ∃ k : Nat, k ≤ s.size ∧ i = .int .i64 k ∧ okCs s k = true) (fun i => s.size - (intOf i).toNat)
      case atStart => exact ⟨0, Nat.zero_le _, rfl, okCs_zero s⟩
      case round =>
        obtain ⟨k, hk, rfl, hok⟩ := hrel
        have HO : Hid (okCs s k = true) := hok
        clear hok
        by_cases hlt : k < s.size
        · by_cases hc : okC s[k].toNat = true
          · have HN : Hid (okCs s (k + 1) = true) := by show okCs s (k + 1) = true; rw [okCs_succ s k hlt, HO.out, hc]; rfl
            go_wp2_with fail
            refine (isNameByte_any _ _).mono ?_
            rintro e w1 ⟨rfl, rfl⟩
            go_wp2
            go_round
            case rel => exact ⟨k + 1, by omega, by go_num, HN.out⟩
            case measure => simp [intOf]; omega
          · have hc' : okC s[k].toNat = false := by simpa using hc
            have HF : Hid (okN s = false) := by show okN s = false; rw [okN, okCs_false s k hlt hc']; rfl
            clear hc
            go_wp2_with fail
            refine (isNameByte_any _ _).mono ?_
            rintro e w1 ⟨rfl, rfl⟩
            go_wp2
            go_ret
            exact ⟨ret_bool HF.out.symm, rfl⟩
        · have : k = s.size := by omega
          subst this
          have HF : Hid (okN s = true) := by show okN s = true; rw [okN, HO.out]; simp; omega
          go_wp2
          go_ret
          exact ⟨ret_bool HF.out.symm, rfl⟩

set_option maxHeartbeats 2000000 in
theorem l1Name_any (s : ByteArray) (w : World) (hs : s.size ≤ 1048576) :
    Calls Try.prog 107 #[.string s] w fun e w' => e = .returned (.bool (okN s)) ∧ w' = w := by
  go_enter Try.func107, Try.ntmps107
  go_wp2
  go_loop [3] (fun i => ∃ k : Nat, k ≤ s.size ∧ i = .int .i64 k ∧ okCs s k = true) (fun i => s.size - (intOf i).toNat)
  case atStart => exact ⟨0, Nat.zero_le _, rfl, okCs_zero s⟩
  case round =>
    obtain ⟨k, hk, rfl, hok⟩ := hrel
    have HO : Hid (okCs s k = true) := hok
    clear hok
    by_cases hlt : k < s.size
    · obtain ⟨n, hn⟩ : ∃ n : Int, n = s[k].toNat := ⟨_, rfl⟩
      rcases (show n < 46 ∨ n = 46 ∨ n = 47 ∨ (48 ≤ n ∧ n ≤ 57) ∨ (57 < n ∧ n < 97) ∨ (97 ≤ n ∧ n ≤ 122) ∨ 122 < n from by omega) with h | h | h | ⟨h, h'⟩ | ⟨h, h'⟩ | ⟨h, h'⟩ | h
      all_goals rw [hn] at h
      all_goals try rw [hn] at h'
      all_goals clear hn
      · have HF : Hid (okN s = false) := by show okN s = false; rw [okN, okCs_false s k hlt (by simp [okC]; omega)]; rfl
        have hb : ((s[k].toNat : Int) == 46) = false := by simp; omega
        go_wp2
        go_ret
        exact ⟨ret_bool HF.out.symm, rfl⟩
      · have HN : Hid (okCs s (k + 1) = true) := by show okCs s (k + 1) = true; rw [okCs_succ s k hlt, HO.out]; simp [okC]; omega
        have hb : ((s[k].toNat : Int) == 46) = true := by simp; omega
        go_wp2
        go_round
        case rel => exact ⟨k + 1, by omega, by go_num, HN.out⟩
        case measure => simp [intOf]; omega
      · have HF : Hid (okN s = false) := by show okN s = false; rw [okN, okCs_false s k hlt (by simp [okC]; omega)]; rfl
        have hb : ((s[k].toNat : Int) == 46) = false := by simp; omega
        go_wp2
        go_ret
        exact ⟨ret_bool HF.out.symm, rfl⟩
      · have HN : Hid (okCs s (k + 1) = true) := by show okCs s (k + 1) = true; rw [okCs_succ s k hlt, HO.out]; simp [okC]; omega
        have hb : ((s[k].toNat : Int) == 46) = false := by simp; omega
        go_wp2
        go_round
        case rel => exact ⟨k + 1, by omega, by go_num, HN.out⟩
        case measure => simp [intOf]; omega
      · have HF : Hid (okN s = false) := by show okN s = false; rw [okN, okCs_false s k hlt (by simp [okC]; omega)]; rfl
        have hb : ((s[k].toNat : Int) == 46) = false := by simp; omega
        have hd : decide ((s[k].toNat : Int) ≤ 57) = false := by simp; omega
        go_wp2
        go_ret
        exact ⟨ret_bool HF.out.symm, rfl⟩
      · have HN : Hid (okCs s (k + 1) = true) := by show okCs s (k + 1) = true; rw [okCs_succ s k hlt, HO.out]; simp [okC]; omega
        have hb : ((s[k].toNat : Int) == 46) = false := by simp; omega
        go_wp2
        go_round
        case rel => exact ⟨k + 1, by omega, by go_num, HN.out⟩
        case measure => simp [intOf]; omega
      · have HF : Hid (okN s = false) := by show okN s = false; rw [okN, okCs_false s k hlt (by simp [okC]; omega)]; rfl
        have hb : ((s[k].toNat : Int) == 46) = false := by simp; omega
        have hd : decide ((s[k].toNat : Int) ≤ 57) = false := by simp; omega
        have hd' : decide ((s[k].toNat : Int) ≤ 122) = false := by simp; omega
        go_wp2
        go_ret
        exact ⟨ret_bool HF.out.symm, rfl⟩
    · have : k = s.size := by omega
      subst this
      have HF : Hid (okN s = (decide (1 ≤ (s.size : Int)) && decide ((s.size : Int) ≤ 12))) := by show okN s = _; rw [okN, HO.out]; rfl
      go_wp2_with fail
      refine (l1In_any _ _ _ _).mono ?_
      rintro e w1 ⟨rfl, rfl⟩
      go_wp2
      go_ret
      exact ⟨ret_bool HF.out.symm, rfl⟩
end Go.Proofs.Ytbgemebpfcbloaa
