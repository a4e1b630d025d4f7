/-
  What a file's name is: impl.isNameByte, impl.isFileName, spec.l1Name, spec.l1In.
  impl.goodBlobs, impl.goodNames.
-/
import Derived.Test.YtbgemebpfcbloaaG4ToD
import Derived.Deep.QuietTactic
import Derived.BigQuiet
namespace Go.Proofs.Ytbgemebpfcbloaa
open Go.RowKit

theorem l1In_any (n lo hi : Int) (w : World) :
    Calls Try.prog 58 #[.int .i64 n, .int .i64 lo, .int .i64 hi] w fun e w' => e = .returned (.bool (decide (lo ≤ n) && decide (n ≤ hi))) ∧ w' = w := by
  by_cases h1 : lo ≤ n <;> by_cases h2 : n ≤ hi
  all_goals
    go_enter Try.func58, Try.ntmps58
    go_wp2
    go_ret
    simp [h1, h2]

theorem ret_bool {a b : Bool} (h : a = b) : Ending.returned (.bool a) = .returned (.bool b) := by rw [h]

set_option maxHeartbeats 1000000 in
theorem isNameByte_any (n : Int) (w : World) :
    Calls Try.prog 131 #[.int .u8 n] w fun e w' => e = .returned (.bool (okC n)) ∧ w' = w := by
  rcases (show n < 46 ∨ n = 46 ∨ n = 47 ∨ (48 ≤ n ∧ n ≤ 57) ∨ (57 < n ∧ n < 97) ∨ (97 ≤ n ∧ n ≤ 122) ∨ 122 < n from by omega) with h | h | h | ⟨h, h'⟩ | ⟨h, h'⟩ | ⟨h, h'⟩ | h
  all_goals
    try subst h
    go_enter Try.func131, Try.ntmps131
    go_wp2
    go_ret
    refine ⟨ret_bool ?_, rfl⟩
    rw [Bool.eq_iff_iff]
    simp [okC]
    try omega

set_option maxHeartbeats 1000000 in
theorem isFileName_any (s : ByteArray) (w : World) (hs : s.size ≤ 1048576) :
    Calls Try.prog 112 #[.string s] w fun e w' => e = .returned (.bool (okN s)) ∧ w' = w := by
  by_cases h1 : (s.size : Int) < 1
  · go_enter Try.func112, Try.ntmps112
    go_wp2
    go_ret
    exact ⟨ret_bool (by simp [okN]; omega), rfl⟩
  · by_cases h2 : (12 : Int) < s.size
    · go_enter Try.func112, Try.ntmps112
      go_wp2
      go_ret
      exact ⟨ret_bool (by simp [okN]; omega), rfl⟩
    · go_enter Try.func112, Try.ntmps112
      go_wp2
      go_loop [14] (fun i => ∃ k : Nat, k ≤ s.size ∧ i = .int .i64 k ∧ okCs s k = true) (fun i => s.size - (intOf i).toNat)
      case atStart => exact ⟨0, Nat.zero_le _, rfl, okCs_zero s⟩
      case round =>
        obtain ⟨k, hk, rfl, hok⟩ := hrel
        have HO : Hid (okCs s k = true) := hok
        clear hok
        by_cases hlt : k < s.size
        · by_cases hc : okC s[k].toNat = true
          · have HN : Hid (okCs s (k + 1) = true) := by show okCs s (k + 1) = true; rw [okCs_succ s k hlt, HO.out, hc]; rfl
            go_wp2_with fail
            refine (isNameByte_any _ _).mono ?_
            rintro e w1 ⟨rfl, rfl⟩
            go_wp2
            go_round
            case rel => exact ⟨k + 1, by omega, by go_num, HN.out⟩
            case measure => simp [intOf]; omega
          · have hc' : okC s[k].toNat = false := by simpa using hc
            have HF : Hid (okN s = false) := by show okN s = false; rw [okN, okCs_false s k hlt hc']; rfl
            clear hc
            go_wp2_with fail
            refine (isNameByte_any _ _).mono ?_
            rintro e w1 ⟨rfl, rfl⟩
            go_wp2
            go_ret
            exact ⟨ret_bool HF.out.symm, rfl⟩
        · have : k = s.size := by omega
          subst this
          have HF : Hid (okN s = true) := by show okN s = true; rw [okN, HO.out]; simp; omega
          go_wp2
          go_ret
          exact ⟨ret_bool HF.out.symm, rfl⟩

set_option maxHeartbeats 2000000 in
theorem l1Name_any (s : ByteArray) (w : World) (hs : s.size ≤ 1048576) :
    Calls Try.prog 107 #[.string s] w fun e w' => e = .returned (.bool (okN s)) ∧ w' = w := by
  go_enter Try.func107, Try.ntmps107
  go_wp2
  go_loop [3] (fun i => ∃ k : Nat, k ≤ s.size ∧ i = .int .i64 k ∧ okCs s k = true) (fun i => s.size - (intOf i).toNat)
  case atStart => exact ⟨0, Nat.zero_le _, rfl, okCs_zero s⟩
  case round =>
    obtain ⟨k, hk, rfl, hok⟩ := hrel
    have HO : Hid (okCs s k = true) := hok
    clear hok
    by_cases hlt : k < s.size
    · obtain ⟨n, hn⟩ : ∃ n : Int, n = s[k].toNat := ⟨_, rfl⟩
      rcases (show n < 46 ∨ n = 46 ∨ n = 47 ∨ (48 ≤ n ∧ n ≤ 57) ∨ (57 < n ∧ n < 97) ∨ (97 ≤ n ∧ n ≤ 122) ∨ 122 < n from by omega) with h | h | h | ⟨h, h'⟩ | ⟨h, h'⟩ | ⟨h, h'⟩ | h
      all_goals rw [hn] at h
      all_goals try rw [hn] at h'
      all_goals clear hn
      · have HF : Hid (okN s = false) := by show okN s = false; rw [okN, okCs_false s k hlt (by simp [okC]; omega)]; rfl
        have hb : ((s[k].toNat : Int) == 46) = false := by simp; omega
        go_wp2
        go_ret
        exact ⟨ret_bool HF.out.symm, rfl⟩
      · have HN : Hid (okCs s (k + 1) = true) := by show okCs s (k + 1) = true; rw [okCs_succ s k hlt, HO.out]; simp [okC]; omega
        have hb : ((s[k].toNat : Int) == 46) = true := by simp; omega
        go_wp2
        go_round
        case rel => exact ⟨k + 1, by omega, by go_num, HN.out⟩
        case measure => simp [intOf]; omega
      · have HF : Hid (okN s = false) := by show okN s = false; rw [okN, okCs_false s k hlt (by simp [okC]; omega)]; rfl
        have hb : ((s[k].toNat : Int) == 46) = false := by simp; omega
        go_wp2
        go_ret
        exact ⟨ret_bool HF.out.symm, rfl⟩
      · have HN : Hid (okCs s (k + 1) = true) := by show okCs s (k + 1) = true; rw [okCs_succ s k hlt, HO.out]; simp [okC]; omega
        have hb : ((s[k].toNat : Int) == 46) = false := by simp; omega
        go_wp2
        go_round
        case rel => exact ⟨k + 1, by omega, by go_num, HN.out⟩
        case measure => simp [intOf]; omega
      · have HF : Hid (okN s = false) := by show okN s = false; rw [okN, okCs_false s k hlt (by simp [okC]; omega)]; rfl
        have hb : ((s[k].toNat : Int) == 46) = false := by simp; omega
        have hd : decide ((s[k].toNat : Int) ≤ 57) = false := by simp; omega
        go_wp2
        go_ret
        exact ⟨ret_bool HF.out.symm, rfl⟩
      · have HN : Hid (okCs s (k + 1) = true) := by show okCs s (k + 1) = true; rw [okCs_succ s k hlt, HO.out]; simp [okC]; omega
        have hb : ((s[k].toNat : Int) == 46) = false := by simp; omega
        go_wp2
        go_round
        case rel => exact ⟨k + 1, by omega, by go_num, HN.out⟩
        case measure => simp [intOf]; omega
      · have HF : Hid (okN s = false) := by show okN s = false; rw [okN, okCs_false s k hlt (by simp [okC]; omega)]; rfl
        have hb : ((s[k].toNat : Int) == 46) = false := by simp; omega
        have hd : decide ((s[k].toNat : Int) ≤ 57) = false := by simp; omega
        have hd' : decide ((s[k].toNat : Int) ≤ 122) = false := by simp; omega
        go_wp2
        go_ret
        exact ⟨ret_bool HF.out.symm, rfl⟩
    · have : k = s.size := by omega
      subst this
      have HF : Hid (okN s = (decide (1 ≤ (s.size : Int)) && decide ((s.size : Int) ≤ 12))) := by show okN s = _; rw [okN, HO.out]; rfl
      go_wp2_with fail
      refine (l1In_any _ _ _ _).mono ?_
      rintro e w1 ⟨rfl, rfl⟩
      go_wp2
      go_ret
      exact ⟨ret_bool HF.out.symm, rfl⟩
end Go.Proofs.Ytbgemebpfcbloaa

namespace Go.Proofs.Ytbgemebpfcbloaa
open Go.RowKit
set_option linter.unusedVariables false

set_option maxHeartbeats 1000000 in
theorem goodBlobs_any (v : Value) (l : List (ByteArray × Int)) (w : World) (hv : PL w v l) (hn : l.length ≤ 1048576) (hs : ∀ i (h : i < l.length), l[i].1.size ≤ 1048576) :
    Calls Try.prog 61 #[v] w fun e w' => e = .returned (.bool (okBs l && decide ((l.length : Int) ≤ 60))) ∧ Below w.heap.size w w' := by
  obtain ⟨a, cap, rfl, hc⟩ := hv
  by_cases h60 : (60 : Int) < l.length
  · go_enter Try.func61, Try.ntmps61
    go_wp2
    go_ret
    exact ⟨ret_bool (by simp; omega), Below.refl _ _⟩
  · go_enter Try.func61, Try.ntmps61
    go_wp2
    go_loopw [10] (fun i wr => ∃ k : Nat, k ≤ l.length ∧ i = .int .i64 k ∧ okBs (l.take k) = true ∧ Below w.heap.size w wr) (fun i _ => l.length - (intOf i).toNat)
    case atStart => exact ⟨0, Nat.zero_le _, rfl, by simp [okBs], Below.refl _ _⟩
    case round =>
      obtain ⟨k, hk, rfl, hok, hb⟩ := hrel
      have HO : Hid (okBs (l.take k) = true) := hok
      clear hok
      by_cases hlt : k < l.length
      · obtain ⟨b, off, rfl, hbl, hcell⟩ := hc (by intro e; simp [e] at hlt)
        obtain ⟨s, hse⟩ : ∃ s, s = l[k].1 := ⟨_, rfl⟩
        obtain ⟨m, hme⟩ : ∃ m, m = l[k].2 := ⟨_, rfl⟩
        have hc0 : wr.cell? ⟨b, off + k * 2, none⟩ = some (.string s) := by rw [hse]; exact (hb.cell (p := ⟨b, off + k * 2, none⟩) hbl).trans (hcell k hlt).1
        have hc1 : wr.cell? ⟨b, off + k * 2 + 1, none⟩ = some (.int .i64 m) := by rw [hme]; exact (hb.cell (p := ⟨b, off + k * 2 + 1, none⟩) hbl).trans (hcell k hlt).2
        have hss : s.size ≤ 1048576 := by rw [hse]; exact hs k hlt
        have HE : Hid (okB l[k] = (decide ((s.size : Int) ≤ 4000) && (decide (0 ≤ m) && decide (m ≤ s.size)))) := by rw [hse, hme]; rfl
        clear hcell hs hse hme hc
        have hz := hb.size
        by_cases h1 : (s.size : Int) ≤ 4000
        · by_cases h2 : 0 ≤ m
          · by_cases h3 : m ≤ s.size
            · go_wp2
              go_roundw
              case rel => exact ⟨k + 1, by omega, by go_num, by rw [okBs_succ l k hlt, HO.out, HE.out]; simp [h1, h2, h3], hb.alloc hz _⟩
              case measure => simp [intOf]; omega
            · have HF : Hid (okBs l = false) := okBs_false l k hlt (by rw [HE.out]; simp; omega)
              go_wp2
              go_ret
              exact ⟨ret_bool (by rw [HF.out]), hb.alloc hz _⟩
          · have HF : Hid (okBs l = false) := okBs_false l k hlt (by rw [HE.out]; simp; omega)
            go_wp2
            go_ret
            exact ⟨ret_bool (by rw [HF.out]), hb.alloc hz _⟩
        · have HF : Hid (okBs l = false) := okBs_false l k hlt (by rw [HE.out]; simp; omega)
          go_wp2
          go_ret
          exact ⟨ret_bool (by rw [HF.out]), hb.alloc hz _⟩
      · have : k = l.length := by omega
        subst this
        have HF : Hid (okBs l = true) := by have := HO.out; rwa [List.take_length] at this
        go_wp2
        go_ret
        exact ⟨ret_bool (by rw [HF.out]; simp; omega), hb⟩

set_option maxHeartbeats 1000000 in
theorem goodNames_any (v : Value) (l : List (ByteArray × Int)) (n : Nat) (w : World) (hv : PL w v l) (hn : l.length ≤ 1048576) (hnn : n ≤ 1048576) (hs : ∀ i (h : i < l.length), l[i].1.size ≤ 1048576) :
    Calls Try.prog 62 #[v, .int .i64 n] w fun e w' => e = .returned (.bool (okNs l n)) ∧ Below w.heap.size w w' := by
  obtain ⟨a, cap, rfl, hc⟩ := hv
  by_cases h60 : (20 : Int) < l.length
  · go_enter Try.func62, Try.ntmps62
    go_wp2
    go_ret
    exact ⟨ret_bool (by simp [okNs]; omega), Below.refl _ _⟩
  · go_enter Try.func62, Try.ntmps62
    go_wp2
    go_loopw [12] (fun i wr => ∃ k : Nat, k ≤ l.length ∧ i = .int .i64 k ∧ okEs l n k = true ∧ Below w.heap.size w wr) (fun i _ => l.length - (intOf i).toNat)
    case atStart => exact ⟨0, Nat.zero_le _, rfl, okEs_zero _ _, Below.refl _ _⟩
    case round =>
      obtain ⟨k, hk, rfl, hok, hb⟩ := hrel
      have HO : Hid (okEs l n k = true) := hok
      clear hok
      by_cases hlt : k < l.length
      · obtain ⟨b, off, rfl, hbl, hcell⟩ := hc (by intro e; simp [e] at hlt)
        obtain ⟨s, hse⟩ : ∃ s, s = l[k].1 := ⟨_, rfl⟩
        obtain ⟨m, hme⟩ : ∃ m, m = l[k].2 := ⟨_, rfl⟩
        have hc0 : wr.cell? ⟨b, off + k * 2, none⟩ = some (.string s) := by rw [hse]; exact (hb.cell (p := ⟨b, off + k * 2, none⟩) hbl).trans (hcell k hlt).1
        have hc1 : wr.cell? ⟨b, off + k * 2 + 1, none⟩ = some (.int .i64 m) := by rw [hme]; exact (hb.cell (p := ⟨b, off + k * 2 + 1, none⟩) hbl).trans (hcell k hlt).2
        have hss : s.size ≤ 1048576 := by rw [hse]; exact hs k hlt
        have hz := hb.size
        have hz1 : b < wr.heap.size := by omega
        have HE : Hid (okE l n k = (okN s && (decide (0 ≤ m) && decide (m ≤ n - 1)) && (decide (k = 0) || less (l.getD (k - 1) default).1 s))) := by
          show okE l n k = _
          rw [hse, hme]; simp only [okE, List.getD_eq_getElem?_getD, List.getElem?_eq_getElem hlt, Option.getD_some]
        by_cases h0 : okN s = true
        · by_cases h2 : 0 ≤ m
          · by_cases h3 : m < n
            · by_cases hk0 : k = 0
              · have hg : decide ((0 : Int) < (k : Int)) = false := by simp; omega
                have HN : Hid (okEs l n (k + 1) = true) := by show okEs l n (k + 1) = true; rw [okEs_succ, HO.out, HE.out]; simp [h0, h2, hk0]; omega
                have hg' : decide (0 < k) = false := by simp; omega
                clear hk0 hcell hs hse hme hc
                go_wp2_with fail
                refine (isFileName_any _ _ hss).mono ?_
                rintro e w1 ⟨rfl, rfl⟩
                go_wp2_with fail
                go_quiet (fail)
                go_wp2
                go_roundw
                case rel => exact ⟨k + 1, by omega, by go_num, HN.out, below_drewN (hb.alloc hz _) _⟩
                case measure => simp [intOf]; omega
              · obtain ⟨sp, hsp⟩ : ∃ sp, sp = l[k - 1].1 := ⟨_, rfl⟩
                have hp0 : wr.cell? ⟨b, off + (k - 1) * 2, none⟩ = some (.string sp) := by rw [hsp]; exact (hb.cell (p := ⟨b, off + (k - 1) * 2, none⟩) hbl).trans (hcell (k - 1) (by omega)).1
                have hge : (l.getD (k - 1) default).1 = sp := by rw [hsp]; simp only [List.getD_eq_getElem?_getD, List.getElem?_eq_getElem (show k - 1 < l.length from by omega), Option.getD_some]
                rw [hge] at HE
                have hg : (0 : Int) < (k : Int) := by omega
                have hg1 : decide ((0 : Int) < (k : Int)) = true := by simp; omega
                have hg2 : decide (0 < k) = true := by simp; omega
                by_cases hle : Op.bytesLess sp.toList s.toList = true
                · have HN : Hid (okEs l n (k + 1) = true) := by show okEs l n (k + 1) = true; rw [okEs_succ, HO.out, HE.out]; simp [h0, h2, less, hle]; omega
                  clear hk0 hcell hs hse hme hc hsp hge
                  go_wp2_with fail
                  refine (isFileName_any _ _ hss).mono ?_
                  rintro e w1 ⟨rfl, rfl⟩
                  go_wp2_with fail
                  go_quiet (fail)
                  go_wp2
                  go_roundw
                  case rel => exact ⟨k + 1, by omega, by go_num, HN.out, below_drewN (hb.alloc hz _) _⟩
                  case measure => simp [intOf]; omega
                · have hle' : Op.bytesLess sp.toList s.toList = false := by simpa using hle
                  have HF : Hid (okNs l n = false) := by show okNs l n = false; rw [okNs, okEs_false l n k hlt (by rw [HE.out]; simp [less, hle', hk0])]; rfl
                  clear hk0 hcell hs hse hme hc hsp hge hle
                  go_wp2_with fail
                  refine (isFileName_any _ _ hss).mono ?_
                  rintro e w1 ⟨rfl, rfl⟩
                  go_wp2_with fail
                  go_quiet (fail)
                  go_wp2
                  go_ret
                  exact ⟨ret_bool HF.out.symm, below_drewN (hb.alloc hz _) _⟩
            · have HF : Hid (okNs l n = false) := by show okNs l n = false; rw [okNs, okEs_false l n k hlt (by rw [HE.out]; simp; omega)]; rfl
              clear hcell hs hse hme hc
              go_wp2_with fail
              refine (isFileName_any _ _ hss).mono ?_
              rintro e w1 ⟨rfl, rfl⟩
              go_wp2
              go_ret
              exact ⟨ret_bool HF.out.symm, hb.alloc hz _⟩
          · have HF : Hid (okNs l n = false) := by show okNs l n = false; rw [okNs, okEs_false l n k hlt (by rw [HE.out]; simp; omega)]; rfl
            clear hcell hs hse hme hc
            go_wp2_with fail
            refine (isFileName_any _ _ hss).mono ?_
            rintro e w1 ⟨rfl, rfl⟩
            go_wp2
            go_ret
            exact ⟨ret_bool HF.out.symm, hb.alloc hz _⟩
        · have h0' : okN s = false := by simpa using h0
          have HF : Hid (okNs l n = false) := by show okNs l n = false; rw [okNs, okEs_false l n k hlt (by rw [HE.out, h0']; rfl)]; rfl
          clear hcell hs hse hme hc h0
          go_wp2_with fail
          refine (isFileName_any _ _ hss).mono ?_
          rintro e w1 ⟨rfl, rfl⟩
          go_wp2
          go_ret
          exact ⟨ret_bool HF.out.symm, hb.alloc hz _⟩
      · have : k = l.length := by omega
        subst this
        have HF : Hid (okNs l n = true) := by show okNs l n = true; rw [okNs, HO.out]; simp; omega
        go_wp2
        go_ret
        exact ⟨ret_bool HF.out.symm, hb⟩
end Go.Proofs.Ytbgemebpfcbloaa
