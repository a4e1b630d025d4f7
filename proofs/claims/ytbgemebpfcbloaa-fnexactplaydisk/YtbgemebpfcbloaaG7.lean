/-
  spec.l1Names.
-/
import Derived.Test.YtbgemebpfcbloaaG6
import Derived.Deep.QuietTactic
import Derived.BigQuiet
namespace Go.Proofs.Ytbgemebpfcbloaa
open Go.RowKit
set_option linter.unusedVariables false

set_option maxHeartbeats 1000000 in
theorem l1Names_any (v : Value) (l : List (ByteArray × Int)) (n : Nat) (w : World) (hv : PL w v l) (hn : l.length ≤ 1048576) (hnn : n ≤ 1048576) (hs : ∀ i (h : i < l.length), l[i].1.size ≤ 1048576) :
    Calls Try.prog 59 #[v, .int .i64 n] w fun e w' => e = .returned (.bool (okNs l n)) ∧ Below w.heap.size w w' := by
  obtain ⟨a, cap, rfl, hc⟩ := hv
  go_enter Try.func59, Try.ntmps59
  go_wp2
  go_loopw [9] (fun i wr => ∃ k : Nat, k ≤ l.length ∧ i = .int .i64 k ∧ okEs l n k = true ∧ Below w.heap.size w wr) (fun i _ => l.length - (intOf i).toNat)
  case atStart => exact ⟨0, Nat.zero_le _, rfl, okEs_zero _ _, Below.refl _ _⟩
  case round =>
    obtain ⟨k, hk, rfl, hok, hb⟩ := hrel
    have HO : Hid (okEs l n k = true) := hok
    clear hok
    by_cases hlt : k < l.length
    · obtain ⟨b, off, rfl, hbl, hcell⟩ := hc (by intro e; simp [e] at hlt)
      obtain ⟨s, hse⟩ : ∃ s, s = l[k].1 := ⟨_, rfl⟩
      obtain ⟨m, hme⟩ : ∃ m, m = l[k].2 := ⟨_, rfl⟩
      have hc0 : wr.cell? ⟨b, off + k * 2, none⟩ = some (.string s) := by rw [hse]; exact (hb.cell (p := ⟨b, off + k * 2, none⟩) hbl).trans (hcell k hlt).1
      have hc1 : wr.cell? ⟨b, off + k * 2 + 1, none⟩ = some (.int .i64 m) := by rw [hme]; exact (hb.cell (p := ⟨b, off + k * 2 + 1, none⟩) hbl).trans (hcell k hlt).2
      have hss : s.size ≤ 1048576 := by rw [hse]; exact hs k hlt
      have hz := hb.size
      have hz1 : b < wr.heap.size := by omega
      have HE : Hid (okE l n k = (okN s && (decide (0 ≤ m) && decide (m ≤ n - 1)) && (decide (k = 0) || less (l.getD (k - 1) default).1 s))) := by
        show okE l n k = _
        rw [hse, hme]; simp only [okE, List.getD_eq_getElem?_getD, List.getElem?_eq_getElem hlt, Option.getD_some]
      by_cases h0 : okN s = true
      · by_cases h2 : (decide (0 ≤ m) && decide (m ≤ (n : Int) - 1)) = true
        · by_cases hk0 : k = 0
          · have hg : decide ((0 : Int) < (k : Int)) = false := by simp; omega
            have hg' : decide (0 < k) = false := by simp; omega
            have HN : Hid (okEs l n (k + 1) = true) := by show okEs l n (k + 1) = true; rw [okEs_succ, HO.out, HE.out, h0, h2]; simp [hk0]
            clear hk0 hcell hs hse hme hc
            go_wp2_with fail
            go_quiet ((first | (go_at_call 107; exact Calls.quiet_of_same (l1Name_any _ _ hss)) | (go_at_call 58; exact Calls.quiet_of_same (l1In_any _ _ _ _))))
            go_wp2
            go_roundw
            case rel => exact ⟨k + 1, by omega, by go_num, HN.out, below_drewN (hb.alloc hz _) _⟩
            case measure => simp [intOf]; omega
          · obtain ⟨sp, hsp⟩ : ∃ sp, sp = l[k - 1].1 := ⟨_, rfl⟩
            have hp0 : wr.cell? ⟨b, off + (k - 1) * 2, none⟩ = some (.string sp) := by rw [hsp]; exact (hb.cell (p := ⟨b, off + (k - 1) * 2, none⟩) hbl).trans (hcell (k - 1) (by omega)).1
            have hge : (l.getD (k - 1) default).1 = sp := by rw [hsp]; simp only [List.getD_eq_getElem?_getD, List.getElem?_eq_getElem (show k - 1 < l.length from by omega), Option.getD_some]
            rw [hge] at HE
            have hg : (0 : Int) < (k : Int) := by omega
            have hg1 : decide ((0 : Int) < (k : Int)) = true := by simp; omega
            have hg2 : decide (0 < k) = true := by simp; omega
            by_cases hle : Op.bytesLess sp.toList s.toList = true
            · have HN : Hid (okEs l n (k + 1) = true) := by show okEs l n (k + 1) = true; rw [okEs_succ, HO.out, HE.out, h0, h2]; simp [less, hle]
              clear hk0 hcell hs hse hme hc hsp hge
              go_wp2_with fail
              go_quiet ((first | (go_at_call 107; exact Calls.quiet_of_same (l1Name_any _ _ hss)) | (go_at_call 58; exact Calls.quiet_of_same (l1In_any _ _ _ _))))
              go_wp2
              go_roundw
              case rel => exact ⟨k + 1, by omega, by go_num, HN.out, below_drewN (hb.alloc hz _) _⟩
              case measure => simp [intOf]; omega
            · have hle' : Op.bytesLess sp.toList s.toList = false := by simpa using hle
              have HF : Hid (okNs l n = false) := by show okNs l n = false; rw [okNs, okEs_false l n k hlt (by rw [HE.out]; simp [less, hle', hk0])]; rfl
              clear hk0 hcell hs hse hme hc hsp hge hle
              go_wp2_with fail
              go_quiet ((first | (go_at_call 107; exact Calls.quiet_of_same (l1Name_any _ _ hss)) | (go_at_call 58; exact Calls.quiet_of_same (l1In_any _ _ _ _))))
              go_wp2
              go_ret
              exact ⟨ret_bool HF.out.symm, below_drewN (hb.alloc hz _) _⟩
        · have h2' : (decide (0 ≤ m) && decide (m ≤ (n : Int) - 1)) = false := by simpa using h2
          have HF : Hid (okNs l n = false) := by show okNs l n = false; rw [okNs, okEs_false l n k hlt (by rw [HE.out, h2']; simp)]; rfl
          clear hcell hs hse hme hc h2
          go_wp2_with fail
          go_quiet ((first | (go_at_call 107; exact Calls.quiet_of_same (l1Name_any _ _ hss)) | (go_at_call 58; exact Calls.quiet_of_same (l1In_any _ _ _ _))))
          go_wp2
          go_ret
          exact ⟨ret_bool HF.out.symm, below_drewN (hb.alloc hz _) _⟩
      · have h0' : okN s = false := by simpa using h0
        have HF : Hid (okNs l n = false) := by show okNs l n = false; rw [okNs, okEs_false l n k hlt (by rw [HE.out, h0']; rfl)]; rfl
        clear hcell hs hse hme hc h0
        go_wp2_with fail
        go_quiet ((first | (go_at_call 107; exact Calls.quiet_of_same (l1Name_any _ _ hss)) | (go_at_call 58; exact Calls.quiet_of_same (l1In_any _ _ _ _))))
        go_wp2
        go_ret
        exact ⟨ret_bool HF.out.symm, below_drewN (hb.alloc hz _) _⟩
    · have : k = l.length := by omega
      subst this
      have HF : Hid (okNs l n = decide ((l.length : Int) ≤ 20)) := by show okNs l n = _; rw [okNs, HO.out]; rfl
      go_wp2
      go_ret
      exact ⟨ret_bool HF.out.symm, hb⟩
end Go.Proofs.Ytbgemebpfcbloaa
