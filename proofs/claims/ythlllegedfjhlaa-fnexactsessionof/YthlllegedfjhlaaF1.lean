/-
  The specification's l14Session, l14Cell.
-/
import Derived.Test.YthlllegedfjhlaaF0
namespace Go.Proofs.Ythlllegedfjhlaa
open Go.RowKit
set_option linter.unusedVariables false
set_option maxRecDepth 100000

set_option maxHeartbeats 4000000 in
theorem l14Session_any (v : Value) (l : List Ss) (id : Int) (w : World) (hv : SR w v l) (hn : l.length ≤ 1048576) :
    Calls Try.prog 26 #[v, .int .i64 id] w fun e w' => e = .returned (.tuple #[.int .i64 (plc (fS id) l : Nat), .bool (hsS l id)]) ∧ Below w.heap.size w w' := by
  obtain ⟨a, cap, rfl, hc⟩ := hv
  obtain ⟨P, HP⟩ : ∃ P, Hid (plc (fS id) l = P) := ⟨plc (fS id) l, rfl⟩
  obtain ⟨R, HR⟩ : ∃ R, Hid (hsS l id = R) := ⟨hsS l id, rfl⟩
  rw [HP.out, HR.out]
  go_enter Try.func26, Try.ntmps26
  go_wp2
  go_loopw [6] (fun i wr => ∃ k : Nat, k ≤ l.length ∧ i = .int .i64 k ∧ (∀ j (h : j < l.length), j < k → (fS id) l[j] = true) ∧ wr = w) (fun i _ => l.length - (intOf i).toNat)
  case atStart => exact ⟨0, Nat.zero_le _, rfl, fun j _ h => by omega, rfl⟩
  case round =>
    obtain ⟨k, hk, rfl, hal, rfl⟩ := hrel
    have HA : Hid (∀ j (h : j < l.length), j < k → (fS id) l[j] = true) := hal
    clear hal
    by_cases hlt : k < l.length
    · obtain ⟨b, off, rfl, hbl, hcell⟩ := hc (by intro e; simp [e] at hlt)
      obtain ⟨s, hse⟩ : ∃ s, s = l[k] := ⟨_, rfl⟩
      have hc0 : wr.cell? ⟨b, off + k * 4, none⟩ = some (.int .i64 s.n) := by rw [hse]; exact (hcell k hlt).1
      have g1 : decide ((k : Int) < (l.length : Int)) = true := by simp; omega
      have g2 : decide (k < l.length) = true := by simp; omega
      cases hf : decide (s.n < id) with
      | true =>
        have HN : Hid (∀ j (h : j < l.length), j < k + 1 → (fS id) l[j] = true) := by
          intro j h hj
          rcases Nat.eq_or_lt_of_le (show j ≤ k from by omega) with hh | hh
          · subst hh; rw [← hse]; exact hf
          · exact HA.out j h hh
        clear hcell hse hc HA
        obtain ⟨sn, sd, sc, sv⟩ := s
        dsimp only at *
        go_wp2
        go_roundw
        case rel => exact ⟨k + 1, by omega, by go_num, HN.out, by first | rfl | trivial⟩
        case measure => simp [intOf]; omega
      | false =>
        have hp : plc (fS id) l = k := plc_one (fS id) l k hk HA.out fun h => by rw [← hse]; exact hf
        have HK : Hid (P = k) := by show _ = _; rw [← HP.out, hp]
        have HH : Hid ((s.n == id) = R) := by show _ = _; rw [← HR.out, hsS_at l id k hp hlt, hse]; rw [Bool.eq_iff_iff, beq_iff_eq, decide_eq_true_iff]
        clear hcell hse hc HA HP HR hp
        obtain ⟨sn, sd, sc, sv⟩ := s
        dsimp only at *
        cases hq : (sn == id) with
        | true =>
          rw [hq] at HH
          go_wp2_with fail
          go_quiet (fail)
          go_wp2
          go_ret2
          exact ⟨by rw [HK.out, ← HH.out]; simp, below_drewN (Below.refl _ _) _⟩
        | false =>
          rw [hq] at HH
          go_wp2_with fail
          go_quiet (fail)
          go_wp2
          go_ret2
          exact ⟨by rw [HK.out, ← HH.out]; simp, below_drewN (Below.refl _ _) _⟩
    · have hp : plc (fS id) l = k := plc_one (fS id) l k hk HA.out fun h => absurd h hlt
      have HK : Hid (P = k) := by show _ = _; rw [← HP.out, hp]
      have HH : Hid (R = false) := by show _ = _; rw [← HR.out, hsS_end l id k hp hlt]
      have g1 : decide ((k : Int) < (l.length : Int)) = false := by simp; omega
      have g2 : decide (k < l.length) = false := by simp; omega
      clear hc HA HP HR hp
      go_wp2_with fail
      go_quiet (fail)
      go_wp2
      go_ret2
      exact ⟨by rw [HK.out, HH.out]; simp, below_drewN (Below.refl _ _) _⟩
set_option maxHeartbeats 4000000 in
theorem l14Cell_any (v : Value) (l : List Pr) (key : ByteArray) (w : World) (hv : PR w v l) (hn : l.length ≤ 1048576) :
    Calls Try.prog 29 #[v, .string key] w fun e w' => e = .returned (.tuple #[.int .i64 (plc (fC key) l : Nat), .bool (hsC l key)]) ∧ Below w.heap.size w w' := by
  obtain ⟨a, cap, rfl, hc⟩ := hv
  obtain ⟨P, HP⟩ : ∃ P, Hid (plc (fC key) l = P) := ⟨plc (fC key) l, rfl⟩
  obtain ⟨R, HR⟩ : ∃ R, Hid (hsC l key = R) := ⟨hsC l key, rfl⟩
  rw [HP.out, HR.out]
  go_enter Try.func29, Try.ntmps29
  go_wp2
  go_loopw [6] (fun i wr => ∃ k : Nat, k ≤ l.length ∧ i = .int .i64 k ∧ (∀ j (h : j < l.length), j < k → (fC key) l[j] = true) ∧ wr = w) (fun i _ => l.length - (intOf i).toNat)
  case atStart => exact ⟨0, Nat.zero_le _, rfl, fun j _ h => by omega, rfl⟩
  case round =>
    obtain ⟨k, hk, rfl, hal, rfl⟩ := hrel
    have HA : Hid (∀ j (h : j < l.length), j < k → (fC key) l[j] = true) := hal
    clear hal
    by_cases hlt : k < l.length
    · obtain ⟨b, off, rfl, hbl, hcell⟩ := hc (by intro e; simp [e] at hlt)
      obtain ⟨s, hse⟩ : ∃ s, s = l[k] := ⟨_, rfl⟩
      have hc0 : wr.cell? ⟨b, off + k * 2, none⟩ = some (.string s.k) := by rw [hse]; exact (hcell k hlt).1
      have g1 : decide ((k : Int) < (l.length : Int)) = true := by simp; omega
      have g2 : decide (k < l.length) = true := by simp; omega
      cases hf : Op.bytesLess s.k.toList key.toList with
      | true =>
        have HN : Hid (∀ j (h : j < l.length), j < k + 1 → (fC key) l[j] = true) := by
          intro j h hj
          rcases Nat.eq_or_lt_of_le (show j ≤ k from by omega) with hh | hh
          · subst hh; rw [← hse]; exact hf
          · exact HA.out j h hh
        clear hcell hse hc HA
        obtain ⟨sk, sv⟩ := s
        dsimp only at *
        go_wp2
        go_roundw
        case rel => exact ⟨k + 1, by omega, by go_num, HN.out, by first | rfl | trivial⟩
        case measure => simp [intOf]; omega
      | false =>
        have hp : plc (fC key) l = k := plc_one (fC key) l k hk HA.out fun h => by rw [← hse]; exact hf
        have HK : Hid (P = k) := by show _ = _; rw [← HP.out, hp]
        have HH : Hid ((s.k.toList == key.toList) = R) := by show _ = _; rw [← HR.out, hsC_at l key k hp hlt, hse]
        clear hcell hse hc HA HP HR hp
        obtain ⟨sk, sv⟩ := s
        dsimp only at *
        cases hq : (sk.toList == key.toList) with
        | true =>
          rw [hq] at HH
          go_wp2_with fail
          go_quiet (fail)
          go_wp2
          go_ret2
          exact ⟨by rw [HK.out, ← HH.out]; simp, below_drewN (Below.refl _ _) _⟩
        | false =>
          rw [hq] at HH
          go_wp2_with fail
          go_quiet (fail)
          go_wp2
          go_ret2
          exact ⟨by rw [HK.out, ← HH.out]; simp, below_drewN (Below.refl _ _) _⟩
    · have hp : plc (fC key) l = k := plc_one (fC key) l k hk HA.out fun h => absurd h hlt
      have HK : Hid (P = k) := by show _ = _; rw [← HP.out, hp]
      have HH : Hid (R = false) := by show _ = _; rw [← HR.out, hsC_end l key k hp hlt]
      have g1 : decide ((k : Int) < (l.length : Int)) = false := by simp; omega
      have g2 : decide (k < l.length) = false := by simp; omega
      clear hc HA HP HR hp
      go_wp2_with fail
      go_quiet (fail)
      go_wp2
      go_ret2
      exact ⟨by rw [HK.out, HH.out]; simp, below_drewN (Below.refl _ _) _⟩
end Go.Proofs.Ythlllegedfjhlaa
