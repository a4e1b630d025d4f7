/-
  Numbers marked and held: markIntS, heldIntS.
-/
import Derived.Test.YtcjkdkaahkphfaaDoorO3
namespace Go.Proofs.YtcjkdkaahkphfaaDoor
open Go.RowKit
set_option linter.unusedVariables false
set_option maxRecDepth 100000

def mkI (k : Int) (n : Nat) : List Value := (List.range n).map fun i : Nat => .int .i64 (k + (i : Int))
theorem mkI_length (k : Int) (n : Nat) : (mkI k n).length = n := by simp [mkI]
theorem mkI_at (k : Int) (n i : Nat) (h : i < n) : (mkI k n)[i]? = some (.int .i64 (k + (i : Int))) := by simp [mkI, h]
def mkJ (l : List Value) (k : Int) (j : Nat) : List Value := (mkI k l.length).take j ++ l.drop j
theorem mkJ_length (l : List Value) (k : Int) (j : Nat) (h : j ≤ l.length) : (mkJ l k j).length = l.length := by
  unfold mkJ
  rw [List.length_append, List.length_take, List.length_drop, mkI_length]; omega
theorem mkJ_set (l : List Value) (k : Int) (j : Nat) (h : j < l.length) : (mkJ l k j).set j (.int .i64 (k + (j : Int))) = mkJ l k (j + 1) := by
  unfold mkJ
  have h1 : ((mkI k l.length).take j).length = j := by rw [List.length_take, mkI_length]; omega
  have h2 : (mkI k l.length)[j]'(by rw [mkI_length]; exact h) = .int .i64 (k + (j : Int)) := by simp [mkI]
  rw [List.set_append_right _ _ (by omega), h1, Nat.sub_self, List.take_succ_eq_append_getElem (by rw [mkI_length]; exact h), h2, List.drop_eq_getElem_cons h, List.set_cons_zero, List.append_assoc]
  rfl
theorem mkJ_all (l : List Value) (k : Int) : mkJ l k l.length = mkI k l.length := by
  unfold mkJ
  rw [List.take_of_length_le (by rw [mkI_length]; omega), List.drop_eq_nil_of_le (by omega), List.append_nil]

set_option maxHeartbeats 1000000 in
theorem markIntS_any (g cap n : Nat) (l : List Value) (k : Int) (w : World) (hx : Box w g l) (hl : l.length = n) (hn : n ≤ 1048576) (hk0 : 0 ≤ k) (hk1 : k ≤ 1073741824) :
    Calls Tryd.prog 31 #[.slice (some ⟨g, 0, none⟩) n cap, .int .i64 k] w fun e w' => e = .returned (.int .i64 (k + n)) ∧ Box w' g (mkI k n) ∧ Chg (· = g) w w' := by
  subst hl
  go_enter Tryd.func31, Tryd.ntmps31
  go_wp2
  go_loopw [1, 5] (fun t i wr => ∃ j : Nat, j ≤ l.length ∧ i = .int .i64 j ∧ t = .int .i64 (k + j) ∧ Box wr g (mkJ l k j) ∧ Chg (· = g) w wr) (fun _ i _ => l.length - (intOf i).toNat)
  case atStart => exact ⟨0, Nat.zero_le _, rfl, by simp, by simpa [mkJ] using hx, Chg.refl _ _⟩
  case round =>
    clear hx
    obtain ⟨j, hj, rfl, rfl, hbx, hch⟩ := hrel
    by_cases hlt : j < l.length
    · have HL : Hid ((mkJ l k j).length = l.length) := mkJ_length l k j hj
      have HN : Hid ((mkJ l k j).set j (.int .i64 (k + (j : Int))) = mkJ l k (j + 1)) := mkJ_set l k j hlt
      have hgl := hbx.1
      have d0 : wr.cell? ⟨g, j, none⟩ = some ((mkJ l k j)[j]'(by rw [HL.out]; exact hlt)) := hbx.2.1 j _ (List.getElem?_eq_getElem _)
      have f0 := hbx.2.2 j
      have HB : Hid (Box (wr.setCell ⟨g, j, none⟩ (.int .i64 (k + (j : Int)))) g (mkJ l k (j + 1))) := by
        rw [← HN.out]; exact hbx.set j _ (by rw [HL.out]; exact hlt)
      generalize (mkJ l k j)[j]'(by rw [HL.out]; exact hlt) = old at d0
      clear hbx HN HL
      go_wp2
      go_roundw
      case rel => exact ⟨j + 1, by omega, by go_num, by go_num, HB.out, hch.setCell rfl _⟩
      case measure => simp [intOf]; omega
    · obtain rfl : j = l.length := by omega
      rw [mkJ_all l] at hbx
      go_wp2
      go_ret
      exact ⟨rfl, hbx, hch⟩

set_option maxHeartbeats 1000000 in
theorem heldIntS_any (g cap n : Nat) (k : Int) (w : World) (hx : Box w g (mkI k n)) (hn : n ≤ 1048576) (hk0 : 0 ≤ k) (hk1 : k ≤ 1073741824) :
    Calls Tryd.prog 33 #[.slice (some ⟨g, 0, none⟩) n cap, .int .i64 k] w fun e w' => e = .returned (.int .i64 (k + n)) ∧ w' = w := by
  go_enter Tryd.func33, Tryd.ntmps33
  go_wp2
  go_loopw [1, 5] (fun t i wr => ∃ j : Nat, j ≤ n ∧ i = .int .i64 j ∧ t = .int .i64 (k + j) ∧ wr = w) (fun _ i _ => n - (intOf i).toNat)
  case atStart => exact ⟨0, Nat.zero_le _, rfl, by simp, rfl⟩
  case round =>
    obtain ⟨j, hj, rfl, rfl, rfl⟩ := hrel
    by_cases hlt : j < n
    · have d0 := hx.2.1 j _ (mkI_at k n j hlt)
      have hgl := hx.1
      clear hx
      go_wp2
      go_roundw
      case rel => exact ⟨j + 1, by omega, by go_num, by go_num, trivial⟩
      case measure => simp [intOf]; omega
    · obtain rfl : j = n := by omega
      go_wp2
      go_ret
      exact ⟨rfl, rfl⟩
end Go.Proofs.YtcjkdkaahkphfaaDoor
