/-
  Slices of 256 words: eqUint32S, markUint32S, heldUint32S.
-/
import Derived.Test.YtpjicnjihkknnaaS2
import Derived.Test.YtpjicnjihkknnaaE
import Derived.Deep.QuietTactic
import Derived.BigQuiet
namespace Go.Proofs.Ytpjicnjihkknnaa
open Go.RowKit
set_option linter.unusedVariables false

theorem Box_of_row {w : World} {g : Nat} {cs : Array Value} {t : TypeId} (h : w.heap[g]? = some (.cells cs t)) : Box w g cs.toList := by
  refine ⟨(Array.getElem?_eq_some_iff.1 h).1, fun j v hv => ?_, fun j => ?_⟩
  · rw [cell_of_row _ _ _ _ _ _ h]; simpa using hv
  · simp [World.frozen?, h]
theorem TL_of_box {w : World} {g : Nat} (h : Box w g tblL) : TL w (.slice (some ⟨g, 0, none⟩) 256 256) := ⟨g, rfl, h.1, fun i hi => h.2.1 i _ (tblL_at i hi)⟩
theorem TL.below {w w' : World} {v : Value} (h : TL w v) (hb : Below w.heap.size w w') : TL w' v := by
  obtain ⟨g, rfl, hg, hc⟩ := h
  exact ⟨g, rfl, Nat.lt_of_lt_of_le hg hb.size, fun i hi => (hb.cell (p := ⟨g, i, none⟩) hg).trans (hc i hi)⟩

set_option maxRecDepth 100000 in
set_option maxHeartbeats 400000 in
theorem eqUint32S_same (u v : Value) (w : World) (hu : TL w u) (hv : TL w v) :
    Calls Try.prog 30 #[u, v] w fun e w' => e = .returned (.bool true) ∧ Below w.heap.size w w' := by
  obtain ⟨b, rfl, hbl, hc⟩ := hu
  obtain ⟨b', rfl, hbl', hc'⟩ := hv
  go_enter Try.func30, Try.ntmps30
  go_wp2
  go_loopw [5] (fun i wr => ∃ k : Nat, k ≤ 256 ∧ i = .int .i64 k ∧ Below w.heap.size w wr) (fun i _ => 256 - (intOf i).toNat)
  case atStart => exact ⟨0, Nat.zero_le _, rfl, Below.refl _ _⟩
  case round =>
    obtain ⟨k, hk, rfl, hb⟩ := hrel
    by_cases hlt : k < 256
    · have hc0 : wr.cell? ⟨b, k, none⟩ = some (.int .u32 ((ct k : Nat) : Int)) := (hb.cell (p := ⟨b, k, none⟩) hbl).trans (hc k hlt)
      have hd0 : wr.cell? ⟨b', k, none⟩ = some (.int .u32 ((ct k : Nat) : Int)) := (hb.cell (p := ⟨b', k, none⟩) hbl').trans (hc' k hlt)
      generalize ct k = c at *
      clear hc hc'
      go_wp2_with fail
      go_quiet (fail)
      go_wp2
      go_roundw
      case rel => exact ⟨k + 1, by omega, by go_num, below_drewN hb _⟩
      case measure => simp [intOf]; omega
    · go_wp2
      go_ret
      exact ⟨rfl, hb⟩

/-- Marks. -/
def mkW : List Value := (List.range 256).map fun i : Nat => .int .u32 (1 + (i : Int))
theorem mkW_at (i : Nat) (h : i < 256) : mkW[i]? = some (.int .u32 (1 + (i : Int))) := by simp [mkW, h]
theorem mkW_length : mkW.length = 256 := by simp [mkW]
def mkU (l : List Value) (j : Nat) : List Value := mkW.take j ++ l.drop j
theorem mkU_length (l : List Value) (j : Nat) (hl : l.length = 256) (h : j ≤ 256) : (mkU l j).length = 256 := by
  unfold mkU
  rw [List.length_append, List.length_take, List.length_drop, mkW_length]; omega
theorem mkU_set (l : List Value) (j : Nat) (hl : l.length = 256) (h : j < 256) : (mkU l j).set j (.int .u32 (1 + (j : Int))) = mkU l (j + 1) := by
  unfold mkU
  have h1 : (mkW.take j).length = j := by rw [List.length_take, mkW_length]; omega
  have h2 : mkW[j]'(by rw [mkW_length]; exact h) = .int .u32 (1 + (j : Int)) := by simp [mkW]
  rw [List.set_append_right _ _ (by omega), h1, Nat.sub_self, List.take_succ_eq_append_getElem (by rw [mkW_length]; exact h), h2, List.drop_eq_getElem_cons (show j < l.length from by omega), List.set_cons_zero, List.append_assoc]
  rfl
theorem mkU_all (l : List Value) (hl : l.length = 256) : mkU l 256 = mkW := by
  unfold mkU
  rw [List.take_of_length_le (by rw [mkW_length]; omega), List.drop_eq_nil_of_le (by omega), List.append_nil]

set_option maxRecDepth 100000 in
set_option maxHeartbeats 1000000 in
theorem markUint32S_any (g : Nat) (l : List Value) (w : World) (hx : Box w g l) (hl : l.length = 256) :
    Calls Try.prog 31 #[.slice (some ⟨g, 0, none⟩) 256 256, .int .i64 1] w fun e w' => e = .returned (.int .i64 257) ∧ Box w' g mkW ∧ Chg (· = g) w w' := by
  go_enter Try.func31, Try.ntmps31
  go_wp2
  go_loopw [1, 5] (fun t i wr => ∃ j : Nat, j ≤ 256 ∧ i = .int .i64 j ∧ t = .int .i64 (1 + j) ∧ Box wr g (mkU l j) ∧ Chg (· = g) w wr) (fun _ i _ => 256 - (intOf i).toNat)
  case atStart => exact ⟨0, Nat.zero_le _, rfl, by go_num, by simpa [mkU] using hx, Chg.refl _ _⟩
  case round =>
    clear hx
    obtain ⟨j, hj, rfl, rfl, hbx, hch⟩ := hrel
    by_cases hlt : j < 256
    · have HL : Hid ((mkU l j).length = 256) := mkU_length l j hl hj
      have HN : Hid ((mkU l j).set j (.int .u32 (1 + (j : Int))) = mkU l (j + 1)) := mkU_set l j hl hlt
      have hgl := hbx.1
      have d0 : wr.cell? ⟨g, j, none⟩ = some ((mkU l j)[j]'(by rw [HL.out]; exact hlt)) := hbx.2.1 j _ (List.getElem?_eq_getElem _)
      have f0 := hbx.2.2 j
      have HB : Hid (Box (wr.setCell ⟨g, j, none⟩ (.int .u32 (1 + (j : Int)))) g (mkU l (j + 1))) := by
        rw [← HN.out]; exact hbx.set j _ (by rw [HL.out]; exact hlt)
      generalize (mkU l j)[j]'(by rw [HL.out]; exact hlt) = old at d0
      clear hbx HN HL
      go_wp2
      go_roundw
      case rel => exact ⟨j + 1, by omega, by go_num, by go_num, HB.out, hch.setCell rfl _⟩
      case measure => simp [intOf]; omega
    · obtain rfl : j = 256 := by omega
      rw [mkU_all l hl] at hbx
      go_wp2
      go_ret
      exact ⟨rfl, hbx, hch⟩

set_option maxRecDepth 100000 in
set_option maxHeartbeats 1000000 in
theorem heldUint32S_any (g : Nat) (w : World) (hx : Box w g mkW) :
    Calls Try.prog 32 #[.slice (some ⟨g, 0, none⟩) 256 256, .int .i64 1] w fun e w' => e = .returned (.int .i64 257) ∧ w' = w := by
  go_enter Try.func32, Try.ntmps32
  go_wp2
  go_loopw [1, 5] (fun t i wr => ∃ j : Nat, j ≤ 256 ∧ i = .int .i64 j ∧ t = .int .i64 (1 + j) ∧ wr = w) (fun _ i _ => 256 - (intOf i).toNat)
  case atStart => exact ⟨0, Nat.zero_le _, rfl, by go_num, rfl⟩
  case round =>
    obtain ⟨j, hj, rfl, rfl, rfl⟩ := hrel
    by_cases hlt : j < 256
    · have d0 := hx.2.1 j _ (mkW_at j hlt)
      have hgl := hx.1
      clear hx
      go_wp2
      go_roundw
      case rel => exact ⟨j + 1, by omega, by go_num, by go_num, trivial⟩
      case measure => simp [intOf]; omega
    · obtain rfl : j = 256 := by omega
      go_wp2
      go_ret
      exact ⟨rfl, rfl⟩
end Go.Proofs.Ytpjicnjihkknnaa
