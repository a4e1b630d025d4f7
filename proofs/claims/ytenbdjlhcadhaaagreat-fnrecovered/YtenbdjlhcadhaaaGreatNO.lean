/-
  laws.numberOf, spec.ReadFrames.
-/
import Derived.Test.YtenbdjlhcadhaaaGreatD2ToD5
import Derived.Test.YtenbdjlhcadhaaaGreatRV0ToH1
namespace Go.Proofs.YtenbdjlhcadhaaaGreat
open Go.RowKit
set_option linter.unusedVariables false
set_option maxRecDepth 100000

set_option maxRecDepth 100000 in
set_option maxHeartbeats 1000000 in
theorem numberOf_any (v : Value) (l : List UInt8) (w : World) (h : YL w v l) (hl : l.length ≤ 9223372036854775807) :
    Calls Tryz.prog 14 #[v] w fun e w' => (∃ x : Nat, e = .returned (.int .i64 x) ∧ x ≤ 1000003) ∧ w' = w := by
  obtain ⟨a, cap, rfl, hc⟩ := h
  go_enter Tryz.func14, Tryz.ntmps14
  go_wp2
  go_loopw [3, 8] (fun n i wr => ∃ (j x : Nat), j ≤ l.length ∧ i = .int .i64 j ∧ n = .int .i64 x ∧ x ≤ 1000003 ∧ wr = w) (fun _ i _ => l.length - (intOf i).toNat)
  case atStart => exact ⟨0, 0, by omega, rfl, rfl, by omega, rfl⟩
  case round =>
    obtain ⟨j, x, hj, rfl, rfl, hx, rfl⟩ := hrel
    by_cases hlt : j < l.length
    · obtain ⟨cb, off, rfl, hbl, hcell⟩ := hc (by intro e; simp [e] at hlt)
      obtain ⟨c, hce⟩ : ∃ c, c = l[j] := ⟨_, rfl⟩
      have hc0 : wr.cell? ⟨cb, off + j, none⟩ = some (.int .u8 (c.toNat : Int)) := by rw [hce]; exact hcell j hlt
      have hcl := c.toNat_lt
      clear hcell hce hc
      go_wp2
      go_roundw
      case rel => exact ⟨j + 1, (31 * x + c.toNat) % 1000003, by omega, by go_num, by go_num, by omega, trivial⟩
      case measure => simp [intOf]; omega
    · go_wp2
      go_ret
      exact ⟨⟨x, rfl, hx⟩, rfl⟩


theorem specReadFrames_any (s : ByteArray) (w : World) (hs : s.size ≤ 1048576) :
    Calls Tryz.prog 16 #[.string s] w fun e w' => ∃ v, e = .returned (.tuple #[v, .int .i64 (framesEnd s : Nat), .bool (((framesEnd s : Nat) : Int) == (s.size : Int))]) ∧ w'.ownsRow w.heap.size 9 1 v (framesOf s).length ((framesOf s).map Value.string) ∧ Below w.heap.size w w' := by
  go_enter Tryz.func16, Tryz.ntmps16
  go_wp2_with fail
  refine (l2Frames_any s _ hs).mono ?_
  rintro e w1 ⟨v, rfl, ho1, hb1⟩
  go_wp2
  go_ret3
  exact ⟨_, rfl, ho1, hb1⟩

end Go.Proofs.YtenbdjlhcadhaaaGreat
