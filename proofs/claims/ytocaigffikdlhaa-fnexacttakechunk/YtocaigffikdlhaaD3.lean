/-
  The cursor's among and of; spec.DrawVarBytes, spec.DrawTakeVar.
-/
import Derived.Test.YtocaigffikdlhaaD2
import Derived.Test.YtocaigffikdlhaaJ
namespace Go.Proofs.Ytocaigffikdlhaa
open Go.RowKit
set_option linter.unusedVariables false

set_option maxRecDepth 100000 in
set_option maxHeartbeats 1000000 in
theorem among_any (b : Nat) (l : List UInt8) (K g : Nat) (xs : List Int) (w : World) (h : Cur w b l K) (hl : l.length ≤ 9223372036854775807) (hK : K ≤ 10000000) (hx : Box w g (xs.map (Value.int .i64))) (hg : g ≠ b) (h0 : 0 < xs.length) (h1 : xs.length ≤ 1000) :
    Calls Try.prog 95 #[.pointer (some ⟨b, 0, none⟩), .slice (some ⟨g, 0, none⟩) xs.length xs.length] w fun e w' => (∃ x, e = .returned (.int .i64 x) ∧ x ∈ xs) ∧ Cur w' b l (K + 2) ∧ Chg (· = b) w w' := by
  go_enter Try.func95, Try.ntmps95
  go_wp2_with fail
  refine (pick_any b l K xs.length _ h hl (by omega) (by omega)).mono ?_
  rintro e w1 ⟨⟨x, rfl, hxl⟩, hc1, hch1⟩
  have hlt : x < xs.length := by omega
  have hx1 := hch1.box hx hg
  have d0 := hx1.2.1 x (.int .i64 xs[x]) (by simp [hlt])
  have hgl := hx1.1
  obtain ⟨y, hy⟩ : ∃ y, y = xs[x] := ⟨_, rfl⟩
  have hmem : Hid (y ∈ xs) := by rw [hy]; exact List.getElem_mem _
  rw [← hy] at d0
  clear hy hx hx1
  go_wp2
  go_ret
  exact ⟨⟨y, rfl, hmem.out⟩, hc1, hch1⟩

theorem varT_le (n : Int) (h : n ≤ 9223372036854775807) : (varT n).size ≤ 9 := by
  by_cases h0 : 0 ≤ n
  · obtain ⟨k, rfl⟩ := Int.eq_ofNat_of_zero_le h0
    rw [varT_nat]
    have := varL_len 8 k (by simpa using (show k < 9223372036854775808 from by omega))
    show (varL k).toArray.size ≤ 9
    simpa using this
  · rw [varT_neg n (by omega)]; exact Nat.zero_le _

end Go.Proofs.Ytocaigffikdlhaa
