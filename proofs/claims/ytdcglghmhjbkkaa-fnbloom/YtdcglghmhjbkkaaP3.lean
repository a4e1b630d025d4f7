/-
  Filters: spec.PlacesOf; marks of no numbers.
-/
import Derived.Test.YtdcglghmhjbkkaaP2
namespace Go.Proofs.Ytdcglghmhjbkkaa
open Go.RowKit
set_option linter.unusedVariables false
set_option maxRecDepth 100000

set_option maxHeartbeats 1000000 in
theorem specPlaces_bad (s : ByteArray) (n : Int) (w : World) (hg : (goodK s && goodH n) = false) :
    Calls Try.prog 33 #[.string s, .int .i64 n] w fun e w' => e = .returned (.tuple #[.slice none 0 0, .bool false]) ∧ Below w.heap.size w w' := by
  have KK := fun w => l4Key_any s w
  have HH := fun w => l5Hashes_any n w
  generalize goodK s = k at *
  generalize goodH n = h at *
  cases k
  · go_enter Try.func33, Try.ntmps33
    go_wp2_with fail
    refine (KK _).mono ?_
    rintro e w1 ⟨rfl, hw⟩
    rw [hw]; clear hw KK HH
    go_wp2
    go_ret2
    exact ⟨rfl, Below.refl _ _⟩
  · obtain rfl : h = false := by simpa using hg
    go_enter Try.func33, Try.ntmps33
    go_wp2_with fail
    refine (KK _).mono ?_
    rintro e w1 ⟨rfl, hw⟩
    rw [hw]; clear hw
    go_wp2_with fail
    refine (HH _).mono ?_
    rintro e w1 ⟨rfl, hw⟩
    rw [hw]; clear hw KK HH
    go_wp2
    go_ret2
    exact ⟨rfl, Below.refl _ _⟩
set_option maxHeartbeats 1000000 in
theorem specPlaces_good (s : ByteArray) (nh : Nat) (w : World) (hk : goodK s = true) (h1 : 1 ≤ nh) (h8 : nh ≤ 8) :
    Calls Try.prog 33 #[.string s, .int .i64 (nh : Int)] w fun e w' => ∃ v, e = .returned (.tuple #[v, .bool true]) ∧ w'.ownsRow w.heap.size 3 1 v nh ((plZ s nh).map (.int .i64)) ∧ Below w.heap.size w w' := by
  have KK := fun w => l4Key_any s w
  have HH := fun w => l5Hashes_any (nh : Int) w
  rw [hk] at KK
  rw [goodH_of nh h1 h8] at HH
  go_enter Try.func33, Try.ntmps33
  go_wp2_with fail
  refine (KK _).mono ?_
  rintro e w1 ⟨rfl, hw⟩
  rw [hw]; clear hw
  go_wp2_with fail
  refine (HH _).mono ?_
  rintro e w1 ⟨rfl, hw⟩
  rw [hw]; clear hw KK HH
  go_wp2_with fail
  refine (l5Places_any s nh _ hk h8).mono ?_
  rintro e w1 ⟨v, rfl, ho, hb⟩
  go_wp2
  go_ret2
  exact ⟨_, rfl, ho, hb⟩
theorem markIntS_nil (k : Int) (w : World) : Calls Try.prog 35 #[.slice none 0 0, .int .i64 k] w fun e w' => e = .returned (.int .i64 k) ∧ w' = w := by
  go_enter Try.func35, Try.ntmps35
  go_wp2
  go_loopw [1, 5] (fun t i wr => t = .int .i64 k ∧ i = .int .i64 0 ∧ wr = w) (fun _ _ _ => 0)
  case atStart => exact ⟨rfl, rfl, rfl⟩
  case round =>
    obtain ⟨rfl, rfl, rfl⟩ := hrel
    go_wp2
    go_ret
    exact ⟨rfl, rfl⟩
theorem heldIntS_nil (k : Int) (w : World) : Calls Try.prog 36 #[.slice none 0 0, .int .i64 k] w fun e w' => e = .returned (.int .i64 k) ∧ w' = w := by
  go_enter Try.func36, Try.ntmps36
  go_wp2
  go_loopw [1, 5] (fun t i wr => t = .int .i64 k ∧ i = .int .i64 0 ∧ wr = w) (fun _ _ _ => 0)
  case atStart => exact ⟨rfl, rfl, rfl⟩
  case round =>
    obtain ⟨rfl, rfl, rfl⟩ := hrel
    go_wp2
    go_ret
    exact ⟨rfl, rfl⟩
theorem IL_nil (w : World) : IL w (.slice none 0 0) [] := ⟨none, 0, rfl, fun h => absurd rfl h⟩
theorem owns_lt' {w : World} {base e s n : Nat} {v : Value} {xs : List Value} (h : w.ownsRow base e s v n xs) : ∀ g, v.ownBlock = some g → g < w.heap.size := by
  intro g hg
  rcases h.2 with ⟨rfl, _⟩ | ⟨g', cap, cur, rfl, hb, hh, _⟩
  · simp [Value.ownBlock] at hg
  · simp only [Value.ownBlock, Option.some.injEq] at hg
    subst hg
    exact (Array.getElem?_eq_some_iff.1 hh).1
/-- A row that was made, as a box. -/
theorem box_of_owns {w : World} {base e g n c : Nat} {xs : List Value} (h : w.ownsRow base e 1 (.slice (some ⟨g, 0, none⟩) n c) n xs) (hl : xs.length = n) : Box w g xs :=
  ⟨(owns_lt h).2, fun j v hv => by
    have hj := (List.getElem?_eq_some_iff.1 hv).1
    rw [h.cellAt j (by omega)]; exact hv, fun j => h.frozenAt _⟩
end Go.Proofs.Ytdcglghmhjbkkaa
