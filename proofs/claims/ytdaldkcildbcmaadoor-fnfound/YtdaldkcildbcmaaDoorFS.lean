/-
  A drawn list with towers: skip.
-/
import Derived.Test.YtdaldkcildbcmaaDoorFS0
import Derived.Deep.Cut
import Derived.Deep.CutRange
import Derived.Deep.CutBlock
import Derived.Deep.RegionHeld3
namespace Go.Proofs.YtdaldkcildbcmaaDoor
open Go.RowKit
set_option linter.unusedVariables false
set_option maxRecDepth 100000

def put2 (w : World) (b : Nat) (x1 x2 : Value) : World := (w.setCell ⟨b, 0, none⟩ x1).setCell ⟨b, 1, none⟩ x2
theorem put2_chg (w : World) (b : Nat) (x1 x2 : Value) : Chg (· = b) w (put2 w b x1 x2) := ((Chg.refl (· = b) w).setCell (p := ⟨b, 0, none⟩) rfl _).setCell (p := ⟨b, 1, none⟩) rfl _
theorem put2_box {w : World} {b : Nat} {y1 y2 : Value} (h : Box w b [y1, y2]) (x1 x2 : Value) : Box (put2 w b x1 x2) b [x1, x2] := (h.set 0 x1 (by simp)).set 1 x2 (by simp)
theorem Box.f2 {w : World} {b : Nat} {v0 v1 : Value} (h : Box w b [v0, v1]) : (w.frozen? ⟨b, 0, none⟩ = false ∧ w.frozen? ⟨b, 1, none⟩ = false) ∧ b < w.heap.size ∧ w.cell? ⟨b, 0, none⟩ = some v0 ∧ w.cell? ⟨b, 1, none⟩ = some v1 := ⟨⟨h.2.2 0, h.2.2 1⟩, h.c2⟩
theorem chg_out {S S' : Nat → Prop} {w a c : World} (h : Chg S w a) (h' : Chg S' a c) (hs : ∀ k, S' k → S k ∨ w.heap.size ≤ k) : Chg S w c :=
  ⟨h'.os.trans h.os, h'.tape.trans h.tape, h'.output.trans h.output, Nat.le_trans h.size h'.size, fun k hk hn => (h'.block k (Nat.lt_of_lt_of_le hk h.size) (fun e => (hs k e).elim hn (fun q => by omega))).trans (h.block k hk hn)⟩
set_option maxHeartbeats 8000000 in
theorem specNew_any (w : World) :
    Calls Tryd.prog 75 #[] w fun e w' => (∃ g c, e = .returned (.agg #[.slice (some ⟨g, 0, none⟩) 5 c, .slice none 0 0]) ∧ w'.ownsRow w.heap.size 3 1 (.slice (some ⟨g, 0, none⟩) 5 c) 5 (([-1, -1, -1, -1, -1] : List Int).map (.int .i64))) ∧ Below w.heap.size w w' := by
  obtain ⟨W0, hW0⟩ : ∃ W, W = (w.alloc (.cells #[.slice none 0 0, .slice none 0 0] 26)).alloc (.cells #[.slice none 0 0, .slice none 0 0] 26) := ⟨_, rfl⟩
  have hB : Below w.heap.size w W0 := by rw [hW0]; exact below2 _ _ _
  have R : Box W0 w.heap.size [.slice none 0 0, .slice none 0 0] := by rw [hW0]; exact (Box.new w #[.slice none 0 0, .slice none 0 0] 26).alloc _
  have X : Box W0 (w.heap.size + 1) [.slice none 0 0, .slice none 0 0] := by
    rw [hW0]
    have := Box.new (w.alloc (.cells #[.slice none 0 0, .slice none 0 0] 26)) #[.slice none 0 0, .slice none 0 0] 26
    simpa using this
  have hz0 : w.heap.size + 1 < W0.heap.size := by rw [hW0]; simp
  go_enter Tryd.func75, Tryd.ntmps75
  go_upto_region 2 with fail
  rw [← hW0]
  clear hW0
  go_wp2_with fail
  go_loopw [2] (fun i wr => ∃ (k : Nat) (hv : Value), k ≤ 5 ∧ i = .int .i64 k ∧ wr.ownsRow W0.heap.size 3 1 hv k ((List.replicate k (-1 : Int)).map (.int .i64)) ∧ Box wr (w.heap.size + 1) [hv, .slice none 0 0] ∧ Box wr w.heap.size [.slice none 0 0, .slice none 0 0] ∧ Below w.heap.size w wr ∧ W0.heap.size ≤ wr.heap.size) (fun i _ => 5 - (intOf i).toNat)
  case atStart => exact ⟨0, _, by omega, rfl, World.ownsRow_nil _ _ _ _, X, R, hB, Nat.le_refl _⟩
  case round =>
    clear X R hB
    obtain ⟨k, hv, hk, rfl, oH, X, R, hB, hzr⟩ := hrel
    obtain ⟨ha, hcp, rfl⟩ := slice_of oH
    by_cases hlt : k < 5
    · have hk5 : (k : Int) < 5 := by omega
      obtain ⟨⟨f0, f1⟩, xl, x0, x1⟩ := X.f2
      have hBA := below_alloc wr (.cells #[.int .i64 (-1)] 3)
      have V := Box.new wr #[.int .i64 (-1)] 3
      replace X := X.below hBA
      replace R := R.below hBA
      replace oH := owns_below oH hBA
      replace hB := below_then hB hBA
      have hzA : wr.heap.size < (wr.alloc (.cells #[.int .i64 (-1)] 3)).heap.size := by simp
      clear hBA
      go_wp2_with (at_builtin; refine StopA.go ?_)
      unfold StopA
      refine wpList_append_int1 _ rfl _ _ rfl rfl W0.heap.size _ k (List.replicate k (-1)) rfl oH wr.heap.size (-1) rfl V (by omega) (by omega) ?_
      intro v9 w9 o9 hgr9
      have hC9 : Chg _ _ _ := chg_of_grown hgr9
      have hge := fun g (hg : (Value.slice ha k hcp).ownBlock = some g) => owns_ge oH g hg
      have X9 := hC9.box X (fun e => by have := hge _ e; omega)
      have R9 := hC9.box R (fun e => by have := hge _ e; omega)
      have hB9 := hB.trans (hC9.below (B := w.heap.size) (by omega) (fun q hq => by have := hge _ hq; omega))
      have hz9 := hC9.size
      obtain ⟨va, vc, rfl⟩ := slice_of o9
      rw [show List.replicate k (-1 : Int) ++ [-1] = List.replicate (k + 1) (-1) from by rw [List.replicate_succ']] at o9
      obtain ⟨⟨g0, g1⟩, yl, y0, y1⟩ := X9.f2
      have X7 := X9.set 0 (.slice va (k + 1) vc) (by simp)
      have R7 := R9.setOther ⟨w.heap.size + 1, 0, none⟩ (.slice va (k + 1) vc) (by show w.heap.size + 1 ≠ w.heap.size; omega)
      have hCs : Chg (fun q => q = w.heap.size + 1) w9 (w9.setCell ⟨w.heap.size + 1, 0, none⟩ (.slice va (k + 1) vc)) := Chg.setCell (S := fun q => q = w.heap.size + 1) (Chg.refl _ _) (p := ⟨w.heap.size + 1, 0, none⟩) rfl _
      have o7 := hCs.owns o9 (fun q hq e => by have e : q = w.heap.size + 1 := e; have := owns_ge o9 q hq; omega)
      have hB7 := hB9.trans (hCs.below (B := w.heap.size) (by omega) (fun q e => by have e : q = w.heap.size + 1 := e; omega))
      have hz7 := hCs.size
      clear X R oH hB V hgr9 hC9 hge X9 R9 hB9 o9 hCs x0 x1 f0 f1 xl
      go_wp2_with fail
      go_roundw
      case rel => exact ⟨k + 1, _, by omega, by go_num, o7, X7, R7, hB7, by omega⟩
      case measure => simp [intOf]; omega
    · obtain rfl : k = 5 := by omega
      obtain ⟨g, rfl⟩ : ∃ g, ha = some ⟨g, 0, none⟩ := by
        rcases oH.2 with ⟨_, h0⟩ | ⟨g, c, cur, hv, _⟩
        · omega
        · simp only [Value.slice.injEq] at hv; exact ⟨g, hv.1⟩
      obtain ⟨⟨f0, f1⟩, xl, x0, x1⟩ := X.f2
      obtain ⟨⟨r0, r1⟩, rl, r2, r3⟩ := R.f2
      have hC7 := put2_chg wr w.heap.size (.slice (some ⟨g, 0, none⟩) 5 hcp) (.slice none 0 0)
      have R7 := put2_box R (.slice (some ⟨g, 0, none⟩) 5 hcp) (.slice none 0 0)
      obtain ⟨W7, hW7⟩ : ∃ W, W = put2 wr w.heap.size (.slice (some ⟨g, 0, none⟩) 5 hcp) (.slice none 0 0) := ⟨_, rfl⟩
      rw [← hW7] at hC7 R7
      have o7 := owns_lower (hC7.owns oH (fun q hq e => by have e : q = w.heap.size := e; have := owns_ge oH q hq; omega)) (show w.heap.size ≤ W0.heap.size from by omega)
      have HB7 : Hid (Below w.heap.size w W7) := hB.trans (hC7.below (B := w.heap.size) (by omega) (fun q e => by have e : q = w.heap.size := e; omega))
      obtain ⟨tl, t0, t1⟩ := R7.c2
      clear X R oH hB hC7 R7
      unfold put2 at hW7
      go_wp2_with fail
      rw [← hW7]
      exact bodyPost_ret (v := .agg #[.slice (some ⟨g, 0, none⟩) 5 hcp, .slice none 0 0]) (by simp [results, Tryd.results75, go_sem, t0, t1]) rfl ⟨⟨g, hcp, rfl, o7⟩, HB7.out⟩
end Go.Proofs.YtdaldkcildbcmaaDoor
