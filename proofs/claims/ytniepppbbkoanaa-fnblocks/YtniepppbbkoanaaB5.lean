/-
  BlockBytes, both.
-/
import Derived.Test.YtniepppbbkoanaaB4
namespace Go.Proofs.Ytniepppbbkoanaa
open Go.RowKit
set_option linter.unusedVariables false
set_option maxRecDepth 100000

/-- What BlockBytes answers. -/
def okBlk (l : List It) : Bool := goodR l && decide (l.length ≤ 40)
def blkF (l : List It) : ByteArray := if okBlk l then tx (blkL l) else ⟨#[]⟩

set_option maxHeartbeats 1000000 in
theorem implBlk_any (v : Value) (l : List It) (w : World) (hv : IR w v l) (hn : l.length ≤ 1048576) (hs : ∀ i (h : i < l.length), l[i].k.size ≤ 1048576 ∧ l[i].v.size ≤ 1048576) :
    Calls Try.prog 13 #[v] w fun e w' => e = .returned (.tuple #[.string (blkF l), .bool (okBlk l)]) ∧ Below w.heap.size w w' := by
  cases hok : okBlk l with
  | true =>
    have h := hok
    unfold okBlk at h
    rw [Bool.and_eq_true, decide_eq_true_eq] at h
    unfold blkF
    rw [if_pos hok]
    exact implBlock_yes v l w hv h.2 h.1
  | false =>
    have HF : Hid (blkF l = ⟨#[]⟩) := by show _ = _; unfold blkF; rw [if_neg (by rw [hok]; simp)]
    generalize blkF l = R at *
    have G := fun w h => implRun_any v l w h hn hs
    unfold okBlk at hok
    obtain ⟨a, cap, rfl, hc0⟩ := hv
    have hv : IR w (.slice a l.length cap) l := ⟨a, cap, rfl, hc0⟩
    clear hc0 hs
    by_cases h40 : l.length ≤ 40
    · rw [decide_eq_true h40, Bool.and_true] at hok
      rw [hok] at G
      clear hok
      go_enter Try.func13, Try.ntmps13
      go_wp2_with fail
      refine (G _ hv).mono ?_
      rintro e w1 ⟨rfl, hb1⟩
      clear G hv
      go_wp2
      go_ret2
      exact ⟨by rw [HF.out]; rfl, hb1⟩
    · clear G hv hok
      go_enter Try.func13, Try.ntmps13
      go_wp2
      go_ret2
      exact ⟨by rw [HF.out]; rfl, Below.refl _ _⟩

set_option maxHeartbeats 1000000 in
theorem specBlk_any (v : Value) (l : List It) (w : World) (hv : IR w v l) (hn : l.length ≤ 1048576) (hs : ∀ i (h : i < l.length), l[i].k.size ≤ 1048576 ∧ l[i].v.size ≤ 1048576) :
    Calls Try.prog 14 #[v] w fun e w' => e = .returned (.tuple #[.string (blkF l), .bool (okBlk l)]) ∧ Below w.heap.size w w' := by
  have G := fun w h => specRun_any v l w h hn hs
  have K := fun w h a b => l6Block_any v l w h a b
  obtain ⟨a, cap, rfl, hc0⟩ := hv
  have hv : IR w (.slice a l.length cap) l := ⟨a, cap, rfl, hc0⟩
  clear hc0 hs
  cases hg : goodR l with
  | false =>
    have hok : okBlk l = false := by unfold okBlk; rw [hg]; rfl
    have HF : Hid (blkF l = ⟨#[]⟩) := by show _ = _; unfold blkF; rw [if_neg (by rw [hok]; simp)]
    rw [hg] at G
    rw [hok]
    clear hok hg K
    generalize blkF l = R at *
    go_enter Try.func14, Try.ntmps14
    go_wp2_with fail
    refine (G _ hv).mono ?_
    rintro e w1 ⟨rfl, hb1⟩
    clear G hv
    go_wp2
    go_ret2
    exact ⟨by rw [HF.out]; rfl, hb1⟩
  | true =>
    rw [hg] at G
    by_cases h40 : l.length ≤ 40
    · have hok : okBlk l = true := by unfold okBlk; rw [hg, decide_eq_true h40]; rfl
      have HF : Hid (blkF l = tx (blkL l)) := by show _ = _; unfold blkF; rw [if_pos hok]
      have K1 := fun w h => K w h h40 hg
      rw [hok]
      clear hok hg K
      generalize blkF l = R at *
      generalize tx (blkL l) = T at *
      go_enter Try.func14, Try.ntmps14
      go_wp2_with fail
      refine (G _ hv).mono ?_
      rintro e w1 ⟨rfl, hb1⟩
      have hv1 := hv.below hb1
      clear G hv
      go_wp2_with fail
      refine (K1 _ hv1).mono ?_
      rintro e w2 ⟨rfl, hb2⟩
      have hB2 := below_then hb1 hb2
      clear K1 hv1 hb1 hb2
      go_wp2
      go_ret2
      exact ⟨by rw [HF.out]; rfl, hB2⟩
    · have hok : okBlk l = false := by unfold okBlk; rw [hg, decide_eq_false h40]; rfl
      have HF : Hid (blkF l = ⟨#[]⟩) := by show _ = _; unfold blkF; rw [if_neg (by rw [hok]; simp)]
      rw [hok]
      clear hok hg K
      generalize blkF l = R at *
      go_enter Try.func14, Try.ntmps14
      go_wp2_with fail
      refine (G _ hv).mono ?_
      rintro e w1 ⟨rfl, hb1⟩
      clear G hv
      go_wp2
      go_ret2
      exact ⟨by rw [HF.out]; rfl, hb1⟩
end Go.Proofs.Ytniepppbbkoanaa
