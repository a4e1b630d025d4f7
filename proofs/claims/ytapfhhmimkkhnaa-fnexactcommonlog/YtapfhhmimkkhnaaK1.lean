/-
  What most have is committed: holdersOf, committing; l11Commit.
-/
import Derived.Test.YtapfhhmimkkhnaaC1ToI1
namespace Go.Proofs.Ytapfhhmimkkhnaa
open Go.RowKit
set_option linter.unusedVariables false
set_option maxRecDepth 100000

/-- How many are at x or beyond. -/
def cI (x : Int) : List Int → Nat
  | [] => 0
  | m :: r => (if x ≤ m then 1 else 0) + cI x r
theorem cI_drop (x : Int) (l : List Int) (k : Nat) (h : k < l.length) : cI x (l.drop k) = (if x ≤ l[k] then 1 else 0) + cI x (l.drop (k + 1)) := by
  rw [List.drop_eq_getElem_cons h]; rfl
theorem cI_le (x : Int) (l : List Int) : cI x l ≤ l.length := by
  induction l with
  | nil => simp [cI]
  | cons m r ih => simp only [cI, List.length_cons]; split <;> omega
/-- The commit: the greatest index above co that most have, of the own term. -/
def comTo (te pe co : Int) (log : List En) (mt : List Int) : Nat → Int
  | 0 => co
  | k + 1 => if co < ((k + 1 : Nat) : Int) then (if (log.getD k En.zero).t = te ∧ pe < 2 * (cI ((k + 1 : Nat) : Int) mt : Int) then ((k + 1 : Nat) : Int) else comTo te pe co log mt k) else co
theorem comTo_low (te pe co : Int) (log : List En) (mt : List Int) (k : Nat) (h : ¬ co < (k : Int)) : comTo te pe co log mt k = co := by
  cases k with
  | zero => rfl
  | succ k => simp only [comTo]; rw [if_neg h]
theorem comTo_hit (te pe co : Int) (log : List En) (mt : List Int) (k : Nat) (hk : k < log.length) (h : co < ((k + 1 : Nat) : Int)) (h1 : log[k].t = te) (h2 : pe < 2 * (cI ((k + 1 : Nat) : Int) mt : Int)) : comTo te pe co log mt (k + 1) = ((k + 1 : Nat) : Int) := by
  simp only [comTo]; rw [if_pos h, if_pos ⟨by simp [hk, h1], h2⟩]
theorem comTo_miss (te pe co : Int) (log : List En) (mt : List Int) (k : Nat) (hk : k < log.length) (h : co < ((k + 1 : Nat) : Int)) (h1 : ¬ (log[k].t = te ∧ pe < 2 * (cI ((k + 1 : Nat) : Int) mt : Int))) : comTo te pe co log mt (k + 1) = comTo te pe co log mt k := by
  simp only [comTo]; rw [if_pos h, if_neg (by simpa [hk] using h1)]

set_option maxHeartbeats 4000000 in
theorem holdersOf_any (id pe te vo co ro : Int) (vl vv vm : Value) (log : List En) (vs mt : List Int) (x : Int) (w : World) (hl : ER w vl log) (hv : IL w vv vs) (hm : IL w vm mt) (nm : mt.length ≤ 1048576) :
    Calls Try.prog 114 #[.agg #[.int .i64 id, .int .i64 pe, .int .i64 te, .int .i64 vo, vl, .int .i64 co, .int .i64 ro, vv, vm], .int .i64 x] w fun e w' => e = .returned (.int .i64 (cI x mt)) ∧ Below w.heap.size w w' := by
  obtain ⟨la, lc, rfl, hlc⟩ := hl
  obtain ⟨va, vc, rfl, hvc⟩ := hv
  obtain ⟨ma, mc, rfl, hmc⟩ := hm
  have hB := below_alloc w (.cells #[.int .i64 id, .int .i64 pe, .int .i64 te, .int .i64 vo, .slice la log.length lc, .int .i64 co, .int .i64 ro, .slice va vs.length vc, .slice ma mt.length mc] 26)
  have X := Box.new w #[.int .i64 id, .int .i64 pe, .int .i64 te, .int .i64 vo, .slice la log.length lc, .int .i64 co, .int .i64 ro, .slice va vs.length vc, .slice ma mt.length mc] 26
  obtain ⟨W0, hW0⟩ : ∃ W0, W0 = w.alloc (.cells #[.int .i64 id, .int .i64 pe, .int .i64 te, .int .i64 vo, .slice la log.length lc, .int .i64 co, .int .i64 ro, .slice va vs.length vc, .slice ma mt.length mc] 26) := ⟨_, rfl⟩
  rw [← hW0] at hB X
  obtain ⟨hxl, x0, x1, x2, x3, x4, x5, x6, x7, x8⟩ := X.e9
  clear hlc hvc
  go_enter Try.func114, Try.ntmps114
  go_wp2
  rw [← hW0]; clear hW0
  go_loopw [5, 11] (fun z i wr => ∃ k n : Nat, k ≤ mt.length ∧ i = .int .i64 k ∧ z = .int .i64 n ∧ n + cI x (mt.drop k) = cI x mt ∧ n ≤ k ∧ wr = W0) (fun _ i _ => mt.length - (intOf i).toNat)
  case atStart => exact ⟨0, 0, Nat.zero_le _, rfl, rfl, by simp, Nat.le_refl _, rfl⟩
  case round =>
    obtain ⟨k, n, hk, rfl, rfl, hg, hnk, rfl⟩ := hrel
    by_cases hlt : k < mt.length
    · obtain ⟨b, off, rfl, hbl, hcell⟩ := hmc (by intro e; simp [e] at hlt)
      have hc0 := (hB.cell (p := ⟨b, off + k, none⟩) hbl).trans (hcell k hlt)
      have HD : Hid (n + ((if x ≤ mt[k] then 1 else 0) + cI x (mt.drop (k + 1))) = cI x mt) := by show _ = _; rw [← cI_drop x mt k hlt]; exact hg
      clear hcell hmc hg
      generalize mt[k] = s at *
      by_cases hx : x ≤ s
      · have HD2 : Hid (n + 1 + cI x (mt.drop (k + 1)) = cI x mt) := by show _ = _; rw [← HD.out, if_pos hx]; omega
        clear HD
        go_wp2
        go_roundw
        case rel => exact ⟨k + 1, n + 1, by omega, by go_num, by go_num, HD2.out, by omega, by first | rfl | trivial⟩
        case measure => simp [intOf]; omega
      · have HD2 : Hid (n + cI x (mt.drop (k + 1)) = cI x mt) := by show _ = _; rw [← HD.out, if_neg hx]; omega
        clear HD
        go_wp2
        go_roundw
        case rel => exact ⟨k + 1, n, by omega, by go_num, by go_num, HD2.out, by omega, by first | rfl | trivial⟩
        case measure => simp [intOf]; omega
    · obtain rfl : k = mt.length := by omega
      have HD : Hid (n = cI x mt) := by show _ = _; rw [← hg, List.drop_length]; simp [cI]
      clear hmc hg
      go_wp2
      go_ret
      exact ⟨by rw [HD.out]; try rfl, hB⟩
end Go.Proofs.Ytapfhhmimkkhnaa
