/-
  Playing steps, plainly: what a step makes of a disk; a good disk stays good.
  Both NewDisks; impl.PlayDisk.
-/
import Derived.Test.YtbgemebpfcbloaaUa
namespace Go.Proofs.Ytbgemebpfcbloaa
open Go.RowKit Go.Maps
set_option linter.unusedVariables false
set_option maxRecDepth 100000

theorem good_next {k : Int} {nm ot da : ByteArray} {kp : Int} {bl lv sf : List (ByteArray × Int)} {r : Int} (hg : goodD bl lv sf r = true) (h0 : refuse k nm ot da kp bl lv sf r = 0) : goodD (nB k nm da kp bl lv) (nL k nm ot bl lv sf) (nS k lv sf) r = true := by
  obtain ⟨z1, z2, z3, z4⟩ := refuse_zero h0
  rcases kinds k with rfl | rfl | rfl | rfl | rfl | rfl | rfl | rfl | ⟨k1, k2, k3, k4, k5, k6, k7, k8⟩
  · have hN : okN nm = true := by simp only [goodS, kindOk, Bool.and_eq_true] at z1; have := z1.2; simpa using this
    have hv : lkp nm none lv = none := by
      cases hv : lkp nm none lv with
      | none => rfl
      | some c => rw [hv] at z3; simp [taken] at z3
    have := good_create hg hN hv
    show goodD (bl ++ [((⟨#[]⟩ : ByteArray), (0 : Int))]) (putL lv nm bl.length) sf r = true
    rw [this]
    simp [overB] at z4
    simp only [Bool.and_eq_true, decide_eq_true_eq]
    omega
  · obtain ⟨hv, hc, ha⟩ := named_blob hg rfl z2
    have := good_append hg _ hc ha da
    show goodD (bl.set (cbOf nm lv) ((bl.getD (cbOf nm lv) default).1 ++ da, (bl.getD (cbOf nm lv) default).2)) lv sf r = true
    have z5 : (decide (4000 < ((bl.getD (cbOf nm lv) default).1.size : Int) + da.size) || decide (r < (used bl lv sf : Int) + da.size)) = false := z4
    rw [getD_lt _ _ hc] at z5 ⊢
    rw [this]
    rw [Bool.or_eq_false_iff] at z5
    obtain ⟨y1, y2⟩ := z5
    have y1 := of_decide_eq_false y1
    have y2 := of_decide_eq_false y2
    simp only [Bool.and_eq_true, decide_eq_true_eq]
    omega
  · obtain ⟨hv, hc, ha⟩ := named_blob hg rfl z2
    have := good_sync hg _ hc ha
    show goodD (bl.set (cbOf nm lv) ((bl.getD (cbOf nm lv) default).1, (bl.getD (cbOf nm lv) default).1.size)) lv sf r = true
    rw [getD_lt _ _ hc]
    exact this
  · obtain ⟨hv, hc, ha⟩ := named_blob hg rfl z2
    have hO : okN ot = true := by simp only [goodS, kindOk, Bool.and_eq_true] at z1; have := z1.2; simp at this; exact this.2
    exact good_rename (ot := ot) hg hO hv
  · obtain ⟨hv, hc, ha⟩ := named_blob hg rfl z2
    have hO : okN ot = true := by simp only [goodS, kindOk, Bool.and_eq_true] at z1; have := z1.2; simp at this; exact this.2
    have hvo : lkp ot none lv = none := by
      cases hvo : lkp ot none lv with
      | none => rfl
      | some c => rw [hvo] at z3; simp [taken] at z3
    have := good_link hg hO hv hvo
    show goodD bl (putL lv ot (cbOf nm lv)) sf r = true
    rw [this]
    simp [overB] at z4
    simp; omega
  · exact good_remove hg nm
  · exact good_safe hg
  · exact good_crash hg kp.toNat
  · simp [goodS, kindOk, k1, k2, k3, k4, k5, k6, k7, k8] at z1

/-- The three lists of a disk. -/
abbrev D3 := List (ByteArray × Int) × List (ByteArray × Int) × List (ByteArray × Int)
def cdS (r : Int) (x : D3) (s : St) : Int := refuse s.k s.nm s.ot s.da s.kp x.1 x.2.1 x.2.2 r
def nxS (r : Int) (x : D3) (s : St) : D3 := if cdS r x s = 0 then (nB s.k s.nm s.da s.kp x.1 x.2.1, nL s.k s.nm s.ot x.1 x.2.1 x.2.2, nS s.k x.2.1 x.2.2) else x
def plD (r : Int) (l : List St) : D3 := l.foldl (nxS r) ([], [], [])
def plC (r : Int) : D3 → List St → List Int
  | _, [] => []
  | x, s :: l => cdS r x s :: plC r (nxS r x s) l
theorem plD_take (r : Int) (l : List St) (k : Nat) (h : k < l.length) : plD r (l.take (k + 1)) = nxS r (plD r (l.take k)) l[k] := by
  unfold plD
  rw [List.take_succ_eq_append_getElem h, List.foldl_append]; rfl
theorem plC_append (r : Int) (x : D3) (l : List St) (s : St) : plC r x (l ++ [s]) = plC r x l ++ [cdS r (l.foldl (nxS r) x) s] := by
  induction l generalizing x with
  | nil => rfl
  | cons y t ih => simp only [List.cons_append, plC, List.foldl_cons, ih]
theorem plC_take (r : Int) (l : List St) (k : Nat) (h : k < l.length) : plC r ([], [], []) (l.take (k + 1)) = plC r ([], [], []) (l.take k) ++ [cdS r (plD r (l.take k)) l[k]] := by
  rw [List.take_succ_eq_append_getElem h, plC_append]; rfl
theorem plC_length (r : Int) (x : D3) (l : List St) : (plC r x l).length = l.length := by
  induction l generalizing x with
  | nil => rfl
  | cons y t ih => simp only [plC, List.length_cons, ih]
theorem good_new {r : Int} (h0 : 0 ≤ r) (h1 : r ≤ 100000) : goodD [] [] [] r = true := by
  rw [goodD_iff]
  refine ⟨rfl, by simp, rfl, rfl, ⟨h0, h1⟩, ?_⟩
  simpa [used, usedTo] using h0
theorem plD_good {r : Int} (h0 : 0 ≤ r) (h1 : r ≤ 100000) (l : List St) : goodD (plD r l).1 (plD r l).2.1 (plD r l).2.2 r = true := by
  unfold plD
  suffices ∀ (x : D3), goodD x.1 x.2.1 x.2.2 r = true → goodD (l.foldl (nxS r) x).1 (l.foldl (nxS r) x).2.1 (l.foldl (nxS r) x).2.2 r = true from this _ (good_new h0 h1)
  induction l with
  | nil => exact fun x h => h
  | cons s t ih =>
    intro x h
    rw [List.foldl_cons]
    refine ih _ ?_
    unfold nxS
    split
    · rename_i hc; exact good_next h hc
    · exact h
end Go.Proofs.Ytbgemebpfcbloaa

namespace Go.Proofs.Ytbgemebpfcbloaa
open Go.RowKit Go.Maps
set_option linter.unusedVariables false
set_option maxRecDepth 100000

set_option maxHeartbeats 1000000 in
theorem specNew_any (r : Int) (w : World) :
    Calls Try.prog 83 #[.int .i64 r] w fun e w' => e = .returned (.tuple #[.agg #[.slice none 0 0, .slice none 0 0, .slice none 0 0, .int .i64 (if decide (0 ≤ r) && decide (r ≤ 100000) then r else 0)], .bool (decide (0 ≤ r) && decide (r ≤ 100000))]) ∧ Below w.heap.size w w' := by
  have K := fun w => l1In_any r 0 100000 w
  cases hc : (decide (0 ≤ r) && decide (r ≤ 100000)) with
  | true =>
    rw [hc] at K
    go_enter Try.func83, Try.ntmps83
    go_wp2_with fail
    refine (K _).mono ?_
    rintro e w1 ⟨rfl, hw⟩
    rw [hw]; clear hw
    go_wp2
    exact bodyPost_ret (v := .tuple #[.agg #[.slice none 0 0, .slice none 0 0, .slice none 0 0, .int .i64 r], .bool true]) (by simp [results, Try.results83, go_sem]) rfl ⟨rfl, below_alloc _ _⟩
  | false =>
    rw [hc] at K
    go_enter Try.func83, Try.ntmps83
    go_wp2_with fail
    refine (K _).mono ?_
    rintro e w1 ⟨rfl, hw⟩
    rw [hw]; clear hw
    go_wp2
    exact bodyPost_ret (v := .tuple #[.agg #[.slice none 0 0, .slice none 0 0, .slice none 0 0, .int .i64 0], .bool false]) (by simp [results, Try.results83, go_sem]) rfl ⟨rfl, below_alloc _ _⟩

set_option maxHeartbeats 1000000 in
theorem implNew_any (r : Int) (w : World) :
    Calls Try.prog 84 #[.int .i64 r] w fun e w' => e = .returned (.tuple #[.agg #[.slice none 0 0, .slice none 0 0, .slice none 0 0, .int .i64 (if decide (0 ≤ r) && decide (r ≤ 100000) then r else 0)], .bool (decide (0 ≤ r) && decide (r ≤ 100000))]) ∧ Below w.heap.size w w' := by
  by_cases h1 : 0 ≤ r
  · by_cases h2 : r ≤ 100000
    · have hc : (decide (0 ≤ r) && decide (r ≤ 100000)) = true := by simp [h1, h2]
      rw [hc]
      go_enter Try.func84, Try.ntmps84
      go_wp2
      exact bodyPost_ret (v := .tuple #[.agg #[.slice none 0 0, .slice none 0 0, .slice none 0 0, .int .i64 r], .bool true]) (by simp [results, Try.results84, go_sem]) rfl ⟨rfl, below_alloc _ _⟩
    · have hc : (decide (0 ≤ r) && decide (r ≤ 100000)) = false := by simp; omega
      rw [hc]
      go_enter Try.func84, Try.ntmps84
      go_wp2
      exact bodyPost_ret (v := .tuple #[.agg #[.slice none 0 0, .slice none 0 0, .slice none 0 0, .int .i64 0], .bool false]) (by simp [results, Try.results84, go_sem]) rfl ⟨rfl, below_alloc _ _⟩
  · have hc : (decide (0 ≤ r) && decide (r ≤ 100000)) = false := by simp; omega
    rw [hc]
    go_enter Try.func84, Try.ntmps84
    go_wp2
    exact bodyPost_ret (v := .tuple #[.agg #[.slice none 0 0, .slice none 0 0, .slice none 0 0, .int .i64 0], .bool false]) (by simp [results, Try.results84, go_sem]) rfl ⟨rfl, below_alloc _ _⟩

theorem doB_nx {r : Int} {x : D3} {s : St} (hg : goodD x.1 x.2.1 x.2.2 r = true) : doB s.k s.nm s.ot s.da s.kp x.1 x.2.1 x.2.2 r = (nxS r x s).1 ∧ doL s.k s.nm s.ot s.da s.kp x.1 x.2.1 x.2.2 r = (nxS r x s).2.1 ∧ doS s.k s.nm s.ot s.da s.kp x.1 x.2.1 x.2.2 r = (nxS r x s).2.2 ∧ doR x.1 x.2.1 x.2.2 r = r ∧ doC s.k s.nm s.ot s.da s.kp x.1 x.2.1 x.2.2 r = cdS r x s := by
  by_cases h0 : refuse s.k s.nm s.ot s.da s.kp x.1 x.2.1 x.2.2 r = 0
  · simp [doB, doL, doS, doR, doC, nxS, cdS, hg, h0]
  · simp [doB, doL, doS, doR, doC, nxS, cdS, hg, h0]

theorem Try.info3i : (Try.prog.info? 3).map (fun i => (i.zero, i.size, i.bytes)) = some (some (.int .i64 0), 1, 8) := by kernel_rfl

/-- What PlayDisk answers. -/
def pOk (r : Int) (l : List St) : Bool := decide (0 ≤ r) && decide (r ≤ 100000) && decide ((l.length : Int) ≤ 100)
def pD (r : Int) (l : List St) : D3 := if pOk r l then plD r l else ([], [], [])
def pC (r : Int) (l : List St) : List Int := if pOk r l then plC r ([], [], []) l else []
def pR (r : Int) (l : List St) : Int := if pOk r l then r else 0
end Go.Proofs.Ytbgemebpfcbloaa

