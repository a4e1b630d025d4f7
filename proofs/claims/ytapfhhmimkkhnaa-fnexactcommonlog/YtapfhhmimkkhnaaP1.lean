/-
  Nodes and messages, plainly; the small functions: isPeer, l1In, l11Peers, goodEntry, l3Entry, areMost, isOwnTerm, Contains, l10Has.
-/
import Derived.Test.YtapfhhmimkkhnaaR3
namespace Go.Proofs.Ytapfhhmimkkhnaa
open Go.RowKit
set_option linter.unusedVariables false
set_option maxRecDepth 100000

def isP (i n : Int) : Bool := decide (0 ≤ i) && decide (i < n)
def inB (n lo hi : Int) : Bool := decide (lo ≤ n) && decide (n ≤ hi)
def goodEn (e : En) : Bool := decide (1 ≤ e.t) && decide (e.t ≤ 1000000) && decide ((e.d.size : Int) ≤ 100)
/-- Good entries of terms that do not fall, from a on, up to T. -/
def gE (T : Int) : Int → List En → Bool
  | _, [] => true
  | a, e :: r => goodEn e && decide (a ≤ e.t) && decide (e.t ≤ T) && gE T e.t r
theorem gE_nil (T a : Int) : gE T a [] = true := rfl
theorem gE_drop (T a : Int) (l : List En) (k : Nat) (h : k < l.length) : gE T a (l.drop k) = (goodEn l[k] && decide (a ≤ l[k].t) && decide (l[k].t ≤ T) && gE T l[k].t (l.drop (k + 1))) := by
  rw [List.drop_eq_getElem_cons h]; rfl
theorem gE_one (T : Int) (l : List En) : gE T 1 l = gE T 0 l := by
  cases l with
  | nil => rfl
  | cons e r =>
    simp only [gE]
    congr 2
    unfold goodEn
    by_cases h : 1 ≤ e.t
    · have h0 : (0 : Int) ≤ e.t := by omega
      simp [h, h0]
    · simp [h]
/-- The votes: rising numbers of peers, the first k of them. -/
def vAt (pe : Int) (l : List Int) (k : Nat) : Bool := isP (l.getD k 0) pe && (k == 0 || decide (l.getD (k - 1) 0 < l.getD k 0))
def vTo (pe : Int) (l : List Int) : Nat → Bool
  | 0 => true
  | k + 1 => vTo pe l k && vAt pe l k
def gV (pe : Int) (l : List Int) : Bool := vTo pe l l.length
theorem vTo_false (pe : Int) (l : List Int) (k n : Nat) (h : k < n) (hk : vAt pe l k = false) : vTo pe l n = false := by
  induction n with
  | zero => omega
  | succ n ih =>
    simp only [vTo]
    by_cases e : k = n
    · subst e; rw [hk]; simp
    · rw [ih (by omega)]; rfl
theorem getI_at (l : List Int) (k : Nat) (h : k < l.length) : l.getD k 0 = l[k] := by simp [h]
def gM (n : Int) (l : List Int) : Bool := l.all fun m => decide (0 ≤ m) && decide (m ≤ n)
theorem gM_drop (n : Int) (l : List Int) (k : Nat) (h : k < l.length) : gM n (l.drop k) = ((decide (0 ≤ l[k]) && decide (l[k] ≤ n)) && gM n (l.drop (k + 1))) := by
  unfold gM
  rw [List.drop_eq_getElem_cons h]; rfl
def hsI (l : List Int) (x : Int) : Bool := l.any fun m => m == x
theorem hsI_drop (l : List Int) (x : Int) (k : Nat) (h : k < l.length) : hsI (l.drop k) x = (l[k] == x || hsI (l.drop (k + 1)) x) := by
  unfold hsI
  rw [List.drop_eq_getElem_cons h]; rfl
def goodVs (pe id : Int) (vs : List Int) : Bool := gV pe vs && (hsI vs id && !decide (pe < 2 * (vs.length : Int)))
def goodMt (pe id n : Int) (mt : List Int) : Bool := decide ((mt.length : Int) = pe) && (gM n mt && decide (mt.getD id.toNat 0 = n))
def ownT (id te vo : Int) : Bool := decide (vo = id) && decide (1 ≤ te)
def goodRo (id pe te vo ro n : Int) (vs mt : List Int) : Bool :=
  (decide (ro = 0) && (decide ((vs.length : Int) = 0) && decide ((mt.length : Int) = 0))) ||
  ((decide (ro = 1) && (ownT id te vo && goodVs pe id vs && decide ((mt.length : Int) = 0))) ||
  (decide (ro = 2) && (ownT id te vo && decide ((vs.length : Int) = 0) && goodMt pe id n mt)))
/-- A node is good. -/
def goodN (id pe te vo co ro : Int) (log : List En) (vs mt : List Int) : Bool :=
  decide (1 ≤ pe) && decide (pe ≤ 7) && isP id pe && decide (0 ≤ te) && decide (te ≤ 1000) && (decide (vo = -1) || isP vo pe) && decide ((log.length : Int) ≤ 60) && gE te 0 log && decide (0 ≤ co) && decide (co ≤ (log.length : Int)) && goodRo id pe te vo ro log.length vs mt

theorem isPeer_any (i n : Int) (w : World) : Calls Try.prog 64 #[.int .i64 i, .int .i64 n] w fun e w' => e = .returned (.bool (isP i n)) ∧ w' = w := by
  unfold isP
  by_cases h : 0 ≤ i
  · by_cases h1 : i < n
    · go_enter Try.func64, Try.ntmps64
      go_wp2
      go_ret
      exact ⟨by simp <;> omega, rfl⟩
    · go_enter Try.func64, Try.ntmps64
      go_wp2
      go_ret
      exact ⟨by simp <;> omega, rfl⟩
  · go_enter Try.func64, Try.ntmps64
    go_wp2
    go_ret
    exact ⟨by simp <;> omega, rfl⟩
theorem l1In_any (n lo hi : Int) (w : World) : Calls Try.prog 68 #[.int .i64 n, .int .i64 lo, .int .i64 hi] w fun e w' => e = .returned (.bool (inB n lo hi)) ∧ w' = w := by
  unfold inB
  by_cases h : lo ≤ n
  · by_cases h1 : n ≤ hi
    · go_enter Try.func68, Try.ntmps68
      go_wp2
      go_ret
      exact ⟨by simp <;> omega, rfl⟩
    · go_enter Try.func68, Try.ntmps68
      go_wp2
      go_ret
      exact ⟨by simp <;> omega, rfl⟩
  · go_enter Try.func68, Try.ntmps68
    go_wp2
    go_ret
    exact ⟨by simp <;> omega, rfl⟩
theorem l11Peers_any (n : Int) (w : World) : Calls Try.prog 87 #[.int .i64 n] w fun e w' => e = .returned (.bool (inB n 1 7)) ∧ w' = w := by
  go_enter Try.func87, Try.ntmps87
  go_wp2_with fail
  refine (l1In_any _ _ _ _).mono ?_
  rintro e w1 ⟨rfl, rfl⟩
  go_wp2
  go_ret
  exact ⟨rfl, rfl⟩
theorem goodEntry_any (t : Int) (d : ByteArray) (w : World) (hd : d.size ≤ 1048576) : Calls Try.prog 133 #[.agg #[.int .i64 t, .string d]] w fun e w' => e = .returned (.bool (goodEn ⟨t, d⟩)) ∧ Below w.heap.size w w' := by
  unfold goodEn
  dsimp only
  by_cases h : 1 ≤ t
  · by_cases h1 : t ≤ 1000000
    · by_cases h2 : (d.size : Int) ≤ 100
      · go_enter Try.func133, Try.ntmps133
        go_wp2
        go_ret
        exact ⟨by simp <;> omega, below_alloc _ _⟩
      · go_enter Try.func133, Try.ntmps133
        go_wp2
        go_ret
        exact ⟨by simp <;> omega, below_alloc _ _⟩
    · go_enter Try.func133, Try.ntmps133
      go_wp2
      go_ret
      exact ⟨by simp <;> omega, below_alloc _ _⟩
  · go_enter Try.func133, Try.ntmps133
    go_wp2
    go_ret
    exact ⟨by simp <;> omega, below_alloc _ _⟩
theorem l3Entry_any (t : Int) (d : ByteArray) (w : World) (hd : d.size ≤ 1048576) : Calls Try.prog 137 #[.agg #[.int .i64 t, .string d]] w fun e w' => e = .returned (.bool (goodEn ⟨t, d⟩)) ∧ Below w.heap.size w w' := by
  have HE : Hid (goodEn ⟨t, d⟩ = (inB t 1 1000000 && decide ((d.size : Int) ≤ 100))) := rfl
  have K := fun w => l1In_any t 1 1000000 w
  generalize goodEn ⟨t, d⟩ = R at *
  generalize inB t 1 1000000 = b at *
  by_cases h2 : (d.size : Int) ≤ 100
  all_goals
    go_enter Try.func137, Try.ntmps137
    go_wp2_with fail
    refine (K _).mono ?_
    rintro e w1 ⟨rfl, rfl⟩
    cases b
    all_goals
      go_wp2
      go_ret
      exact ⟨by rw [HE.out]; simp <;> omega, below_alloc _ _⟩
theorem areMost_any (id pe te vo co ro many : Int) (vl vv vm : Value) (w : World) (h0 : 0 ≤ many) (h1 : many ≤ 1048576) : Calls Try.prog 113 #[.agg #[.int .i64 id, .int .i64 pe, .int .i64 te, .int .i64 vo, vl, .int .i64 co, .int .i64 ro, vv, vm], .int .i64 many] w fun e w' => e = .returned (.bool (decide (pe < 2 * many))) ∧ Below w.heap.size w w' := by
  by_cases h : pe < 2 * many
  all_goals
    go_enter Try.func113, Try.ntmps113
    go_wp2
    go_ret
    exact ⟨by simp <;> omega, below_alloc _ _⟩
theorem isOwnTerm_any (id pe te vo co ro : Int) (vl vv vm : Value) (w : World) : Calls Try.prog 134 #[.agg #[.int .i64 id, .int .i64 pe, .int .i64 te, .int .i64 vo, vl, .int .i64 co, .int .i64 ro, vv, vm]] w fun e w' => e = .returned (.bool (ownT id te vo)) ∧ Below w.heap.size w w' := by
  unfold ownT
  by_cases h : vo = id
  · by_cases h1 : 1 ≤ te
    all_goals
      go_enter Try.func134, Try.ntmps134
      go_wp2
      go_ret
      exact ⟨by simp <;> omega, below_alloc _ _⟩
  · go_enter Try.func134, Try.ntmps134
    go_wp2
    go_ret
    exact ⟨by simp <;> omega, below_alloc _ _⟩
end Go.Proofs.Ytapfhhmimkkhnaa
