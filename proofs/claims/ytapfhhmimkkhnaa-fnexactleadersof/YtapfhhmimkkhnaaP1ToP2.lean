/-
  Nodes and messages, plainly; the small functions: isPeer, l1In, l11Peers, goodEntry, l3Entry, areMost, isOwnTerm, Contains, l10Has.
  slices.Index, slices.Contains, l10Has; goodEntries, l11Entries.
-/
import Derived.Test.YtapfhhmimkkhnaaR3
namespace Go.Proofs.Ytapfhhmimkkhnaa
open Go.RowKit
set_option linter.unusedVariables false
set_option maxRecDepth 100000

def isP (i n : Int) : Bool := decide (0 ≤ i) && decide (i < n)
def inB (n lo hi : Int) : Bool := decide (lo ≤ n) && decide (n ≤ hi)
def goodEn (e : En) : Bool := decide (1 ≤ e.t) && decide (e.t ≤ 1000000) && decide ((e.d.size : Int) ≤ 100)
/-- Good entries of terms that do not fall, from a on, up to T. -/
def gE (T : Int) : Int → List En → Bool
  | _, [] => true
  | a, e :: r => goodEn e && decide (a ≤ e.t) && decide (e.t ≤ T) && gE T e.t r
theorem gE_nil (T a : Int) : gE T a [] = true := rfl
theorem gE_drop (T a : Int) (l : List En) (k : Nat) (h : k < l.length) : gE T a (l.drop k) = (goodEn l[k] && decide (a ≤ l[k].t) && decide (l[k].t ≤ T) && gE T l[k].t (l.drop (k + 1))) := by
  rw [List.drop_eq_getElem_cons h]; rfl
theorem gE_one (T : Int) (l : List En) : gE T 1 l = gE T 0 l := by
  cases l with
  | nil => rfl
  | cons e r =>
    simp only [gE]
    congr 2
    unfold goodEn
    by_cases h : 1 ≤ e.t
    · have h0 : (0 : Int) ≤ e.t := by omega
      simp [h, h0]
    · simp [h]
/-- The votes: rising numbers of peers, the first k of them. -/
def vAt (pe : Int) (l : List Int) (k : Nat) : Bool := isP (l.getD k 0) pe && (k == 0 || decide (l.getD (k - 1) 0 < l.getD k 0))
def vTo (pe : Int) (l : List Int) : Nat → Bool
  | 0 => true
  | k + 1 => vTo pe l k && vAt pe l k
def gV (pe : Int) (l : List Int) : Bool := vTo pe l l.length
theorem vTo_false (pe : Int) (l : List Int) (k n : Nat) (h : k < n) (hk : vAt pe l k = false) : vTo pe l n = false := by
  induction n with
  | zero => omega
  | succ n ih =>
    simp only [vTo]
    by_cases e : k = n
    · subst e; rw [hk]; simp
    · rw [ih (by omega)]; rfl
theorem getI_at (l : List Int) (k : Nat) (h : k < l.length) : l.getD k 0 = l[k] := by simp [h]
def gM (n : Int) (l : List Int) : Bool := l.all fun m => decide (0 ≤ m) && decide (m ≤ n)
theorem gM_drop (n : Int) (l : List Int) (k : Nat) (h : k < l.length) : gM n (l.drop k) = ((decide (0 ≤ l[k]) && decide (l[k] ≤ n)) && gM n (l.drop (k + 1))) := by
  unfold gM
  rw [List.drop_eq_getElem_cons h]; rfl
def hsI (l : List Int) (x : Int) : Bool := l.any fun m => m == x
theorem hsI_drop (l : List Int) (x : Int) (k : Nat) (h : k < l.length) : hsI (l.drop k) x = (l[k] == x || hsI (l.drop (k + 1)) x) := by
  unfold hsI
  rw [List.drop_eq_getElem_cons h]; rfl
def goodVs (pe id : Int) (vs : List Int) : Bool := gV pe vs && (hsI vs id && !decide (pe < 2 * (vs.length : Int)))
def goodMt (pe id n : Int) (mt : List Int) : Bool := decide ((mt.length : Int) = pe) && (gM n mt && decide (mt.getD id.toNat 0 = n))
def ownT (id te vo : Int) : Bool := decide (vo = id) && decide (1 ≤ te)
def goodRo (id pe te vo ro n : Int) (vs mt : List Int) : Bool :=
  (decide (ro = 0) && (decide ((vs.length : Int) = 0) && decide ((mt.length : Int) = 0))) ||
  ((decide (ro = 1) && (ownT id te vo && goodVs pe id vs && decide ((mt.length : Int) = 0))) ||
  (decide (ro = 2) && (ownT id te vo && decide ((vs.length : Int) = 0) && goodMt pe id n mt)))
/-- A node is good. -/
def goodN (id pe te vo co ro : Int) (log : List En) (vs mt : List Int) : Bool :=
  decide (1 ≤ pe) && decide (pe ≤ 7) && isP id pe && decide (0 ≤ te) && decide (te ≤ 1000) && (decide (vo = -1) || isP vo pe) && decide ((log.length : Int) ≤ 60) && gE te 0 log && decide (0 ≤ co) && decide (co ≤ (log.length : Int)) && goodRo id pe te vo ro log.length vs mt

theorem isPeer_any (i n : Int) (w : World) : Calls Try.prog 64 #[.int .i64 i, .int .i64 n] w fun e w' => e = .returned (.bool (isP i n)) ∧ w' = w := by
  unfold isP
  by_cases h : 0 ≤ i
  · by_cases h1 : i < n
    · go_enter Try.func64, Try.ntmps64
      go_wp2
      go_ret
      exact ⟨by simp <;> omega, rfl⟩
    · go_enter Try.func64, Try.ntmps64
      go_wp2
      go_ret
      exact ⟨by simp <;> omega, rfl⟩
  · go_enter Try.func64, Try.ntmps64
    go_wp2
    go_ret
    exact ⟨by simp <;> omega, rfl⟩
theorem l1In_any (n lo hi : Int) (w : World) : Calls Try.prog 68 #[.int .i64 n, .int .i64 lo, .int .i64 hi] w fun e w' => e = .returned (.bool (inB n lo hi)) ∧ w' = w := by
  unfold inB
  by_cases h : lo ≤ n
  · by_cases h1 : n ≤ hi
    · go_enter Try.func68, Try.ntmps68
      go_wp2
      go_ret
      exact ⟨by simp <;> omega, rfl⟩
    · go_enter Try.func68, Try.ntmps68
      go_wp2
      go_ret
      exact ⟨by simp <;> omega, rfl⟩
  · go_enter Try.func68, Try.ntmps68
    go_wp2
    go_ret
    exact ⟨by simp <;> omega, rfl⟩
theorem l11Peers_any (n : Int) (w : World) : Calls Try.prog 87 #[.int .i64 n] w fun e w' => e = .returned (.bool (inB n 1 7)) ∧ w' = w := by
  go_enter Try.func87, Try.ntmps87
  go_wp2_with fail
  refine (l1In_any _ _ _ _).mono ?_
  rintro e w1 ⟨rfl, rfl⟩
  go_wp2
  go_ret
  exact ⟨rfl, rfl⟩
theorem goodEntry_any (t : Int) (d : ByteArray) (w : World) (hd : d.size ≤ 1048576) : Calls Try.prog 133 #[.agg #[.int .i64 t, .string d]] w fun e w' => e = .returned (.bool (goodEn ⟨t, d⟩)) ∧ Below w.heap.size w w' := by
  unfold goodEn
  dsimp only
  by_cases h : 1 ≤ t
  · by_cases h1 : t ≤ 1000000
    · by_cases h2 : (d.size : Int) ≤ 100
      · go_enter Try.func133, Try.ntmps133
        go_wp2
        go_ret
        exact ⟨by simp <;> omega, below_alloc _ _⟩
      · go_enter Try.func133, Try.ntmps133
        go_wp2
        go_ret
        exact ⟨by simp <;> omega, below_alloc _ _⟩
    · go_enter Try.func133, Try.ntmps133
      go_wp2
      go_ret
      exact ⟨by simp <;> omega, below_alloc _ _⟩
  · go_enter Try.func133, Try.ntmps133
    go_wp2
    go_ret
    exact ⟨by simp <;> omega, below_alloc _ _⟩
theorem l3Entry_any (t : Int) (d : ByteArray) (w : World) (hd : d.size ≤ 1048576) : Calls Try.prog 137 #[.agg #[.int .i64 t, .string d]] w fun e w' => e = .returned (.bool (goodEn ⟨t, d⟩)) ∧ Below w.heap.size w w' := by
  have HE : Hid (goodEn ⟨t, d⟩ = (inB t 1 1000000 && decide ((d.size : Int) ≤ 100))) := rfl
  have K := fun w => l1In_any t 1 1000000 w
  generalize goodEn ⟨t, d⟩ = R at *
  generalize inB t 1 1000000 = b at *
  by_cases h2 : (d.size : Int) ≤ 100
  all_goals
    go_enter Try.func137, Try.ntmps137
    go_wp2_with fail
    refine (K _).mono ?_
    rintro e w1 ⟨rfl, rfl⟩
    cases b
    all_goals
      go_wp2
      go_ret
      exact ⟨by rw [HE.out]; simp <;> omega, below_alloc _ _⟩
theorem areMost_any (id pe te vo co ro many : Int) (vl vv vm : Value) (w : World) (h0 : 0 ≤ many) (h1 : many ≤ 1048576) : Calls Try.prog 113 #[.agg #[.int .i64 id, .int .i64 pe, .int .i64 te, .int .i64 vo, vl, .int .i64 co, .int .i64 ro, vv, vm], .int .i64 many] w fun e w' => e = .returned (.bool (decide (pe < 2 * many))) ∧ Below w.heap.size w w' := by
  by_cases h : pe < 2 * many
  all_goals
    go_enter Try.func113, Try.ntmps113
    go_wp2
    go_ret
    exact ⟨by simp <;> omega, below_alloc _ _⟩
theorem isOwnTerm_any (id pe te vo co ro : Int) (vl vv vm : Value) (w : World) : Calls Try.prog 134 #[.agg #[.int .i64 id, .int .i64 pe, .int .i64 te, .int .i64 vo, vl, .int .i64 co, .int .i64 ro, vv, vm]] w fun e w' => e = .returned (.bool (ownT id te vo)) ∧ Below w.heap.size w w' := by
  unfold ownT
  by_cases h : vo = id
  · by_cases h1 : 1 ≤ te
    all_goals
      go_enter Try.func134, Try.ntmps134
      go_wp2
      go_ret
      exact ⟨by simp <;> omega, below_alloc _ _⟩
  · go_enter Try.func134, Try.ntmps134
    go_wp2
    go_ret
    exact ⟨by simp <;> omega, below_alloc _ _⟩
end Go.Proofs.Ytapfhhmimkkhnaa

namespace Go.Proofs.Ytapfhhmimkkhnaa
open Go.RowKit
set_option linter.unusedVariables false
set_option maxRecDepth 100000

theorem index_any (v : Value) (zs : List Int) (x : Int) (w : World) (hv : IL w v zs) (hn : zs.length ≤ 1048576) :
    Calls Try.prog 170 #[v, .int .i64 x] w fun e w' => ∃ r : Int, e = .returned (.int .i64 r) ∧ decide (0 ≤ r) = hsI zs x ∧ w' = w := by
  obtain ⟨a, cap, rfl, hc⟩ := hv
  go_enter Try.func170, Try.ntmps170
  go_wp2
  go_loopw [8] (fun i wr => ∃ k : Nat, k ≤ zs.length ∧ i = .int .i64 k ∧ hsI zs x = hsI (zs.drop k) x ∧ wr = w) (fun i _ => zs.length - (intOf i).toNat)
  case atStart => exact ⟨0, Nat.zero_le _, rfl, rfl, rfl⟩
  case round =>
    obtain ⟨k, hk, rfl, hg, rfl⟩ := hrel
    by_cases hlt : k < zs.length
    · obtain ⟨b, off, rfl, hbl, hcell⟩ := hc (by intro e; simp [e] at hlt)
      have hc0 := hcell k hlt
      have HD : Hid (hsI zs x = (zs[k] == x || hsI (zs.drop (k + 1)) x)) := by show _ = _; rw [hg, hsI_drop zs x k hlt]
      clear hcell hc hg
      generalize zs[k] = s at *
      by_cases hx : x = s
      · go_wp2
        go_ret
        exact ⟨_, rfl, by rw [HD.out, hx]; simp, rfl⟩
      · have hx' : ¬ s = x := fun h => hx h.symm
        go_wp2
        go_roundw
        case rel => exact ⟨k + 1, by omega, by go_num, by rw [HD.out, beq_false_of_ne hx']; rfl, by first | rfl | trivial⟩
        case measure => simp [intOf]; omega
    · obtain rfl : k = zs.length := by omega
      have HD : Hid (hsI zs x = false) := by show _ = _; rw [hg, List.drop_length]; rfl
      clear hc hg
      go_wp2
      go_ret
      exact ⟨_, rfl, by rw [HD.out]; rfl, rfl⟩
theorem contains_any (v : Value) (zs : List Int) (x : Int) (w : World) (hv : IL w v zs) (hn : zs.length ≤ 1048576) :
    Calls Try.prog 158 #[v, .int .i64 x] w fun e w' => e = .returned (.bool (hsI zs x)) ∧ w' = w := by
  have K := index_any v zs x w hv hn
  generalize hsI zs x = R at *
  obtain ⟨a, cap, rfl, hc⟩ := hv
  go_enter Try.func158, Try.ntmps158
  go_wp2_with fail
  refine K.mono ?_
  rintro e w1 ⟨r, rfl, hr, rfl⟩
  clear K hc
  by_cases h : 0 ≤ r
  · have HR : Hid (R = true) := by show _ = _; rw [← hr]; simp [h]
    clear hr
    go_wp2
    go_ret
    exact ⟨by rw [HR.out]; simp <;> omega, rfl⟩
  · have HR : Hid (R = false) := by show _ = _; rw [← hr]; simp; omega
    clear hr
    go_wp2
    go_ret
    exact ⟨by rw [HR.out]; simp <;> omega, rfl⟩
theorem l10Has_any (v : Value) (zs : List Int) (x : Int) (w : World) (hv : IL w v zs) (hn : zs.length ≤ 1048576) :
    Calls Try.prog 116 #[v, .int .i64 x] w fun e w' => e = .returned (.bool (hsI zs x)) ∧ w' = w := by
  obtain ⟨a, cap, rfl, hc⟩ := hv
  go_enter Try.func116, Try.ntmps116
  go_wp2
  go_loopw [9] (fun i wr => ∃ k : Nat, k ≤ zs.length ∧ i = .int .i64 k ∧ hsI zs x = hsI (zs.drop k) x ∧ wr = w) (fun i _ => zs.length - (intOf i).toNat)
  case atStart => exact ⟨0, Nat.zero_le _, rfl, rfl, rfl⟩
  case round =>
    obtain ⟨k, hk, rfl, hg, rfl⟩ := hrel
    by_cases hlt : k < zs.length
    · obtain ⟨b, off, rfl, hbl, hcell⟩ := hc (by intro e; simp [e] at hlt)
      have hc0 := hcell k hlt
      have HD : Hid (hsI zs x = (zs[k] == x || hsI (zs.drop (k + 1)) x)) := by show _ = _; rw [hg, hsI_drop zs x k hlt]
      clear hcell hc hg
      generalize zs[k] = s at *
      by_cases hx : s = x
      · go_wp2
        go_ret
        exact ⟨by rw [HD.out, hx]; simp, rfl⟩
      · go_wp2
        go_roundw
        case rel => exact ⟨k + 1, by omega, by go_num, by rw [HD.out, beq_false_of_ne hx]; rfl, by first | rfl | trivial⟩
        case measure => simp [intOf]; omega
    · obtain rfl : k = zs.length := by omega
      have HD : Hid (hsI zs x = false) := by show _ = _; rw [hg, List.drop_length]; rfl
      clear hc hg
      go_wp2
      go_ret
      exact ⟨by rw [HD.out]; try rfl, by first | rfl | trivial⟩

theorem Box.b2 {w : World} {b : Nat} {v0 v1 : Value} (h : Box w b [v0, v1]) : b < w.heap.size ∧ w.cell? ⟨b, 0, none⟩ = some v0 ∧ w.cell? ⟨b, 1, none⟩ = some v1 := ⟨h.1, h.2.1 0 _ rfl, h.2.1 1 _ rfl⟩
set_option maxHeartbeats 2000000 in
theorem goodEntries_any (v : Value) (l : List En) (T : Int) (w : World) (hv : ER w v l) (hn : l.length ≤ 1048576) (hs : ∀ i (h : i < l.length), l[i].d.size ≤ 1048576) :
    Calls Try.prog 110 #[v, .int .i64 T] w fun e w' => e = .returned (.bool (gE T 0 l)) ∧ Below w.heap.size w w' := by
  obtain ⟨a, cap, rfl, hc⟩ := hv
  go_enter Try.func110, Try.ntmps110
  go_wp2
  go_loopw [5, 10] (fun p i wr => ∃ (k : Nat) (z : Int), k ≤ l.length ∧ i = .int .i64 k ∧ p = .int .i64 z ∧ gE T 0 l = gE T z (l.drop k) ∧ Below w.heap.size w wr) (fun _ i _ => l.length - (intOf i).toNat)
  case atStart => exact ⟨0, 0, Nat.zero_le _, rfl, rfl, rfl, Below.refl _ _⟩
  case round =>
    obtain ⟨k, z, hk, rfl, rfl, hg, hb⟩ := hrel
    by_cases hlt : k < l.length
    · obtain ⟨b, off, rfl, hbl, hcell⟩ := hc (by intro e; simp [e] at hlt)
      have hc0 := (hb.cell (p := ⟨b, off + k * 2, none⟩) hbl).trans (hcell k hlt).1
      have hc1 := (hb.cell (p := ⟨b, off + k * 2 + 1, none⟩) hbl).trans (hcell k hlt).2
      have HD : Hid (gE T 0 l = (goodEn l[k] && decide (z ≤ l[k].t) && decide (l[k].t ≤ T) && gE T l[k].t (l.drop (k + 1)))) := by show _ = _; rw [hg, gE_drop T z l k hlt]
      have hsk := hs k hlt
      clear hcell hc hg hs
      generalize l[k] = s at *
      obtain ⟨st, sd⟩ := s
      dsimp only at hc0 hc1 HD hsk
      have KE := fun w => goodEntry_any st sd w hsk
      have hz := hb.size
      have hB0 := hb.alloc hz (.cells #[.int .i64 st, .string sd] 34)
      have X0 := Box.new wr #[.int .i64 st, .string sd] 34
      generalize goodEn ⟨st, sd⟩ = ge at *
      go_wp2_with fail
      refine (KE _).mono ?_
      rintro e w1 ⟨rfl, hb1⟩
      have hB1 := hB0.trans (hb1.mono hB0.size)
      have X1 := X0.below hb1
      obtain ⟨hx0, x0, x1⟩ := X1.b2
      clear KE hB0 X0 hb1 hb
      cases ge with
      | false =>
        go_wp2
        go_ret
        exact ⟨by rw [HD.out]; rfl, hB1⟩
      | true =>
        by_cases h1 : st < z
        · go_wp2
          go_ret
          exact ⟨by rw [HD.out]; simp <;> omega, hB1⟩
        · by_cases h2 : T < st
          · go_wp2
            go_ret
            exact ⟨by rw [HD.out]; simp <;> omega, hB1⟩
          · have HD2 : Hid (gE T 0 l = gE T st (l.drop (k + 1))) := by
              show _ = _
              rw [HD.out, decide_eq_true (show z ≤ st from by omega), decide_eq_true (show st ≤ T from by omega)]; rfl
            clear HD
            go_wp2
            go_roundw
            case rel => exact ⟨k + 1, st, by omega, by go_num, rfl, HD2.out, hB1⟩
            case measure => simp [intOf]; omega
    · obtain rfl : k = l.length := by omega
      have HD : Hid (gE T 0 l = true) := by show _ = _; rw [hg, List.drop_length]; rfl
      clear hc hg
      go_wp2
      go_ret
      exact ⟨by rw [HD.out]; try rfl, hb⟩
set_option maxHeartbeats 2000000 in
theorem l11Entries_any (v : Value) (l : List En) (T : Int) (w : World) (hv : ER w v l) (hn : l.length ≤ 1048576) (hs : ∀ i (h : i < l.length), l[i].d.size ≤ 1048576) :
    Calls Try.prog 115 #[v, .int .i64 1, .int .i64 T] w fun e w' => e = .returned (.bool (gE T 0 l && decide ((l.length : Int) ≤ 60))) ∧ Below w.heap.size w w' := by
  rw [← gE_one]
  obtain ⟨a, cap, rfl, hc⟩ := hv
  go_enter Try.func115, Try.ntmps115
  go_wp2
  go_loopw [1, 11] (fun p i wr => ∃ (k : Nat) (z : Int), k ≤ l.length ∧ i = .int .i64 k ∧ p = .int .i64 z ∧ gE T 1 l = gE T z (l.drop k) ∧ Below w.heap.size w wr) (fun _ i _ => l.length - (intOf i).toNat)
  case atStart => exact ⟨0, 1, Nat.zero_le _, rfl, rfl, rfl, Below.refl _ _⟩
  case round =>
    obtain ⟨k, z, hk, rfl, rfl, hg, hb⟩ := hrel
    by_cases hlt : k < l.length
    · obtain ⟨b, off, rfl, hbl, hcell⟩ := hc (by intro e; simp [e] at hlt)
      have hc0 := (hb.cell (p := ⟨b, off + k * 2, none⟩) hbl).trans (hcell k hlt).1
      have hc1 := (hb.cell (p := ⟨b, off + k * 2 + 1, none⟩) hbl).trans (hcell k hlt).2
      have HD : Hid (gE T 1 l = (goodEn l[k] && inB l[k].t z T && gE T l[k].t (l.drop (k + 1)))) := by show _ = _; rw [hg, gE_drop T z l k hlt]; unfold inB; simp only [Bool.and_assoc]
      have hsk := hs k hlt
      clear hcell hc hg hs
      generalize l[k] = s at *
      obtain ⟨st, sd⟩ := s
      dsimp only at hc0 hc1 HD hsk
      have KE := fun w => l3Entry_any st sd w hsk
      have KI := fun w => l1In_any st z T w
      have hz := hb.size
      have hB0 := hb.alloc hz (.cells #[.int .i64 st, .string sd] 34)
      have X0 := Box.new wr #[.int .i64 st, .string sd] 34
      generalize goodEn ⟨st, sd⟩ = ge at *
      generalize inB st z T = gi at *
      go_wp2_with fail
      refine (KE _).mono ?_
      rintro e w1 ⟨rfl, hb1⟩
      have hB1 := hB0.trans (hb1.mono hB0.size)
      have X1 := X0.below hb1
      obtain ⟨hx0, x0, x1⟩ := X1.b2
      clear KE hB0 X0 hb1 hb
      cases ge with
      | false =>
        go_wp2
        go_ret
        exact ⟨by rw [HD.out]; rfl, hB1⟩
      | true =>
        go_wp2_with fail
        refine (KI _).mono ?_
        rintro e w2 ⟨rfl, rfl⟩
        clear KI
        cases gi with
        | false =>
          go_wp2
          go_ret
          exact ⟨by rw [HD.out]; rfl, hB1⟩
        | true =>
          go_wp2
          go_roundw
          case rel => exact ⟨k + 1, st, by omega, by go_num, rfl, HD.out, hB1⟩
          case measure => simp [intOf]; omega
    · obtain rfl : k = l.length := by omega
      have HD : Hid (gE T 1 l = true) := by show _ = _; rw [hg, List.drop_length]; rfl
      clear hc hg
      go_wp2
      go_ret
      exact ⟨by rw [HD.out]; simp, hb⟩
end Go.Proofs.Ytapfhhmimkkhnaa
