/-
  Filters: FilterOf.
  Filters: FilterOf, whole.
-/
import Derived.Test.YtfdaffnkgpdhhaaGreatWz
import Derived.Test.YtfdaffnkgpdhhaaGreatG1
namespace Go.Proofs.YtfdaffnkgpdhhaaGreat
open Go.RowKit
set_option linter.unusedVariables false
set_option maxRecDepth 100000

/-- Keys put one after another; none where one is no key. -/
def foldF (n : Int) : List ByteArray → ByteArray → Int → Option (ByteArray × Int)
  | [], s, m => some (s, m)
  | k :: ks, s, m => if goodK k then foldF n ks (addB s n k) (cap6 (m + 1)) else none
def filF (n : Int) (l : List ByteArray) : Int × ByteArray × Int × Bool :=
  if goodH n && decide (l.length ≤ 200) then (match foldF n l zerS 0 with | some (s, m) => (n, s, m, true) | none => (0, ⟨#[]⟩, 0, false)) else (0, ⟨#[]⟩, 0, false)
theorem good_add {n : Int} {s : ByteArray} {m : Int} (h : goodF n s m = true) (k : ByteArray) : goodF n (addB s n k) (cap6 (m + 1)) = true := by
  obtain ⟨h1, h2, h3, h4⟩ := goodF_parts h
  have hz : (addB s n k).size = 32 := by
    show (setBs s.data.toList (plK k n.toNat)).toArray.size = 32
    rw [List.size_toArray, setBs_length]; simpa using h2
  unfold goodF
  rw [h1, hz]
  unfold cap6
  split <;> simp <;> omega
theorem good_new {n : Int} (h : goodH n = true) : goodF n zerS 0 = true := by
  unfold goodF
  rw [h]; decide
theorem fold_step {n : Int} {l : List ByteArray} {k : Nat} (h : k < l.length) (s : ByteArray) (m : Int) : foldF n (l.drop k) s m = if goodK l[k] then foldF n (l.drop (k + 1)) (addB s n l[k]) (cap6 (m + 1)) else none := by
  rw [List.drop_eq_getElem_cons h]; rfl
theorem fold_end {n : Int} {l : List ByteArray} {k : Nat} (h : ¬ k < l.length) (s : ByteArray) (m : Int) : foldF n (l.drop k) s m = some (s, m) := by
  rw [List.drop_eq_nil_of_le (by omega)]; rfl

set_option maxHeartbeats 4000000 in
theorem implFil_good (n : Int) (v : Value) (l : List ByteArray) (w : World) (hv : SL w v l) (hn : l.length ≤ 200) (hh : goodH n = true) :
    Calls Tryz.prog 68 #[v, .int .i64 n] w fun e w' =>
      e = .returned (.tuple #[.agg #[.int .i64 (filF n l).1, .string (filF n l).2.1, .int .i64 (filF n l).2.2.1], .bool (filF n l).2.2.2]) ∧ Below w.heap.size w w' := by
  have HF : Hid (filF n l = (match foldF n l zerS 0 with | some (s, m) => (n, s, m, true) | none => (0, ⟨#[]⟩, 0, false))) := by
    show _ = _
    unfold filF; rw [hh, decide_eq_true hn]; rfl
  generalize filF n l = R at *
  have NW := fun w => implNew n w
  have hNF : newF n = (n, zerS, 0, true) := by unfold newF; rw [hh]; rfl
  rw [hNF] at NW
  clear hNF
  obtain ⟨a, cap, rfl, hc⟩ := hv
  have Z0 := Box.new w #[.int .i64 0, .string ⟨#[]⟩, .int .i64 0] 46
  have hb0 := below_alloc w (.cells #[.int .i64 0, .string ⟨#[]⟩, .int .i64 0] 46)
  go_enter Tryz.func68, Tryz.ntmps68
  go_wp2_with fail
  refine (NW _).mono ?_
  rintro e w1 ⟨rfl, hb1⟩
  have Z1 := Z0.below hb1
  have hB1 := below_then hb0 hb1
  have Z2 := Z1.alloc (.cells #[.int .i64 n, .string zerS, .int .i64 0] 46)
  have X2 := Box.new w1 #[.int .i64 n, .string zerS, .int .i64 0] 46
  have hB2 := hB1.alloc hB1.size (.cells #[.int .i64 n, .string zerS, .int .i64 0] 46)
  have hz1 := Z1.1
  clear Z0 hb0 Z1 hb1 hB1 NW
  go_wp2_with fail
  go_loopw [25] (fun i wr => ∃ (k : Nat) (s : ByteArray) (m : Int), k ≤ l.length ∧ i = .int .i64 k ∧ goodF n s m = true ∧ foldF n l zerS 0 = foldF n (l.drop k) s m ∧ Box wr w1.heap.size [.int .i64 n, .string s, .int .i64 m] ∧ Box wr w.heap.size [.int .i64 0, .string ⟨#[]⟩, .int .i64 0] ∧ Below w.heap.size w wr) (fun i _ => l.length - (intOf i).toNat)
  case atStart => exact ⟨0, zerS, 0, Nat.zero_le _, rfl, good_new hh, rfl, X2, Z2, hB2⟩
  case round =>
    obtain ⟨k, s, m, hk, rfl, hgf, hfold, X3, Z3, hB3⟩ := hrel
    clear X2 Z2 hB2
    obtain ⟨_, x0, x1, x2⟩ := X3.c3
    by_cases hlt : k < l.length
    · rw [fold_step hlt] at hfold
      obtain ⟨b, off, rfl, hbl, hcell⟩ := hc (by intro e; simp [e] at hlt)
      have hc0 := (hB3.cell (p := ⟨b, off + k, none⟩) hbl).trans (hcell k hlt)
      obtain ⟨key, hkey⟩ : ∃ key, key = l[k] := ⟨_, rfl⟩
      rw [← hkey] at hfold hc0
      have AD := fun w => implAdd n s m key w
      have HA : addF n s m key = if goodK key then (n, addB s n key, cap6 (m + 1), true) else (0, ⟨#[]⟩, 0, false) := by
        unfold addF; rw [hgf, Bool.and_true]
      rw [HA] at AD
      have hg2 := good_add hgf key
      clear hkey hcell hc HA
      have HO : Hid (foldF n l zerS 0 = if goodK key then foldF n (l.drop (k + 1)) (addB s n key) (cap6 (m + 1)) else none) := hfold
      clear hfold
      cases hgk : goodK key with
      | true =>
        rw [hgk] at HO AD
        simp only [if_true] at AD
        generalize addB s n key = B at *
        generalize cap6 (m + 1) = c at *
        go_wp2_with fail
        refine (AD _).mono ?_
        rintro e w4 ⟨rfl, hb4⟩
        have X4 := X3.below hb4
        have Z4 := Z3.below hb4
        have hB4 := below_then hB3 hb4
        clear X3 Z3 hB3 hb4 AD x0 x1 x2 hc0
        obtain ⟨⟨f0, f1, f2⟩, zz, x0, x1, x2⟩ := X4.f3
        have HX : Hid (Box (put3 w4 w1.heap.size (.int .i64 n) (.string B) (.int .i64 c)) w1.heap.size [.int .i64 n, .string B, .int .i64 c]) := put3_box X4 _ _ _
        have HZ : Hid (Box (put3 w4 w1.heap.size (.int .i64 n) (.string B) (.int .i64 c)) w.heap.size [.int .i64 0, .string ⟨#[]⟩, .int .i64 0]) := (put3_chg w4 w1.heap.size _ _ _).box Z4 (by omega)
        have hB5 := (put3_ok hB4 (by omega) X4 (.int .i64 n) (.string B) (.int .i64 c)).2
        have HB5 : Hid (Below w.heap.size w (put3 w4 w1.heap.size (.int .i64 n) (.string B) (.int .i64 c))) := hB5
        clear X4 Z4 hB5 hB4
        go_wp2
        go_roundw
        case rel => exact ⟨k + 1, B, c, by omega, by go_num, hg2, by rw [HO.out]; rfl, HX.out, HZ.out, HB5.out⟩
        case measure => simp [intOf]; omega
      | false =>
        rw [hgk] at HO AD
        simp only [Bool.false_eq_true, if_false] at AD
        have hR : R = (0, ⟨#[]⟩, 0, false) := by rw [HF.out, HO.out]; rfl
        subst hR
        go_wp2_with fail
        refine (AD _).mono ?_
        rintro e w4 ⟨rfl, hb4⟩
        have X4 := X3.below hb4
        have Z4 := Z3.below hb4
        have hB4 := below_then hB3 hb4
        clear X3 Z3 hB3 hb4 AD x0 x1 x2 hc0
        obtain ⟨⟨f0, f1, f2⟩, zz, x0, x1, x2⟩ := X4.f3
        have hB5 := (put3_ok hB4 (by omega) X4 (.int .i64 0) (.string ⟨#[]⟩) (.int .i64 0)).2
        have Z5 := (put3_chg w4 w1.heap.size (.int .i64 0) (.string ⟨#[]⟩) (.int .i64 0)).box Z4 (by omega)
        obtain ⟨⟨j0, j1, j2⟩, zq, z0, z1, z2⟩ := Z4.f3
        obtain ⟨⟨t0, t1, t2⟩, hB⟩ := put3_ok hB5 (by omega) Z5 (.int .i64 0) (.string ⟨#[]⟩) (.int .i64 0)
        go_wp2
        change bodyPost _ _ _ _ _ (put3 (put3 w4 w1.heap.size (.int .i64 0) (.string ⟨#[]⟩) (.int .i64 0)) w.heap.size (.int .i64 0) (.string ⟨#[]⟩) (.int .i64 0))
        generalize put3 (put3 w4 w1.heap.size (.int .i64 0) (.string ⟨#[]⟩) (.int .i64 0)) w.heap.size (.int .i64 0) (.string ⟨#[]⟩) (.int .i64 0) = W at *
        exact bodyPost_ret (v := .tuple #[.agg #[.int .i64 0, .string ⟨#[]⟩, .int .i64 0], .bool false]) (by simp [results, Tryz.results68, go_sem, t0, t1, t2]) rfl ⟨rfl, hB⟩
    · rw [fold_end hlt] at hfold
      have hR : R = (n, s, m, true) := by rw [HF.out, hfold]
      subst hR
      obtain ⟨⟨j0, j1, j2⟩, zq, z0, z1, z2⟩ := Z3.f3
      obtain ⟨⟨t0, t1, t2⟩, hB⟩ := put3_ok hB3 (by omega) Z3 (.int .i64 n) (.string s) (.int .i64 m)
      clear HF hfold hc
      go_wp2
      change bodyPost _ _ _ _ _ (put3 wr w.heap.size (.int .i64 n) (.string s) (.int .i64 m))
      generalize put3 wr w.heap.size (.int .i64 n) (.string s) (.int .i64 m) = W at *
      exact bodyPost_ret (v := .tuple #[.agg #[.int .i64 n, .string s, .int .i64 m], .bool true]) (by simp [results, Tryz.results68, go_sem, t0, t1, t2]) rfl ⟨rfl, hB⟩
end Go.Proofs.YtfdaffnkgpdhhaaGreat

namespace Go.Proofs.YtfdaffnkgpdhhaaGreat
open Go.RowKit
set_option linter.unusedVariables false
set_option maxRecDepth 100000

set_option maxHeartbeats 4000000 in
theorem specFil_good (n : Int) (v : Value) (l : List ByteArray) (w : World) (hv : SL w v l) (hn : l.length ≤ 200) (hh : goodH n = true) :
    Calls Tryz.prog 59 #[v, .int .i64 n] w fun e w' =>
      e = .returned (.tuple #[.agg #[.int .i64 (filF n l).1, .string (filF n l).2.1, .int .i64 (filF n l).2.2.1], .bool (filF n l).2.2.2]) ∧ Below w.heap.size w w' := by
  have HF : Hid (filF n l = (match foldF n l zerS 0 with | some (s, m) => (n, s, m, true) | none => (0, ⟨#[]⟩, 0, false))) := by
    show _ = _
    unfold filF; rw [hh, decide_eq_true hn]; rfl
  generalize filF n l = R at *
  have NW := fun w => specNew n w
  have hNF : newF n = (n, zerS, 0, true) := by unfold newF; rw [hh]; rfl
  rw [hNF] at NW
  clear hNF
  obtain ⟨a, cap, rfl, hc⟩ := hv
  have Z0 := Box.new w #[.int .i64 0, .string ⟨#[]⟩, .int .i64 0] 46
  have hb0 := below_alloc w (.cells #[.int .i64 0, .string ⟨#[]⟩, .int .i64 0] 46)
  go_enter Tryz.func59, Tryz.ntmps59
  go_wp2_with fail
  refine (NW _).mono ?_
  rintro e w1 ⟨rfl, hb1⟩
  have Z1 := Z0.below hb1
  have hB1 := below_then hb0 hb1
  have Z2 := Z1.alloc (.cells #[.int .i64 n, .string zerS, .int .i64 0] 46)
  have X2 := Box.new w1 #[.int .i64 n, .string zerS, .int .i64 0] 46
  have hB2 := hB1.alloc hB1.size (.cells #[.int .i64 n, .string zerS, .int .i64 0] 46)
  have hz1 := Z1.1
  clear Z0 hb0 Z1 hb1 hB1 NW
  go_wp2_with fail
  go_loopw [25] (fun i wr => ∃ (k : Nat) (s : ByteArray) (m : Int), k ≤ l.length ∧ i = .int .i64 k ∧ goodF n s m = true ∧ foldF n l zerS 0 = foldF n (l.drop k) s m ∧ Box wr w1.heap.size [.int .i64 n, .string s, .int .i64 m] ∧ Box wr w.heap.size [.int .i64 0, .string ⟨#[]⟩, .int .i64 0] ∧ Below w.heap.size w wr) (fun i _ => l.length - (intOf i).toNat)
  case atStart => exact ⟨0, zerS, 0, Nat.zero_le _, rfl, good_new hh, rfl, X2, Z2, hB2⟩
  case round =>
    obtain ⟨k, s, m, hk, rfl, hgf, hfold, X3, Z3, hB3⟩ := hrel
    clear X2 Z2 hB2
    obtain ⟨_, x0, x1, x2⟩ := X3.c3
    by_cases hlt : k < l.length
    · rw [fold_step hlt] at hfold
      obtain ⟨b, off, rfl, hbl, hcell⟩ := hc (by intro e; simp [e] at hlt)
      have hc0 := (hB3.cell (p := ⟨b, off + k, none⟩) hbl).trans (hcell k hlt)
      obtain ⟨key, hkey⟩ : ∃ key, key = l[k] := ⟨_, rfl⟩
      rw [← hkey] at hfold hc0
      obtain ⟨nh, rfl, hq1, hq8⟩ := goodH_nat hh
      have AD := fun w hk => l5Add_any nh s m key w hk hgf
      have KY := fun w => l4KeyF_any key w
      have hg2 := good_add hgf key
      clear hkey hcell hc
      have HO : Hid (foldF (nh : Int) l zerS 0 = if goodK key then foldF (nh : Int) (l.drop (k + 1)) (addB s (nh : Int) key) (cap6 (m + 1)) else none) := hfold
      clear hfold
      cases hgk : goodK key with
      | true =>
        have AD2 := fun w => AD w hgk
        clear AD
        rw [hgk] at HO KY
        generalize addB s (nh : Int) key = B at *
        generalize cap6 (m + 1) = c at *
        go_wp2_with fail
        refine (KY _).mono ?_
        rintro e w4 ⟨rfl, hw⟩
        rw [hw]; clear hw KY
        go_wp2_with fail
        refine (AD2 _).mono ?_
        rintro e w4 ⟨rfl, hb4⟩
        have X4 := X3.below hb4
        have Z4 := Z3.below hb4
        have hB4 := below_then hB3 hb4
        clear X3 Z3 hB3 hb4 AD2 x0 x1 x2 hc0
        obtain ⟨⟨f0, f1, f2⟩, zz, x0, x1, x2⟩ := X4.f3
        have HX : Hid (Box (put3 w4 w1.heap.size (.int .i64 (nh : Int)) (.string B) (.int .i64 c)) w1.heap.size [.int .i64 (nh : Int), .string B, .int .i64 c]) := put3_box X4 _ _ _
        have HZ : Hid (Box (put3 w4 w1.heap.size (.int .i64 (nh : Int)) (.string B) (.int .i64 c)) w.heap.size [.int .i64 0, .string ⟨#[]⟩, .int .i64 0]) := (put3_chg w4 w1.heap.size _ _ _).box Z4 (by omega)
        have hB5 := (put3_ok hB4 (by omega) X4 (.int .i64 (nh : Int)) (.string B) (.int .i64 c)).2
        have HB5 : Hid (Below w.heap.size w (put3 w4 w1.heap.size (.int .i64 (nh : Int)) (.string B) (.int .i64 c))) := hB5
        clear X4 Z4 hB5 hB4
        go_wp2
        go_roundw
        case rel => exact ⟨k + 1, B, c, by omega, by go_num, hg2, by rw [HO.out]; rfl, HX.out, HZ.out, HB5.out⟩
        case measure => simp [intOf]; omega
      | false =>
        rw [hgk] at HO KY
        have hR : R = (0, ⟨#[]⟩, 0, false) := by rw [HF.out, HO.out]; rfl
        subst hR
        go_wp2_with fail
        refine (KY _).mono ?_
        rintro e w4 ⟨rfl, hw⟩
        rw [hw]; clear hw KY AD
        obtain ⟨⟨j0, j1, j2⟩, zq, z0, z1, z2⟩ := Z3.f3
        obtain ⟨⟨t0, t1, t2⟩, hB⟩ := put3_ok hB3 (by omega) Z3 (.int .i64 0) (.string ⟨#[]⟩) (.int .i64 0)
        go_wp2
        change bodyPost _ _ _ _ _ (put3 wr w.heap.size (.int .i64 0) (.string ⟨#[]⟩) (.int .i64 0))
        generalize put3 wr w.heap.size (.int .i64 0) (.string ⟨#[]⟩) (.int .i64 0) = W at *
        exact bodyPost_ret (v := .tuple #[.agg #[.int .i64 0, .string ⟨#[]⟩, .int .i64 0], .bool false]) (by simp [results, Tryz.results59, go_sem, t0, t1, t2]) rfl ⟨rfl, hB⟩
    · rw [fold_end hlt] at hfold
      have hR : R = (n, s, m, true) := by rw [HF.out, hfold]
      subst hR
      obtain ⟨⟨j0, j1, j2⟩, zq, z0, z1, z2⟩ := Z3.f3
      obtain ⟨⟨t0, t1, t2⟩, hB⟩ := put3_ok hB3 (by omega) Z3 (.int .i64 n) (.string s) (.int .i64 m)
      clear HF hfold hc
      go_wp2
      change bodyPost _ _ _ _ _ (put3 wr w.heap.size (.int .i64 n) (.string s) (.int .i64 m))
      generalize put3 wr w.heap.size (.int .i64 n) (.string s) (.int .i64 m) = W at *
      exact bodyPost_ret (v := .tuple #[.agg #[.int .i64 n, .string s, .int .i64 m], .bool true]) (by simp [results, Tryz.results59, go_sem, t0, t1, t2]) rfl ⟨rfl, hB⟩

set_option maxHeartbeats 4000000 in
theorem implFil_bad (n : Int) (a : Option Addr) (len cap : Nat) (w : World) (hn : (len : Int) ≤ 9223372036854775807) (hg : (goodH n && decide (len ≤ 200)) = false) :
    Calls Tryz.prog 68 #[.slice a len cap, .int .i64 n] w fun e w' => e = .returned (.tuple #[.agg #[.int .i64 0, .string ⟨#[]⟩, .int .i64 0], .bool false]) ∧ Below w.heap.size w w' := by
  have NW := fun w => implNew n w
  have hNF : newF n = if goodH n then (n, zerS, 0, true) else (0, ⟨#[]⟩, 0, false) := rfl
  rw [hNF] at NW
  clear hNF
  have Z0 := Box.new w #[.int .i64 0, .string ⟨#[]⟩, .int .i64 0] 46
  have hb0 := below_alloc w (.cells #[.int .i64 0, .string ⟨#[]⟩, .int .i64 0] 46)
  cases hh : goodH n with
  | false =>
    rw [hh] at NW
    simp only [Bool.false_eq_true, if_false] at NW
    go_enter Tryz.func68, Tryz.ntmps68
    go_wp2_with fail
    refine (NW _).mono ?_
    rintro e w1 ⟨rfl, hb1⟩
    have Z1 := Z0.below hb1
    have hB1 := below_then hb0 hb1
    have hz1 := Z1.1
    have hP := (put3_ok hB1 (by omega) Z1 (.int .i64 0) (.string ⟨#[]⟩) (.int .i64 0)).2
    have hB := hP.alloc hP.size (.cells #[.int .i64 0, .string ⟨#[]⟩, .int .i64 0] 46)
    obtain ⟨_, t0, t1, t2⟩ := ((put3_box Z1 (.int .i64 0) (.string ⟨#[]⟩) (.int .i64 0)).alloc (.cells #[.int .i64 0, .string ⟨#[]⟩, .int .i64 0] 46)).c3
    clear Z0 hb0 hb1 hB1 NW hP
    obtain ⟨⟨f0, f1, f2⟩, c0, c1, c2, c3⟩ := Z1.f3
    go_wp2
    change bodyPost _ _ _ _ _ ((put3 w1 w.heap.size (.int .i64 0) (.string ⟨#[]⟩) (.int .i64 0)).alloc (.cells #[.int .i64 0, .string ⟨#[]⟩, .int .i64 0] 46))
    generalize (put3 w1 w.heap.size (.int .i64 0) (.string ⟨#[]⟩) (.int .i64 0)).alloc (.cells #[.int .i64 0, .string ⟨#[]⟩, .int .i64 0] 46) = W at *
    exact bodyPost_ret (v := .tuple #[.agg #[.int .i64 0, .string ⟨#[]⟩, .int .i64 0], .bool false]) (by simp [results, Tryz.results68, go_sem, t0, t1, t2]) rfl ⟨rfl, hB⟩
  | true =>
    have hl : ¬ len ≤ 200 := by rw [hh] at hg; simpa using hg
    have hl2 : (200 : Int) < len := by omega
    rw [hh] at NW
    simp only [if_true] at NW
    go_enter Tryz.func68, Tryz.ntmps68
    go_wp2_with fail
    refine (NW _).mono ?_
    rintro e w1 ⟨rfl, hb1⟩
    have Z1 := Z0.below hb1
    have hB1 := below_then hb0 hb1
    have hz1 := Z1.1
    have hP := (put3_ok hB1 (by omega) Z1 (.int .i64 0) (.string ⟨#[]⟩) (.int .i64 0)).2
    have hB := hP.alloc hP.size (.cells #[.int .i64 n, .string zerS, .int .i64 0] 46)
    obtain ⟨_, t0, t1, t2⟩ := ((put3_box Z1 (.int .i64 0) (.string ⟨#[]⟩) (.int .i64 0)).alloc (.cells #[.int .i64 n, .string zerS, .int .i64 0] 46)).c3
    clear Z0 hb0 hb1 hB1 NW hP hg
    obtain ⟨⟨f0, f1, f2⟩, c0, c1, c2, c3⟩ := Z1.f3
    go_wp2
    change bodyPost _ _ _ _ _ ((put3 w1 w.heap.size (.int .i64 0) (.string ⟨#[]⟩) (.int .i64 0)).alloc (.cells #[.int .i64 n, .string zerS, .int .i64 0] 46))
    generalize (put3 w1 w.heap.size (.int .i64 0) (.string ⟨#[]⟩) (.int .i64 0)).alloc (.cells #[.int .i64 n, .string zerS, .int .i64 0] 46) = W at *
    exact bodyPost_ret (v := .tuple #[.agg #[.int .i64 0, .string ⟨#[]⟩, .int .i64 0], .bool false]) (by simp [results, Tryz.results68, go_sem, t0, t1, t2]) rfl ⟨rfl, hB⟩

set_option maxHeartbeats 4000000 in
theorem specFil_bad (n : Int) (a : Option Addr) (len cap : Nat) (w : World) (hn : (len : Int) ≤ 9223372036854775807) (hg : (goodH n && decide (len ≤ 200)) = false) :
    Calls Tryz.prog 59 #[.slice a len cap, .int .i64 n] w fun e w' => e = .returned (.tuple #[.agg #[.int .i64 0, .string ⟨#[]⟩, .int .i64 0], .bool false]) ∧ Below w.heap.size w w' := by
  have NW := fun w => specNew n w
  have hNF : newF n = if goodH n then (n, zerS, 0, true) else (0, ⟨#[]⟩, 0, false) := rfl
  rw [hNF] at NW
  clear hNF
  have Z0 := Box.new w #[.int .i64 0, .string ⟨#[]⟩, .int .i64 0] 46
  have hb0 := below_alloc w (.cells #[.int .i64 0, .string ⟨#[]⟩, .int .i64 0] 46)
  cases hh : goodH n with
  | false =>
    rw [hh] at NW
    simp only [Bool.false_eq_true, if_false] at NW
    go_enter Tryz.func59, Tryz.ntmps59
    go_wp2_with fail
    refine (NW _).mono ?_
    rintro e w1 ⟨rfl, hb1⟩
    have Z1 := Z0.below hb1
    have hB1 := below_then hb0 hb1
    have hz1 := Z1.1
    have hP := (put3_ok hB1 (by omega) Z1 (.int .i64 0) (.string ⟨#[]⟩) (.int .i64 0)).2
    have hB := hP.alloc hP.size (.cells #[.int .i64 0, .string ⟨#[]⟩, .int .i64 0] 46)
    obtain ⟨_, t0, t1, t2⟩ := ((put3_box Z1 (.int .i64 0) (.string ⟨#[]⟩) (.int .i64 0)).alloc (.cells #[.int .i64 0, .string ⟨#[]⟩, .int .i64 0] 46)).c3
    clear Z0 hb0 hb1 hB1 NW hP
    obtain ⟨⟨f0, f1, f2⟩, c0, c1, c2, c3⟩ := Z1.f3
    go_wp2
    change bodyPost _ _ _ _ _ ((put3 w1 w.heap.size (.int .i64 0) (.string ⟨#[]⟩) (.int .i64 0)).alloc (.cells #[.int .i64 0, .string ⟨#[]⟩, .int .i64 0] 46))
    generalize (put3 w1 w.heap.size (.int .i64 0) (.string ⟨#[]⟩) (.int .i64 0)).alloc (.cells #[.int .i64 0, .string ⟨#[]⟩, .int .i64 0] 46) = W at *
    exact bodyPost_ret (v := .tuple #[.agg #[.int .i64 0, .string ⟨#[]⟩, .int .i64 0], .bool false]) (by simp [results, Tryz.results59, go_sem, t0, t1, t2]) rfl ⟨rfl, hB⟩
  | true =>
    have hl : ¬ len ≤ 200 := by rw [hh] at hg; simpa using hg
    have hl2 : (200 : Int) < len := by omega
    rw [hh] at NW
    simp only [if_true] at NW
    go_enter Tryz.func59, Tryz.ntmps59
    go_wp2_with fail
    refine (NW _).mono ?_
    rintro e w1 ⟨rfl, hb1⟩
    have Z1 := Z0.below hb1
    have hB1 := below_then hb0 hb1
    have hz1 := Z1.1
    have hP := (put3_ok hB1 (by omega) Z1 (.int .i64 0) (.string ⟨#[]⟩) (.int .i64 0)).2
    have hB := hP.alloc hP.size (.cells #[.int .i64 n, .string zerS, .int .i64 0] 46)
    obtain ⟨_, t0, t1, t2⟩ := ((put3_box Z1 (.int .i64 0) (.string ⟨#[]⟩) (.int .i64 0)).alloc (.cells #[.int .i64 n, .string zerS, .int .i64 0] 46)).c3
    clear Z0 hb0 hb1 hB1 NW hP hg
    obtain ⟨⟨f0, f1, f2⟩, c0, c1, c2, c3⟩ := Z1.f3
    go_wp2
    change bodyPost _ _ _ _ _ ((put3 w1 w.heap.size (.int .i64 0) (.string ⟨#[]⟩) (.int .i64 0)).alloc (.cells #[.int .i64 n, .string zerS, .int .i64 0] 46))
    generalize (put3 w1 w.heap.size (.int .i64 0) (.string ⟨#[]⟩) (.int .i64 0)).alloc (.cells #[.int .i64 n, .string zerS, .int .i64 0] 46) = W at *
    exact bodyPost_ret (v := .tuple #[.agg #[.int .i64 0, .string ⟨#[]⟩, .int .i64 0], .bool false]) (by simp [results, Tryz.results59, go_sem, t0, t1, t2]) rfl ⟨rfl, hB⟩

theorem implFil (n : Int) (v : Value) (l : List ByteArray) (w : World) (hv : SL w v l) (hn : (l.length : Int) ≤ 9223372036854775807) :
    Calls Tryz.prog 68 #[v, .int .i64 n] w fun e w' =>
      e = .returned (.tuple #[.agg #[.int .i64 (filF n l).1, .string (filF n l).2.1, .int .i64 (filF n l).2.2.1], .bool (filF n l).2.2.2]) ∧ Below w.heap.size w w' := by
  cases hg : goodH n && decide (l.length ≤ 200) with
  | true =>
    rw [Bool.and_eq_true, decide_eq_true_eq] at hg
    exact implFil_good n v l w hv hg.2 hg.1
  | false =>
    have hR : filF n l = (0, ⟨#[]⟩, 0, false) := by unfold filF; rw [hg]; rfl
    rw [hR]
    obtain ⟨a, cap, rfl, _⟩ := hv
    exact implFil_bad n a l.length cap w hn hg

theorem specFil (n : Int) (v : Value) (l : List ByteArray) (w : World) (hv : SL w v l) (hn : (l.length : Int) ≤ 9223372036854775807) :
    Calls Tryz.prog 59 #[v, .int .i64 n] w fun e w' =>
      e = .returned (.tuple #[.agg #[.int .i64 (filF n l).1, .string (filF n l).2.1, .int .i64 (filF n l).2.2.1], .bool (filF n l).2.2.2]) ∧ Below w.heap.size w w' := by
  cases hg : goodH n && decide (l.length ≤ 200) with
  | true =>
    rw [Bool.and_eq_true, decide_eq_true_eq] at hg
    exact specFil_good n v l w hv hg.2 hg.1
  | false =>
    have hR : filF n l = (0, ⟨#[]⟩, 0, false) := by unfold filF; rw [hg]; rfl
    rw [hR]
    obtain ⟨a, cap, rfl, _⟩ := hv
    exact specFil_bad n a l.length cap w hn hg
end Go.Proofs.YtfdaffnkgpdhhaaGreat

