/-
  Filters: spec.l5May, spec.MayHave.
  Filters: impl.MayHave.
-/
import Derived.Test.YtfdaffnkgpdhhaaGreatWz
import Derived.Stop.BytesEq
namespace Go.Proofs.YtfdaffnkgpdhhaaGreat
open Go.RowKit
set_option linter.unusedVariables false
set_option maxRecDepth 100000

/-- What MayHave answers. -/
def mayF (n : Int) (s : ByteArray) (m : Int) (k : ByteArray) : Bool × Bool :=
  if goodK k && goodF n s m then (hasBs s.data.toList (plK k n.toNat), true) else (false, false)
theorem all_step (l : List UInt8) (ps : List Nat) (k : Nat) (h : k < ps.length) : hasBs l (ps.drop k) = (hasB l ps[k] && hasBs l (ps.drop (k + 1))) := by
  rw [List.drop_eq_getElem_cons h]; rfl

theorem bit_val (c : UInt8) (i : Nat) : (bits BinOp.and IntKind.u8 ((c.toNat : Int) / 2 ^ i) 1 == 0) = !decide (c.toNat / 2 ^ i % 2 = 1) := by
  have hc := c.toNat_lt
  have h1 : c.toNat / 2 ^ i < 256 := Nat.lt_of_le_of_lt (Nat.div_le_self _ _) hc
  have e1 : (c.toNat : Int) / 2 ^ i = ((c.toNat / 2 ^ i : Nat) : Int) := by
    rw [Int.natCast_ediv, Int.natCast_pow]; rfl
  rw [e1]
  generalize c.toNat / 2 ^ i = x at *
  have e2 := u8_and_nat x 1 h1 (by omega)
  rw [show ((1 : Nat) : Int) = 1 from rfl] at e2
  rw [e2, Nat.and_one_is_mod]
  rw [Bool.eq_iff_iff]; simp; omega
theorem hasB_val (s : ByteArray) (p : Nat) (h : p / 8 < s.size) : hasB s.data.toList p = decide (s[p / 8].toNat / 2 ^ (p % 8) % 2 = 1) := by
  unfold hasB
  have e3 : s.data.toList.getD (p / 8) 0 = s[p / 8] := by
    have hj : p / 8 < s.data.toList.length := by simpa using h
    have hL : s.data.toList[p / 8] = s[p / 8] := by simp; rfl
    rw [List.getD_eq_getElem?_getD, List.getElem?_eq_getElem hj, hL]; rfl
  rw [e3]
set_option maxHeartbeats 4000000 in
theorem l5May_any (nh : Nat) (s : ByteArray) (m : Int) (key : ByteArray) (w : World) (hk : goodK key = true) (hg : goodF (nh : Int) s m = true) :
    Calls Tryz.prog 61 #[.agg #[.int .i64 (nh : Int), .string s, .int .i64 m], .string key] w fun e w' =>
      e = .returned (.bool (hasBs s.data.toList (plK key nh))) ∧ Below w.heap.size w w' := by
  obtain ⟨gh, hs, hm0, hm1⟩ := goodF_parts hg
  obtain ⟨nh', e1, h1, h8⟩ := goodH_nat gh
  obtain rfl : nh = nh' := by omega
  clear e1
  have hl : s.data.toList.length = 32 := by simpa using hs
  have P := fun w => l5Places_any key nh w hk h8
  have hps := plK_lt key nh
  have hpl := plK_length key nh
  have hpz : plZ key nh = (plK key nh).map Int.ofNat := rfl
  rw [hpz] at P
  clear hpz
  generalize plK key nh = ps at *
  have hq : ∀ (k : Nat) (hk : k < ps.length), ps[k] < 256 := fun k hk => hps _ (List.getElem_mem hk)
  have HR : Hid (hasBs s.data.toList ps = hasBs s.data.toList (ps.drop 0)) := rfl
  generalize hasBs s.data.toList ps = R at *
  have X0 := Box.new w #[.int .i64 (nh : Int), .string s, .int .i64 m] 46
  have hb0 := below_alloc w (.cells #[.int .i64 (nh : Int), .string s, .int .i64 m] 46)
  go_enter Tryz.func61, Tryz.ntmps61
  go_wp2_with fail
  refine (P _).mono ?_
  rintro e w2 ⟨v, rfl, o2, hb2⟩
  have il := IL_of_owns (zs := ps.map Int.ofNat) o2 (by rw [List.length_map]; exact hpl.symm)
  have X2 := X0.below hb2
  have hB2 := below_then hb0 hb2
  obtain ⟨a, cap', rfl, hc⟩ := il
  rw [List.length_map]
  clear o2 X0 hb0 hb2 P
  obtain ⟨_, x0, x1, x2⟩ := X2.c3
  go_wp2_with fail
  go_loopw [12] (fun i wr => ∃ k : Nat, k ≤ ps.length ∧ i = .int .i64 k ∧ R = hasBs s.data.toList (ps.drop k) ∧ wr = w2) (fun i _ => ps.length - (intOf i).toNat)
  case atStart => exact ⟨0, Nat.zero_le _, rfl, HR.out, rfl⟩
  case round =>
    obtain ⟨k, hk, rfl, hall, rfl⟩ := hrel
    clear HR
    by_cases hlt : k < ps.length
    · rw [all_step _ _ _ hlt] at hall
      obtain ⟨b, off, rfl, hbl, hcell⟩ := hc (by intro e; rw [List.map_eq_nil_iff] at e; simp [e] at hlt)
      have hp0 := hq k hlt
      have hc0 : wr.cell? ⟨b, off + k, none⟩ = some (.int .i64 ((ps[k] : Nat) : Int)) := by
        have e2 := hcell k (by simpa using hlt)
        rw [List.getElem_map] at e2; exact e2
      have hpl2 : ps[k] / 8 < s.size := by omega
      have HH : Hid (R = (hasB s.data.toList ps[k] && hasBs s.data.toList (ps.drop (k + 1)))) := hall
      clear hall hcell hc hq
      generalize ps[k] = p at *
      have hcl := s[p / 8].toNat_lt
      have hbv := bit_val s[p / 8] (p % 8)
      rw [← hasB_val s p hpl2] at hbv
      cases hbit : hasB s.data.toList p with
      | true =>
        rw [hbit] at hbv HH
        go_wp2
        go_roundw
        case rel => exact ⟨k + 1, by omega, by go_num, by rw [HH.out, Bool.true_and], trivial⟩
        case measure => simp [intOf]; omega
      | false =>
        rw [hbit] at hbv HH
        obtain rfl : R = false := by rw [HH.out, Bool.false_and]
        go_wp2
        go_ret
        exact ⟨rfl, hB2⟩
    · rw [List.drop_eq_nil_of_le (by omega)] at hall
      obtain rfl : R = true := hall
      clear hc
      go_wp2
      go_ret
      exact ⟨rfl, hB2⟩

end Go.Proofs.YtfdaffnkgpdhhaaGreat

namespace Go.Proofs.YtfdaffnkgpdhhaaGreat
open Go.RowKit
set_option linter.unusedVariables false
set_option maxRecDepth 100000

theorem size5 (w : World) : (sizeOf 5).run Tryz.prog w = .ok 1 w := by
  obtain ⟨i0, hi, hz0, hz1, hz2⟩ := info_parts Tryz.info5
  simp [sizeOf, typeInfo, hi, hz1]
theorem eql_rows (l r : List UInt8) (w : World) (hl : l.length = 32) (hr : r.length = 32) : (binOp .eql 88 (.agg (rowA l)) (.agg (rowA r))).run Tryz.prog w = .ok (.bool (decide (l = r))) w := by
  have e := run_eql_bytes (P := Tryz.prog) w 88 5 32 Tryz.underlying88 Tryz.underlying5 size5 l r hl hr
  have e2 : (l == r) = decide (l = r) := by rw [Bool.eq_iff_iff]; simp
  rw [e2] at e
  exact e

set_option maxHeartbeats 4000000 in
theorem implMay_good (nh : Nat) (s : ByteArray) (m : Int) (key : ByteArray) (w : World) (hk : goodK key = true) (hg : goodF (nh : Int) s m = true) :
    Calls Tryz.prog 21 #[.agg #[.int .i64 (nh : Int), .string s, .int .i64 m], .string key] w fun e w' =>
      e = .returned (.tuple #[.bool (hasBs s.data.toList (plK key nh)), .bool true]) ∧ Below w.heap.size w w' := by
    obtain ⟨gh, hs, hm0, hm1⟩ := goodF_parts hg
    obtain ⟨nh', e1, h1, h8⟩ := goodH_nat gh
    obtain rfl : nh = nh' := by omega
    clear e1
    have hl : s.data.toList.length = 32 := by simpa using hs
    have hl2 : (setBs s.data.toList (plK key nh)).length = 32 := by rw [setBs_length]; exact hl
    have P := fun w => implPlaces_good key nh w hk h1 h8
    have G := fun w => implGoodF_any (nh : Int) s m w
    rw [hg] at G
    have HB : Hid (decide (setBs s.data.toList (plK key nh) = s.data.toList) = hasBs s.data.toList (plK key nh)) := by
      show _ = _
      have e := setBs_same s.data.toList (plK key nh) (fun p hp => by have := plK_lt key nh p hp; omega)
      rw [Bool.eq_iff_iff, decide_eq_true_eq]; exact e
    generalize hasBs s.data.toList (plK key nh) = B at *
    have hb2 := below_alloc w (.cells #[.int .i64 (nh : Int), .string s, .int .i64 m] 46)
    have X0 := Box.new w #[.int .i64 (nh : Int), .string s, .int .i64 m] 46
    go_enter Tryz.func21, Tryz.ntmps21
    go_wp2_with fail
    refine (P _).mono ?_
    rintro e w1 ⟨g, rfl, o1, hb1⟩
    have X1 := X0.below hb1
    have hB1 := below_then hb2 hb1
    clear X0 hb2 hb1 P
    obtain ⟨_, x0, x1, x2⟩ := X1.c3
    go_wp2_with fail
    refine (G _).mono ?_
    rintro e w2 ⟨rfl, hb2⟩
    have X2 := X1.below hb2
    have O2 := owns_below o1 hb2
    have hB2 := below_then hB1 hb2
    clear X1 hB1 o1 hb2 x0 x1 x2 G
    obtain ⟨_, x0, x1, x2⟩ := X2.c3
    go_wp2_with fail
    refine (rowOf_any (nh : Int) s m _ hs).mono ?_
    rintro e w3 ⟨rfl, hb3⟩
    have O3 := owns_below O2 hb3
    have hB3 := below_then hB2 hb3
    clear X2 O2 hB2 hb3 x0 x1 x2
    go_wp2_with (first | (refine wpList_allocTo rfl 88 rfl (rowA zer32) Tryz.zero88 ?_) | (refine wpList_store_row rfl 88 _ _ rfl w3.heap.size (rowA s.data.toList) rfl rfl 88 (rowA zer32) (heap_alloc_last _ _) (Tryz.size88r _ hl) (by rw [rowA_size, rowA_size, hl]; rfl) (rowA_one _) ?_; rw [World.setRow_alloc_new]) | fail)
    have hA : Below w3.heap.size w3 (w3.alloc (.cells (rowA s.data.toList) 88)).drew := (below_alloc _ _).drew
    have O4 := owns_below O3 hA
    have hB4 := below_then hB3 hA
    have Y4 : (w3.alloc (.cells (rowA s.data.toList) 88)).drew.heap[w3.heap.size]? = some (.cells (rowA s.data.toList) 88) := heap_alloc_last _ _
    have hz4 : w3.heap.size < (w3.alloc (.cells (rowA s.data.toList) 88)).drew.heap.size := by
      show w3.heap.size < (w3.alloc (.cells (rowA s.data.toList) 88)).heap.size
      simp
    clear O3 hB3 hA
    refine wp_region_held_drew (S := fun w' => w3.heap.size < w'.heap.size ∧ w'.heap[w3.heap.size]? = some (.cells (rowA s.data.toList) 88)) (by kernel_rfl) ⟨hz4, Y4⟩ (fun hHeld => ?_)
    generalize (w3.alloc (.cells (rowA s.data.toList) 88)).drew = w4 at *
    obtain ⟨g0, hg0⟩ : ∃ g0, g0 = w3.heap.size := ⟨_, rfl⟩
    rw [← hg0] at hHeld hz4 Y4 ⊢
    clear hg0
    refine wpAnyH_take (i := 0) (oi := { dst := some 25, op := Op.load 88 (Operand.tmp 8), type := 88, pos := "l5_filter.go:55", after := #[], guard := none }) (v := .agg (rowA s.data.toList)) rfl (by kernel_rfl) (by kernel_rfl) (by kernel_rfl) (fun _ _ _ h => h) (Or.inl ⟨by rfl, ?_⟩) (by assumption) ?_
    · intro wx hSw
      exact run_load_row _ _ wx 88 _ rfl g0 rfl 88 (rowA s.data.toList) (0, 0) _ hSw.2 Tryz.underlying88 rfl (Tryz.size88r _ hl)
    simp only [Act.put, List.setIfInBounds_toArray, List.set_cons_zero, List.set_cons_succ]
    refine wpAnyH_take (i := 1) (oi := { dst := some 26, op := Op.move (Operand.tmp 6), type := 83, pos := "l5_filter.go:55", after := #[], guard := none }) (v := .slice (some ⟨g, 0, none⟩) nh nh) rfl (by kernel_rfl) (by kernel_rfl) (by kernel_rfl) (fun _ _ _ h => h) (Or.inl ⟨by rfl, ?_⟩) (by assumption) ?_
    · intro wx hSw
      clear hSw hHeld; go_simp
    simp only [Act.put, List.setIfInBounds_toArray, List.set_cons_zero, List.set_cons_succ]
    refine wpAnyH_take (i := 3) (oi := { dst := some 28, op := Op.load 88 (Operand.tmp 8), type := 88, pos := "l5_filter.go:55", after := #[], guard := none }) (v := .agg (rowA s.data.toList)) rfl (by kernel_rfl) (by kernel_rfl) (by kernel_rfl) (fun _ _ _ h => h) (Or.inl ⟨by rfl, ?_⟩) (by assumption) ?_
    · intro wx hSw
      exact run_load_row _ _ wx 88 _ rfl g0 rfl 88 (rowA s.data.toList) (0, 0) _ hSw.2 Tryz.underlying88 rfl (Tryz.size88r _ hl)
    simp only [Act.put, List.setIfInBounds_toArray, List.set_cons_zero, List.set_cons_succ]
    refine wpAnyH_ready (rs := [2]) (by kernel_rfl) (by simp) ?_
    refine AllReadyH.cons (o := { dst := some 27, op := Op.call { callee := Callee.value (Operand.func 56), args := #[Operand.tmp 25, Operand.tmp 26], argTypes := #[88, 83] }, type := 88, pos := "l5_filter.go:55", after := #[{ on := 0, ground := Ground.data }, { on := 1, ground := Ground.data }], guard := none }) rfl (fun K hK => ?_) AllReadyH.nil
    clear hHeld
    go_simp
    have il := IL_of_owns (zs := plZ key nh) O4 (plZ_length key nh).symm
    have IL4 : IL w4 (.slice (some ⟨g, 0, none⟩) nh nh) ((plK key nh).map Int.ofNat) := il
    refine (with_any s.data.toList _ (plK key nh) _ hl IL4 (plK_lt key nh) (by rw [plK_length]; exact h8)).mono ?_
    rintro e w5 ⟨rfl, hb5⟩
    have hB5 := below_then hB4 hb5
    have Y5 := (hb5.block _ hz4).trans Y4
    have hz5 := Nat.lt_of_lt_of_le hz4 hb5.size
    clear O4 hB4 hb5 il IL4
    refine hK.out _ _ ⟨hz5, Y5⟩ (fun hHeld => ?_)
    clear hK K
    have EQ := fun w => eql_rows (setBs s.data.toList (plK key nh)) s.data.toList w hl2 hl
    rw [HB.out] at EQ
    clear HB
    refine wpAnyH_take (i := 4) (oi := { dst := some 29, op := Op.binOp BinOp.eql 88 (Operand.tmp 27) (Operand.tmp 28) 88, type := 4, pos := "l5_filter.go:55", after := #[{ on := 2, ground := Ground.data }, { on := 3, ground := Ground.data }], guard := none }) (v := .bool B) rfl (by kernel_rfl) (by kernel_rfl) (by kernel_rfl) (fun _ _ _ h => h) (Or.inl ⟨by rfl, ?_⟩) (by assumption) ?_
    · intro wx hSw
      clear hSw hHeld; have e := EQ wx; go_simp
    simp only [Act.put, List.setIfInBounds_toArray, List.set_cons_zero, List.set_cons_succ]
    refine wpAnyH_take (i := 5) (oi := { dst := some 4, op := Op.assign (Operand.tmp 29), type := 4, pos := "l5_filter.go:55", after := #[{ on := 4, ground := Ground.data }, { on := 2, ground := Ground.chain }, { on := 0, ground := Ground.phase }, { on := 1, ground := Ground.phase }, { on := 2, ground := Ground.phase }, { on := 3, ground := Ground.phase }, { on := 4, ground := Ground.phase }], guard := none }) (v := .bool B) rfl (by kernel_rfl) (by kernel_rfl) (by kernel_rfl) (fun _ _ _ h => h) (Or.inl ⟨by rfl, ?_⟩) (by assumption) ?_
    · intro wx hSw
      clear hSw hHeld; go_simp
    simp only [Act.put, List.setIfInBounds_toArray, List.set_cons_zero, List.set_cons_succ]
    refine wpAnyH_take (i := 6) (oi := { dst := some 5, op := Op.assign (Operand.const (Value.bool true)), type := 4, pos := "l5_filter.go:55", after := #[{ on := 5, ground := Ground.chain }, { on := 0, ground := Ground.phase }, { on := 1, ground := Ground.phase }, { on := 2, ground := Ground.phase }, { on := 3, ground := Ground.phase }, { on := 4, ground := Ground.phase }, { on := 5, ground := Ground.phase }], guard := none }) (v := .bool true) rfl (by kernel_rfl) (by kernel_rfl) (by kernel_rfl) (fun _ _ _ h => h) (Or.inl ⟨by rfl, ?_⟩) (by assumption) ?_
    · intro wx hSw
      clear hSw hHeld; go_simp
    simp only [Act.put, List.setIfInBounds_toArray, List.set_cons_zero, List.set_cons_succ]
    clear hHeld EQ
    refine wpAnyH_done (by kernel_rfl) ?_ _
    go_wp2
    go_ret2
    exact ⟨rfl, hB5⟩

set_option maxHeartbeats 4000000 in
theorem implMay_bad (n : Int) (s : ByteArray) (m : Int) (key : ByteArray) (w : World) (hg : (goodK key && goodF n s m) = false) :
    Calls Tryz.prog 21 #[.agg #[.int .i64 n, .string s, .int .i64 m], .string key] w fun e w' =>
      e = .returned (.tuple #[.bool false, .bool false]) ∧ Below w.heap.size w w' := by
  have hb2 := below_alloc w (.cells #[.int .i64 n, .string s, .int .i64 m] 46)
  have X0 := Box.new w #[.int .i64 n, .string s, .int .i64 m] 46
  cases hkh : goodK key && goodH n with
  | false =>
    have P := fun w => implPlaces_bad key n w hkh
    go_enter Tryz.func21, Tryz.ntmps21
    go_wp2_with fail
    refine (P _).mono ?_
    rintro e w1 ⟨rfl, hb1⟩
    have hB1 := below_then hb2 hb1
    clear X0 hb2 hb1 P
    go_wp2
    go_ret2
    exact ⟨rfl, hB1⟩
  | true =>
    rw [Bool.and_eq_true] at hkh
    have hgf : goodF n s m = false := by rw [hkh.1] at hg; simpa using hg
    obtain ⟨nh, rfl, h1, h8⟩ := goodH_nat hkh.2
    have P := fun w => implPlaces_good key nh w hkh.1 h1 h8
    have G := fun w => implGoodF_any (nh : Int) s m w
    rw [hgf] at G
    clear hg hkh hgf
    go_enter Tryz.func21, Tryz.ntmps21
    go_wp2_with fail
    refine (P _).mono ?_
    rintro e w1 ⟨g, rfl, o1, hb1⟩
    have X1 := X0.below hb1
    have hB1 := below_then hb2 hb1
    clear X0 hb2 hb1 P o1
    obtain ⟨_, x0, x1, x2⟩ := X1.c3
    go_wp2_with fail
    refine (G _).mono ?_
    rintro e w2 ⟨rfl, hb2⟩
    have hB2 := below_then hB1 hb2
    clear X1 hB1 hb2 x0 x1 x2 G
    go_wp2
    go_ret2
    exact ⟨rfl, hB2⟩
theorem implMay (n : Int) (s : ByteArray) (m : Int) (key : ByteArray) (w : World) :
    Calls Tryz.prog 21 #[.agg #[.int .i64 n, .string s, .int .i64 m], .string key] w fun e w' =>
      e = .returned (.tuple #[.bool (mayF n s m key).1, .bool (mayF n s m key).2]) ∧ Below w.heap.size w w' := by
  unfold mayF
  cases hg : goodK key && goodF n s m with
  | false => exact implMay_bad n s m key w hg
  | true =>
    rw [Bool.and_eq_true] at hg
    obtain ⟨nh, rfl, _⟩ := goodH_nat (goodF_parts hg.2).1
    exact implMay_good nh s m key w hg.1 hg.2
end Go.Proofs.YtfdaffnkgpdhhaaGreat

