/-
  spec.l2Table, spec.l2On, spec.SumOn, spec.l2Sum, spec.SumOf, spec.SumTable.
-/
import Derived.Test.YtdaldkcildbcmaaDoorS1
namespace Go.Proofs.YtdaldkcildbcmaaDoor
open Go.RowKit
set_option linter.unusedVariables false

theorem Tryd.info92 : (Tryd.prog.info? 92).map (fun i => (i.zero, i.size, i.bytes)) = some (some (.int .u32 0), 1, 4) := by kernel_rfl
/-- The first k entries of the table, and zeros. -/
def tpart (k : Nat) : List Value := tblL.take k ++ List.replicate (256 - k) (.int .u32 0)
theorem tpart_zero : tpart 0 = List.replicate 256 (.int .u32 0) := by unfold tpart; rw [List.take_zero, List.nil_append]
theorem made_one (v : Value) (h : v.cells = #[v]) (n : Nat) : (madeCells v.cells n).toList = List.replicate n v := by
  rw [h]
  apply List.ext_getElem?
  intro i
  by_cases hi : i < n
  · simp [madeCells, hi, Nat.mod_one]
  · rw [List.getElem?_eq_none (by simp [madeCells]; omega), List.getElem?_eq_none (by simp; omega)]
theorem tpart_all : tpart 256 = tblL := by
  unfold tpart
  rw [List.take_of_length_le (by rw [tblL_length]; omega)]; simp
theorem tpart_set (k : Nat) (h : k < 256) : (tpart k).set k (.int .u32 ((ct k : Nat) : Int)) = tpart (k + 1) := by
  unfold tpart
  have hl : (tblL.take k).length = k := by rw [List.length_take, tblL_length]; omega
  have ht : tblL[k]'(by rw [tblL_length]; exact h) = .int .u32 ((ct k : Nat) : Int) := by simp [tblL]
  rw [List.set_append_right _ _ (by omega), hl, Nat.sub_self, List.take_succ_eq_append_getElem (by rw [tblL_length]; exact h), ht, show 256 - k = (256 - (k + 1)) + 1 from by omega, List.replicate_succ]
  simp

theorem tpart_at (k : Nat) (h : k < 256) : (tpart k)[k]? = some (.int .u32 0) := by
  unfold tpart
  have hl : (tblL.take k).length = k := by rw [List.length_take, tblL_length]; omega
  rw [List.getElem?_append_right (by omega), hl, Nat.sub_self, show 256 - k = (256 - (k + 1)) + 1 from by omega, List.replicate_succ]
  rfl
theorem cb_even (n : Nat) (h : n % 2 = 0) : cb n = n / 2 := by unfold cb; rw [if_neg (by omega)]
theorem cb_odd (n : Nat) (h : n % 2 = 1) : cb n = (n / 2) ^^^ 2197175160 := by unfold cb; rw [if_pos h]
theorem and_one (n : Nat) (h : n < 4294967296) : bits BinOp.and IntKind.u32 (n : Int) 1 = ((n % 2 : Nat) : Int) := by
  have := u32_and_nat n 1 h (by omega)
  rw [nat_mask1] at this
  exact this
theorem xor_poly (n : Nat) (h : n < 4294967296) : bits BinOp.xor IntKind.u32 ((n : Int) / 2) 2197175160 = (((n / 2) ^^^ 2197175160 : Nat) : Int) := by
  have := u32_xor_nat (n / 2) 2197175160 (by omega) (by omega)
  rw [← this]; congr 1

set_option maxRecDepth 100000 in
set_option maxHeartbeats 4000000 in
theorem l2Table_any (w : World) :
    Calls Tryd.prog 53 #[] w fun e w' => ∃ g, e = .returned (.slice (some ⟨g, 0, none⟩) 256 256) ∧ w'.ownsRow w.heap.size 92 1 (.slice (some ⟨g, 0, none⟩) 256 256) 256 tblL ∧ Below w.heap.size w w' := by
  obtain ⟨i0, hi, hz0, hz1, hz2⟩ := info_parts Tryd.info92
  go_enter Tryd.func53, Tryd.ntmps53
  go_wp2_with (at_make; refine wpList_make_full _ rfl _ _ 88 rfl w.heap.size 92 i0 _ 1 Tryd.underlying88 hi hz0 hz1 .i64 .i64 _ _ 256 rfl rfl rfl rfl (by rw [hz2]; omega) (by unfold maxLen; omega) (Nat.le_refl _) ?_; intro w0 hown0 hgr0)
  rw [made_one _ rfl, ← tpart_zero] at hown0
  have hb0 : Below w.heap.size w w0 := (Below.refl _ _).grown hgr0 (Nat.le_refl _) (by simp)
  have hlt0 : w.heap.size < w0.heap.size := (owns_lt hown0).2
  clear hgr0 hi hz0 hz1 hz2
  go_loopw [9] (fun i wr => ∃ k : Nat, k ≤ 256 ∧ i = .int .i64 k ∧ wr.ownsRow w.heap.size 92 1 (.slice (some ⟨w.heap.size, 0, none⟩) 256 256) 256 (tpart k) ∧ Below w.heap.size w wr) (fun i _ => 256 - (intOf i).toNat)
  case atStart => exact ⟨0, Nat.zero_le _, rfl, hown0, hb0⟩
  case round =>
    obtain ⟨k, hk, rfl, hown, hb⟩ := hrel
    have hlt1 : w.heap.size < wr.heap.size := (owns_lt hown).2
    clear hown0 hb0 hlt0
    by_cases hlt : k < 256
    · have HS : Hid ((tpart k).set k (.int .u32 ((ct k : Nat) : Int)) = tpart (k + 1)) := tpart_set k hlt
      go_wp2_with fail
      go_loopw [3, 4] (fun n i w3 => ∃ j : Nat, j ≤ 8 ∧ i = .int .i64 j ∧ n = .int .u32 ((cbs j k : Nat) : Int) ∧ w3 = wr) (fun _ i _ => 8 - (intOf i).toNat)
      case atStart => exact ⟨0, by omega, rfl, rfl, rfl⟩
      case round =>
        obtain ⟨j, hj, rfl, rfl, rfl⟩ := hrel
        by_cases hj8 : j < 8
        · have hlt2 := cbs_lt j k (by omega)
          have HN : Hid (cbs (j + 1) k = cb (cbs j k)) := cbs_succ j k
          obtain ⟨n, hn⟩ : ∃ n, cbs j k = n := ⟨_, rfl⟩
          rw [hn] at hlt2 HN ⊢
          have h1 := and_one n hlt2
          have h2 := xor_poly n hlt2
          rcases Nat.mod_two_eq_zero_or_one n with hp | hp
          · have HE : Hid (cb n = n / 2) := cb_even n hp
            rw [hp] at h1
            go_wp2
            go_roundw
            case rel => exact ⟨j + 1, by omega, by go_num, by rw [HN.out, HE.out]; go_num, trivial⟩
            case measure => simp [intOf]; omega
          · have HE : Hid (cb n = (n / 2) ^^^ 2197175160) := cb_odd n hp
            rw [hp] at h1
            go_wp2
            go_roundw
            case rel => exact ⟨j + 1, by omega, by go_num, by rw [HN.out, HE.out], trivial⟩
            case measure => simp [intOf]; omega
        · obtain rfl : j = 8 := by omega
          have d0 : wr.cell? ⟨w.heap.size, k, none⟩ = some (.int .u32 0) := by rw [hown.cellAt k (by omega)]; exact tpart_at k hlt
          have f0 : wr.frozen? ⟨w.heap.size, k, none⟩ = false := hown.frozenAt _
          have hz := hb.size
          go_wp2
          go_roundw
          case rel => exact ⟨k + 1, by omega, by go_num, by rw [← HS.out]; exact (hown.stored k _).1, hb.setCell (by simp) _⟩
          case measure => simp [intOf]; omega
    · go_wp2
      go_ret
      obtain rfl : k = 256 := by omega
      rw [tpart_all] at hown
      exact ⟨_, rfl, hown, hb⟩

/-- The value v is a slice of all the table's words. -/
def TL (w : World) (v : Value) : Prop := ∃ g, v = .slice (some ⟨g, 0, none⟩) 256 256 ∧ g < w.heap.size ∧ ∀ i, i < 256 → w.cell? ⟨g, i, none⟩ = some (.int .u32 ((ct i : Nat) : Int))
theorem TL_of_owns {w : World} {base g : Nat} (h : w.ownsRow base 92 1 (.slice (some ⟨g, 0, none⟩) 256 256) 256 tblL) : TL w (.slice (some ⟨g, 0, none⟩) 256 256) :=
  ⟨g, rfl, (owns_lt h).2, fun i hi => by rw [h.cellAt i (by omega)]; exact tblL_at i hi⟩

set_option maxRecDepth 100000 in
set_option maxHeartbeats 1000000 in
theorem l2On_any (v : Value) (sum : Nat) (s : ByteArray) (w : World) (hv : TL w v) (hs : s.size ≤ 1048576) (h0 : sum < 4294967296) :
    Calls Tryd.prog 89 #[v, .int .u32 sum, .string s] w fun e w' => e = .returned (.int .u32 ((con sum s.data.toList : Nat) : Int)) ∧ w' = w := by
  obtain ⟨g, rfl, hg, hcell⟩ := hv
  go_enter Tryd.func89, Tryd.ntmps89
  go_wp2
  go_loopw [1, 7] (fun x y wr => ∃ (j m : Nat), j ≤ s.size ∧ m < 4294967296 ∧ x = .int .u32 m ∧ y = .int .i64 j ∧ con sum s.data.toList = con m (s.data.toList.drop j) ∧ wr = w) (fun _ y _ => s.size - (intOf y).toNat)
  case atStart => exact ⟨0, sum, by omega, h0, rfl, rfl, rfl, rfl⟩
  case round =>
    obtain ⟨j, m, hj, hm, rfl, rfl, ht, rfl⟩ := hrel
    have HT : Hid (con sum s.data.toList = con m (s.data.toList.drop j)) := ht
    clear ht
    by_cases hjl : j < s.size
    · have hLl : j < s.data.toList.length := by simpa using hjl
      have hL : s.data.toList[j] = s[j] := by simp; rfl
      have hc := s[j].toNat_lt
      have hx := u8_xor_val m s[j].toNat hc
      have hi : (m % 256) ^^^ s[j].toNat < 256 := Nat.xor_lt_two_pow (n := 8) (by omega) (by omega)
      have hce := hcell _ hi
      have hst := step_val m s[j].toNat hm hc
      have HN : Hid (con sum s.data.toList = con (cstep m s[j].toNat) (s.data.toList.drop (j + 1))) := by
        show _ = _
        rw [HT.out, List.drop_eq_getElem_cons hLl, hL]; rfl
      have hlt := cstep_lt m s[j].toNat hm hc
      clear hcell
      go_wp2
      go_roundw
      case rel => exact ⟨j + 1, cstep m s[j].toNat, by omega, hlt, rfl, by go_num, HN.out, trivial⟩
      case measure => simp [intOf]; omega
    · have HN : Hid (con sum s.data.toList = m) := by
        show _ = _
        rw [HT.out, List.drop_eq_nil_of_le (by simp; omega)]; rfl
      clear hcell
      go_wp2
      go_ret
      exact ⟨by rw [HN.out]; rfl, rfl⟩

end Go.Proofs.YtdaldkcildbcmaaDoor
