/-
  FirstIn and RestartsOf, both.
-/
import Derived.Test.YtniepppbbkoanaaL9
import Derived.Test.YtniepppbbkoanaaQ1
namespace Go.Proofs.Ytniepppbbkoanaa
open Go.RowKit
set_option linter.unusedVariables false
set_option maxRecDepth 100000

theorem rbL_len (s : ByteArray) : (rbL s).length ≤ 40 := by
  rcases rb_res s with ⟨_, _, h, _⟩ | ⟨_, h, _⟩
  · exact h
  · rw [h]; simp
theorem l6Read_rb (s : ByteArray) (w : World) (hs : s.size ≤ 1048576) :
    Calls Try.prog 64 #[.string s] w fun e w' => ∃ v, e = .returned (.tuple #[v, .bool (rbOk s)]) ∧ w'.ownsRow w.heap.size 35 4 v (rbL s).length (flat4 (rbL s)) ∧ Below w.heap.size w w' :=
  (l6Read_any s w hs).mono fun e w' ⟨l, ok, v, he, hres, ho, hb⟩ => by
    obtain ⟨rfl, rfl⟩ := hres.same (rb_res s)
    exact ⟨v, he, ho, hb⟩
theorem implRead_rb (s : ByteArray) (w : World) (hs : s.size ≤ 1048576) :
    Calls Try.prog 15 #[.string s] w fun e w' => ∃ v, e = .returned (.tuple #[v, .bool (rbOk s)]) ∧ w'.ownsRow w.heap.size 35 4 v (rbL s).length (flat4 (rbL s)) ∧ Below w.heap.size w w' :=
  callsIn_wide.1 (implRead_in s hs w)

theorem owns_mono {w : World} {B b : Nat} {e : TypeId} {size : Nat} {v : Value} {n : Nat} {xs : List Value} (h : w.ownsRow B e size v n xs) (hb : b ≤ B) : w.ownsRow b e size v n xs :=
  ⟨h.1, h.2.imp id (fun ⟨g, cap, cur, a1, a2, a3⟩ => ⟨g, cap, cur, a1, Nat.le_trans hb a2, a3⟩)⟩
/-- What FirstIn answers. -/
def fiOk (s : ByteArray) : Bool := rbOk s && decide ((rbL s).length ≠ 0)
def fiK (s : ByteArray) : ByteArray := if fiOk s then ((rbL s).getD 0 default).k else ⟨#[]⟩

set_option maxHeartbeats 1000000 in
theorem specFirst_any (s : ByteArray) (w : World) (hs : s.size ≤ 1048576) :
    Calls Try.prog 38 #[.string s] w fun e w' => e = .returned (.tuple #[.string (fiK s), .bool (fiOk s)]) ∧ Below w.heap.size w w' := by
  have I := fun w => l6Read_rb s w hs
  have HO : Hid (fiOk s = (rbOk s && decide ((rbL s).length ≠ 0))) := rfl
  have HK : Hid (fiK s = if fiOk s then ((rbL s).getD 0 default).k else ⟨#[]⟩) := rfl
  generalize fiOk s = ok at *
  generalize fiK s = K at *
  generalize rbL s = L at *
  cases hr : rbOk s with
  | false =>
    rw [hr] at HO I
    obtain rfl : ok = false := HO.out
    obtain rfl : K = ⟨#[]⟩ := HK.out
    clear HO HK hr
    go_enter Try.func38, Try.ntmps38
    go_wp2_with fail
    refine (I _).mono ?_
    rintro e w1 ⟨v, rfl, o1, hb1⟩
    clear I o1
    go_wp2
    go_ret2
    exact ⟨rfl, hb1⟩
  | true =>
    rw [hr] at HO I
    cases L with
    | nil =>
      obtain rfl : ok = false := HO.out
      obtain rfl : K = ⟨#[]⟩ := HK.out
      clear HO HK hr
      go_enter Try.func38, Try.ntmps38
      go_wp2_with fail
      refine (I _).mono ?_
      rintro e w1 ⟨v, rfl, o1, hb1⟩
      obtain ⟨a, cap, rfl, _⟩ := IR_of_owns o1 rfl
      clear I o1
      go_wp2
      go_ret2
      exact ⟨rfl, hb1⟩
    | cons x r =>
      obtain rfl : ok = true := by rw [HO.out]; rfl
      obtain rfl : K = x.k := HK.out
      clear HO HK hr
      have hl0 : (((x :: r).length : Int) == 0) = false := by rw [List.length_cons]; simp; omega
      have hl1 : (0 : Int) < ((x :: r).length : Int) := by rw [List.length_cons]; omega
      have hl2 : 0 < (x :: r).length := by rw [List.length_cons]; omega
      go_enter Try.func38, Try.ntmps38
      go_wp2_with fail
      refine (I _).mono ?_
      rintro e w1 ⟨v, rfl, o1, hb1⟩
      obtain ⟨a, cap, rfl, hc⟩ := IR_of_owns o1 rfl
      obtain ⟨b, off, rfl, hbl, hcell⟩ := hc (by simp)
      have c0 := (hcell 0 hl2).1
      rw [show off + 0 * 4 = off from by omega] at c0
      simp only [List.getElem_cons_zero] at c0
      clear I o1 hc hcell
      generalize (x :: r).length = n at *
      go_wp2
      go_ret2
      exact ⟨rfl, hb1⟩

set_option maxHeartbeats 1000000 in
theorem implFirst_any (s : ByteArray) (w : World) (hs : s.size ≤ 1048576) :
    Calls Try.prog 17 #[.string s] w fun e w' => e = .returned (.tuple #[.string (fiK s), .bool (fiOk s)]) ∧ Below w.heap.size w w' := by
  have I := fun w => implRead_rb s w hs
  have HO : Hid (fiOk s = (rbOk s && decide ((rbL s).length ≠ 0))) := rfl
  have HK : Hid (fiK s = if fiOk s then ((rbL s).getD 0 default).k else ⟨#[]⟩) := rfl
  generalize fiOk s = ok at *
  generalize fiK s = K at *
  generalize rbL s = L at *
  cases hr : rbOk s with
  | false =>
    rw [hr] at HO I
    obtain rfl : ok = false := HO.out
    obtain rfl : K = ⟨#[]⟩ := HK.out
    clear HO HK hr
    go_enter Try.func17, Try.ntmps17
    go_wp2_with fail
    refine (I _).mono ?_
    rintro e w1 ⟨v, rfl, o1, hb1⟩
    clear I o1
    go_wp2
    go_ret2
    exact ⟨rfl, hb1⟩
  | true =>
    rw [hr] at HO I
    cases L with
    | nil =>
      obtain rfl : ok = false := HO.out
      obtain rfl : K = ⟨#[]⟩ := HK.out
      clear HO HK hr
      go_enter Try.func17, Try.ntmps17
      go_wp2_with fail
      refine (I _).mono ?_
      rintro e w1 ⟨v, rfl, o1, hb1⟩
      obtain ⟨a, cap, rfl, _⟩ := IR_of_owns o1 rfl
      clear I o1
      go_wp2
      go_ret2
      exact ⟨rfl, hb1⟩
    | cons x r =>
      obtain rfl : ok = true := by rw [HO.out]; rfl
      obtain rfl : K = x.k := HK.out
      clear HO HK hr
      have hl0 : (((x :: r).length : Int) == 0) = false := by rw [List.length_cons]; simp; omega
      have hl1 : (0 : Int) < ((x :: r).length : Int) := by rw [List.length_cons]; omega
      have hl2 : 0 < (x :: r).length := by rw [List.length_cons]; omega
      go_enter Try.func17, Try.ntmps17
      go_wp2_with fail
      refine (I _).mono ?_
      rintro e w1 ⟨v, rfl, o1, hb1⟩
      obtain ⟨a, cap, rfl, hc⟩ := IR_of_owns o1 rfl
      obtain ⟨b, off, rfl, hbl, hcell⟩ := hc (by simp)
      have c0 := (hcell 0 hl2).1
      rw [show off + 0 * 4 = off from by omega] at c0
      simp only [List.getElem_cons_zero] at c0
      clear I o1 hc hcell
      generalize (x :: r).length = n at *
      go_wp2
      go_ret2
      exact ⟨rfl, hb1⟩

/-- What RestartsOf answers. -/
def rsL (s : ByteArray) : List Int := if rbOk s then plcs s (many (bl s)) else []
theorem rb_tail {s : ByteArray} (h : rbOk s = true) : tlOk s = true := by
  rcases rb_res s with ⟨_, h1, h2, h3⟩ | ⟨h1, _⟩
  · exact tail_of s h1 h2 h3
  · rw [h] at h1; cases h1
theorem rb_parts {s : ByteArray} (h : rbOk s = true) : parts (bl s) = true := by
  have := rb_tail h
  unfold tlOk at this
  rw [Bool.and_eq_true] at this
  exact this.1
theorem rb_many (s : ByteArray) (h : rbOk s = true) : many (bl s) ≤ 10 := by
  rcases rb_res s with ⟨_, h1, h2, h3⟩ | ⟨h1, _⟩
  · rw [← h3, blk_many (by omega), plL_len]; omega
  · rw [h] at h1; cases h1
theorem rsL_len (s : ByteArray) : (rsL s).length ≤ 10 := by
  unfold rsL
  split
  · rename_i h; rw [plcs_len]; exact rb_many s h
  · simp

set_option maxHeartbeats 1000000 in
theorem specRest_any (s : ByteArray) (w : World) (hs : s.size ≤ 1048576) :
    Calls Try.prog 34 #[.string s] w fun e w' => ∃ v, e = .returned (.tuple #[v, .bool (rbOk s)]) ∧ w'.ownsRow w.heap.size 3 1 v (rsL s).length ((rsL s).map (.int .i64)) ∧ Below w.heap.size w w' := by
  have I := fun w => l6Read_rb s w hs
  have HL : Hid (rsL s = if rbOk s then plcs s (many (bl s)) else []) := rfl
  have HT : Hid (rbOk s = true → tlOk s = true) := rb_tail
  generalize rsL s = R at *
  generalize rbL s = L at *
  cases hr : rbOk s with
  | false =>
    rw [hr] at HL I
    obtain rfl : R = [] := HL.out
    clear HL HT hr
    go_enter Try.func34, Try.ntmps34
    go_wp2_with fail
    refine (I _).mono ?_
    rintro e w1 ⟨v, rfl, o1, hb1⟩
    clear I o1
    go_wp2
    refine bodyPost_ret (v := .tuple #[.slice none 0 0, .bool false]) ?_ rfl ⟨.slice none 0 0, rfl, World.ownsRow_nil _ _ _ _, hb1⟩
    simp [results, Try.results34, go_sem]
  | true =>
    have K := fun w => l6Tail_yes s w hs (HT.out hr)
    rw [hr] at HL I
    obtain rfl : R = plcs s (many (bl s)) := HL.out
    have PL := plcs_len s (many (bl s))
    clear HL HT hr
    rw [PL]
    clear PL
    generalize plcs s (many (bl s)) = Z at *
    generalize many (bl s) = m at *
    generalize s.extract 0 (fromN (bl s)) = A at *
    go_enter Try.func34, Try.ntmps34
    go_wp2_with fail
    refine (I _).mono ?_
    rintro e w1 ⟨v, rfl, o1, hb1⟩
    clear I o1
    go_wp2_with fail
    refine (K _).mono ?_
    rintro e w2 ⟨v2, rfl, o2, hb2⟩
    have hB2 := below_then hb1 hb2
    have O2 : w2.ownsRow w.heap.size 3 1 v2 m (Z.map (.int .i64)) := owns_mono o2 hb1.size
    clear K o2 hb2 hb1
    go_wp2
    refine bodyPost_ret (v := .tuple #[v2, .bool true]) ?_ rfl ⟨v2, rfl, O2, hB2⟩
    simp [results, Try.results34, go_sem]

theorem ext_step (s : ByteArray) (a b : Nat) (hb : b ≤ s.size) : (s.extract a b).extract 2 (s.extract a b).size = s.extract (a + 2) b := by
  apply bl_inj
  rw [bl_from, bl_ext, bl_ext, List.drop_take, List.drop_drop]
  congr 1
theorem lo2_in (s : ByteArray) (a b : Nat) (h : a + 2 ≤ b) (hb : b ≤ s.size) : lo2 (bl (s.extract a b)) 0 = lo2 (bl s) a := by
  rw [bl_ext]
  unfold lo2
  simp only [List.getD_eq_getElem?_getD]
  rw [List.getElem?_take_of_lt (by omega), List.getElem?_take_of_lt (by omega), List.getElem?_drop, List.getElem?_drop]
  simp
set_option maxHeartbeats 2000000 in
theorem implRest_any (s : ByteArray) (w : World) (hs : s.size ≤ 1048576) :
    Calls Try.prog 16 #[.string s] w fun e w' => ∃ v, e = .returned (.tuple #[v, .bool (rbOk s)]) ∧ w'.ownsRow w.heap.size 3 1 v (rsL s).length ((rsL s).map (.int .i64)) ∧ Below w.heap.size w w' := by
  obtain ⟨i0, hi, hz0, hzs, hzb⟩ := info_parts Try.info3
  have I := fun w => implRead_rb s w hs
  have HL : Hid (rsL s = if rbOk s then plcs s (many (bl s)) else []) := rfl
  have HT : Hid (rbOk s = true → parts (bl s) = true) := rb_parts
  have HMx : Hid (rbOk s = true → many (bl s) ≤ 10) := rb_many s
  generalize rsL s = R at *
  generalize rbL s = L at *
  cases hr : rbOk s with
  | false =>
    rw [hr] at HL I
    obtain rfl : R = [] := HL.out
    clear HL HT hr HMx
    go_enter Try.func16, Try.ntmps16
    go_wp2_with fail
    refine (I _).mono ?_
    rintro e w1 ⟨v, rfl, o1, hb1⟩
    clear I o1
    go_wp2
    refine bodyPost_ret (v := .tuple #[.slice none 0 0, .bool false]) ?_ rfl ⟨.slice none 0 0, rfl, World.ownsRow_nil _ _ _ _, hb1⟩
    simp [results, Try.results16, go_sem]
  | true =>
    have hp := HT.out hr
    have hmx := HMx.out hr
    have K := fun w => blockParts_any s w hs
    rw [hp] at K
    have hPB : paB s = s.extract (fromN (bl s)) (s.size - 6) := by unfold paB; rw [if_pos hp]
    rw [hPB] at K
    rw [hr] at HL I
    obtain rfl : R = plcs s (many (bl s)) := HL.out
    have PL := plcs_len s (many (bl s))
    have HPS : Hid (∀ k, plcs s (k + 1) = plcs s k ++ [((lo2 (bl s) (fromN (bl s) + 2 * k) : Nat) : Int)]) := plcs_succ s
    have P0 : plcs s 0 = [] := rfl
    have hfm : fromN (bl s) + 2 * many (bl s) = s.size - 6 ∧ 6 ≤ s.size := by
      unfold parts at hp
      rw [Bool.and_eq_true, decide_eq_true_eq, decide_eq_true_eq, bl_len] at hp
      unfold fromN
      rw [bl_len]
      omega
    clear HL HT hr HMx hPB hp
    rw [PL]
    clear PL
    obtain ⟨fr, hfr⟩ : ∃ fr, fr = fromN (bl s) := ⟨_, rfl⟩
    rw [← hfr] at K HPS hfm
    clear hfr
    generalize many (bl s) = m at *
    generalize paA s = A at *
    obtain ⟨q, hq⟩ : ∃ q, q = s.size - 6 := ⟨_, rfl⟩
    rw [← hq] at K hfm
    have hqs : q ≤ s.size := by omega
    have HLO : Hid (∀ k, k < m → lo2 (bl (s.extract (fr + 2 * k) q)) 0 = lo2 (bl s) (fr + 2 * k)) := fun k hk => lo2_in s _ _ (by omega) hqs
    have HEX : Hid (∀ k, (s.extract (fr + 2 * k) q).extract 2 (s.extract (fr + 2 * k) q).size = s.extract (fr + 2 * (k + 1)) q) := fun k => by rw [ext_step s _ _ hqs]; rfl
    have HSZ : Hid (∀ k, k ≤ m → (s.extract (fr + 2 * k) q).size = 2 * (m - k)) := fun k hk => by rw [ByteArray.size_extract]; omega
    rw [show s.extract fr q = s.extract (fr + 2 * 0) q from rfl] at K
    generalize plcs s = PZ at *
    clear hq hqs hfm
    go_enter Try.func16, Try.ntmps16
    go_wp2_with fail
    refine (I _).mono ?_
    rintro e w1 ⟨v, rfl, o1, hb1⟩
    clear I o1
    go_wp2_with fail
    refine (K _).mono ?_
    rintro e w2 ⟨rfl, hb2⟩
    have hB2 := below_then hb1 hb2
    clear K hb2 hb1
    go_wp2
    go_loopw [7, 9] (fun pv ov wr => ∃ k : Nat, k ≤ m ∧ pv = .string (s.extract (fr + 2 * k) q) ∧ wr.ownsRow w.heap.size 3 1 ov k ((PZ k).map (.int .i64)) ∧ Below w.heap.size w wr) (fun pv _ _ => strLen pv)
    case atStart => exact ⟨0, Nat.zero_le _, rfl, by rw [P0]; exact World.ownsRow_nil _ _ _ _, hB2⟩
    case round =>
      clear hB2
      obtain ⟨k, hk, rfl, hown, hb⟩ := hrel
      have hsz := HSZ.out k hk
      have hz := hb.size
      by_cases hlt : k < m
      · have hlo := HLO.out k hlt
        have hex := HEX.out k
        have HP := HPS.out k
        have hms : (s.extract (fr + 2 * (k + 1)) q).size < (s.extract (fr + 2 * k) q).size := by rw [hsz, HSZ.out (k + 1) (by omega)]; omega
        have HMS : Hid ((s.extract (fr + 2 * (k + 1)) q).size < (s.extract (fr + 2 * k) q).size) := hms
        have KP := fun w => placeFrom_any (s.extract (fr + 2 * k) q) w (by omega) (by omega)
        rw [hlo] at KP
        have HP2 : Hid (PZ (k + 1) = PZ k ++ [((lo2 (bl s) (fr + 2 * k) : Nat) : Int)]) := HP
        have HEX2 : Hid ((s.extract (fr + 2 * k) q).extract 2 (s.extract (fr + 2 * k) q).size = s.extract (fr + 2 * (k + 1)) q) := hex
        have hs2 : 2 ≤ (s.extract (fr + 2 * k) q).size := by omega
        have hne : (s.extract (fr + 2 * k) q).toList.isEmpty = false := by rw [isEmpty_eq]; exact beq_eq_false_iff_ne.2 (by omega)
        clear hms hlo hex HP HLO HEX HPS HSZ hsz
        generalize lo2 (bl s) (fr + 2 * k) = y at *
        generalize s.extract (fr + 2 * k) q = P at *
        go_wp2_with fail
        refine (KP _).mono ?_
        rintro e w3 ⟨rfl, hb3⟩
        have hB3 := below_then hb hb3
        have o3 := owns_below hown hb3
        have hz3 : w.heap.size ≤ w3.heap.size := hB3.size
        clear KP hb3 hb hown
        go_wp2_with (at_builtin; refine wpList_append_own _ rfl _ _ 29 rfl w.heap.size 3 i0 (.int .i64 0) 1 8 Try.underlying29 hi hz0 hzs hzb rfl (by decide) _ k ((PZ k).map (.int .i64)) rfl (owns_below o3 (below_alloc _ _)) ⟨w3.heap.size, 0, none⟩ 1 1 [.int .i64 (y : Int)] rfl rfl (one_new w3 y) (by intro u hu; simp at hu; subst hu; rfl) (by unfold maxLen; omega) (by omega) (by simp; omega) ?_; intro v' w4 hown4 hgrow4 _)
        go_roundw
        case rel =>
          refine ⟨k + 1, by omega, by rw [← HEX2.out], ?_, ?_⟩
          · rw [HP2.out, List.map_append]; exact hown4
          · exact (hB3.alloc hz3 _).grown hgrow4 (by simp; omega) (owns_ge o3)
        case measure =>
          show strLen (.string (P.extract 2 P.size)) < P.size
          rw [HEX2.out]; exact HMS.out
      · obtain rfl : k = m := by omega
        have h0 : (s.extract (fr + 2 * k) q).size = 0 := by omega
        have he := empty_of_size h0
        rw [he]
        clear HLO HEX HPS HSZ hsz h0 he
        go_wp2
        refine bodyPost_ret (v := .tuple #[u9, .bool true]) ?_ rfl ⟨u9, rfl, hown, hb⟩
        simp [results, Try.results16, go_sem]
end Go.Proofs.Ytniepppbbkoanaa
