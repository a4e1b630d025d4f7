/-
  EditBytes, both.
-/
import Derived.Test.YtenbdjlhcadhaaaGreatT9
import Derived.Test.YtenbdjlhcadhaaaGreatQ9
namespace Go.Proofs.YtenbdjlhcadhaaaGreat
open Go.RowKit
set_option linter.unusedVariables false
set_option maxRecDepth 100000

def edB (nx sq : Int) (dr : List Int) (ad : List Mt) : Bool := goodE nx sq dr ad && decide (((edL nx sq dr ad).length : Int) ≤ 1000)
def edT (nx sq : Int) (dr : List Int) (ad : List Mt) : ByteArray := if edB nx sq dr ad then tx (edL nx sq dr ad) else ⟨#[]⟩
theorem goodE_parts {nx sq : Int} {dr : List Int} {ad : List Mt} (h : goodE nx sq dr ad = true) : (1 ≤ nx ∧ nx ≤ 100001) ∧ (0 ≤ sq ∧ sq ≤ 1000000000) ∧ (dr.length ≤ 30 ∧ goodDr dr = true) ∧ (ad.length ≤ 30 ∧ goodMs ad = true) := by
  unfold goodE okNext okSeq okDr okMs at h
  simp only [Bool.and_eq_true, decide_eq_true_eq] at h
  refine ⟨h.1.1.1, h.1.1.2, ⟨by omega, h.1.2.2⟩, by omega, h.2.2⟩
theorem var_seq (n : Nat) (h : n ≤ 1000000000) : (varL n).length ≤ 5 := varL_len 4 n (by omega)
theorem nmL_len {dr : List Int} (h : goodDr dr = true) (h30 : dr.length ≤ 30) (k : Nat) (hk : k ≤ dr.length) : (nmL dr k).length ≤ 93 := by
  unfold nmL
  rw [List.length_append]
  have := drL_len dr (goodDr_num h) k hk
  have := var_small dr.length (by omega)
  omega
theorem mtL_len {l : List Mt} (h : goodMs l = true) (h30 : l.length ≤ 30) (k : Nat) (hk : k ≤ l.length) : (mtL l k).length ≤ 1503 := by
  unfold mtL
  rw [List.length_append]
  have := msL_len l h k hk
  have := var_small l.length (by omega)
  omega

set_option maxHeartbeats 4000000 in
theorem implEditBytes_any (nx sq : Int) (q v : Value) (dr : List Int) (l : List Mt) (w : World) (hq : IL w q dr) (hv : IR w v l) (hd : dr.length ≤ 1048576) (hn : l.length ≤ 1048576) (hs : ∀ i (h : i < l.length), l[i].k.size ≤ 1048576 ∧ l[i].v.size ≤ 1048576) :
    Calls Tryz.prog 5 #[.agg #[.int .i64 nx, .int .i64 sq, q, v]] w fun e w' => e = .returned (.tuple #[.string (edT nx sq dr l), .bool (edB nx sq dr l)]) ∧ Below w.heap.size w w' := by
  have hB := below_alloc w (.cells #[.int .i64 nx, .int .i64 sq, q, v] 26)
  have X := Box.new w #[.int .i64 nx, .int .i64 sq, q, v] 26
  have K := goodEdit_any nx sq q v dr l _ (hq.below hB) (hv.below hB) hd hn hs
  have HP : Hid (edT nx sq dr l = (if goodE nx sq dr l && decide (((edL nx sq dr l).length : Int) ≤ 1000) then tx (edL nx sq dr l) else ⟨#[]⟩) ∧ edB nx sq dr l = (goodE nx sq dr l && decide (((edL nx sq dr l).length : Int) ≤ 1000))) := ⟨rfl, rfl⟩
  have HQ : Hid (goodE nx sq dr l = true → (1 ≤ nx ∧ nx ≤ 100001) ∧ (0 ≤ sq ∧ sq ≤ 1000000000) ∧ (dr.length ≤ 30 ∧ goodDr dr = true) ∧ (l.length ≤ 30 ∧ goodMs l = true)) := goodE_parts
  have HE : Hid (edL nx sq dr l = varL nx.toNat ++ varL sq.toNat ++ nmL dr dr.length ++ mtL l l.length) := rfl
  generalize edT nx sq dr l = TT at *
  generalize edB nx sq dr l = BB at *
  generalize goodE nx sq dr l = g at *
  generalize edL nx sq dr l = EL at *
  have hq' := hq
  have hv' := hv
  obtain ⟨qa, qc, rfl, _⟩ := hq
  obtain ⟨a, cap, rfl, _⟩ := hv
  clear hs
  go_enter Tryz.func5, Tryz.ntmps5
  go_wp2_with fail
  refine K.mono ?_
  rintro e w1 ⟨rfl, hb1⟩
  replace hB := below_then hB hb1
  replace X := X.below hb1
  clear K hb1
  cases g
  · obtain ⟨rfl, rfl⟩ : TT = ⟨#[]⟩ ∧ BB = false := ⟨by rw [HP.out.1]; rfl, by rw [HP.out.2]; rfl⟩
    clear HP HQ HE
    go_wp2
    exact bodyPost_ret (v := .tuple #[.string ⟨#[]⟩, .bool false]) (by simp [results, Tryz.results5, go_sem]) rfl ⟨rfl, hB⟩
  obtain ⟨h1, h2, ⟨h3, h4⟩, h5, h6⟩ := HQ.out (by trivial)
  obtain ⟨n, rfl⟩ := Int.eq_ofNat_of_zero_le (show 0 ≤ nx from by omega)
  obtain ⟨t, rfl⟩ := Int.eq_ofNat_of_zero_le (show 0 ≤ sq from by omega)
  have hE := HE.out
  rw [show ((n : Int)).toNat = n from rfl, show ((t : Int)).toNat = t from rfl] at hE
  have z1 : (tx (varL n) ++ tx (varL t)).size ≤ 8 := by rw [ByteArray.size_append, tx_size, tx_size]; have := var_small n (by omega); have := var_seq t (by omega); omega
  have z2 : (tx (nmL dr dr.length)).size ≤ 93 := by rw [tx_size]; exact nmL_len h4 h3 _ (Nat.le_refl _)
  have z3 : (tx (mtL l l.length)).size ≤ 1503 := by rw [tx_size]; exact mtL_len h6 h5 _ (Nat.le_refl _)
  have HT : Hid (tx (varL n) ++ tx (varL t) ++ tx (nmL dr dr.length) ++ tx (mtL l l.length) = tx EL) := by show _ = _; rw [hE, tx_cat, tx_cat, tx_cat]
  have hEz := tx_size EL
  have K1 := fun w => twoNumbers_any n t w (by omega) (by omega)
  have K2 : ∀ x : WC w1.heap.size w1, _ := fun x => numbersText_any _ dr x.w (hq'.below (hB.trans (x.ok.mono hB.size))) h3 (goodDr_num h4)
  have K3 : ∀ x : WC w1.heap.size w1, _ := fun x => metasText_any _ l x.w (hv'.below (hB.trans (x.ok.mono hB.size))) h5 h6
  have p0 := fun x : WC w1.heap.size w1 => (X.below x.ok).2.1 0 _ rfl
  have p1 := fun x : WC w1.heap.size w1 => (X.below x.ok).2.1 1 _ rfl
  have p2 := fun x : WC w1.heap.size w1 => (X.below x.ok).2.1 2 _ rfl
  have p3 := fun x : WC w1.heap.size w1 => (X.below x.ok).2.1 3 _ rfl
  have hne : Nonempty (WC w1.heap.size w1) := ⟨⟨_, Below.refl _ _⟩⟩
  have hz := hB.size
  clear HQ HE hE h1 h2 h4 h6 hq' hv'
  generalize tx (varL n) ++ tx (varL t) = T1 at *
  generalize tx (nmL dr dr.length) = T2 at *
  generalize tx (mtL l l.length) = T3 at *
  have z12 : (T1 ++ T2).size = T1.size + T2.size := ByteArray.size_append
  have z123 : (T1 ++ T2 ++ T3).size = T1.size + T2.size + T3.size := by rw [ByteArray.size_append, z12]
  have HZ : Hid ((T1 ++ T2 ++ T3).size = EL.length) := by show _ = _; rw [HT.out, hEz]
  go_wp2_with fail
  refine wp_region_calm (B := w1.heap.size) (W := w1) (by kernel_rfl) (by kernel_rfl) (Below.refl _ _) ?_
  repeat (go_big_quiet_step (first | (go_at_call 22; exact calm_of_below (Nat.le_refl _) (K1 _)) | (go_at_call 23; exact calm_of_below (Nat.le_refl _) (K2 _)) | (go_at_call 24; exact calm_of_below (Nat.le_refl _) (K3 _)) | omega))
  refine wpQuiet_nil ?_
  intro _ hw'
  obtain ⟨x, hx⟩ := hw'
  subst hx
  have hB1 := hB.trans (x.ok.mono hz)
  clear p0 p1 p2 p3 hne K1 K2 K3 hB X
  generalize x.w = w3 at *
  clear x
  by_cases hle : ((T1 ++ T2 ++ T3).size : Int) ≤ 1000
  · have HD : decide ((EL.length : Int) ≤ 1000) = true := decide_eq_true (by rw [← HZ.out]; exact hle)
    obtain ⟨rfl, rfl⟩ : TT = T1 ++ T2 ++ T3 ∧ BB = true := ⟨by rw [HP.out.1, HD, HT.out]; rfl, by rw [HP.out.2, HD]; rfl⟩
    clear HP HT HZ HD
    go_wp2
    exact bodyPost_ret (v := .tuple #[.string (T1 ++ T2 ++ T3), .bool true]) (by simp [results, Tryz.results5, go_sem]) rfl ⟨rfl, hB1⟩
  · have HD : decide ((EL.length : Int) ≤ 1000) = false := decide_eq_false (by rw [← HZ.out]; exact hle)
    obtain ⟨rfl, rfl⟩ : TT = ⟨#[]⟩ ∧ BB = false := ⟨by rw [HP.out.1, HD]; rfl, by rw [HP.out.2, HD]; rfl⟩
    clear HP HT HZ HD
    generalize T1 ++ T2 ++ T3 = T at *
    go_wp2
    exact bodyPost_ret (v := .tuple #[.string ⟨#[]⟩, .bool false]) (by simp [results, Tryz.results5, go_sem]) rfl ⟨rfl, hB1⟩

/-- What the specification has of an edit's bytes behind k numbers, behind k metas. -/
def faT (n t : Nat) (dr : List Int) (k : Nat) : ByteArray := tx (varL n ++ varL t ++ nmL dr k)
def fbT (n t : Nat) (dr : List Int) (l : List Mt) (k : Nat) : ByteArray := tx (varL n ++ varL t ++ nmL dr dr.length ++ mtL l k)
theorem faT_zero (n t : Nat) (dr : List Int) : tx (varL n) ++ tx (varL t) ++ tx (varL dr.length) = faT n t dr 0 := by
  unfold faT; rw [tx_cat, tx_cat]; unfold nmL; simp [drL]
theorem faT_succ (n t : Nat) (dr : List Int) (k : Nat) (hk : k < dr.length) : faT n t dr k ++ tx (varL (dr[k]).toNat) = faT n t dr (k + 1) := by
  unfold faT; rw [tx_cat]; unfold nmL; simp only [drL, getI_at dr k hk, List.append_assoc]
theorem fbT_zero (n t : Nat) (dr : List Int) (l : List Mt) : faT n t dr dr.length ++ tx (varL l.length) = fbT n t dr l 0 := by
  unfold faT fbT; rw [tx_cat]; unfold mtL; simp [msL]
theorem fbT_succ (n t : Nat) (dr : List Int) (l : List Mt) (k : Nat) (hk : k < l.length) : fbT n t dr l k ++ (tx (varL l[k].n.toNat) ++ tx (varL l[k].d.toNat) ++ tx (varL l[k].k.size) ++ l[k].k ++ tx (varL l[k].v.size) ++ l[k].v) = fbT n t dr l (k + 1) := by
  have e1 : mtL l (k + 1) = mtL l k ++ mt1 l[k] := by unfold mtL; simp only [msL, getD_at l k hk, List.append_assoc]
  unfold fbT
  rw [e1, ← List.append_assoc, show tx (varL n ++ varL t ++ nmL dr dr.length ++ mtL l k ++ mt1 l[k]) = tx (varL n ++ varL t ++ nmL dr dr.length ++ mtL l k) ++ tx (mt1 l[k]) from (tx_cat _ _).symm, ← mt1_tx]
  congr 1
  simp only [ByteArray.append_assoc]

set_option maxHeartbeats 8000000 in
theorem l9Bytes_any (n t : Nat) (q v : Value) (dr : List Int) (l : List Mt) (w : World) (hq : IL w q dr) (hv : IR w v l) (h1 : n ≤ 100001) (h2 : t ≤ 1000000000) (h3 : dr.length ≤ 30) (h4 : goodDr dr = true) (h5 : l.length ≤ 30) (h6 : goodMs l = true) :
    Calls Tryz.prog 26 #[.agg #[.int .i64 n, .int .i64 t, q, v]] w fun e w' => e = .returned (.string (tx (edL n t dr l))) ∧ Below w.heap.size w w' := by
  obtain ⟨W0, hW0⟩ : ∃ W0, W0 = w.alloc (.cells #[.int .i64 n, .int .i64 t, q, v] 26) := ⟨_, rfl⟩
  have hB0 : Below w.heap.size w W0 := by rw [hW0]; exact below_alloc _ _
  have X0 : Box W0 w.heap.size [.int .i64 n, .int .i64 t, q, v] := by rw [hW0]; exact Box.new w #[.int .i64 n, .int .i64 t, q, v] 26
  obtain ⟨qa, qc, rfl, hcq⟩ := hq
  obtain ⟨a, cap, rfl, hcv⟩ := hv
  have K1 : ∀ w, Calls Tryz.prog 61 #[.int .i64 n] w fun e w' => e = .returned (.string (tx (varL n))) ∧ Below w.heap.size w w' := fun w => l2Var_any n w (by omega)
  have K2 : ∀ w, Calls Tryz.prog 61 #[.int .i64 t] w fun e w' => e = .returned (.string (tx (varL t))) ∧ Below w.heap.size w w' := fun w => l2Var_any t w (by omega)
  have K3 : ∀ w, Calls Tryz.prog 61 #[.int .i64 dr.length] w fun e w' => e = .returned (.string (tx (varL dr.length))) ∧ Below w.heap.size w w' := fun w => l2Var_any dr.length w (by omega)
  have K4 : ∀ w, Calls Tryz.prog 61 #[.int .i64 l.length] w fun e w' => e = .returned (.string (tx (varL l.length))) ∧ Below w.heap.size w w' := fun w => l2Var_any l.length w (by omega)
  have s1 : (tx (varL n)).size ≤ 3 := by rw [tx_size]; exact var_small n h1
  have s2 : (tx (varL t)).size ≤ 5 := by rw [tx_size]; exact var_seq t h2
  have s3 : (tx (varL dr.length)).size ≤ 3 := by rw [tx_size]; exact var_small _ (by omega)
  have s4 : (tx (varL l.length)).size ≤ 3 := by rw [tx_size]; exact var_small _ (by omega)
  have HA0 : Hid (tx (varL n) ++ tx (varL t) ++ tx (varL dr.length) = faT n t dr 0) := faT_zero n t dr
  have HAS : Hid (∀ k (hk : k < dr.length), faT n t dr k ++ tx (varL (dr[k]).toNat) = faT n t dr (k + 1)) := faT_succ n t dr
  have HAL : Hid (∀ k, k ≤ dr.length → (faT n t dr k).size ≤ 101) := fun k hk => by unfold faT; rw [tx_size, List.length_append, List.length_append]; have := nmL_len h4 h3 k hk; have := var_small n h1; have := var_seq t h2; omega
  have HB0 : Hid (faT n t dr dr.length ++ tx (varL l.length) = fbT n t dr l 0) := fbT_zero n t dr l
  have HBS : Hid (∀ k (hk : k < l.length), fbT n t dr l k ++ (tx (varL l[k].n.toNat) ++ tx (varL l[k].d.toNat) ++ tx (varL l[k].k.size) ++ l[k].k ++ tx (varL l[k].v.size) ++ l[k].v) = fbT n t dr l (k + 1)) := fbT_succ n t dr l
  have HBL : Hid (∀ k, k ≤ l.length → (fbT n t dr l k).size ≤ 1604) := fun k hk => by unfold fbT; rw [tx_size, List.length_append, List.length_append, List.length_append]; have := nmL_len h4 h3 dr.length (Nat.le_refl _); have := mtL_len h6 h5 k hk; have := var_small n h1; have := var_seq t h2; omega
  have HE : Hid (fbT n t dr l l.length = tx (edL n t dr l)) := rfl
  have HR : Hid (∀ i (hi : i < dr.length), 1 ≤ dr[i] ∧ dr[i] ≤ 100000) := goodDr_num h4
  have HM : Hid (∀ i (hi : i < l.length), okMt l[i] = true) := fun i hi => goodMs_ok h6 hi
  generalize faT n t dr = FA at *
  generalize fbT n t dr l = FB at *
  generalize tx (varL n) = T1 at *
  generalize tx (varL t) = T2 at *
  generalize tx (varL dr.length) = T3 at *
  generalize tx (varL l.length) = T4 at *
  have z12 : (T1 ++ T2).size = T1.size + T2.size := ByteArray.size_append
  have hz0 := hB0.size
  have p0 := fun x : WC W0.heap.size W0 => (X0.below x.ok).2.1 0 _ rfl
  have p1 := fun x : WC W0.heap.size W0 => (X0.below x.ok).2.1 1 _ rfl
  have p2 := fun x : WC W0.heap.size W0 => (X0.below x.ok).2.1 2 _ rfl
  have hne : Nonempty (WC W0.heap.size W0) := ⟨⟨_, Below.refl _ _⟩⟩
  clear h4 h6
  go_enter Tryz.func26, Tryz.ntmps26
  go_wp2_with fail
  rw [← hW0]; clear hW0
  refine wp_region_calm (B := W0.heap.size) (W := W0) (by kernel_rfl) (by kernel_rfl) (Below.refl _ _) ?_
  repeat (go_big_quiet_step (first | (go_at_call 61; first | with_reducible exact calm_of_below (Nat.le_refl _) (K1 _) | with_reducible exact calm_of_below (Nat.le_refl _) (K2 _) | with_reducible exact calm_of_below (Nat.le_refl _) (K3 _)) | omega))
  refine wpQuiet_nil ?_
  intro _ hw'
  obtain ⟨x, hx⟩ := hw'
  subst hx
  have hB1 := x.ok
  rw [HA0.out]
  clear p0 p1 p2 hne K1 K2 K3
  generalize x.w = w1 at *
  clear x z12 s1 s2 s3 HA0
  have X1 := X0.below hB1
  obtain ⟨hxl, x0, x1, x2, x3, _⟩ := X1.e4
  go_wp2
  clear hxl x0 x1 x2 x3 X1
  go_loopw [3, 23] (fun s i wr => ∃ k : Nat, k ≤ dr.length ∧ i = .int .i64 k ∧ s = .string (FA k) ∧ Below W0.heap.size W0 wr) (fun _ i _ => dr.length - (intOf i).toNat)
  case atStart => exact ⟨0, Nat.zero_le _, rfl, rfl, hB1⟩
  case round =>
    clear hB1
    obtain ⟨k, hk, rfl, rfl, hb⟩ := hrel
    have hbw := hB0.trans (hb.mono hz0)
    have hz := hb.size
    by_cases hlt : k < dr.length
    · obtain ⟨b, off, rfl, hbl, hcell⟩ := hcq (by intro e; simp [e] at hlt)
      have d0 := (hbw.cell (p := ⟨b, off + k, none⟩) hbl).trans (hcell k hlt)
      have hbl2 : b < wr.heap.size := by omega
      have hrk := HR.out k hlt
      have hs1 := HAS.out k hlt
      have hl1 := HAL.out k hk
      obtain ⟨m, hme⟩ := Int.eq_ofNat_of_zero_le (show 0 ≤ dr[k] from by omega)
      rw [hme] at hs1 d0 hrk
      rw [show ((m : Int)).toNat = m from rfl] at hs1
      have V : ∀ w, Calls Tryz.prog 61 #[.int .i64 m] w fun e w' => e = .returned (.string (tx (varL m))) ∧ Below w.heap.size w w' := fun w => l2Var_any m w (by omega)
      have hzv : (tx (varL m)).size ≤ 3 := by rw [tx_size]; exact var_small m (by omega)
      have HS : Hid (FA k ++ tx (varL m) = FA (k + 1)) := hs1
      clear hcell hcq hs1 hme HR HAS HAL HB0 HBS HBL HE HM hcv K4 hrk
      generalize tx (varL m) = T at *
      go_wp2_with fail
      refine (V _).mono ?_
      rintro e w3 ⟨rfl, hb3⟩
      have hb4 := hb.trans (hb3.mono hz)
      clear V hb3 d0 hb
      go_wp2
      go_roundw
      case rel => exact ⟨k + 1, by omega, by go_num, by rw [← HS.out], hb4⟩
      case measure => simp [intOf]; omega
    · obtain rfl : k = dr.length := by omega
      have hl1 := HAL.out _ (Nat.le_refl _)
      have Xr := X0.below hb
      obtain ⟨hxl, x0, x1, x2, x3, _⟩ := Xr.e4
      clear hcq HR HAS HAL Xr
      go_wp2_with fail
      refine (K4 _).mono ?_
      rintro e w3 ⟨rfl, hb3⟩
      have hb4 := hb.trans (hb3.mono hz)
      have Xr := X0.below hb4
      clear K4 hb3 hb hbw hxl x0 x1 x2 x3
      obtain ⟨hxl, x0, x1, x2, x3, _⟩ := Xr.e4
      go_wp2
      rw [HB0.out]
      clear hxl x0 x1 x2 x3 Xr HB0
      go_loopw [3, 41] (fun s i wr => ∃ k : Nat, k ≤ l.length ∧ i = .int .i64 k ∧ s = .string (FB k) ∧ Below W0.heap.size W0 wr) (fun _ i _ => l.length - (intOf i).toNat)
      case atStart => exact ⟨0, Nat.zero_le _, rfl, rfl, hb4⟩
      case round =>
        clear hb4 hz
        obtain ⟨k, hk, rfl, rfl, hb⟩ := hrel
        have hbw := hB0.trans (hb.mono hz0)
        have hz := hb.size
        by_cases hlt : k < l.length
        · obtain ⟨b, off, rfl, hbl, hcell⟩ := hcv (by intro e; simp [e] at hlt)
          have hc0 := (hbw.cell (p := ⟨b, off + k * 4, none⟩) hbl).trans (hcell k hlt).1
          have hc1 := (hbw.cell (p := ⟨b, off + k * 4 + 1, none⟩) hbl).trans (hcell k hlt).2.1
          have hc2 := (hbw.cell (p := ⟨b, off + k * 4 + 2, none⟩) hbl).trans (hcell k hlt).2.2.1
          have hc3 := (hbw.cell (p := ⟨b, off + k * 4 + 3, none⟩) hbl).trans (hcell k hlt).2.2.2
          have hbl2 : b < wr.heap.size := by omega
          have hok := HM.out k hlt
          have g1 := okMt_num hok
          have g2 := okMt_lev hok
          have g3 := okMt_key hok
          have hs1 := HBS.out k hlt
          have hl1 := HBL.out k hk
          obtain ⟨m, hme⟩ := Int.eq_ofNat_of_zero_le (show 0 ≤ l[k].n from by omega)
          obtain ⟨d, hde⟩ := Int.eq_ofNat_of_zero_le (show 0 ≤ l[k].d from by omega)
          rw [hme, hde] at hs1
          rw [hme] at hc0 g1
          rw [hde] at hc1 g2
          rw [show ((m : Int)).toNat = m from rfl, show ((d : Int)).toNat = d from rfl] at hs1
          have V1 : ∀ w, Calls Tryz.prog 61 #[.int .i64 m] w fun e w' => e = .returned (.string (tx (varL m))) ∧ Below w.heap.size w w' := fun w => l2Var_any m w (by omega)
          have V2 : ∀ w, Calls Tryz.prog 61 #[.int .i64 d] w fun e w' => e = .returned (.string (tx (varL d))) ∧ Below w.heap.size w w' := fun w => l2Var_any d w (by omega)
          have V3 : ∀ w, Calls Tryz.prog 61 #[.int .i64 l[k].k.size] w fun e w' => e = .returned (.string (tx (varL l[k].k.size))) ∧ Below w.heap.size w w' := fun w => l2Var_any l[k].k.size w (by omega)
          have V4 : ∀ w, Calls Tryz.prog 61 #[.int .i64 l[k].v.size] w fun e w' => e = .returned (.string (tx (varL l[k].v.size))) ∧ Below w.heap.size w w' := fun w => l2Var_any l[k].v.size w (by omega)
          have q1 : (tx (varL m)).size ≤ 3 := by rw [tx_size]; exact var_small m (by omega)
          have q2 : (tx (varL d)).size ≤ 3 := by rw [tx_size]; exact var_small d (by omega)
          have q3 : (tx (varL l[k].k.size)).size ≤ 3 := by rw [tx_size]; exact var_small _ (by omega)
          have q4 : (tx (varL l[k].v.size)).size ≤ 3 := by rw [tx_size]; exact var_small _ (by omega)
          have hk16 : l[k].k.size ≤ 16 := by omega
          have hv16 : l[k].v.size ≤ 16 := by omega
          have HS : Hid (FB k ++ (tx (varL m) ++ tx (varL d) ++ tx (varL l[k].k.size) ++ l[k].k ++ tx (varL l[k].v.size) ++ l[k].v) = FB (k + 1)) := hs1
          clear hcell hcv hs1 hme hde HBS HBL HM HE hok g1 g2 g3
          generalize tx (varL m) = A1 at *
          generalize tx (varL d) = A2 at *
          generalize tx (varL l[k].k.size) = A3 at *
          generalize tx (varL l[k].v.size) = A4 at *
          generalize l[k].k = tk at *
          generalize l[k].v = tv at *
          obtain ⟨W1, hW1⟩ : ∃ W1, W1 = wr.alloc (.cells #[.int .i64 m, .int .i64 d, .string tk, .string tv] 71) := ⟨_, rfl⟩
          have Y : Box W1 wr.heap.size [.int .i64 m, .int .i64 d, .string tk, .string tv] := by rw [hW1]; exact Box.new wr #[.int .i64 m, .int .i64 d, .string tk, .string tv] 71
          have hbW : Below W0.heap.size W0 W1 := by rw [hW1]; exact hb.alloc hz _
          have y0 := fun x : WC W1.heap.size W1 => (Y.below x.ok).2.1 0 _ rfl
          have y1 := fun x : WC W1.heap.size W1 => (Y.below x.ok).2.1 1 _ rfl
          have y2 := fun x : WC W1.heap.size W1 => (Y.below x.ok).2.1 2 _ rfl
          have y3 := fun x : WC W1.heap.size W1 => (Y.below x.ok).2.1 3 _ rfl
          have hne : Nonempty (WC W1.heap.size W1) := ⟨⟨_, Below.refl _ _⟩⟩
          have c2 : (A1 ++ A2).size = A1.size + A2.size := ByteArray.size_append
          have c3 : (A1 ++ A2 ++ A3).size = A1.size + A2.size + A3.size := by rw [ByteArray.size_append, c2]
          have c4 : (A1 ++ A2 ++ A3 ++ tk).size = A1.size + A2.size + A3.size + tk.size := by rw [ByteArray.size_append, c3]
          have c5 : (A1 ++ A2 ++ A3 ++ tk ++ A4).size = A1.size + A2.size + A3.size + tk.size + A4.size := by rw [ByteArray.size_append, c4]
          have c6 : (A1 ++ A2 ++ A3 ++ tk ++ A4 ++ tv).size = A1.size + A2.size + A3.size + tk.size + A4.size + tv.size := by rw [ByteArray.size_append, c5]
          go_wp2_with fail
          rw [← hW1]; clear hW1 hc0 hc1 hc2 hc3
          refine wp_region_calm (B := W1.heap.size) (W := W1) (by kernel_rfl) (by kernel_rfl) (Below.refl _ _) ?_
          repeat (go_big_quiet_step (first | (go_at_call 61; first | with_reducible exact calm_of_below (Nat.le_refl _) (V1 _) | with_reducible exact calm_of_below (Nat.le_refl _) (V2 _) | with_reducible exact calm_of_below (Nat.le_refl _) (V3 _) | with_reducible exact calm_of_below (Nat.le_refl _) (V4 _)) | omega))
          refine wpQuiet_nil ?_
          intro _ hw'
          obtain ⟨x, hx⟩ := hw'
          subst hx
          have hB5 := hbW.trans (x.ok.mono hbW.size)
          clear y0 y1 y2 y3 hne V1 V2 V3 V4 Y hbW hb hbw
          generalize x.w = w5 at *
          clear x
          go_wp2
          go_roundw
          case rel => exact ⟨k + 1, by omega, by go_num, by rw [← HS.out], hB5⟩
          case measure => simp [intOf]; omega
        · obtain rfl : k = l.length := by omega
          have HE2 : Hid (FB l.length = tx (edL n t dr l)) := HE.out
          clear hcv HBS HBL HM HE
          go_wp2
          go_ret
          exact ⟨by rw [← HE2.out]; rfl, hbw⟩
end Go.Proofs.YtenbdjlhcadhaaaGreat
