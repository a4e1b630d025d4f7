/-
  The bytes of metas: metasText.
-/
import Derived.Test.YtenbdjlhcadhaaaGreatR9
namespace Go.Proofs.YtenbdjlhcadhaaaGreat
open Go.RowKit
set_option linter.unusedVariables false
set_option maxRecDepth 100000

theorem mt1_tx (m : Mt) : tx (varL m.n.toNat) ++ tx (varL m.d.toNat) ++ (tx (varL m.k.size) ++ m.k) ++ (tx (varL m.v.size) ++ m.v) = tx (mt1 m) := by
  unfold mt1
  rw [← tx_bl m.k, ← tx_bl m.v, tx_cat, tx_cat, tx_cat, tx_cat, tx_cat]
  simp only [tx_bl]

set_option maxHeartbeats 4000000 in
theorem metasText_any (v : Value) (l : List Mt) (w : World) (hv : IR w v l) (hn : l.length ≤ 30) (hg : goodMs l = true) :
    Calls Tryz.prog 24 #[v] w fun e w' => e = .returned (.string (tx (mtL l l.length))) ∧ Below w.heap.size w w' := by
  obtain ⟨a, cap, rfl, hc⟩ := hv
  have hlen := msL_len l hg
  have N0 := builder_new w
  have hB := below_alloc w (.cells #[.pointer none, .slice none 0 0] 84)
  have V0 := numberText_any l.length (w.alloc (.cells #[.pointer none, .slice none 0 0] 84)) (by omega)
  have e0 := tx_size (varL l.length)
  have b0 := var_small l.length (by omega)
  have HN0 : Hid (bl (tx (varL l.length)) = mtL l 0) := by show _ = _; unfold mtL; rw [bl_tx]; simp [msL]
  have HNS : Hid (∀ k, mtL l (k + 1) = mtL l k ++ mt1 (l.getD k default)) := fun k => by unfold mtL; rw [List.append_assoc]; rfl
  have HNL : Hid (∀ k, k ≤ l.length → (mtL l k).length ≤ 3 + 50 * k) := fun k hk => by unfold mtL; rw [List.length_append]; have := hlen k hk; omega
  clear hlen
  generalize tx (varL l.length) = A at *
  go_enter Tryz.func24, Tryz.ntmps24
  go_wp2_with fail
  refine V0.mono ?_
  rintro e w1 ⟨rfl, hb1⟩
  replace N0 := builder_below N0 hb1
  replace hB := below_then hB hb1
  clear V0 hb1
  go_wp2_with fail
  refine (write_any w.heap.size w.heap.size [] A w1 N0 (by simp; omega) hB.size).mono ?_
  rintro e w2 ⟨rfl, N1, hb2, _⟩
  replace hB := hB.trans hb2
  rw [List.nil_append, HN0.out] at N1
  clear N0 hb2 HN0 e0 b0
  go_wp2
  go_loopw [12] (fun i wr => ∃ k : Nat, k ≤ l.length ∧ i = .int .i64 k ∧ Lib.IsBuilder 84 5 w.heap.size w.heap.size (Lib.byteCells (mtL l k)) wr ∧ Below w.heap.size w wr) (fun i _ => l.length - (intOf i).toNat)
  case atStart => exact ⟨0, Nat.zero_le _, rfl, N1, hB⟩
  case round =>
    obtain ⟨k, hk, rfl, N, hb⟩ := hrel
    clear N1 hB
    have hz := hb.size
    by_cases hlt : k < l.length
    · obtain ⟨b, off, rfl, hbl, hcell⟩ := hc (by intro e; simp [e] at hlt)
      have hc0 := (hb.cell (p := ⟨b, off + k * 4, none⟩) hbl).trans (hcell k hlt).1
      have hc1 := (hb.cell (p := ⟨b, off + k * 4 + 1, none⟩) hbl).trans (hcell k hlt).2.1
      have hc2 := (hb.cell (p := ⟨b, off + k * 4 + 2, none⟩) hbl).trans (hcell k hlt).2.2.1
      have hc3 := (hb.cell (p := ⟨b, off + k * 4 + 3, none⟩) hbl).trans (hcell k hlt).2.2.2
      have hbl2 : b < wr.heap.size := by omega
      have hok := goodMs_ok hg hlt
      have h1 := okMt_num hok
      have h2 := okMt_lev hok
      have h3 := okMt_key hok
      have hs1 := HNS.out k
      rw [getD_at l k hlt] at hs1
      have hl1 := HNL.out k hk
      have hml := mt1_len l[k] hok
      have hmt := mt1_tx l[k]
      obtain ⟨n, hne⟩ := Int.eq_ofNat_of_zero_le (show 0 ≤ l[k].n from by omega)
      obtain ⟨d, hde⟩ := Int.eq_ofNat_of_zero_le (show 0 ≤ l[k].d from by omega)
      have hmz := tx_size (mt1 l[k])
      have HS : Hid (mtL l (k + 1) = mtL l k ++ bl (tx (mt1 l[k]))) := hs1
      rw [hne, hde] at hmt
      rw [hne] at hc0 h1
      rw [hde] at hc1 h2
      rw [show ((n : Int)).toNat = n from rfl, show ((d : Int)).toNat = d from rfl] at hmt
      have V1 := fun w => twoNumbers_any n d w (by omega) (by omega)
      have V2 := fun w => sizedText_any l[k].k w (by omega)
      have V3 := fun w => sizedText_any l[k].v w (by omega)
      have z1 : (tx (varL n) ++ tx (varL d)).size ≤ 6 := by rw [ByteArray.size_append, tx_size, tx_size]; have := var_small n (by omega); have := var_small d (by omega); omega
      have z2 : (tx (varL l[k].k.size) ++ l[k].k).size ≤ 19 := by rw [ByteArray.size_append, tx_size]; have := var_small l[k].k.size (by omega); omega
      have z3 : (tx (varL l[k].v.size) ++ l[k].v).size ≤ 19 := by rw [ByteArray.size_append, tx_size]; have := var_small l[k].v.size (by omega); omega
      have HMT : Hid (tx (varL n) ++ tx (varL d) ++ (tx (varL l[k].k.size) ++ l[k].k) ++ (tx (varL l[k].v.size) ++ l[k].v) = tx (mt1 l[k])) := hmt
      clear hcell hc hs1 hg HNS HNL hok h1 h2 h3 hmt hne hde
      generalize tx (mt1 l[k]) = M at *
      generalize mt1 l[k] = m1 at *
      generalize tx (varL l[k].k.size) ++ l[k].k = T2 at *
      generalize tx (varL l[k].v.size) ++ l[k].v = T3 at *
      generalize tx (varL n) ++ tx (varL d) = T1 at *
      generalize l[k].k = tk at *
      generalize l[k].v = tv at *
      generalize mtL l k = L at *
      have Y : Box (wr.alloc (.cells #[.int .i64 n, .int .i64 d, .string tk, .string tv] 71)).drew wr.heap.size [.int .i64 n, .int .i64 d, .string tk, .string tv] := Box.new wr #[.int .i64 n, .int .i64 d, .string tk, .string tv] 71
      have HK : Hid (∀ k, BlkOf wr w.heap.size k → k < wr.heap.size) := fun k hk => blkOf_lt N hk
      have hwl : w.heap.size < wr.heap.size := HK.out _ (.inl rfl)
      have hbA : Below wr.heap.size wr (wr.alloc (.cells #[.int .i64 n, .int .i64 d, .string tk, .string tv] 71)).drew := (below_alloc _ _).drew
      replace N := builder_below N hbA
      replace hb := below_then hb hbA
      have hx := hbA
      clear hbA
      go_wp2_with fail
      refine wp_region_held_drew (S := fun w' => Box w' wr.heap.size [.int .i64 n, .int .i64 d, .string tk, .string tv]) (by kernel_rfl) Y (fun hHeld => ?_)
      generalize (wr.alloc (.cells #[.int .i64 n, .int .i64 d, .string tk, .string tv] 71)).drew = w3 at *
      clear hc0 hc1 hc2 hc3
      refine wpAnyH_take (i := 0) (oi := { dst := some 16, op := Op.fieldAddr 71 (Operand.tmp 5) 0, type := 0, pos := "l9_version.go:285", after := #[], guard := none }) (v := .pointer (some ⟨wr.heap.size, 0, none⟩)) rfl (by kernel_rfl) (by kernel_rfl) (by kernel_rfl) (fun _ _ _ h => h) (Or.inl ⟨by rfl, ?_⟩) (by assumption) ?_
      · intro wx hSw
        clear hSw hHeld; go_simp
      simp only [Act.put, List.setIfInBounds_toArray, List.set_cons_zero, List.set_cons_succ]
      refine wpAnyH_take (i := 1) (oi := { dst := some 17, op := Op.load 3 (Operand.tmp 16), type := 3, pos := "l9_version.go:285", after := #[{ on := 0, ground := Ground.data }], guard := none }) (v := .int .i64 n) rfl (by kernel_rfl) (by kernel_rfl) (by kernel_rfl) (fun _ _ _ h => h) (Or.inl ⟨by rfl, ?_⟩) (by assumption) ?_
      · intro wx hSw
        have e := hSw.2.1 0 _ rfl; clear hHeld; go_simp
      simp only [Act.put, List.setIfInBounds_toArray, List.set_cons_zero, List.set_cons_succ]
      refine wpAnyH_take (i := 2) (oi := { dst := some 18, op := Op.fieldAddr 71 (Operand.tmp 5) 1, type := 0, pos := "l9_version.go:285", after := #[], guard := none }) (v := .pointer (some ⟨wr.heap.size, 1, none⟩)) rfl (by kernel_rfl) (by kernel_rfl) (by kernel_rfl) (fun _ _ _ h => h) (Or.inl ⟨by rfl, ?_⟩) (by assumption) ?_
      · intro wx hSw
        clear hSw hHeld; go_simp
      simp only [Act.put, List.setIfInBounds_toArray, List.set_cons_zero, List.set_cons_succ]
      refine wpAnyH_take (i := 3) (oi := { dst := some 19, op := Op.load 3 (Operand.tmp 18), type := 3, pos := "l9_version.go:285", after := #[{ on := 2, ground := Ground.data }], guard := none }) (v := .int .i64 d) rfl (by kernel_rfl) (by kernel_rfl) (by kernel_rfl) (fun _ _ _ h => h) (Or.inl ⟨by rfl, ?_⟩) (by assumption) ?_
      · intro wx hSw
        have e := hSw.2.1 1 _ rfl; clear hHeld; go_simp
      simp only [Act.put, List.setIfInBounds_toArray, List.set_cons_zero, List.set_cons_succ]
      refine wpAnyH_take (i := 5) (oi := { dst := some 21, op := Op.fieldAddr 71 (Operand.tmp 5) 2, type := 0, pos := "l9_version.go:285", after := #[], guard := none }) (v := .pointer (some ⟨wr.heap.size, 2, none⟩)) rfl (by kernel_rfl) (by kernel_rfl) (by kernel_rfl) (fun _ _ _ h => h) (Or.inl ⟨by rfl, ?_⟩) (by assumption) ?_
      · intro wx hSw
        clear hSw hHeld; go_simp
      simp only [Act.put, List.setIfInBounds_toArray, List.set_cons_zero, List.set_cons_succ]
      refine wpAnyH_take (i := 6) (oi := { dst := some 22, op := Op.load 9 (Operand.tmp 21), type := 9, pos := "l9_version.go:285", after := #[{ on := 5, ground := Ground.data }], guard := none }) (v := .string tk) rfl (by kernel_rfl) (by kernel_rfl) (by kernel_rfl) (fun _ _ _ h => h) (Or.inl ⟨by rfl, ?_⟩) (by assumption) ?_
      · intro wx hSw
        have e := hSw.2.1 2 _ rfl; clear hHeld; go_simp
      simp only [Act.put, List.setIfInBounds_toArray, List.set_cons_zero, List.set_cons_succ]
      refine wpAnyH_take (i := 9) (oi := { dst := some 25, op := Op.fieldAddr 71 (Operand.tmp 5) 3, type := 0, pos := "l9_version.go:285", after := #[], guard := none }) (v := .pointer (some ⟨wr.heap.size, 3, none⟩)) rfl (by kernel_rfl) (by kernel_rfl) (by kernel_rfl) (fun _ _ _ h => h) (Or.inl ⟨by rfl, ?_⟩) (by assumption) ?_
      · intro wx hSw
        clear hSw hHeld; go_simp
      simp only [Act.put, List.setIfInBounds_toArray, List.set_cons_zero, List.set_cons_succ]
      refine wpAnyH_take (i := 10) (oi := { dst := some 26, op := Op.load 9 (Operand.tmp 25), type := 9, pos := "l9_version.go:285", after := #[{ on := 9, ground := Ground.data }], guard := none }) (v := .string tv) rfl (by kernel_rfl) (by kernel_rfl) (by kernel_rfl) (fun _ _ _ h => h) (Or.inl ⟨by rfl, ?_⟩) (by assumption) ?_
      · intro wx hSw
        have e := hSw.2.1 3 _ rfl; clear hHeld; go_simp
      simp only [Act.put, List.setIfInBounds_toArray, List.set_cons_zero, List.set_cons_succ]
      refine wpAnyH_ready (rs := [4]) (by kernel_rfl) (by simp) ?_
      refine AllReadyH.cons (o := { dst := some 20, op := Op.call { callee := Callee.value (Operand.func 22), args := #[Operand.tmp 17, Operand.tmp 19], argTypes := #[3, 3] }, type := 9, pos := "l9_version.go:285", after := #[{ on := 1, ground := Ground.data }, { on := 3, ground := Ground.data }], guard := none }) rfl (fun K hK => ?_) AllReadyH.nil
      clear hHeld
      go_simp
      refine (V1 _).mono ?_
      rintro e w4 ⟨rfl, hb4⟩
      replace N := builder_below N hb4
      replace hb := below_then hb hb4
      replace Y := Y.below hb4
      replace hx := below_then hx hb4
      clear hb4 V1
      refine hK.out _ _ Y (fun hHeld => ?_)
      clear hK K
      refine wpAnyH_ready (rs := [7]) (by kernel_rfl) (by simp) ?_
      refine AllReadyH.cons (o := { dst := some 23, op := Op.call { callee := Callee.value (Operand.func 57), args := #[Operand.tmp 22], argTypes := #[9] }, type := 9, pos := "l9_version.go:285", after := #[{ on := 6, ground := Ground.data }, { on := 4, ground := Ground.chain }], guard := none }) rfl (fun K hK => ?_) AllReadyH.nil
      clear hHeld
      go_simp
      refine (V2 _).mono ?_
      rintro e w5 ⟨rfl, hb5⟩
      replace N := builder_below N hb5
      replace hb := below_then hb hb5
      replace Y := Y.below hb5
      replace hx := below_then hx hb5
      clear hb5 V2
      refine hK.out _ _ Y (fun hHeld => ?_)
      clear hK K
      refine wpAnyH_take (i := 8) (oi := { dst := some 24, op := Op.binOp BinOp.add 9 (Operand.tmp 20) (Operand.tmp 23) 9, type := 9, pos := "l9_version.go:285", after := #[{ on := 4, ground := Ground.data }, { on := 7, ground := Ground.data }], guard := none }) (v := .string (T1 ++ T2)) rfl (by kernel_rfl) (by kernel_rfl) (by kernel_rfl) (fun _ _ _ h => h) (Or.inl ⟨by rfl, ?_⟩) (by assumption) ?_
      · intro wx hSw
        clear hSw hHeld; go_simp; omega
      simp only [Act.put, List.setIfInBounds_toArray, List.set_cons_zero, List.set_cons_succ]
      refine wpAnyH_ready (rs := [11]) (by kernel_rfl) (by simp) ?_
      refine AllReadyH.cons (o := { dst := some 27, op := Op.call { callee := Callee.value (Operand.func 57), args := #[Operand.tmp 26], argTypes := #[9] }, type := 9, pos := "l9_version.go:285", after := #[{ on := 10, ground := Ground.data }, { on := 7, ground := Ground.chain }], guard := none }) rfl (fun K hK => ?_) AllReadyH.nil
      clear hHeld
      go_simp
      refine (V3 _).mono ?_
      rintro e w6 ⟨rfl, hb6⟩
      replace N := builder_below N hb6
      replace hb := below_then hb hb6
      replace Y := Y.below hb6
      replace hx := below_then hx hb6
      clear hb6 V3
      refine hK.out _ _ Y (fun hHeld => ?_)
      clear hK K
      refine wpAnyH_take (i := 12) (oi := { dst := some 28, op := Op.binOp BinOp.add 9 (Operand.tmp 24) (Operand.tmp 27) 9, type := 9, pos := "l9_version.go:285", after := #[{ on := 8, ground := Ground.data }, { on := 11, ground := Ground.data }], guard := none }) (v := .string (T1 ++ T2 ++ T3)) rfl (by kernel_rfl) (by kernel_rfl) (by kernel_rfl) (fun _ _ _ h => h) (Or.inl ⟨by rfl, ?_⟩) (by assumption) ?_
      · intro wx hSw
        clear hSw hHeld; have z := ByteArray.size_append (a := T1) (b := T2); go_simp; omega
      simp only [Act.put, List.setIfInBounds_toArray, List.set_cons_zero, List.set_cons_succ]
      refine wpAnyH_ready (rs := [13]) (by kernel_rfl) (by simp) ?_
      refine AllReadyH.cons (o := { dst := some 29, op := Op.call { callee := Callee.value (Operand.func 54), args := #[Operand.tmp 3, Operand.tmp 28], argTypes := #[84, 9] }, type := 87, pos := "l9_version.go:285", after := #[{ on := 12, ground := Ground.data }, { on := 11, ground := Ground.chain }], guard := none }) rfl (fun K hK => ?_) AllReadyH.nil
      clear hHeld
      go_simp
      rw [HMT.out]
      refine (write_any w.heap.size w.heap.size L M w6 N (by omega) hb.size).mono ?_
      rintro e w7 ⟨rfl, N7, hb7, hc7⟩
      replace hb := hb.trans hb7
      rw [← HS.out] at N7
      clear N
      refine hK.out _ _ (hc7.box Y fun h => ?_) (fun hHeld => ?_)
      · have := HK.out _ (blkOf_below hwl hx h); omega
      clear hK K hHeld
      refine wpAnyH_done (by kernel_rfl) ?_ _
      go_wp2
      go_roundw
      case rel => exact ⟨k + 1, by omega, by go_num, N7, hb⟩
      case measure => simp [intOf]; omega
    · obtain rfl : k = l.length := by omega
      have KS := builderString_any w.heap.size w.heap.size (mtL l l.length) wr N hz
      clear hc hg HNS HNL
      go_wp2_with fail
      refine KS.mono ?_
      rintro e w3 ⟨rfl, hb3⟩
      have hB3 := hb.trans hb3
      clear KS N hb hb3
      go_wp2
      go_ret
      exact ⟨rfl, hB3⟩
end Go.Proofs.YtenbdjlhcadhaaaGreat
