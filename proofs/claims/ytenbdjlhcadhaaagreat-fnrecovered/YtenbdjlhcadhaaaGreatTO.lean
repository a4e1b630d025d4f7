/-
  A text that may be cut or changed: spec.(*l1Cur).torn.
-/
import Derived.Test.YtenbdjlhcadhaaaGreatD2ToD5
import Derived.Deep.RegionHeld3
namespace Go.Proofs.YtenbdjlhcadhaaaGreat
open Go.RowKit
set_option linter.unusedVariables false
set_option maxRecDepth 100000

theorem u8_some (op : BinOp) (a c : Int) : ∃ u : UInt8, bits op IntKind.u8 a c = (u.toNat : Int) := by
  have h := bits_within op .u8 a c
  have h1 : (0 : Int) ≤ bits op .u8 a c := h.1
  have h2 : bits op .u8 a c ≤ 255 := h.2
  refine ⟨UInt8.ofNat (bits op .u8 a c).toNat, ?_⟩
  rw [UInt8.toNat_ofNat', Nat.mod_eq_of_lt (by omega)]; omega
theorem Wr.chg {w w' : World} {S : Nat → Prop} {g : Nat} {m : List UInt8} (h : Wr w g m) (hc : Chg S w w') (hg : ¬ S g) : Wr w' g m := by
  refine ⟨Nat.lt_of_lt_of_le h.1 hc.size, fun j hj => ?_⟩
  have e := hc.block g h.1 hg
  refine ⟨?_, ?_⟩
  · rw [← (h.2 j hj).1]; unfold World.cell?; rw [e]
  · rw [← (h.2 j hj).2]; unfold World.frozen?; rw [e]
def TornPost (b : Nat) (l : List UInt8) (K : Nat) (s : ByteArray) (w : World) (e : Ending) (w' : World) : Prop := (∃ T : ByteArray, e = .returned (.string T) ∧ T.size ≤ s.size) ∧ Cur w' b l (K + 6) ∧ Chg (· = b) w w'

set_option maxHeartbeats 4000000 in
theorem torn_any (b : Nat) (l : List UInt8) (c : Nat) (s : ByteArray) (w : World) (h : Cur w b l c) (hl : l.length ≤ 9223372036854775807) (hc : c ≤ 10000000) (hs : s.size ≤ 100000) :
    Calls Tryz.prog 35 #[.pointer (some ⟨b, 0, none⟩), .string s] w (TornPost b l c s w) := by
  have hbw := h.lt
  go_enter Tryz.func35, Tryz.ntmps35
  go_wp2_with fail
  refine (pick_any b l c 4 _ h hl (by omega) (by omega)).mono ?_
  rintro e w1 ⟨⟨x, rfl, hx⟩, C1, G1⟩
  clear h
  have hz1 := G1.size
  by_cases hx0 : x = 0
  · subst hx0
    obtain ⟨n, hn⟩ : ∃ n, n = s.size + 1 := ⟨_, rfl⟩
    have E : (s.size : Int) + 1 = (n : Int) := by omega
    have V : IntKind.i64.wrap (n : Int) = (n : Int) := by rw [IntKind.wrap_i64]; omega
    have n1 : n ≤ s.size + 1 := by omega
    have n2 : s.size + 1 ≤ n := by omega
    clear hn
    go_wp2_with fail
    refine (pick_any b l (c + 2) n _ C1 hl (by omega) (by omega)).mono ?_
    rintro e w2 ⟨⟨y, rfl, hy⟩, C2, G2⟩
    have hy2 : y ≤ s.size := by omega
    clear E V C1
    go_wp2
    go_ret
    exact ⟨⟨_, rfl, by rw [ByteArray.size_extract]; omega⟩, C2.mono (by omega), G1.trans G2⟩
  by_cases hx1 : x = 1
  · subst hx1
    obtain ⟨cap, w2, hcv, hwr, hb2⟩ := bytes_of s w1
    by_cases hz : s.size = 0
    · rw [hz] at hcv
      go_wp2
      go_ret
      exact ⟨⟨_, rfl, Nat.le_refl _⟩, (C1.chg hb2).mono (by omega), G1.trans (Chg.of_below hb2)⟩
    have hz0 : (0 : Int) < (s.size : Int) := by omega
    have C2 := C1.chg hb2
    have G2 := G1.trans (Chg.of_below (S := (· = b)) hb2)
    go_wp2_with fail
    clear hcv C1 hb2
    have hD : Below w2.heap.size w2 w2.drew := (Below.refl _ _).drew
    replace C2 := C2.chg hD
    replace hwr := hwr.below hD
    replace G2 := G2.trans (Chg.of_below (S := (· = b)) hD)
    clear hD
    refine wp_region_held_drew (S := fun _ => True) (by kernel_rfl) trivial (fun hHeld => ?_)
    generalize w2.drew = va at *
    have hgb : ¬ w1.heap.size = b := by omega
    refine wpAnyH_take (i := 0) (oi := { dst := some 24, op := Op.move (Operand.tmp 5), type := 22, pos := "l2_codec.go:177", after := #[], guard := none }) (v := .slice (some ⟨w1.heap.size, 0, none⟩) s.size cap) rfl (by kernel_rfl) (by kernel_rfl) (by kernel_rfl) (fun _ _ _ h => h) (Or.inl ⟨by rfl, ?_⟩) (by assumption) ?_
    · intro wx hSw
      go_simp
    simp only [Act.put, List.setIfInBounds_toArray, List.set_cons_zero, List.set_cons_succ]
    refine wpAnyH_take (i := 1) (oi := { dst := some 25, op := Op.move (Operand.tmp 0), type := 48, pos := "l2_codec.go:177", after := #[], guard := none }) (v := .pointer (some ⟨b, 0, none⟩)) rfl (by kernel_rfl) (by kernel_rfl) (by kernel_rfl) (fun _ _ _ h => h) (Or.inl ⟨by rfl, ?_⟩) (by assumption) ?_
    · intro wx hSw
      go_simp
    simp only [Act.put, List.setIfInBounds_toArray, List.set_cons_zero, List.set_cons_succ]
    refine wpAnyH_take (i := 2) (oi := { dst := some 26, op := Op.move (Operand.tmp 5), type := 22, pos := "l2_codec.go:177", after := #[], guard := none }) (v := .slice (some ⟨w1.heap.size, 0, none⟩) s.size cap) rfl (by kernel_rfl) (by kernel_rfl) (by kernel_rfl) (fun _ _ _ h => h) (Or.inl ⟨by rfl, ?_⟩) (by assumption) ?_
    · intro wx hSw
      go_simp
    simp only [Act.put, List.setIfInBounds_toArray, List.set_cons_zero, List.set_cons_succ]
    refine wpAnyH_take (i := 3) (oi := { dst := some 27, op := Op.call { callee := Callee.builtin Builtin.len, args := #[Operand.tmp 26], argTypes := #[22] }, type := 3, pos := "l2_codec.go:177", after := #[{ on := 2, ground := Ground.data }], guard := none }) (v := .int .i64 (s.size : Int)) rfl (by kernel_rfl) (by kernel_rfl) (by kernel_rfl) (fun _ _ _ h => h) (Or.inl ⟨by rfl, ?_⟩) (by assumption) ?_
    · intro wx hSw
      go_simp
    simp only [Act.put, List.setIfInBounds_toArray, List.set_cons_zero, List.set_cons_succ]
    refine wpAnyH_take (i := 7) (oi := { dst := some 31, op := Op.move (Operand.tmp 0), type := 48, pos := "l2_codec.go:177", after := #[], guard := none }) (v := .pointer (some ⟨b, 0, none⟩)) rfl (by kernel_rfl) (by kernel_rfl) (by kernel_rfl) (fun _ _ _ h => h) (Or.inl ⟨by rfl, ?_⟩) (by assumption) ?_
    · intro wx hSw
      go_simp
    simp only [Act.put, List.setIfInBounds_toArray, List.set_cons_zero, List.set_cons_succ]
    refine wpAnyH_ready (rs := [4]) (by kernel_rfl) (by simp) ?_
    refine AllReadyH.cons (o := { dst := some 28, op := Op.call { callee := Callee.value (Operand.func 31), args := #[Operand.tmp 25, Operand.tmp 27], argTypes := #[48, 3] }, type := 3, pos := "l2_codec.go:177", after := #[{ on := 1, ground := Ground.data }, { on := 3, ground := Ground.data }], guard := none }) rfl (fun K hK => ?_) AllReadyH.nil
    go_simp
    refine (pick_any b l (c + 2) s.size _ C2 hl (by omega) (by omega)).mono ?_
    rintro e vb ⟨⟨y, rfl, hy⟩, C3, G3⟩
    have hy2 : y < s.size := by omega
    have hyl : y < s.data.toList.length := by simpa using hy2
    replace hwr := hwr.chg G3 hgb
    replace G2 := G2.trans G3
    clear C2 G3
    refine hK.out _ vb trivial (fun hHeld => ?_)
    clear hK
    try (simp only [Act.put, List.setIfInBounds_toArray, List.set_cons_zero, List.set_cons_succ])
    refine wpAnyH_take (i := 5) (oi := { dst := some 29, op := Op.indexAddr 22 (Operand.tmp 24) (Operand.tmp 28), type := 0, pos := "l2_codec.go:177", after := #[{ on := 0, ground := Ground.data }, { on := 4, ground := Ground.data }], guard := none }) (v := .pointer (some ⟨w1.heap.size, y, none⟩)) rfl (by kernel_rfl) (by kernel_rfl) (by kernel_rfl) (fun _ _ _ h => h) (Or.inl ⟨by rfl, ?_⟩) (by assumption) ?_
    · intro wx hSw
      go_simp
    simp only [Act.put, List.setIfInBounds_toArray, List.set_cons_zero, List.set_cons_succ]
    refine wpAnyH_ready (rs := [6, 8]) (by kernel_rfl) (by simp) ?_
    refine AllReadyH.cons (o := { dst := some 30, op := Op.load 5 (Operand.tmp 29), type := 5, pos := "l2_codec.go:177", after := #[{ on := 5, ground := Ground.data }], guard := none }) rfl (fun K hK => ?_) (AllReadyH.cons (o := { dst := some 32, op := Op.call { callee := Callee.value (Operand.func 31), args := #[Operand.tmp 31, Operand.const (Value.int IntKind.i64 8)], argTypes := #[48, 3] }, type := 3, pos := "l2_codec.go:177", after := #[{ on := 7, ground := Ground.data }, { on := 4, ground := Ground.chain }], guard := none }) rfl (fun K hK => ?_) AllReadyH.nil)
    · skip
      have hc0 := (hwr.2 y hyl).1
      go_simp
      refine hK.out _ _ trivial (fun hHeld => ?_)
      clear hK hc0
      try (simp only [Act.put, List.setIfInBounds_toArray, List.set_cons_zero, List.set_cons_succ])
      refine wpAnyH_ready (rs := [8]) (by kernel_rfl) (by simp) ?_
      refine AllReadyH.cons (o := { dst := some 32, op := Op.call { callee := Callee.value (Operand.func 31), args := #[Operand.tmp 31, Operand.const (Value.int IntKind.i64 8)], argTypes := #[48, 3] }, type := 3, pos := "l2_codec.go:177", after := #[{ on := 7, ground := Ground.data }, { on := 4, ground := Ground.chain }], guard := none }) rfl (fun K hK => ?_) AllReadyH.nil
      go_simp
      refine (pick_any b l (c + 2 + 2) 8 _ C3 hl (by omega) (by omega)).mono ?_
      rintro e vc ⟨⟨z, rfl, hz8⟩, C4, G4⟩
      replace hwr := hwr.chg G4 hgb
      replace G2 := G2.trans G4
      have hz9 : z < 8 := by omega
      have hz10 : (z : Int) < 8 := by omega
      clear C3 G4
      refine hK.out _ vc trivial (fun hHeld => ?_)
      clear hK
      try (simp only [Act.put, List.setIfInBounds_toArray, List.set_cons_zero, List.set_cons_succ])
      refine wpAnyH_ready (rs := [9]) (by kernel_rfl) (by simp) ?_
      refine AllReadyH.cons (o := { dst := some 33, op := Op.convert 3 99 (Operand.tmp 32), type := 99, pos := "l2_codec.go:177", after := #[{ on := 8, ground := Ground.data }], guard := none }) rfl (fun K hK => ?_) AllReadyH.nil
      go_simp
      refine hK.out _ _ trivial (fun hHeld => ?_)
      clear hK
      try (simp only [Act.put, List.setIfInBounds_toArray, List.set_cons_zero, List.set_cons_succ])
      refine wpAnyH_ready (rs := [10]) (by kernel_rfl) (by simp) ?_
      refine AllReadyH.cons (o := { dst := some 34, op := Op.binOp BinOp.shl 5 (Operand.const (Value.int IntKind.u8 1)) (Operand.tmp 33) 99, type := 5, pos := "l2_codec.go:177", after := #[{ on := 9, ground := Ground.data }], guard := none }) rfl (fun K hK => ?_) AllReadyH.nil
      go_simp
      refine hK.out _ _ trivial (fun hHeld => ?_)
      clear hK
      try (simp only [Act.put, List.setIfInBounds_toArray, List.set_cons_zero, List.set_cons_succ])
      refine wpAnyH_ready (rs := [11]) (by kernel_rfl) (by simp) ?_
      refine AllReadyH.cons (o := { dst := some 35, op := Op.binOp BinOp.xor 5 (Operand.tmp 30) (Operand.tmp 34) 5, type := 5, pos := "l2_codec.go:177", after := #[{ on := 6, ground := Ground.data }, { on := 10, ground := Ground.data }], guard := none }) rfl (fun K hK => ?_) AllReadyH.nil
      go_simp
      refine hK.out _ _ trivial (fun hHeld => ?_)
      clear hK
      try (simp only [Act.put, List.setIfInBounds_toArray, List.set_cons_zero, List.set_cons_succ])
      obtain ⟨u, hu⟩ := u8_some BinOp.xor (s.data[y].toNat : Int) (IntKind.u8.wrap (2 ^ min (IntKind.u64.wrap (z : Int)).toNat 8))
      rw [hu]
      clear hu
      refine wpAnyH_ready (rs := [12]) (by kernel_rfl) (by simp) ?_
      refine AllReadyH.cons (o := { dst := some 36, op := Op.indexAddr 22 (Operand.tmp 24) (Operand.tmp 28), type := 0, pos := "l2_codec.go:177", after := #[{ on := 0, ground := Ground.data }, { on := 4, ground := Ground.data }, { on := 0, ground := Ground.phase }, { on := 1, ground := Ground.phase }, { on := 2, ground := Ground.phase }, { on := 3, ground := Ground.phase }, { on := 4, ground := Ground.phase }, { on := 5, ground := Ground.phase }, { on := 6, ground := Ground.phase }, { on := 7, ground := Ground.phase }, { on := 8, ground := Ground.phase }, { on := 9, ground := Ground.phase }, { on := 10, ground := Ground.phase }, { on := 11, ground := Ground.phase }], guard := none }) rfl (fun K hK => ?_) AllReadyH.nil
      go_simp
      refine hK.out _ _ trivial (fun hHeld => ?_)
      clear hK
      try (simp only [Act.put, List.setIfInBounds_toArray, List.set_cons_zero, List.set_cons_succ])
      refine wpAnyH_ready (rs := [13]) (by kernel_rfl) (by simp) ?_
      refine AllReadyH.cons (o := { dst := none, op := Op.store 5 (Operand.tmp 36) (Operand.tmp 35), type := 0, pos := "l2_codec.go:177", after := #[{ on := 12, ground := Ground.data }, { on := 11, ground := Ground.data }, { on := 8, ground := Ground.chain }, { on := 0, ground := Ground.phase }, { on := 1, ground := Ground.phase }, { on := 2, ground := Ground.phase }, { on := 3, ground := Ground.phase }, { on := 4, ground := Ground.phase }, { on := 5, ground := Ground.phase }, { on := 6, ground := Ground.phase }, { on := 7, ground := Ground.phase }, { on := 8, ground := Ground.phase }, { on := 9, ground := Ground.phase }, { on := 10, ground := Ground.phase }, { on := 11, ground := Ground.phase }], guard := none }) rfl (fun K hK => ?_) AllReadyH.nil
      have hc1 := (hwr.2 y hyl).1
      have hf1 := (hwr.2 y hyl).2
      have hw2 := hwr.set y hyl u
      have hC := cur_set C4 (Nat.le_refl _) ⟨w1.heap.size, y, none⟩ (by show b < w1.heap.size; omega) (.int .u8 (u.toNat : Int))
      have hG := chg_new G2 ⟨w1.heap.size, y, none⟩ (by show w.heap.size ≤ w1.heap.size; omega) (.int .u8 (u.toNat : Int))
      go_simp
      refine hK.out _ (vc.setCell ⟨w1.heap.size, y, none⟩ (.int .u8 (u.toNat : Int))) trivial (fun _ => ?_)
      clear hK K hc1 hf1 hwr C4 G2
      generalize vc.setCell ⟨w1.heap.size, y, none⟩ (.int .u8 (u.toNat : Int)) = W' at *
      have hcv := conv_wr (cap := cap) (n := s.size) hw2 (by simp)
      have hTz : (⟨(s.data.toList.set y u).toArray⟩ : ByteArray).size ≤ s.size := by show (s.data.toList.set y u).toArray.size ≤ s.data.size; simp
      generalize (⟨(s.data.toList.set y u).toArray⟩ : ByteArray) = T at *
      clear hw2
      refine wpAnyH_done (by kernel_rfl) ?_ _
      go_wp2
      go_ret
      exact ⟨⟨_, rfl, hTz⟩, hC.mono (by omega), hG⟩
    · skip
      go_simp
      refine (pick_any b l (c + 2 + 2) 8 _ C3 hl (by omega) (by omega)).mono ?_
      rintro e vc ⟨⟨z, rfl, hz8⟩, C4, G4⟩
      replace hwr := hwr.chg G4 hgb
      replace G2 := G2.trans G4
      have hz9 : z < 8 := by omega
      have hz10 : (z : Int) < 8 := by omega
      clear C3 G4
      refine hK.out _ vc trivial (fun hHeld => ?_)
      clear hK
      try (simp only [Act.put, List.setIfInBounds_toArray, List.set_cons_zero, List.set_cons_succ])
      refine wpAnyH_take (i := 9) (oi := { dst := some 33, op := Op.convert 3 99 (Operand.tmp 32), type := 99, pos := "l2_codec.go:177", after := #[{ on := 8, ground := Ground.data }], guard := none }) (v := .int .u64 (IntKind.u64.wrap (z : Int))) rfl (by kernel_rfl) (by kernel_rfl) (by kernel_rfl) (fun _ _ _ h => h) (Or.inl ⟨by rfl, ?_⟩) (by assumption) ?_
      · intro wx hSw
        go_simp
      simp only [Act.put, List.setIfInBounds_toArray, List.set_cons_zero, List.set_cons_succ]
      refine wpAnyH_take (i := 10) (oi := { dst := some 34, op := Op.binOp BinOp.shl 5 (Operand.const (Value.int IntKind.u8 1)) (Operand.tmp 33) 99, type := 5, pos := "l2_codec.go:177", after := #[{ on := 9, ground := Ground.data }], guard := none }) (v := .int .u8 (IntKind.u8.wrap (2 ^ min (IntKind.u64.wrap (z : Int)).toNat 8))) rfl (by kernel_rfl) (by kernel_rfl) (by kernel_rfl) (fun _ _ _ h => h) (Or.inl ⟨by rfl, ?_⟩) (by assumption) ?_
      · intro wx hSw
        go_simp
      simp only [Act.put, List.setIfInBounds_toArray, List.set_cons_zero, List.set_cons_succ]
      refine wpAnyH_ready (rs := [6]) (by kernel_rfl) (by simp) ?_
      refine AllReadyH.cons (o := { dst := some 30, op := Op.load 5 (Operand.tmp 29), type := 5, pos := "l2_codec.go:177", after := #[{ on := 5, ground := Ground.data }], guard := none }) rfl (fun K hK => ?_) AllReadyH.nil
      have hc0 := (hwr.2 y hyl).1
      go_simp
      refine hK.out _ _ trivial (fun hHeld => ?_)
      clear hK hc0
      try (simp only [Act.put, List.setIfInBounds_toArray, List.set_cons_zero, List.set_cons_succ])
      refine wpAnyH_ready (rs := [11]) (by kernel_rfl) (by simp) ?_
      refine AllReadyH.cons (o := { dst := some 35, op := Op.binOp BinOp.xor 5 (Operand.tmp 30) (Operand.tmp 34) 5, type := 5, pos := "l2_codec.go:177", after := #[{ on := 6, ground := Ground.data }, { on := 10, ground := Ground.data }], guard := none }) rfl (fun K hK => ?_) AllReadyH.nil
      go_simp
      refine hK.out _ _ trivial (fun hHeld => ?_)
      clear hK
      try (simp only [Act.put, List.setIfInBounds_toArray, List.set_cons_zero, List.set_cons_succ])
      obtain ⟨u, hu⟩ := u8_some BinOp.xor (s.data[y].toNat : Int) (IntKind.u8.wrap (2 ^ min (IntKind.u64.wrap (z : Int)).toNat 8))
      rw [hu]
      clear hu
      refine wpAnyH_ready (rs := [12]) (by kernel_rfl) (by simp) ?_
      refine AllReadyH.cons (o := { dst := some 36, op := Op.indexAddr 22 (Operand.tmp 24) (Operand.tmp 28), type := 0, pos := "l2_codec.go:177", after := #[{ on := 0, ground := Ground.data }, { on := 4, ground := Ground.data }, { on := 0, ground := Ground.phase }, { on := 1, ground := Ground.phase }, { on := 2, ground := Ground.phase }, { on := 3, ground := Ground.phase }, { on := 4, ground := Ground.phase }, { on := 5, ground := Ground.phase }, { on := 6, ground := Ground.phase }, { on := 7, ground := Ground.phase }, { on := 8, ground := Ground.phase }, { on := 9, ground := Ground.phase }, { on := 10, ground := Ground.phase }, { on := 11, ground := Ground.phase }], guard := none }) rfl (fun K hK => ?_) AllReadyH.nil
      go_simp
      refine hK.out _ _ trivial (fun hHeld => ?_)
      clear hK
      try (simp only [Act.put, List.setIfInBounds_toArray, List.set_cons_zero, List.set_cons_succ])
      refine wpAnyH_ready (rs := [13]) (by kernel_rfl) (by simp) ?_
      refine AllReadyH.cons (o := { dst := none, op := Op.store 5 (Operand.tmp 36) (Operand.tmp 35), type := 0, pos := "l2_codec.go:177", after := #[{ on := 12, ground := Ground.data }, { on := 11, ground := Ground.data }, { on := 8, ground := Ground.chain }, { on := 0, ground := Ground.phase }, { on := 1, ground := Ground.phase }, { on := 2, ground := Ground.phase }, { on := 3, ground := Ground.phase }, { on := 4, ground := Ground.phase }, { on := 5, ground := Ground.phase }, { on := 6, ground := Ground.phase }, { on := 7, ground := Ground.phase }, { on := 8, ground := Ground.phase }, { on := 9, ground := Ground.phase }, { on := 10, ground := Ground.phase }, { on := 11, ground := Ground.phase }], guard := none }) rfl (fun K hK => ?_) AllReadyH.nil
      have hc1 := (hwr.2 y hyl).1
      have hf1 := (hwr.2 y hyl).2
      have hw2 := hwr.set y hyl u
      have hC := cur_set C4 (Nat.le_refl _) ⟨w1.heap.size, y, none⟩ (by show b < w1.heap.size; omega) (.int .u8 (u.toNat : Int))
      have hG := chg_new G2 ⟨w1.heap.size, y, none⟩ (by show w.heap.size ≤ w1.heap.size; omega) (.int .u8 (u.toNat : Int))
      go_simp
      refine hK.out _ (vc.setCell ⟨w1.heap.size, y, none⟩ (.int .u8 (u.toNat : Int))) trivial (fun _ => ?_)
      clear hK K hc1 hf1 hwr C4 G2
      generalize vc.setCell ⟨w1.heap.size, y, none⟩ (.int .u8 (u.toNat : Int)) = W' at *
      have hcv := conv_wr (cap := cap) (n := s.size) hw2 (by simp)
      have hTz : (⟨(s.data.toList.set y u).toArray⟩ : ByteArray).size ≤ s.size := by show (s.data.toList.set y u).toArray.size ≤ s.data.size; simp
      generalize (⟨(s.data.toList.set y u).toArray⟩ : ByteArray) = T at *
      clear hw2
      refine wpAnyH_done (by kernel_rfl) ?_ _
      go_wp2
      go_ret
      exact ⟨⟨_, rfl, hTz⟩, hC.mono (by omega), hG⟩
  · go_wp2
    go_ret
    exact ⟨⟨_, rfl, Nat.le_refl _⟩, C1.mono (by omega), G1⟩
end Go.Proofs.YtenbdjlhcadhaaaGreat
