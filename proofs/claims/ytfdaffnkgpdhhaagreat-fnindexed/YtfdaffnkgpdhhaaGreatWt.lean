/-
  A text that may be cut or changed: spec.(*l1Cur).torn.
  Drawn tables: the cursor's tableRun and tableText; DrawTableBytes, DrawReadTable, DrawIndexOf, DrawGetFrom.
  Tables, plainly: a filter knows all keys; what is got is what is found.
  Items come back from their block, and its restarts are each fourth: plain facts; sameItems; the drawn block.
  A run comes back from its table, and what is got is what is found: the walk of FnTables.
-/
import Derived.Test.YtfdaffnkgpdhhaaGreatX1
import Derived.Deep.RegionHeld3
import Derived.Test.YtfdaffnkgpdhhaaGreatXy
import Derived.Test.YtfdaffnkgpdhhaaGreatNz
import Derived.Test.YtfdaffnkgpdhhaaGreatJw
import Derived.Test.YtfdaffnkgpdhhaaGreatTz
import Derived.Test.YtfdaffnkgpdhhaaGreatGz
import Derived.Test.YtfdaffnkgpdhhaaGreatKr
import Derived.Test.YtfdaffnkgpdhhaaGreatXw
namespace Go.Proofs.YtfdaffnkgpdhhaaGreat
open Go.RowKit
set_option linter.unusedVariables false
set_option maxRecDepth 100000

theorem u8_some (op : BinOp) (a c : Int) : ∃ u : UInt8, bits op IntKind.u8 a c = (u.toNat : Int) := by
  have h := bits_within op .u8 a c
  have h1 : (0 : Int) ≤ bits op .u8 a c := h.1
  have h2 : bits op .u8 a c ≤ 255 := h.2
  refine ⟨UInt8.ofNat (bits op .u8 a c).toNat, ?_⟩
  rw [UInt8.toNat_ofNat', Nat.mod_eq_of_lt (by omega)]; omega
theorem Wr.chg {w w' : World} {S : Nat → Prop} {g : Nat} {m : List UInt8} (h : Wr w g m) (hc : Chg S w w') (hg : ¬ S g) : Wr w' g m := by
  refine ⟨Nat.lt_of_lt_of_le h.1 hc.size, fun j hj => ?_⟩
  have e := hc.block g h.1 hg
  refine ⟨?_, ?_⟩
  · rw [← (h.2 j hj).1]; unfold World.cell?; rw [e]
  · rw [← (h.2 j hj).2]; unfold World.frozen?; rw [e]
def TornPost (b : Nat) (l : List UInt8) (K : Nat) (s : ByteArray) (w : World) (e : Ending) (w' : World) : Prop := (∃ T : ByteArray, e = .returned (.string T) ∧ T.size ≤ s.size) ∧ Cur w' b l (K + 6) ∧ Chg (· = b) w w'

set_option maxHeartbeats 4000000 in
theorem torn_any (b : Nat) (l : List UInt8) (c : Nat) (s : ByteArray) (w : World) (h : Cur w b l c) (hl : l.length ≤ 9223372036854775807) (hc : c ≤ 10000000) (hs : s.size ≤ 100000) :
    Calls Tryz.prog 81 #[.pointer (some ⟨b, 0, none⟩), .string s] w (TornPost b l c s w) := by
  have hbw := h.lt
  go_enter Tryz.func81, Tryz.ntmps81
  go_wp2_with fail
  refine (pick_any b l c 4 _ h hl (by omega) (by omega)).mono ?_
  rintro e w1 ⟨⟨x, rfl, hx⟩, C1, G1⟩
  clear h
  have hz1 := G1.size
  by_cases hx0 : x = 0
  · subst hx0
    obtain ⟨n, hn⟩ : ∃ n, n = s.size + 1 := ⟨_, rfl⟩
    have E : (s.size : Int) + 1 = (n : Int) := by omega
    have V : IntKind.i64.wrap (n : Int) = (n : Int) := by rw [IntKind.wrap_i64]; omega
    have n1 : n ≤ s.size + 1 := by omega
    have n2 : s.size + 1 ≤ n := by omega
    clear hn
    go_wp2_with fail
    refine (pick_any b l (c + 2) n _ C1 hl (by omega) (by omega)).mono ?_
    rintro e w2 ⟨⟨y, rfl, hy⟩, C2, G2⟩
    have hy2 : y ≤ s.size := by omega
    clear E V C1
    go_wp2
    go_ret
    exact ⟨⟨_, rfl, by rw [ByteArray.size_extract]; omega⟩, C2.mono (by omega), G1.trans G2⟩
  by_cases hx1 : x = 1
  · subst hx1
    obtain ⟨cap, w2, hcv, hwr, hb2⟩ := bytes_of s w1
    by_cases hz : s.size = 0
    · rw [hz] at hcv
      go_wp2
      go_ret
      exact ⟨⟨_, rfl, Nat.le_refl _⟩, (C1.chg hb2).mono (by omega), G1.trans (Chg.of_below hb2)⟩
    have hz0 : (0 : Int) < (s.size : Int) := by omega
    have C2 := C1.chg hb2
    have G2 := G1.trans (Chg.of_below (S := (· = b)) hb2)
    go_wp2_with fail
    clear hcv C1 hb2
    have hD : Below w2.heap.size w2 w2.drew := (Below.refl _ _).drew
    replace C2 := C2.chg hD
    replace hwr := hwr.below hD
    replace G2 := G2.trans (Chg.of_below (S := (· = b)) hD)
    clear hD
    refine wp_region_held_drew (S := fun _ => True) (by kernel_rfl) trivial (fun hHeld => ?_)
    generalize w2.drew = va at *
    have hgb : ¬ w1.heap.size = b := by omega
    refine wpAnyH_take (i := 0) (oi := { dst := some 24, op := Op.move (Operand.tmp 5), type := 22, pos := "l2_codec.go:177", after := #[], guard := none }) (v := .slice (some ⟨w1.heap.size, 0, none⟩) s.size cap) rfl (by kernel_rfl) (by kernel_rfl) (by kernel_rfl) (fun _ _ _ h => h) (Or.inl ⟨by rfl, ?_⟩) (by assumption) ?_
    · intro wx hSw
      go_simp
    simp only [Act.put, List.setIfInBounds_toArray, List.set_cons_zero, List.set_cons_succ]
    refine wpAnyH_take (i := 1) (oi := { dst := some 25, op := Op.move (Operand.tmp 0), type := 60, pos := "l2_codec.go:177", after := #[], guard := none }) (v := .pointer (some ⟨b, 0, none⟩)) rfl (by kernel_rfl) (by kernel_rfl) (by kernel_rfl) (fun _ _ _ h => h) (Or.inl ⟨by rfl, ?_⟩) (by assumption) ?_
    · intro wx hSw
      go_simp
    simp only [Act.put, List.setIfInBounds_toArray, List.set_cons_zero, List.set_cons_succ]
    refine wpAnyH_take (i := 2) (oi := { dst := some 26, op := Op.move (Operand.tmp 5), type := 22, pos := "l2_codec.go:177", after := #[], guard := none }) (v := .slice (some ⟨w1.heap.size, 0, none⟩) s.size cap) rfl (by kernel_rfl) (by kernel_rfl) (by kernel_rfl) (fun _ _ _ h => h) (Or.inl ⟨by rfl, ?_⟩) (by assumption) ?_
    · intro wx hSw
      go_simp
    simp only [Act.put, List.setIfInBounds_toArray, List.set_cons_zero, List.set_cons_succ]
    refine wpAnyH_take (i := 3) (oi := { dst := some 27, op := Op.call { callee := Callee.builtin Builtin.len, args := #[Operand.tmp 26], argTypes := #[22] }, type := 3, pos := "l2_codec.go:177", after := #[{ on := 2, ground := Ground.data }], guard := none }) (v := .int .i64 (s.size : Int)) rfl (by kernel_rfl) (by kernel_rfl) (by kernel_rfl) (fun _ _ _ h => h) (Or.inl ⟨by rfl, ?_⟩) (by assumption) ?_
    · intro wx hSw
      go_simp
    simp only [Act.put, List.setIfInBounds_toArray, List.set_cons_zero, List.set_cons_succ]
    refine wpAnyH_take (i := 7) (oi := { dst := some 31, op := Op.move (Operand.tmp 0), type := 60, pos := "l2_codec.go:177", after := #[], guard := none }) (v := .pointer (some ⟨b, 0, none⟩)) rfl (by kernel_rfl) (by kernel_rfl) (by kernel_rfl) (fun _ _ _ h => h) (Or.inl ⟨by rfl, ?_⟩) (by assumption) ?_
    · intro wx hSw
      go_simp
    simp only [Act.put, List.setIfInBounds_toArray, List.set_cons_zero, List.set_cons_succ]
    refine wpAnyH_ready (rs := [4]) (by kernel_rfl) (by simp) ?_
    refine AllReadyH.cons (o := { dst := some 28, op := Op.call { callee := Callee.value (Operand.func 32), args := #[Operand.tmp 25, Operand.tmp 27], argTypes := #[60, 3] }, type := 3, pos := "l2_codec.go:177", after := #[{ on := 1, ground := Ground.data }, { on := 3, ground := Ground.data }], guard := none }) rfl (fun K hK => ?_) AllReadyH.nil
    go_simp
    refine (pick_any b l (c + 2) s.size _ C2 hl (by omega) (by omega)).mono ?_
    rintro e vb ⟨⟨y, rfl, hy⟩, C3, G3⟩
    have hy2 : y < s.size := by omega
    have hyl : y < s.data.toList.length := by simpa using hy2
    replace hwr := hwr.chg G3 hgb
    replace G2 := G2.trans G3
    clear C2 G3
    refine hK.out _ vb trivial (fun hHeld => ?_)
    clear hK
    try (simp only [Act.put, List.setIfInBounds_toArray, List.set_cons_zero, List.set_cons_succ])
    refine wpAnyH_take (i := 5) (oi := { dst := some 29, op := Op.indexAddr 22 (Operand.tmp 24) (Operand.tmp 28), type := 0, pos := "l2_codec.go:177", after := #[{ on := 0, ground := Ground.data }, { on := 4, ground := Ground.data }], guard := none }) (v := .pointer (some ⟨w1.heap.size, y, none⟩)) rfl (by kernel_rfl) (by kernel_rfl) (by kernel_rfl) (fun _ _ _ h => h) (Or.inl ⟨by rfl, ?_⟩) (by assumption) ?_
    · intro wx hSw
      go_simp
    simp only [Act.put, List.setIfInBounds_toArray, List.set_cons_zero, List.set_cons_succ]
    refine wpAnyH_ready (rs := [6, 8]) (by kernel_rfl) (by simp) ?_
    refine AllReadyH.cons (o := { dst := some 30, op := Op.load 5 (Operand.tmp 29), type := 5, pos := "l2_codec.go:177", after := #[{ on := 5, ground := Ground.data }], guard := none }) rfl (fun K hK => ?_) (AllReadyH.cons (o := { dst := some 32, op := Op.call { callee := Callee.value (Operand.func 32), args := #[Operand.tmp 31, Operand.const (Value.int IntKind.i64 8)], argTypes := #[60, 3] }, type := 3, pos := "l2_codec.go:177", after := #[{ on := 7, ground := Ground.data }, { on := 4, ground := Ground.chain }], guard := none }) rfl (fun K hK => ?_) AllReadyH.nil)
    · skip
      have hc0 := (hwr.2 y hyl).1
      go_simp
      refine hK.out _ _ trivial (fun hHeld => ?_)
      clear hK hc0
      try (simp only [Act.put, List.setIfInBounds_toArray, List.set_cons_zero, List.set_cons_succ])
      refine wpAnyH_ready (rs := [8]) (by kernel_rfl) (by simp) ?_
      refine AllReadyH.cons (o := { dst := some 32, op := Op.call { callee := Callee.value (Operand.func 32), args := #[Operand.tmp 31, Operand.const (Value.int IntKind.i64 8)], argTypes := #[60, 3] }, type := 3, pos := "l2_codec.go:177", after := #[{ on := 7, ground := Ground.data }, { on := 4, ground := Ground.chain }], guard := none }) rfl (fun K hK => ?_) AllReadyH.nil
      go_simp
      refine (pick_any b l (c + 2 + 2) 8 _ C3 hl (by omega) (by omega)).mono ?_
      rintro e vc ⟨⟨z, rfl, hz8⟩, C4, G4⟩
      replace hwr := hwr.chg G4 hgb
      replace G2 := G2.trans G4
      have hz9 : z < 8 := by omega
      have hz10 : (z : Int) < 8 := by omega
      clear C3 G4
      refine hK.out _ vc trivial (fun hHeld => ?_)
      clear hK
      try (simp only [Act.put, List.setIfInBounds_toArray, List.set_cons_zero, List.set_cons_succ])
      refine wpAnyH_ready (rs := [9]) (by kernel_rfl) (by simp) ?_
      refine AllReadyH.cons (o := { dst := some 33, op := Op.convert 3 132 (Operand.tmp 32), type := 132, pos := "l2_codec.go:177", after := #[{ on := 8, ground := Ground.data }], guard := none }) rfl (fun K hK => ?_) AllReadyH.nil
      go_simp
      refine hK.out _ _ trivial (fun hHeld => ?_)
      clear hK
      try (simp only [Act.put, List.setIfInBounds_toArray, List.set_cons_zero, List.set_cons_succ])
      refine wpAnyH_ready (rs := [10]) (by kernel_rfl) (by simp) ?_
      refine AllReadyH.cons (o := { dst := some 34, op := Op.binOp BinOp.shl 5 (Operand.const (Value.int IntKind.u8 1)) (Operand.tmp 33) 132, type := 5, pos := "l2_codec.go:177", after := #[{ on := 9, ground := Ground.data }], guard := none }) rfl (fun K hK => ?_) AllReadyH.nil
      go_simp
      refine hK.out _ _ trivial (fun hHeld => ?_)
      clear hK
      try (simp only [Act.put, List.setIfInBounds_toArray, List.set_cons_zero, List.set_cons_succ])
      refine wpAnyH_ready (rs := [11]) (by kernel_rfl) (by simp) ?_
      refine AllReadyH.cons (o := { dst := some 35, op := Op.binOp BinOp.xor 5 (Operand.tmp 30) (Operand.tmp 34) 5, type := 5, pos := "l2_codec.go:177", after := #[{ on := 6, ground := Ground.data }, { on := 10, ground := Ground.data }], guard := none }) rfl (fun K hK => ?_) AllReadyH.nil
      go_simp
      refine hK.out _ _ trivial (fun hHeld => ?_)
      clear hK
      try (simp only [Act.put, List.setIfInBounds_toArray, List.set_cons_zero, List.set_cons_succ])
      obtain ⟨u, hu⟩ := u8_some BinOp.xor (s.data[y].toNat : Int) (IntKind.u8.wrap (2 ^ min (IntKind.u64.wrap (z : Int)).toNat 8))
      rw [hu]
      clear hu
      refine wpAnyH_ready (rs := [12]) (by kernel_rfl) (by simp) ?_
      refine AllReadyH.cons (o := { dst := some 36, op := Op.indexAddr 22 (Operand.tmp 24) (Operand.tmp 28), type := 0, pos := "l2_codec.go:177", after := #[{ on := 0, ground := Ground.data }, { on := 4, ground := Ground.data }, { on := 0, ground := Ground.phase }, { on := 1, ground := Ground.phase }, { on := 2, ground := Ground.phase }, { on := 3, ground := Ground.phase }, { on := 4, ground := Ground.phase }, { on := 5, ground := Ground.phase }, { on := 6, ground := Ground.phase }, { on := 7, ground := Ground.phase }, { on := 8, ground := Ground.phase }, { on := 9, ground := Ground.phase }, { on := 10, ground := Ground.phase }, { on := 11, ground := Ground.phase }], guard := none }) rfl (fun K hK => ?_) AllReadyH.nil
      go_simp
      refine hK.out _ _ trivial (fun hHeld => ?_)
      clear hK
      try (simp only [Act.put, List.setIfInBounds_toArray, List.set_cons_zero, List.set_cons_succ])
      refine wpAnyH_ready (rs := [13]) (by kernel_rfl) (by simp) ?_
      refine AllReadyH.cons (o := { dst := none, op := Op.store 5 (Operand.tmp 36) (Operand.tmp 35), type := 0, pos := "l2_codec.go:177", after := #[{ on := 12, ground := Ground.data }, { on := 11, ground := Ground.data }, { on := 8, ground := Ground.chain }, { on := 0, ground := Ground.phase }, { on := 1, ground := Ground.phase }, { on := 2, ground := Ground.phase }, { on := 3, ground := Ground.phase }, { on := 4, ground := Ground.phase }, { on := 5, ground := Ground.phase }, { on := 6, ground := Ground.phase }, { on := 7, ground := Ground.phase }, { on := 8, ground := Ground.phase }, { on := 9, ground := Ground.phase }, { on := 10, ground := Ground.phase }, { on := 11, ground := Ground.phase }], guard := none }) rfl (fun K hK => ?_) AllReadyH.nil
      have hc1 := (hwr.2 y hyl).1
      have hf1 := (hwr.2 y hyl).2
      have hw2 := hwr.set y hyl u
      have hC := cur_set C4 (Nat.le_refl _) ⟨w1.heap.size, y, none⟩ (by show b < w1.heap.size; omega) (.int .u8 (u.toNat : Int))
      have hG := chg_new G2 ⟨w1.heap.size, y, none⟩ (by show w.heap.size ≤ w1.heap.size; omega) (.int .u8 (u.toNat : Int))
      go_simp
      refine hK.out _ (vc.setCell ⟨w1.heap.size, y, none⟩ (.int .u8 (u.toNat : Int))) trivial (fun _ => ?_)
      clear hK K hc1 hf1 hwr C4 G2
      generalize vc.setCell ⟨w1.heap.size, y, none⟩ (.int .u8 (u.toNat : Int)) = W' at *
      have hcv := conv_wr (cap := cap) (n := s.size) hw2 (by simp)
      have hTz : (⟨(s.data.toList.set y u).toArray⟩ : ByteArray).size ≤ s.size := by show (s.data.toList.set y u).toArray.size ≤ s.data.size; simp
      generalize (⟨(s.data.toList.set y u).toArray⟩ : ByteArray) = T at *
      clear hw2
      refine wpAnyH_done (by kernel_rfl) ?_ _
      go_wp2
      go_ret
      exact ⟨⟨_, rfl, hTz⟩, hC.mono (by omega), hG⟩
    · skip
      go_simp
      refine (pick_any b l (c + 2 + 2) 8 _ C3 hl (by omega) (by omega)).mono ?_
      rintro e vc ⟨⟨z, rfl, hz8⟩, C4, G4⟩
      replace hwr := hwr.chg G4 hgb
      replace G2 := G2.trans G4
      have hz9 : z < 8 := by omega
      have hz10 : (z : Int) < 8 := by omega
      clear C3 G4
      refine hK.out _ vc trivial (fun hHeld => ?_)
      clear hK
      try (simp only [Act.put, List.setIfInBounds_toArray, List.set_cons_zero, List.set_cons_succ])
      refine wpAnyH_take (i := 9) (oi := { dst := some 33, op := Op.convert 3 132 (Operand.tmp 32), type := 132, pos := "l2_codec.go:177", after := #[{ on := 8, ground := Ground.data }], guard := none }) (v := .int .u64 (IntKind.u64.wrap (z : Int))) rfl (by kernel_rfl) (by kernel_rfl) (by kernel_rfl) (fun _ _ _ h => h) (Or.inl ⟨by rfl, ?_⟩) (by assumption) ?_
      · intro wx hSw
        go_simp
      simp only [Act.put, List.setIfInBounds_toArray, List.set_cons_zero, List.set_cons_succ]
      refine wpAnyH_take (i := 10) (oi := { dst := some 34, op := Op.binOp BinOp.shl 5 (Operand.const (Value.int IntKind.u8 1)) (Operand.tmp 33) 132, type := 5, pos := "l2_codec.go:177", after := #[{ on := 9, ground := Ground.data }], guard := none }) (v := .int .u8 (IntKind.u8.wrap (2 ^ min (IntKind.u64.wrap (z : Int)).toNat 8))) rfl (by kernel_rfl) (by kernel_rfl) (by kernel_rfl) (fun _ _ _ h => h) (Or.inl ⟨by rfl, ?_⟩) (by assumption) ?_
      · intro wx hSw
        go_simp
      simp only [Act.put, List.setIfInBounds_toArray, List.set_cons_zero, List.set_cons_succ]
      refine wpAnyH_ready (rs := [6]) (by kernel_rfl) (by simp) ?_
      refine AllReadyH.cons (o := { dst := some 30, op := Op.load 5 (Operand.tmp 29), type := 5, pos := "l2_codec.go:177", after := #[{ on := 5, ground := Ground.data }], guard := none }) rfl (fun K hK => ?_) AllReadyH.nil
      have hc0 := (hwr.2 y hyl).1
      go_simp
      refine hK.out _ _ trivial (fun hHeld => ?_)
      clear hK hc0
      try (simp only [Act.put, List.setIfInBounds_toArray, List.set_cons_zero, List.set_cons_succ])
      refine wpAnyH_ready (rs := [11]) (by kernel_rfl) (by simp) ?_
      refine AllReadyH.cons (o := { dst := some 35, op := Op.binOp BinOp.xor 5 (Operand.tmp 30) (Operand.tmp 34) 5, type := 5, pos := "l2_codec.go:177", after := #[{ on := 6, ground := Ground.data }, { on := 10, ground := Ground.data }], guard := none }) rfl (fun K hK => ?_) AllReadyH.nil
      go_simp
      refine hK.out _ _ trivial (fun hHeld => ?_)
      clear hK
      try (simp only [Act.put, List.setIfInBounds_toArray, List.set_cons_zero, List.set_cons_succ])
      obtain ⟨u, hu⟩ := u8_some BinOp.xor (s.data[y].toNat : Int) (IntKind.u8.wrap (2 ^ min (IntKind.u64.wrap (z : Int)).toNat 8))
      rw [hu]
      clear hu
      refine wpAnyH_ready (rs := [12]) (by kernel_rfl) (by simp) ?_
      refine AllReadyH.cons (o := { dst := some 36, op := Op.indexAddr 22 (Operand.tmp 24) (Operand.tmp 28), type := 0, pos := "l2_codec.go:177", after := #[{ on := 0, ground := Ground.data }, { on := 4, ground := Ground.data }, { on := 0, ground := Ground.phase }, { on := 1, ground := Ground.phase }, { on := 2, ground := Ground.phase }, { on := 3, ground := Ground.phase }, { on := 4, ground := Ground.phase }, { on := 5, ground := Ground.phase }, { on := 6, ground := Ground.phase }, { on := 7, ground := Ground.phase }, { on := 8, ground := Ground.phase }, { on := 9, ground := Ground.phase }, { on := 10, ground := Ground.phase }, { on := 11, ground := Ground.phase }], guard := none }) rfl (fun K hK => ?_) AllReadyH.nil
      go_simp
      refine hK.out _ _ trivial (fun hHeld => ?_)
      clear hK
      try (simp only [Act.put, List.setIfInBounds_toArray, List.set_cons_zero, List.set_cons_succ])
      refine wpAnyH_ready (rs := [13]) (by kernel_rfl) (by simp) ?_
      refine AllReadyH.cons (o := { dst := none, op := Op.store 5 (Operand.tmp 36) (Operand.tmp 35), type := 0, pos := "l2_codec.go:177", after := #[{ on := 12, ground := Ground.data }, { on := 11, ground := Ground.data }, { on := 8, ground := Ground.chain }, { on := 0, ground := Ground.phase }, { on := 1, ground := Ground.phase }, { on := 2, ground := Ground.phase }, { on := 3, ground := Ground.phase }, { on := 4, ground := Ground.phase }, { on := 5, ground := Ground.phase }, { on := 6, ground := Ground.phase }, { on := 7, ground := Ground.phase }, { on := 8, ground := Ground.phase }, { on := 9, ground := Ground.phase }, { on := 10, ground := Ground.phase }, { on := 11, ground := Ground.phase }], guard := none }) rfl (fun K hK => ?_) AllReadyH.nil
      have hc1 := (hwr.2 y hyl).1
      have hf1 := (hwr.2 y hyl).2
      have hw2 := hwr.set y hyl u
      have hC := cur_set C4 (Nat.le_refl _) ⟨w1.heap.size, y, none⟩ (by show b < w1.heap.size; omega) (.int .u8 (u.toNat : Int))
      have hG := chg_new G2 ⟨w1.heap.size, y, none⟩ (by show w.heap.size ≤ w1.heap.size; omega) (.int .u8 (u.toNat : Int))
      go_simp
      refine hK.out _ (vc.setCell ⟨w1.heap.size, y, none⟩ (.int .u8 (u.toNat : Int))) trivial (fun _ => ?_)
      clear hK K hc1 hf1 hwr C4 G2
      generalize vc.setCell ⟨w1.heap.size, y, none⟩ (.int .u8 (u.toNat : Int)) = W' at *
      have hcv := conv_wr (cap := cap) (n := s.size) hw2 (by simp)
      have hTz : (⟨(s.data.toList.set y u).toArray⟩ : ByteArray).size ≤ s.size := by show (s.data.toList.set y u).toArray.size ≤ s.data.size; simp
      generalize (⟨(s.data.toList.set y u).toArray⟩ : ByteArray) = T at *
      clear hw2
      refine wpAnyH_done (by kernel_rfl) ?_ _
      go_wp2
      go_ret
      exact ⟨⟨_, rfl, hTz⟩, hC.mono (by omega), hG⟩
  · go_wp2
    go_ret
    exact ⟨⟨_, rfl, Nat.le_refl _⟩, C1.mono (by omega), G1⟩
end Go.Proofs.YtfdaffnkgpdhhaaGreat

namespace Go.Proofs.YtfdaffnkgpdhhaaGreat
open Go.RowKit
set_option linter.unusedVariables false
set_option maxRecDepth 100000

def aIt : It := ⟨⟨#[97]⟩, 0, 1, ⟨#[]⟩⟩
def TrPost (b : Nat) (l : List UInt8) (K m : Nat) (w : World) (e : Ending) (w' : World) : Prop := ∃ v L, e = .returned v ∧ w'.ownsRow w.heap.size 33 4 v L.length (flat4 L) ∧ 0 < L.length ∧ L.length ≤ m ∧ small L ∧ Cur w' b l K ∧ Chg (· = b) w w'
theorem TrPost.of_run {b : Nat} {l : List UInt8} {K K' m m' : Nat} {w w2 w' : World} {v : Value} {L : List It} (G : Chg (· = b) w w2) (h : w'.ownsRow w2.heap.size 33 4 v L.length (flat4 L)) (h0 : 0 < L.length) (h1 : L.length ≤ m) (hs : small L) (C : Cur w' b l K) (G2 : Chg (· = b) w2 w') (hK : K ≤ K') (hm : m ≤ m') : TrPost b l K' m' w (.returned v) w' :=
  ⟨v, L, rfl, owns_mono h G.size, h0, by omega, hs, C.mono hK, G.trans G2⟩

set_option maxHeartbeats 4000000 in
theorem tableRun_any (b : Nat) (l : List UInt8) (K : Nat) (w : World) (h : Cur w b l K) (hl : l.length ≤ 9223372036854775807) (hK : K ≤ 10000) :
    Calls Tryz.prog 31 #[.pointer (some ⟨b, 0, none⟩)] w fun e w' => TrPost b l (K + 2500) 60 w e w' := by
  have hbw := h.lt
  go_enter Tryz.func31, Tryz.ntmps31
  go_wp2_with fail
  refine (pick_any b l K 14 _ h hl (by omega) (by omega)).mono ?_
  rintro e w1 ⟨⟨x, rfl, hx⟩, C1, G1⟩
  clear h
  obtain ⟨n, hn⟩ : ∃ n, n = 1 + x := ⟨_, rfl⟩
  have E : 1 + (x : Int) = (n : Int) := by omega
  have V : IntKind.i64.wrap (n : Int) = (n : Int) := by rw [IntKind.wrap_i64]; omega
  have hn60 : n ≤ 60 := by omega
  clear hn hx
  go_wp2_with fail
  refine (one_any b l (K + 2) 12 _ C1 hl (by omega) (by omega)).mono ?_
  rintro e w2 ⟨⟨y, rfl⟩, C2, G2⟩
  have G := G1.trans G2
  clear C1 G1 G2 E V
  have HR : ∀ m : Nat, m ≤ 60 → Calls Tryz.prog 63 #[.pointer (some ⟨b, 0, none⟩), .int .i64 m] w2 fun e w' => RunPost b l (K + 4 + 40 * m) m w2 e w' := fun m hm => run_any b l (K + 4) m w2 C2 hl (by omega) (by omega)
  have KR := HR (if y then 60 else n) (by split <;> omega)
  obtain ⟨m, hm, hm60⟩ : ∃ m, m = (if y then 60 else n) ∧ m ≤ 60 := ⟨_, rfl, by split <;> omega⟩
  rw [← hm] at KR
  clear HR C2
  cases y with
  | true =>
    obtain rfl : m = 60 := hm
    rw [show ((60 : Nat) : Int) = 60 from rfl] at KR
    go_wp2_with fail
    refine KR.mono ?_
    rintro e w3 ⟨v, L, rfl, hD, hle, C3, G3⟩
    obtain ⟨a, c, rfl⟩ := owned_shape hD.1
    clear KR
    by_cases hL0 : L.length = 0
    · obtain rfl : L = [] := List.eq_nil_of_length_eq_zero hL0
      have o5 := World.ownsRow_lit (base := w2.heap.size) (e := 33) (size := 4) w3 #[.string ⟨#[97]⟩, .int .i64 0, .int .i64 1, .string ⟨#[]⟩] 1 G3.size (by unfold maxLen; omega) rfl
      have hb := below_alloc w3 (.cells #[.string ⟨#[97]⟩, .int .i64 0, .int .i64 1, .string ⟨#[]⟩] 33)
      have C5 := C3.chg hb
      have G5 := G3.trans (Chg.of_below (S := (· = b)) hb)
      clear hD C3 hL0
      go_wp2
      go_ret
      exact TrPost.of_run (L := [aIt]) (m := 60) G o5 (by simp) (by simp) (small_of (fun y hy => by simp at hy; subst hy; decide)) C5 G5 (by omega) (by omega)
    · have hL1 : (0 : Int) < (L.length : Int) := by omega
      have hLn : ¬ (L.length : Int) = 0 := by omega
      go_wp2
      go_ret
      exact TrPost.of_run (m := 60) G hD.1 (by omega) hle hD.2.2 C3 G3 (by omega) (by omega)
  | false =>
    obtain rfl : m = n := hm
    go_wp2_with fail
    refine KR.mono ?_
    rintro e w3 ⟨v, L, rfl, hD, hle, C3, G3⟩
    obtain ⟨a, c, rfl⟩ := owned_shape hD.1
    clear KR
    by_cases hL0 : L.length = 0
    · obtain rfl : L = [] := List.eq_nil_of_length_eq_zero hL0
      have o5 := World.ownsRow_lit (base := w2.heap.size) (e := 33) (size := 4) w3 #[.string ⟨#[97]⟩, .int .i64 0, .int .i64 1, .string ⟨#[]⟩] 1 G3.size (by unfold maxLen; omega) rfl
      have hb := below_alloc w3 (.cells #[.string ⟨#[97]⟩, .int .i64 0, .int .i64 1, .string ⟨#[]⟩] 33)
      have C5 := C3.chg hb
      have G5 := G3.trans (Chg.of_below (S := (· = b)) hb)
      clear hD C3 hL0
      go_wp2
      go_ret
      exact TrPost.of_run (L := [aIt]) (m := 60) G o5 (by simp) (by simp) (small_of (fun y hy => by simp at hy; subst hy; decide)) C5 G5 (by omega) (by omega)
    · have hL1 : (0 : Int) < (L.length : Int) := by omega
      have hLn : ¬ (L.length : Int) = 0 := by omega
      go_wp2
      go_ret
      exact TrPost.of_run G hD.1 (by omega) hle hD.2.2 C3 G3 (by omega) hm60

theorem owned_cap {w : World} {base n : Nat} {v : Value} {xs : List Value} (h : w.ownsRow base 33 4 v n xs) : ∃ a c, v = .slice a n c ∧ n ≤ c := by
  rcases h.2 with ⟨rfl, h0⟩ | ⟨g, cap, cur, hv, _, _, hle, _⟩
  · exact ⟨none, 0, by rw [h0], by omega⟩
  · exact ⟨_, _, hv, hle⟩
theorem tab_size (l : List It) : (tabF l).size ≤ 9000 := by
  unfold tabF
  split
  · rename_i h
    obtain ⟨B, I, F, _, _, _, h1, h2, h3, h4⟩ := tb_parts h
    have v1 := varL_len 1 I.length (by simp; omega)
    have v2 := varL_len 1 F.length (by simp; omega)
    show (tbL l).toArray.size ≤ 9000
    rw [h4]
    simp only [List.size_toArray, List.length_append, frameL_len, endL_len]
    omega
  · exact Nat.zero_le _
def TtPost (b : Nat) (l : List UInt8) (K : Nat) (w : World) (e : Ending) (w' : World) : Prop := ∃ T : ByteArray, e = .returned (.string T) ∧ T.size ≤ 9000 ∧ Cur w' b l K ∧ Chg (· = b) w w'

set_option maxHeartbeats 4000000 in
theorem tableText_any (b : Nat) (l : List UInt8) (K : Nat) (w : World) (h : Cur w b l K) (hl : l.length ≤ 9223372036854775807) (hK : K ≤ 10000) :
    Calls Tryz.prog 38 #[.pointer (some ⟨b, 0, none⟩)] w fun e w' => TtPost b l (K + 2600) w e w' := by
  have hbw := h.lt
  have KR := tableRun_any b l K w h hl hK
  clear h
  go_enter Tryz.func38, Tryz.ntmps38
  go_wp2_with fail
  refine KR.mono ?_
  rintro e w1 ⟨v, L, rfl, o1, hL0, hL, hsm, C1, G1⟩
  obtain ⟨a, c, rfl, hac⟩ := owned_cap o1
  have hir := IR_of_owns o1 rfl
  have KT := specTab_any a c L w1 hir hac (by omega) (small_big hsm)
  have hT := tab_size L
  clear o1 hir KR hsm
  generalize tabF L = T at *
  generalize okT L = ok at *
  go_wp2_with fail
  refine KT.mono ?_
  rintro e w2 ⟨rfl, hb2⟩
  have C2 := C1.chg hb2
  have G2 := G1.trans (Chg.of_below (S := (· = b)) hb2)
  clear KT C1 G1 hb2
  go_wp2_with fail
  refine (one_any b l (K + 2500) 3 _ C2 hl (by omega) (by omega)).mono ?_
  rintro e w3 ⟨⟨y, rfl⟩, C3, G3⟩
  have G := G2.trans G3
  clear C2 G2 G3
  cases y with
  | true =>
    go_wp2_with fail
    refine (torn_any b l (K + 2500 + 2) T _ C3 hl (by omega) (by omega)).mono ?_
    rintro e w4 ⟨⟨U, rfl, hU⟩, C4, G4⟩
    replace G := G.trans G4
    clear C3 G4
    go_wp2
    go_ret
    exact ⟨U, rfl, by omega, C4.mono (by omega), G⟩
  | false =>
    go_wp2
    go_ret
    exact ⟨T, rfl, hT, C3.mono (by omega), G⟩

set_option maxHeartbeats 1000000 in
theorem drawGet_any (v : Value) (l : List UInt8) (w : World) (hv : YL w v l) (hl : l.length ≤ maxLen) :
    Calls Tryz.prog 13 #[v] w fun e w' => ∃ (T key : ByteArray) (q : Nat), e = .returned (.tuple #[.string T, .string key, .int .i64 q]) ∧ T.size ≤ 9000 ∧ key.size ≤ 17 ∧ q ≤ 24 ∧ Below w.heap.size w w' := by
  unfold maxLen at hl
  have hc0 := cur_new hv
  have hv0 := hv
  obtain ⟨av, cv, rfl, _⟩ := hv0
  have hb0 := below_alloc w (.cells #[.slice av l.length cv, .int .i64 0, .int .u64 0] 63)
  clear hv
  go_enter Tryz.func13, Tryz.ntmps13
  go_wp2_with fail
  refine (tableText_any w.heap.size l 0 _ hc0 (by omega) (by omega)).mono ?_
  rintro e w1 ⟨T, rfl, hT, C1, G1⟩
  clear hc0
  go_wp2_with fail
  refine (key_any w.heap.size l (0 + 2600) _ C1 (by omega) (by omega)).mono ?_
  rintro e w2 ⟨⟨key, rfl, hk⟩, C2, G2⟩
  clear C1
  go_wp2_with fail
  refine (pick_any w.heap.size l (0 + 2600 + 4) 24 _ C2 (by omega) (by omega) (by omega)).mono ?_
  rintro e w3 ⟨⟨q, rfl, hq⟩, C3, G3⟩
  have hq24 : q ≤ 24 := by omega
  have hB3 := below_cur hb0 ((G1.trans G2).trans G3)
  clear C2 C3 G1 G2 G3 hq
  go_wp2
  refine bodyPost_ret (v := .tuple #[.string T, .string key, .int .i64 (q : Int)]) ?_ rfl ⟨T, key, q, rfl, hT, hk, hq24, hB3⟩
  simp [results, Tryz.results13, go_sem]
set_option maxHeartbeats 1000000 in
theorem drawRead_any (v : Value) (l : List UInt8) (w : World) (hv : YL w v l) (hl : l.length ≤ maxLen) :
    Calls Tryz.prog 49 #[v] w fun e w' => ∃ (T : ByteArray), e = .returned (.string T) ∧ T.size ≤ 9000 ∧ Below w.heap.size w w' := by
  unfold maxLen at hl
  have hc0 := cur_new hv
  have hv0 := hv
  obtain ⟨av, cv, rfl, _⟩ := hv0
  have hb0 := below_alloc w (.cells #[.slice av l.length cv, .int .i64 0, .int .u64 0] 63)
  clear hv
  go_enter Tryz.func49, Tryz.ntmps49
  go_wp2_with fail
  refine (tableText_any w.heap.size l 0 _ hc0 (by omega) (by omega)).mono ?_
  rintro e w1 ⟨T, rfl, hT, C1, G1⟩
  have hB3 := below_cur hb0 G1
  clear hc0 C1 G1
  go_wp2
  go_ret
  exact ⟨T, rfl, hT, hB3⟩
theorem drawIndex_any (v : Value) (l : List UInt8) (w : World) (hv : YL w v l) (hl : l.length ≤ maxLen) :
    Calls Tryz.prog 16 #[v] w fun e w' => ∃ (T : ByteArray), e = .returned (.string T) ∧ T.size ≤ 9000 ∧ Below w.heap.size w w' := by
  have KD := drawRead_any v l w hv hl
  obtain ⟨av, cv, rfl, _⟩ := hv
  go_enter Tryz.func16, Tryz.ntmps16
  go_wp2_with fail
  refine KD.mono ?_
  rintro e w1 ⟨T, rfl, hT, hB⟩
  clear KD
  go_wp2
  go_ret
  exact ⟨T, rfl, hT, hB⟩

def DtPost (w : World) (e : Ending) (w' : World) : Prop := ∃ (a : Option Addr) (c : Nat) (L : List It), e = .returned (.slice a L.length c) ∧ L.length ≤ c ∧ IR w' (.slice a L.length c) L ∧ L.length ≤ 61 ∧ small L ∧ Below w.heap.size w w'
theorem DtPost.mk {w w' : World} {v : Value} {L : List It} {base : Nat} (h : w'.ownsRow base 33 4 v L.length (flat4 L)) (hl : L.length ≤ 61) (hs : small L) (hb : Below w.heap.size w w') : DtPost w (.returned v) w' := by
  obtain ⟨a, c, rfl, hc⟩ := owned_cap h
  exact ⟨a, c, L, rfl, hc, IR_of_owns h rfl, hl, hs, hb⟩
set_option maxHeartbeats 4000000 in
theorem drawTab_any (v : Value) (l : List UInt8) (w : World) (hv : YL w v l) (hl : l.length ≤ maxLen) :
    Calls Tryz.prog 8 #[v] w fun e w' => DtPost w e w' := by
  obtain ⟨i0, hi, hz0, hzs, hzb⟩ := info_parts Tryz.info33
  unfold maxLen at hl
  have hc0 := cur_new hv
  have hv0 := hv
  obtain ⟨av, cv, rfl, _⟩ := hv0
  have hb0 := below_alloc w (.cells #[.slice av l.length cv, .int .i64 0, .int .u64 0] 63)
  have hz : w.heap.size < (w.alloc (.cells #[.slice av l.length cv, .int .i64 0, .int .u64 0] 63)).heap.size := by simp
  clear hv
  go_enter Tryz.func8, Tryz.ntmps8
  go_wp2_with fail
  refine (tableRun_any w.heap.size l 0 _ hc0 (by omega) (by omega)).mono ?_
  rintro e w1 ⟨v, L, rfl, o1, hL0, hL, hsm, C1, G1⟩
  obtain ⟨a, c, rfl, hac⟩ := owned_cap o1
  clear hc0
  go_wp2_with fail
  refine (pick_any w.heap.size l (0 + 2500) 30 _ C1 (by omega) (by omega) (by omega)).mono ?_
  rintro e w2 ⟨⟨q, rfl, hq⟩, C2, G2⟩
  have o2 := G2.owns o1 (fun g hg h => by have := owns_ge o1 g hg; omega)
  have hB2 := below_cur hb0 (G1.trans G2)
  have hz2 := hB2.size
  clear C1 C2 G1 G2 o1 hb0
  by_cases q0 : q = 0
  · subst q0
    go_wp2
    go_ret
    exact DtPost.mk (L := []) (base := 0) (World.ownsRow_nil _ _ _ _) (by simp) (fun i hi => by simp at hi) hB2
  by_cases q1 : q = 1
  · subst q1
    obtain ⟨g, rfl⟩ : ∃ g, a = some ⟨g, 0, none⟩ := by
      rcases o2.2 with ⟨h, h0⟩ | ⟨g, cap, cur, hv, _⟩
      · omega
      · simp only [Value.slice.injEq] at hv; exact ⟨g, hv.1⟩
    obtain ⟨a', c', hv', hc⟩ := IR_of_owns o2 rfl
    simp only [Value.slice.injEq, true_and] at hv'
    obtain ⟨rfl, rfl⟩ := hv'
    obtain ⟨b', off, hb', hbl, hcell⟩ := hc (by intro e; simp [e] at hL0)
    simp only [Option.some.injEq, Addr.mk.injEq, and_true] at hb'
    obtain ⟨rfl, rfl⟩ := hb'
    obtain ⟨c0, c1, c2, c3⟩ := hcell 0 hL0
    simp only [Nat.zero_mul, Nat.zero_add] at c0 c1 c2 c3
    have hx := hsm 0 hL0
    have hsm2 : small (L ++ [L[0]]) := small_of (fun y hy => by
      rcases List.mem_append.1 hy with h | h
      · exact small_mem hsm y h
      · simp at h; subst h; exact hx)
    have hlen : (L ++ [L[0]]).length = L.length + 1 := by simp
    have hfl : flat4 (L ++ [L[0]]) = flat4 L ++ flat4 [L[0]] := flat4_append _ _
    obtain ⟨x, hxe⟩ : ∃ x, x = L[0] := ⟨_, rfl⟩
    rw [← hxe] at c0 c1 c2 c3 hsm2 hlen hfl
    obtain ⟨xk, xn, xd, xv⟩ := x
    dsimp only at c0 c1 c2 c3
    have hl0i : (0 : Int) < (L.length : Int) := by omega
    have HS : Hid (small (L ++ [(⟨xk, xn, xd, xv⟩ : It)])) := hsm2
    have HL : Hid ((L ++ [(⟨xk, xn, xd, xv⟩ : It)]).length = L.length + 1) := hlen
    have HF : Hid (flat4 (L ++ [(⟨xk, xn, xd, xv⟩ : It)]) = flat4 L ++ flat4 [(⟨xk, xn, xd, xv⟩ : It)]) := hfl
    clear hcell hc hxe hsm hsm2 hx hlen hfl
    have o3 := World.ownsRow.alloc o2 (.cells #[.string xk, .int .i64 xn, .int .i64 xd, .string xv] 33)
    go_wp2_with (at_builtin; refine wpList_append_own _ rfl _ _ 23 rfl _ 33 i0 (.agg #[.string ⟨#[]⟩, .int .i64 0, .int .i64 0, .string ⟨#[]⟩]) 4 48 Tryz.underlying23 hi hz0 hzs hzb rfl (by decide) (.slice (some ⟨g, 0, none⟩) L.length c) L.length (flat4 L) rfl o3 ⟨w2.heap.size, 0, none⟩ 1 1 (flat4 [(⟨xk, xn, xd, xv⟩ : It)]) rfl rfl (cells_new4 w2 (⟨xk, xn, xd, xv⟩ : It)) (one4 _) (by unfold maxLen; omega) (by omega) (by simp; omega) ?_; intro v' w3 hown3 hgrow3 _)
    have hB3 : Below w.heap.size w w3 := (hB2.alloc hz2 _).grown hgrow3 (by simp; omega) (by intro g' hg; have := owns_ge o2 g' hg; omega)
    obtain ⟨ga, gc, rfl, _⟩ := owned_cap hown3
    go_wp2
    go_ret
    exact DtPost.mk (L := L ++ [(⟨xk, xn, xd, xv⟩ : It)]) (by rw [HL.out, HF.out]; exact hown3) (by rw [HL.out]; omega) HS.out hB3
  · have n0 : ¬ (q : Int) = 0 := by omega
    have n1 : ¬ (q : Int) = 1 := by omega
    go_wp2
    go_ret
    exact DtPost.mk o2 (by omega) hsm hB2

end Go.Proofs.YtfdaffnkgpdhhaaGreat

namespace Go.Proofs.YtfdaffnkgpdhhaaGreat
open Go.RowKit
set_option linter.unusedVariables false
set_option maxRecDepth 100000

theorem hasBs_self (l : List UInt8) (ps : List Nat) (h : ∀ p ∈ ps, p / 8 < l.length) : hasBs (setBs l ps) ps = true := by
  induction ps generalizing l with
  | nil => rfl
  | cons p ps ih =>
    have hp := h p (List.mem_cons_self ..)
    have ht : ∀ q ∈ ps, q / 8 < (setB l p).length := fun x hx => by rw [setB_length]; exact h x (List.mem_cons_of_mem _ hx)
    have h1 := hasB_setBs (setB l p) ps p ht (hasB_self l p hp)
    have h2 := ih (setB l p) ht
    simp only [hasBs, List.all_cons, Bool.and_eq_true]
    exact ⟨h1, h2⟩
theorem addB_list (s : ByteArray) (n : Int) (k : ByteArray) : (addB s n k).data.toList = setBs s.data.toList (plK k n.toNat) := by
  unfold addB
  generalize setBs s.data.toList (plK k n.toNat) = q
  simp
theorem fold_mono (n : Int) : ∀ (ks : List ByteArray) (s : ByteArray) (m : Int) (s' : ByteArray) (m' : Int), s.size = 32 → foldF n ks s m = some (s', m') → ∀ q, hasB s.data.toList q = true → hasB s'.data.toList q = true := by
  intro ks
  induction ks with
  | nil => intro s m s' m' _ h q hq; simp only [foldF, Option.some.injEq, Prod.mk.injEq] at h; rw [← h.1]; exact hq
  | cons k ks ih =>
    intro s m s' m' hs h q hq
    have hl : s.data.toList.length = 32 := by simpa using hs
    unfold foldF at h
    split at h
    · refine ih _ _ _ _ ?_ h q ?_
      · show (setBs s.data.toList (plK k n.toNat)).toArray.size = 32
        rw [List.size_toArray, setBs_length]; exact hl
      · rw [addB_list]
        exact hasB_setBs _ _ q (fun p hp => by have := plK_lt k n.toNat p hp; omega) hq
    · cases h
theorem fold_has (n : Int) : ∀ (ks : List ByteArray) (s : ByteArray) (m : Int) (s' : ByteArray) (m' : Int), s.size = 32 → foldF n ks s m = some (s', m') → ∀ k ∈ ks, goodK k = true ∧ hasBs s'.data.toList (plK k n.toNat) = true := by
  intro ks
  induction ks with
  | nil => intro s m s' m' _ _ k hk; simp at hk
  | cons k0 ks ih =>
    intro s m s' m' hs h k hk
    have hl : s.data.toList.length = 32 := by simpa using hs
    have hz : (addB s n k0).size = 32 := by
      show (setBs s.data.toList (plK k0 n.toNat)).toArray.size = 32
      rw [List.size_toArray, setBs_length]; exact hl
    unfold foldF at h
    split at h
    · rename_i hgk
      rcases List.mem_cons.1 hk with rfl | hk2
      · refine ⟨hgk, ?_⟩
        have h0 := hasBs_self s.data.toList (plK k n.toNat) (fun p hp => by have := plK_lt k n.toNat p hp; omega)
        rw [← addB_list] at h0
        unfold hasBs at *
        rw [List.all_eq_true] at *
        exact fun p hp => fold_mono n ks _ _ _ _ hz h p (h0 p hp)
      · exact ih _ _ _ _ hz h k hk2
    · cases h
theorem kuL_all (l : List It) : ∀ i j, j < i → (l.getD j default).k ∈ kuL l i := by
  intro i
  induction i with
  | zero => intro j hj; omega
  | succ i ih =>
    intro j hj
    unfold kuL
    rw [List.mem_append]
    by_cases hji : j < i
    · exact .inl (ih j hji)
    · obtain rfl : j = i := by omega
      by_cases hd : j = 0 ∨ (l.getD (j - 1) default).k ≠ (l.getD j default).k
      · rw [if_pos hd]; exact .inr (by simp)
      · refine .inl ?_
        rw [not_or] at hd
        have e := Classical.not_not.1 hd.2
        rw [← e]
        exact ih (j - 1) (by omega)
/-- A table's filter knows all keys. -/
theorem tab_has {l : List It} (h : okT l = true) {j : Nat} (hj : j < l.length) : goodK (l.getD j default).k = true ∧ hasBs (fbT l).data.toList (plK (l.getD j default).k 4) = true := by
  have hp := okT_parts h
  have hh : goodH 4 = true := by decide
  obtain ⟨s, m, h1, h2⟩ := fold_good hh (kuL l l.length) zerS 0 (good_new hh) (kuL_good hp.1 (Nat.le_refl _))
  have hl := kuL_len l l.length
  have e : filF 4 (kuL l l.length) = (4, s, m, true) := by
    unfold filF
    rw [hh, decide_eq_true (by omega), h1]; rfl
  have e2 : fbT l = s := by unfold fbT; rw [e]
  rw [e2]
  exact fold_has 4 (kuL l l.length) zerS 0 s m rfl h1 _ (kuL_all l l.length j hj)
/-- What is got from a table. -/
theorem got_no {l : List It} (h : okT l = true) {key : ByteArray} {seq : Int} (hs : okSeek l key seq = false) : gF l true key seq = (It.zero, 0, false) := by
  have hp := okT_parts h
  unfold okSeek at hs
  rw [hp.1, Bool.true_and] at hs
  unfold gF
  rw [Bool.true_and, hs]; rfl
theorem got_yes {l : List It} (h : okT l = true) {key : ByteArray} {seq : Int} (hs : okSeek l key seq = true) (h1 : seekF l (gX key seq) < l.length) (h2 : (l.getD (seekF l (gX key seq)) default).k = key) : gF l true key seq = (l.getD (seekF l (gX key seq)) default, 1, true) := by
  have hp := okT_parts h
  unfold okSeek at hs
  rw [hp.1, Bool.true_and] at hs
  have hm : gMay l key seq = true := by
    unfold gMay
    have := (tab_has h h1).2
    rw [h2] at this
    rw [this, decide_eq_true h1]; rfl
  unfold gF
  rw [Bool.true_and, hs, hm]
  simp only [if_true]
  rw [if_pos (show (gI l key seq).k = key from h2)]
  rfl
theorem got_not {l : List It} (h : okT l = true) {key : ByteArray} {seq : Int} (hs : okSeek l key seq = true) (h2 : ¬ (seekF l (gX key seq) < l.length ∧ (l.getD (seekF l (gX key seq)) default).k = key)) : ∃ n : Int, 0 ≤ n ∧ n ≤ 1 ∧ gF l true key seq = (It.zero, n, false) := by
  unfold gF
  split
  · split
    · rename_i hm
      unfold gMay at hm
      rw [Bool.and_eq_true, decide_eq_true_eq] at hm
      rw [if_neg (show ¬ (gI l key seq).k = key from fun e => h2 ⟨hm.2, e⟩)]
      exact ⟨1, by omega, by omega, rfl⟩
    · exact ⟨0, by omega, by omega, rfl⟩
  · exact ⟨0, by omega, by omega, rfl⟩
theorem tab_bl {l : List It} (h : okT l = true) : bl (tabF l) = tbL l := by
  unfold tabF
  rw [if_pos h]
  unfold tb bl; simp
theorem tab_res {l m : List It} {ok : Bool} (h : okT l = true) (hr : TbRes (bl (tabF l)) m ok) : m = l ∧ ok = true := by
  rw [tab_bl h] at hr
  rcases hr with ⟨rfl, g, e, u⟩ | ⟨rfl, rfl, hn⟩
  · exact ⟨(u l h rfl).symm, rfl⟩
  · exact absurd rfl (hn l h)
end Go.Proofs.YtfdaffnkgpdhhaaGreat

namespace Go.Proofs.YtfdaffnkgpdhhaaGreat
open Go.RowKit
set_option linter.unusedVariables false
set_option maxRecDepth 100000

theorem pl_at (l : List It) : ∀ (k j : Nat) (p q : List UInt8), 4 * j < k → (itsL l (4 * j)).length < 65536 → lo2 (p ++ plL l k ++ q) (p.length + 2 * j) = (itsL l (4 * j)).length := by
  intro k
  induction k with
  | zero => intro j p q h; omega
  | succ k ih =>
    intro j p q h hs
    by_cases hjk : 4 * j < k
    · have e : p ++ plL l (k + 1) ++ q = p ++ plL l k ++ ((if k % 4 = 0 then twoL (itsL l k).length else []) ++ q) := by simp [plL]
      rw [e]; exact ih j p _ hjk hs
    · have hk : k = 4 * j := by omega
      subst hk
      have e : p ++ plL l (4 * j + 1) ++ q = (p ++ plL l (4 * j)) ++ twoL (itsL l (4 * j)).length ++ q := by
        rw [plL, if_pos (by omega)]; simp
      rw [e, show p.length + 2 * j = (p ++ plL l (4 * j)).length from by rw [List.length_append, plL_len]; omega]
      exact lo2_two _ _ _ hs
theorem its_rise (l : List It) : ∀ (d i : Nat), (itsL l i).length + d ≤ (itsL l (i + d)).length := by
  intro d
  induction d with
  | zero => intro i; simp
  | succ d ih =>
    intro i
    have h1 := ih i
    have h2 : 0 < (itL (l.getD (i + d) default) (cm l (i + d))).length := List.length_pos_iff.2 (itL_ne _ _)
    rw [show i + (d + 1) = (i + d) + 1 from by omega, itsL, List.length_append]
    omega
theorem plc_at {l : List It} (hg : goodR l = true) (hl : l.length ≤ 40) (s : ByteArray) (hs : bl s = blkL l) (j : Nat) (hj : j < (l.length + 3) / 4) : lo2 (bl s) (fromN (bl s) + 2 * j) = (itsL l (4 * j)).length := by
  have hp := blk_parts (l := l) (by omega)
  have h1 : (itsL l (4 * j)).length < 65536 := by
    have := (itsL_len (goodTo_le hg (k := 4 * j) (by omega))).1
    omega
  rw [hs, hp.2]
  have e : blkL l = itsL l l.length ++ plL l l.length ++ (twoL ((plL l l.length).length / 2) ++ wordL (csum (bodyL l))) := by
    unfold blkL bodyL; simp
  rw [e]
  exact pl_at l l.length j (itsL l l.length) _ (by omega) h1
/-- What is told of a block that was made. -/
theorem made_facts {l : List It} (h : okBlk l = true) : rbOk (blkF l) = true ∧ rbL (blkF l) = l ∧ (rsL (blkF l)).length = (l.length + 3) / 4 ∧ (∀ j (h1 : j + 1 < (rsL (blkF l)).length), (rsL (blkF l))[j] < (rsL (blkF l))[j + 1]) ∧ (∀ h0 : 0 < (rsL (blkF l)).length, (rsL (blkF l))[0] = 0) := by
  have hb := h
  unfold okBlk at hb
  rw [Bool.and_eq_true, decide_eq_true_eq] at hb
  obtain ⟨hg, hl⟩ := hb
  have hs : bl (blkF l) = blkL l := by unfold blkF; rw [if_pos h, bl_tx]
  have hres : RdRes (bl (blkF l)) l true := .inl ⟨rfl, hg, hl, hs.symm⟩
  obtain ⟨e1, e2⟩ := hres.same (rb_res (blkF l))
  have hrs : rsL (blkF l) = plcs (blkF l) (many (bl (blkF l))) := by unfold rsL; rw [if_pos e2.symm]
  have hmany : many (bl (blkF l)) = (l.length + 3) / 4 := by rw [hs, blk_many (by omega), plL_len]; omega
  have hlen : (rsL (blkF l)).length = (l.length + 3) / 4 := by rw [hrs, plcs_len, hmany]
  have hat : ∀ j (h1 : j < (rsL (blkF l)).length), (rsL (blkF l))[j] = (((itsL l (4 * j)).length : Nat) : Int) := by
    intro j h1
    have h2 : j < (l.length + 3) / 4 := by omega
    have h3 : (rsL (blkF l))[j]? = some ((lo2 (bl (blkF l)) (fromN (bl (blkF l)) + 2 * j) : Nat) : Int) := by
      rw [hrs]
      unfold plcs
      rw [List.getElem?_map, List.getElem?_range (by rw [hmany]; exact h2)]
      rfl
    rw [List.getElem?_eq_getElem h1, Option.some.injEq] at h3
    rw [h3, plc_at hg hl _ hs j h2]
  refine ⟨e2.symm, e1.symm, hlen, fun j h1 => ?_, fun h0 => ?_⟩
  · rw [hat j (by omega), hat (j + 1) h1]
    have := its_rise l 4 (4 * j)
    rw [show 4 * j + 4 = 4 * (j + 1) from by omega] at this
    omega
  · rw [hat 0 h0]; rfl
theorem made_first {l : List It} (h : okBlk l = true) : fiOk (blkF l) = decide (l.length ≠ 0) ∧ fiK (blkF l) = if l.length ≠ 0 then (l.getD 0 default).k else ⟨#[]⟩ := by
  obtain ⟨h1, h2, _⟩ := made_facts h
  unfold fiK fiOk
  rw [h1, h2, Bool.true_and]
  refine ⟨rfl, ?_⟩
  by_cases h3 : l.length ≠ 0
  · rw [if_pos h3, if_pos (by simpa using h3)]
  · rw [if_neg h3, if_neg (by simpa using h3)]
theorem made_size (l : List It) : (blkF l).size ≤ 1048576 := by
  unfold blkF
  split
  · rename_i h
    unfold okBlk at h
    rw [Bool.and_eq_true, decide_eq_true_eq] at h
    rw [tx_size, blk_len, plL_len]
    have := (itsL_len (goodTo_le h.1 (Nat.le_refl _))).1
    omega
  · exact Nat.zero_le _

set_option maxHeartbeats 2000000 in
theorem sameItems_same (u v : Value) (l : List It) (w : World) (hu : IR w u l) (hv : IR w v l) (hn : l.length ≤ 1048576) :
    Calls Tryz.prog 12 #[u, v] w fun e w' => e = .returned (.bool true) ∧ Below w.heap.size w w' := by
  obtain ⟨a, cap, rfl, hc⟩ := hu
  obtain ⟨a', cap', rfl, hc'⟩ := hv
  go_enter Tryz.func12, Tryz.ntmps12
  go_wp2
  go_loopw [13] (fun i wr => ∃ k : Nat, k ≤ l.length ∧ i = .int .i64 k ∧ Below w.heap.size w wr) (fun i _ => l.length - (intOf i).toNat)
  case atStart => exact ⟨0, Nat.zero_le _, rfl, Below.refl _ _⟩
  case round =>
    obtain ⟨k, hk, rfl, hb⟩ := hrel
    by_cases hlt : k < l.length
    · obtain ⟨b, off, rfl, hbl, hcell⟩ := hc (by intro e; simp [e] at hlt)
      obtain ⟨b', off', rfl, hbl', hcell'⟩ := hc' (by intro e; simp [e] at hlt)
      obtain ⟨s, hse⟩ : ∃ s, s = l[k] := ⟨_, rfl⟩
      have hc0 := (hb.cell (p := ⟨b, off + k * 4, none⟩) hbl).trans (hcell k hlt).1
      have hc1 := (hb.cell (p := ⟨b, off + k * 4 + 1, none⟩) hbl).trans (hcell k hlt).2.1
      have hc2 := (hb.cell (p := ⟨b, off + k * 4 + 2, none⟩) hbl).trans (hcell k hlt).2.2.1
      have hc3 := (hb.cell (p := ⟨b, off + k * 4 + 3, none⟩) hbl).trans (hcell k hlt).2.2.2
      have hd0 := (hb.cell (p := ⟨b', off' + k * 4, none⟩) hbl').trans (hcell' k hlt).1
      have hd1 := (hb.cell (p := ⟨b', off' + k * 4 + 1, none⟩) hbl').trans (hcell' k hlt).2.1
      have hd2 := (hb.cell (p := ⟨b', off' + k * 4 + 2, none⟩) hbl').trans (hcell' k hlt).2.2.1
      have hd3 := (hb.cell (p := ⟨b', off' + k * 4 + 3, none⟩) hbl').trans (hcell' k hlt).2.2.2
      rw [← hse] at hc0 hc1 hc2 hc3 hd0 hd1 hd2 hd3
      clear hcell hse hc hcell' hc'
      have hz := hb.size
      obtain ⟨sk, sn, sd, sv⟩ := s
      dsimp only at hc0 hc1 hc2 hc3 hd0 hd1 hd2 hd3
      go_wp2_with fail
      go_quiet (fail)
      go_wp2
      go_roundw
      case rel => exact ⟨k + 1, by omega, by go_num, below_drewN hb _⟩
      case measure => simp [intOf]; omega
    · clear hc hc'
      go_wp2
      go_ret
      exact ⟨rfl, hb⟩

end Go.Proofs.YtfdaffnkgpdhhaaGreat

namespace Go.Proofs.YtfdaffnkgpdhhaaGreat
open Go.RowKit
set_option linter.unusedVariables false
set_option maxRecDepth 100000

theorem read_tab {L : List It} (h : okT L = true) (w : World) : Calls Tryz.prog 11 #[.string (tabF L)] w fun e w' => ∃ a c, e = .returned (.tuple #[.slice a L.length c, .bool true]) ∧ IR w' (.slice a L.length c) L ∧ Below w.heap.size w w' := by
  refine (implReadT_any (tabF L) w (by have := tab_size L; omega)).mono ?_
  rintro e w' ⟨l, ok, v, hr, rfl, ho, hb⟩
  obtain ⟨rfl, rfl⟩ := tab_res h hr
  obtain ⟨a, c, rfl⟩ := slice_form ho
  exact ⟨a, c, rfl, IR_of_owns ho rfl, hb⟩
theorem get_tab {L : List It} (h : okT L = true) (key : ByteArray) (q : Int) (w : World) (hk : key.size ≤ 17) {x : It} {n : Int} {b : Bool} (hg : gF L true key q = (x, n, b)) :
    Calls Tryz.prog 14 #[.string (tabF L), .string key, .int .i64 q] w fun e w' => e = .returned (.tuple #[.agg #[.string x.k, .int .i64 x.n, .int .i64 x.d, .string x.v], .int .i64 n, .bool b]) ∧ Below w.heap.size w w' := by
  refine (implGet_any (tabF L) key q w (by have := tab_size L; omega) (by omega)).mono ?_
  rintro e w' ⟨l, ok, hr, hb, he⟩
  obtain ⟨rfl, rfl⟩ := tab_res h hr
  rw [hg] at he
  exact ⟨he, hb⟩

set_option maxHeartbeats 8000000 in
theorem lawTables (v u : Value) (l m0 : List UInt8) (w : World) (hv : YL w v l) (hn : l.length ≤ maxLen) (hu : YL w u m0) (hn2 : m0.length ≤ maxLen) :
    Calls Tryz.prog 3 #[v, u] w fun e w' => e = .returned (.bool true) ∧ Below w.heap.size w w' := by
  have hnv := hn
  have hnu := hn2
  unfold maxLen at hn hn2
  have hv' := hv
  have hu' := hu
  obtain ⟨va, vc, rfl, _⟩ := hv'
  obtain ⟨ua, uc, rfl, _⟩ := hu'
  have KD := drawTab_any _ l w hv hnv
  have KC := fun w h => drawGet_any (.slice ua m0.length uc) m0 w h hnu
  clear hnv hnu
  by_cases hg : wrap64 ((l.length : Int) + m0.length) ≤ 1048576
  · go_enter Tryz.func3, Tryz.ntmps3
    go_wp2_with fail
    refine KD.mono ?_
    rintro e w1 ⟨a, c, L, rfl, hac, hir, hle, hsm, hb1⟩
    replace hu := hu.below hb1
    have KI := fun w h => implTab_any a c L w h hac (by omega) (small_big hsm)
    have KS := fun w h => specTab_any a c L w h hac (by omega) (small_big hsm)
    have KK := fun key q w h hk => specSeek_any (.slice a L.length c) L key q w h (by omega) (small_big hsm) hk
    clear KD hv hsm hac
    go_wp2_with fail
    refine (KI _ hir).mono ?_
    rintro e w2 ⟨rfl, hb2⟩
    replace hir := hir.below hb2
    replace hu := hu.below hb2
    have hB := below_then hb1 hb2
    clear KI hb1 hb2
    go_wp2_with fail
    refine (KS _ hir).mono ?_
    rintro e w3 ⟨rfl, hb3⟩
    replace hir := hir.below hb3
    replace hu := hu.below hb3
    replace hB := below_then hB hb3
    clear KS hb3
    cases hok : okT L with
    | false =>
      have hT : tabF L = ⟨#[]⟩ := by unfold tabF; rw [if_neg (by rw [hok]; simp)]
      rw [hT]
      clear hT hok hir KK KC hu
      go_wp2
      go_ret
      exact ⟨rfl, hB⟩
    | true =>
      have KR := fun w => read_tab hok w
      have HG : Hid (∀ (key : ByteArray) (q : Int) (w : World) (hk : key.size ≤ 17) (x : It) (n : Int) (b : Bool), gF L true key q = (x, n, b) → Calls Tryz.prog 14 #[.string (tabF L), .string key, .int .i64 q] w fun e w' => e = .returned (.tuple #[.agg #[.string x.k, .int .i64 x.n, .int .i64 x.d, .string x.v], .int .i64 n, .bool b]) ∧ Below w.heap.size w w') := fun key q w hk x n b hg => get_tab hok key q w hk hg
      have HOK : Hid (okT L = true) := hok
      have HKK : Hid (∀ (key : ByteArray) (q : Int) (w : World), IR w (.slice a L.length c) L → key.size ≤ 1048576 → _) := KK
      clear hok KK
      generalize tabF L = T at *
      go_wp2_with fail
      refine (KR _).mono ?_
      rintro e w4 ⟨ma, mc, rfl, irm, hb4⟩
      replace hir := hir.below hb4
      replace hu := hu.below hb4
      replace hB := below_then hB hb4
      clear KR hb4
      go_wp2_with fail
      refine (sameItems_same _ _ L _ hir irm (by omega)).mono ?_
      rintro e w5 ⟨rfl, hb5⟩
      replace hir := hir.below hb5
      replace hu := hu.below hb5
      replace hB := below_then hB hb5
      clear irm hb5
      go_wp2_with fail
      refine (KC _ hu).mono ?_
      rintro e w6 ⟨T6, key, q, rfl, hT6, hk, hq, hb6⟩
      replace hir := hir.below hb6
      replace hB := below_then hB hb6
      clear KC hu hb6 hT6 hg hn hn2
      have KK := fun w h => HKK.out key (q : Int) w h (by omega)
      cases hsk : okSeek L key (q : Int) with
      | false =>
        have KG := fun w => HG.out key (q : Int) w hk _ _ _ (got_no HOK.out hsk)
        rw [hsk] at KK
        clear HG HKK HOK hsk
        generalize sekF L key (q : Int) = R at *
        simp only [It.zero] at KG
        go_wp2_with fail
        refine (KG _).mono ?_
        rintro e w7 ⟨rfl, hb7⟩
        replace hir := hir.below hb7
        replace hB := below_then hB hb7
        clear KG hb7
        have hb8 := below_alloc w7 (.cells #[.string ⟨#[]⟩, .int .i64 0, .int .i64 0, .string ⟨#[]⟩] 33)
        replace hir := hir.below hb8
        replace hB := below_then hB hb8
        clear hb8
        go_wp2_with fail
        refine (KK _ hir).mono ?_
        rintro e w9 ⟨rfl, hb9⟩
        replace hB := below_then hB hb9
        clear KK hir hb9
        go_wp2
        go_ret
        exact ⟨rfl, hB⟩
      | true =>
        rw [sekF_yes hsk, hsk] at KK
        have hkle := seekF_le L ⟨key, q, 0, ⟨#[]⟩⟩
        by_cases hf : seekF L (gX key q) < L.length ∧ (L.getD (seekF L (gX key q)) default).k = key
        · have KG := fun w => HG.out key (q : Int) w hk _ _ _ (got_yes HOK.out hsk hf.1 hf.2)
          clear HG HKK HOK hsk
          rw [show (⟨key, (q : Int), 0, ⟨#[]⟩⟩ : It) = gX key q from rfl] at KK
          obtain ⟨hf1, hf2⟩ := hf
          clear hkle
          generalize seekF L (gX key q) = k at *
          obtain ⟨x, hx⟩ : ∃ x, x = L.getD k default := ⟨_, rfl⟩
          rw [← hx] at hf2 KG
          obtain ⟨xk, xn, xd, xv⟩ := x
          dsimp only at hf2 KG
          subst hf2
          go_wp2_with fail
          refine (KG _).mono ?_
          rintro e w7 ⟨rfl, hb7⟩
          replace hir := hir.below hb7
          replace hB := below_then hB hb7
          clear KG hb7
          have X8 := Box.new w7 #[.string xk, .int .i64 xn, .int .i64 xd, .string xv] 33
          have hb8 := below_alloc w7 (.cells #[.string xk, .int .i64 xn, .int .i64 xd, .string xv] 33)
          replace hir := hir.below hb8
          replace hB := below_then hB hb8
          clear hb8
          go_wp2_with fail
          refine (KK _ hir).mono ?_
          rintro e w9 ⟨rfl, hb9⟩
          have X9 := X8.below hb9
          replace hir := hir.below hb9
          replace hB := below_then hB hb9
          clear KK X8 hb9
          obtain ⟨_, x0, x1, x2, x3⟩ := X9.c4
          obtain ⟨a', c', he, hc⟩ := hir
          injection he with e1 e2 e3
          subst e1
          obtain ⟨b, off, rfl, hbl, hcell⟩ := hc (by intro e; rw [e] at hf1; simp at hf1)
          obtain ⟨c0, c1, c2, c3⟩ := hcell k hf1
          rw [getD_at L k hf1] at hx
          rw [← hx] at c0 c1 c2 c3
          dsimp only at c0 c1 c2 c3
          clear hcell hc hx e2 e3 X9
          generalize w7.heap.size = g at *
          have hk1 : (k : Int) < (L.length : Int) := by omega
          go_wp2_with fail
          go_quiet (fail)
          go_wp2
          go_ret
          exact ⟨rfl, below_drewN hB _⟩
        · obtain ⟨n, hn0, hn1, hgn⟩ := got_not HOK.out hsk hf
          have KG := fun w => HG.out key (q : Int) w hk _ _ _ hgn
          clear HG HKK HOK hsk hgn
          rw [show (⟨key, (q : Int), 0, ⟨#[]⟩⟩ : It) = gX key q from rfl] at KK hkle
          generalize seekF L (gX key q) = k at *
          simp only [It.zero] at KG
          go_wp2_with fail
          refine (KG _).mono ?_
          rintro e w7 ⟨rfl, hb7⟩
          replace hir := hir.below hb7
          replace hB := below_then hB hb7
          clear KG hb7
          have X8 := Box.new w7 #[.string ⟨#[]⟩, .int .i64 0, .int .i64 0, .string ⟨#[]⟩] 33
          have hb8 := below_alloc w7 (.cells #[.string ⟨#[]⟩, .int .i64 0, .int .i64 0, .string ⟨#[]⟩] 33)
          replace hir := hir.below hb8
          replace hB := below_then hB hb8
          clear hb8
          go_wp2_with fail
          refine (KK _ hir).mono ?_
          rintro e w9 ⟨rfl, hb9⟩
          have X9 := X8.below hb9
          replace hir := hir.below hb9
          replace hB := below_then hB hb9
          clear KK X8 hb9
          obtain ⟨_, x0, x1, x2, x3⟩ := X9.c4
          generalize w7.heap.size = g at *
          have hnd : decide (n ≤ 1) = true := decide_eq_true hn1
          by_cases hk2 : k < L.length
          · have hne : (L.getD k default).k ≠ key := fun e => hf ⟨hk2, e⟩
            rw [getD_at L k hk2] at hne
            have g1 := tl_ne hne
            obtain ⟨a', c', he, hc⟩ := hir
            injection he with e1 e2 e3
            subst e1
            obtain ⟨b, off, rfl, hbl, hcell⟩ := hc (by intro e; rw [e] at hk2; simp at hk2)
            obtain ⟨c0, c1, c2, c3⟩ := hcell k hk2
            have hk1 : (k : Int) < (L.length : Int) := by omega
            clear hcell hc e2 e3 X9 hf hne
            generalize L[k] = t at *
            obtain ⟨tk, tn, td, tv⟩ := t
            dsimp only at *
            go_wp2_with fail
            go_quiet (fail)
            go_wp2
            go_ret
            exact ⟨rfl, below_drewN hB _⟩
          · have hk1 : ¬ (k : Int) < (L.length : Int) := by omega
            clear hf hir X9
            go_wp2_with fail
            go_quiet (fail)
            go_wp2
            go_ret
            exact ⟨rfl, below_drewN hB _⟩
  · have hg' : 1048576 < wrap64 ((l.length : Int) + m0.length) := by omega
    clear KD KC
    go_enter Tryz.func3, Tryz.ntmps3
    go_wp2
    go_ret
    exact ⟨rfl, Below.refl _ _⟩
end Go.Proofs.YtfdaffnkgpdhhaaGreat

