/-
  A drawn edit: the cursor's edit.
-/
import Derived.Test.YtenbdjlhcadhaaaGreatVMToVE0
import Derived.Test.YtenbdjlhcadhaaaGreatE9ToBB
import Derived.Test.YtenbdjlhcadhaaaGreatRD1ToEBI
namespace Go.Proofs.YtenbdjlhcadhaaaGreat
open Go.RowKit
set_option linter.unusedVariables false
set_option maxRecDepth 100000

theorem chg_more {b : Nat} {S : Nat → Prop} {w w1 w2 : World} (h : Chg (· = b) w w1) (k : Chg S w1 w2) (hs : ∀ j, S j → j = b ∨ w.heap.size ≤ j) : Chg (· = b) w w2 :=
  ⟨k.os.trans h.os, k.tape.trans h.tape, k.output.trans h.output, Nat.le_trans h.size k.size, fun j hj hn => (k.block j (Nat.lt_of_lt_of_le hj h.size) fun q => by
    rcases hs j q with q | q
    · exact hn q
    · omega).trans (h.block j hj hn)⟩
def EditPost (b : Nat) (l : List UInt8) (K : Nat) (w : World) (e : Ending) (w' : World) : Prop := (∃ (x y : Int) (u1 u2 : Value) (D : List Int) (A : List Mt), e = .returned (.agg #[.int .i64 x, .int .i64 y, u1, u2]) ∧ ED w' w.heap.size u1 u2 D A) ∧ Cur w' b l (K + 200) ∧ Chg (· = b) w w'
theorem EditPost.mk {b : Nat} {l : List UInt8} {K : Nat} {w w' : World} {x y : Int} {u1 u2 : Value} {D : List Int} {A : List Mt} (he : ED w' w.heap.size u1 u2 D A) (hc : Cur w' b l (K + 200)) (hg : Chg (· = b) w w') : EditPost b l K w (.returned (.agg #[.int .i64 x, .int .i64 y, u1, u2])) w' := ⟨⟨x, y, u1, u2, D, A, rfl, he⟩, hc, hg⟩
theorem flat_snoc (D : List Int) (n : Int) : (D ++ [n]).map (Value.int .i64) = D.map (Value.int .i64) ++ [.int .i64 n] := by simp
theorem mt_snoc {A : List Mt} {X d : Int} {k v : ByteArray} (h : ∀ i (h : i < A.length), A[i].k.size ≤ 17 ∧ A[i].v.size ≤ 18) (hk : k.size ≤ 17) (hv : v.size ≤ 18) : ∀ i (h : i < (A ++ [(⟨X, d, k, v⟩ : Mt)]).length), (A ++ [(⟨X, d, k, v⟩ : Mt)])[i].k.size ≤ 17 ∧ (A ++ [(⟨X, d, k, v⟩ : Mt)])[i].v.size ≤ 18 := by
  intro i hi
  by_cases hl : i < A.length
  · rw [List.getElem_append_left hl]; exact h i hl
  · rw [List.getElem_append_right (by omega)]; simpa using ⟨hk, hv⟩
set_option maxHeartbeats 16000000 in
theorem edit_any (b : Nat) (bl : List UInt8) (K : Nat) (nx sq : Int) (vv : Value) (B : Nat) (l : List Mt) (w : World) (h : Cur w b bl K) (hl : bl.length ≤ 9223372036854775807) (hK : K ≤ 100000) (ov : w.ownsRow B 71 4 vv l.length (flat4 l)) (hbB : b < B) (hn : l.length ≤ 40) (hx0 : 0 ≤ nx) (hx1 : nx ≤ 1000000) (hs0 : 0 ≤ sq) (hs1 : sq ≤ 2000000000) :
    Calls Tryz.prog 19 #[.pointer (some ⟨b, 0, none⟩), .agg #[.int .i64 nx, .int .i64 sq, vv]] w (EditPost b bl K w) := by
  obtain ⟨i0, hi, hz0, hzs, hzb⟩ := info_parts Tryz.info3v
  obtain ⟨j0, hj, hj0, hjs, hjb⟩ := info_parts Tryz.info71
  have hbw := h.lt
  obtain ⟨va, vc, rfl⟩ := owns_shape ov
  obtain ⟨W0, hW0⟩ : ∃ W0, W0 = (w.alloc (.cells #[.int .i64 nx, .int .i64 sq, .slice va l.length vc] 35)).alloc (.cells #[.int .i64 0, .int .i64 0, .slice none 0 0, .slice none 0 0] 26) := ⟨_, rfl⟩
  have hb0 : Below w.heap.size w W0 := by rw [hW0]; exact below2 _ _ _
  have V : Box W0 w.heap.size [.int .i64 nx, .int .i64 sq, .slice va l.length vc] := by rw [hW0]; exact (Box.new w #[.int .i64 nx, .int .i64 sq, .slice va l.length vc] 35).alloc _
  have R : Box W0 (w.heap.size + 1) [.int .i64 0, .int .i64 0, .slice none 0 0, .slice none 0 0] := by
    rw [hW0]
    have := Box.new (w.alloc (.cells #[.int .i64 nx, .int .i64 sq, .slice va l.length vc] 35)) #[.int .i64 0, .int .i64 0, .slice none 0 0, .slice none 0 0] 26
    simpa using this
  have hcu := h.chg hb0
  have hB : Chg (· = b) w W0 := Chg.of_below hb0
  clear hb0 h
  go_enter Tryz.func19, Tryz.ntmps19
  go_upto_region 1 with fail
  rw [← hW0]; clear hW0
  go_cut [5] from 10 (fun s5 wc => ∃ (x : Nat) (y : Int), s5 = .pointer (some ⟨x, 0, none⟩) ∧ w.heap.size + 1 < x ∧ Box wc w.heap.size [.int .i64 nx, .int .i64 sq, .slice va l.length vc] ∧ Box wc (w.heap.size + 1) [.int .i64 0, .int .i64 0, .slice none 0 0, .slice none 0 0] ∧ Box wc x [.int .i64 nx, .int .i64 y, .slice none 0 0, .slice none 0 0] ∧ Cur wc b bl (K + 2) ∧ Chg (· = b) w wc)
  case first =>
    clear ov
    have hD : Below W0.heap.size W0 W0.drew := (Below.refl _ _).drew
    replace V := V.below hD
    replace R := R.below hD
    replace hcu := hcu.chg hD
    replace hB := hB.trans (Chg.of_below hD)
    clear hD
    refine wp_region_held_drew (S := fun w' => w'.cell? ⟨w.heap.size, 0, none⟩ = some (.int .i64 nx) ∧ w'.cell? ⟨w.heap.size, 1, none⟩ = some (.int .i64 sq)) (by kernel_rfl) ⟨V.2.1 0 _ rfl, V.2.1 1 _ rfl⟩ (fun hHeld => ?_)
    generalize W0.drew = k0 at *
    refine wpAnyH_take (i := 0) (oi := { dst := some 10, op := Op.fieldAddr 35 (Operand.tmp 3) 0, type := 0, pos := "l9_version.go:259", after := #[], guard := none }) (v := .pointer (some ⟨w.heap.size, 0, none⟩)) rfl (by kernel_rfl) (by kernel_rfl) (by kernel_rfl) (fun _ _ _ h => h) (Or.inl ⟨by rfl, ?_⟩) (by assumption) ?_
    · intro wx hSw
      clear hSw hHeld; go_simp
    simp only [Act.put, List.setIfInBounds_toArray, List.set_cons_zero, List.set_cons_succ]
    refine wpAnyH_take (i := 1) (oi := { dst := some 11, op := Op.load 3 (Operand.tmp 10), type := 3, pos := "l9_version.go:259", after := #[{ on := 0, ground := Ground.data }], guard := none }) (v := .int .i64 nx) rfl (by kernel_rfl) (by kernel_rfl) (by kernel_rfl) (fun _ _ _ h => h) (Or.inl ⟨by rfl, ?_⟩) (by assumption) ?_
    · intro wx hSw
      have e := hSw.1; clear hHeld hSw; go_simp
    simp only [Act.put, List.setIfInBounds_toArray, List.set_cons_zero, List.set_cons_succ]
    refine wpAnyH_take (i := 2) (oi := { dst := some 12, op := Op.fieldAddr 35 (Operand.tmp 3) 1, type := 0, pos := "l9_version.go:259", after := #[], guard := none }) (v := .pointer (some ⟨w.heap.size, 1, none⟩)) rfl (by kernel_rfl) (by kernel_rfl) (by kernel_rfl) (fun _ _ _ h => h) (Or.inl ⟨by rfl, ?_⟩) (by assumption) ?_
    · intro wx hSw
      clear hSw hHeld; go_simp
    simp only [Act.put, List.setIfInBounds_toArray, List.set_cons_zero, List.set_cons_succ]
    refine wpAnyH_take (i := 3) (oi := { dst := some 13, op := Op.load 3 (Operand.tmp 12), type := 3, pos := "l9_version.go:259", after := #[{ on := 2, ground := Ground.data }], guard := none }) (v := .int .i64 sq) rfl (by kernel_rfl) (by kernel_rfl) (by kernel_rfl) (fun _ _ _ h => h) (Or.inl ⟨by rfl, ?_⟩) (by assumption) ?_
    · intro wx hSw
      have e := hSw.2; clear hHeld hSw; go_simp
    simp only [Act.put, List.setIfInBounds_toArray, List.set_cons_zero, List.set_cons_succ]
    refine wpAnyH_take (i := 4) (oi := { dst := some 14, op := Op.move (Operand.tmp 0), type := 48, pos := "l9_version.go:259", after := #[], guard := none }) (v := .pointer (some ⟨b, 0, none⟩)) rfl (by kernel_rfl) (by kernel_rfl) (by kernel_rfl) (fun _ _ _ h => h) (Or.inl ⟨by rfl, ?_⟩) (by assumption) ?_
    · intro wx hSw
      clear hSw hHeld; go_simp
    simp only [Act.put, List.setIfInBounds_toArray, List.set_cons_zero, List.set_cons_succ]
    refine wpAnyH_ready (rs := [5, 8]) (by kernel_rfl) (by simp) ?_
    refine (AllReadyH.cons (o := { dst := some 15, op := Op.call { callee := Callee.value (Operand.func 31), args := #[Operand.tmp 14, Operand.const (Value.int IntKind.i64 5)], argTypes := #[48, 3] }, type := 3, pos := "l9_version.go:259", after := #[{ on := 4, ground := Ground.data }], guard := none }) rfl (fun K0 hK0 => ?_) (AllReadyH.cons (o := { dst := some 5, op := Op.alloc 26, type := 0, pos := "l9_version.go:259", after := #[], guard := none }) rfl (fun K0 hK0 => ?_) AllReadyH.nil))
    · clear hHeld
      go_simp
      refine (pick_any b bl K 5 _ hcu hl (by omega) (by omega)).mono ?_
      rintro e k1 ⟨⟨p, rfl, hp⟩, hcu2, hch⟩
      replace V := hch.box V (by omega)
      replace R := hch.box R (by omega)
      replace hB := hB.trans hch
      have hcu := hcu2
      clear hch hcu2
      refine hK0.out _ _ ⟨V.2.1 0 _ rfl, V.2.1 1 _ rfl⟩ (fun hHeld => ?_)
      clear hK0 K0
      refine wpAnyH_take (i := 6) (oi := { dst := some 16, op := Op.binOp BinOp.add 3 (Operand.tmp 13) (Operand.tmp 15) 3, type := 3, pos := "l9_version.go:259", after := #[{ on := 3, ground := Ground.data }, { on := 5, ground := Ground.data }], guard := none }) (v := .int .i64 (sq + p)) rfl (by kernel_rfl) (by kernel_rfl) (by kernel_rfl) (fun _ _ _ h => h) (Or.inl ⟨by rfl, ?_⟩) (by assumption) ?_
      · intro wx hSw
        clear hSw hHeld; go_simp; rw [IntKind.wrap_i64]; omega
      simp only [Act.put, List.setIfInBounds_toArray, List.set_cons_zero, List.set_cons_succ]
      refine wpAnyH_take (i := 7) (oi := { dst := some 17, op := Op.build 26 #[(0, Operand.tmp 11), (1, Operand.tmp 16)], type := 26, pos := "l9_version.go:259", after := #[{ on := 1, ground := Ground.data }, { on := 6, ground := Ground.data }], guard := none }) (v := .agg #[.int .i64 nx, .int .i64 (sq + p), .slice none 0 0, .slice none 0 0]) rfl (by kernel_rfl) (by kernel_rfl) (by kernel_rfl) (fun _ _ _ h => h) (Or.inl ⟨by rfl, ?_⟩) (by assumption) ?_
      · intro wx hSw
        clear hSw hHeld; go_simp
      simp only [Act.put, List.setIfInBounds_toArray, List.set_cons_zero, List.set_cons_succ]
      refine wpAnyH_ready (rs := [8]) (by kernel_rfl) (by simp) ?_
      refine AllReadyH.cons (o := { dst := some 5, op := Op.alloc 26, type := 0, pos := "l9_version.go:259", after := #[], guard := none }) rfl (fun K0 hK0 => ?_) AllReadyH.nil
      clear hHeld
      have Z := Box.new k1 #[.int .i64 0, .int .i64 0, .slice none 0 0, .slice none 0 0] 26
      have hkR := R.1
      have hkb := hcu.lt
      have hA := below_alloc k1 (.cells #[.int .i64 0, .int .i64 0, .slice none 0 0, .slice none 0 0] 26)
      replace V := V.below hA
      replace R := R.below hA
      replace hcu := hcu.chg hA
      replace hB := hB.trans (Chg.of_below hA)
      clear hA
      go_simp
      refine hK0.out _ _ ⟨V.2.1 0 _ rfl, V.2.1 1 _ rfl⟩ (fun hHeld => ?_)
      clear hK0 K0
      generalize k1.alloc (.cells #[.int .i64 0, .int .i64 0, .slice none 0 0, .slice none 0 0] 26) = k2 at *
      generalize k1.heap.size = x at *
      refine wpAnyH_ready (rs := [9]) (by kernel_rfl) (by simp) ?_
      refine AllReadyH.cons (o := { dst := none, op := Op.store 26 (Operand.tmp 5) (Operand.tmp 17), type := 0, pos := "l9_version.go:259", after := #[{ on := 8, ground := Ground.data }, { on := 7, ground := Ground.data }, { on := 5, ground := Ground.chain }, { on := 0, ground := Ground.phase }, { on := 1, ground := Ground.phase }, { on := 2, ground := Ground.phase }, { on := 3, ground := Ground.phase }, { on := 4, ground := Ground.phase }, { on := 5, ground := Ground.phase }, { on := 6, ground := Ground.phase }, { on := 7, ground := Ground.phase }, { on := 8, ground := Ground.phase }], guard := none }) rfl (fun K0 hK0 => ?_) AllReadyH.nil
      clear hHeld
      obtain ⟨hzl, z0, z1, z2, z3, f0, f1, f2, f3⟩ := Z.e4
      have Z2 := put4_box Z (.int .i64 nx) (.int .i64 (sq + p)) (.slice none 0 0) (.slice none 0 0)
      have hch := put4_chg k2 x (.int .i64 nx) (.int .i64 (sq + p)) (.slice none 0 0) (.slice none 0 0)
      have V2 := hch.box V (by omega)
      have R2 := hch.box R (by omega)
      have BP := hch.below (B := w.heap.size) (by have := hB.size; omega) (fun k hk => by omega)
      have hcu2 := cur_low hcu hbw BP
      have hB2 := chg_below hB BP
      clear hch BP V R Z hcu hB
      go_simp
      refine hK0.out _ (put4 k2 x (.int .i64 nx) (.int .i64 (sq + p)) (.slice none 0 0) (.slice none 0 0)) ⟨V2.2.1 0 _ rfl, V2.2.1 1 _ rfl⟩ (fun hHeld => ?_)
      clear hK0 K0 hHeld
      refine wpAnyH_done (by kernel_rfl) ?_ _
      go_wp2_with fail
      go_meet
      exact ⟨x, sq + p, rfl, by omega, V2, R2, Z2, hcu2, hB2⟩
    · clear hHeld
      have Z := Box.new k0 #[.int .i64 0, .int .i64 0, .slice none 0 0, .slice none 0 0] 26
      have hkR := R.1
      have hkb := hcu.lt
      have hA := below_alloc k0 (.cells #[.int .i64 0, .int .i64 0, .slice none 0 0, .slice none 0 0] 26)
      replace V := V.below hA
      replace R := R.below hA
      replace hcu := hcu.chg hA
      replace hB := hB.trans (Chg.of_below hA)
      clear hA
      go_simp
      refine hK0.out _ _ ⟨V.2.1 0 _ rfl, V.2.1 1 _ rfl⟩ (fun hHeld => ?_)
      clear hK0 K0
      generalize k0.alloc (.cells #[.int .i64 0, .int .i64 0, .slice none 0 0, .slice none 0 0] 26) = k1 at *
      generalize k0.heap.size = x at *
      refine wpAnyH_ready (rs := [5]) (by kernel_rfl) (by simp) ?_
      refine AllReadyH.cons (o := { dst := some 15, op := Op.call { callee := Callee.value (Operand.func 31), args := #[Operand.tmp 14, Operand.const (Value.int IntKind.i64 5)], argTypes := #[48, 3] }, type := 3, pos := "l9_version.go:259", after := #[{ on := 4, ground := Ground.data }], guard := none }) rfl (fun K0 hK0 => ?_) AllReadyH.nil
      clear hHeld
      go_simp
      refine (pick_any b bl K 5 _ hcu hl (by omega) (by omega)).mono ?_
      rintro e k2 ⟨⟨p, rfl, hp⟩, hcu2, hch⟩
      replace V := hch.box V (by omega)
      replace R := hch.box R (by omega)
      replace Z := hch.box Z (by omega)
      replace hB := hB.trans hch
      have hcu := hcu2
      clear hch hcu2
      refine hK0.out _ _ ⟨V.2.1 0 _ rfl, V.2.1 1 _ rfl⟩ (fun hHeld => ?_)
      clear hK0 K0
      refine wpAnyH_take (i := 6) (oi := { dst := some 16, op := Op.binOp BinOp.add 3 (Operand.tmp 13) (Operand.tmp 15) 3, type := 3, pos := "l9_version.go:259", after := #[{ on := 3, ground := Ground.data }, { on := 5, ground := Ground.data }], guard := none }) (v := .int .i64 (sq + p)) rfl (by kernel_rfl) (by kernel_rfl) (by kernel_rfl) (fun _ _ _ h => h) (Or.inl ⟨by rfl, ?_⟩) (by assumption) ?_
      · intro wx hSw
        clear hSw hHeld; go_simp; rw [IntKind.wrap_i64]; omega
      simp only [Act.put, List.setIfInBounds_toArray, List.set_cons_zero, List.set_cons_succ]
      refine wpAnyH_take (i := 7) (oi := { dst := some 17, op := Op.build 26 #[(0, Operand.tmp 11), (1, Operand.tmp 16)], type := 26, pos := "l9_version.go:259", after := #[{ on := 1, ground := Ground.data }, { on := 6, ground := Ground.data }], guard := none }) (v := .agg #[.int .i64 nx, .int .i64 (sq + p), .slice none 0 0, .slice none 0 0]) rfl (by kernel_rfl) (by kernel_rfl) (by kernel_rfl) (fun _ _ _ h => h) (Or.inl ⟨by rfl, ?_⟩) (by assumption) ?_
      · intro wx hSw
        clear hSw hHeld; go_simp
      simp only [Act.put, List.setIfInBounds_toArray, List.set_cons_zero, List.set_cons_succ]
      refine wpAnyH_ready (rs := [9]) (by kernel_rfl) (by simp) ?_
      refine AllReadyH.cons (o := { dst := none, op := Op.store 26 (Operand.tmp 5) (Operand.tmp 17), type := 0, pos := "l9_version.go:259", after := #[{ on := 8, ground := Ground.data }, { on := 7, ground := Ground.data }, { on := 5, ground := Ground.chain }, { on := 0, ground := Ground.phase }, { on := 1, ground := Ground.phase }, { on := 2, ground := Ground.phase }, { on := 3, ground := Ground.phase }, { on := 4, ground := Ground.phase }, { on := 5, ground := Ground.phase }, { on := 6, ground := Ground.phase }, { on := 7, ground := Ground.phase }, { on := 8, ground := Ground.phase }], guard := none }) rfl (fun K0 hK0 => ?_) AllReadyH.nil
      clear hHeld
      obtain ⟨hzl, z0, z1, z2, z3, f0, f1, f2, f3⟩ := Z.e4
      have Z2 := put4_box Z (.int .i64 nx) (.int .i64 (sq + p)) (.slice none 0 0) (.slice none 0 0)
      have hch := put4_chg k2 x (.int .i64 nx) (.int .i64 (sq + p)) (.slice none 0 0) (.slice none 0 0)
      have V2 := hch.box V (by omega)
      have R2 := hch.box R (by omega)
      have BP := hch.below (B := w.heap.size) (by have := hB.size; omega) (fun k hk => by omega)
      have hcu2 := cur_low hcu hbw BP
      have hB2 := chg_below hB BP
      clear hch BP V R Z hcu hB
      go_simp
      refine hK0.out _ (put4 k2 x (.int .i64 nx) (.int .i64 (sq + p)) (.slice none 0 0) (.slice none 0 0)) ⟨V2.2.1 0 _ rfl, V2.2.1 1 _ rfl⟩ (fun hHeld => ?_)
      clear hK0 K0 hHeld
      refine wpAnyH_done (by kernel_rfl) ?_ _
      go_wp2_with fail
      go_meet
      exact ⟨x, sq + p, rfl, by omega, V2, R2, Z2, hcu2, hB2⟩
  case rest =>
    clear V R hcu hB hs0 hs1
    obtain ⟨x, y, rfl, hxw, V, R, Z, hcu, hB⟩ := hcut
    have ov0 := ov
    replace ov := hB.owns ov (fun g hg q => by have := owns_ge ov g hg; omega)
    have hge := owns_ge ov
    have hlt := owns_below_lt ov
    have IV := IR_of_owns ov rfl
    have hxl := Z.1
    have hzc := hB.size
    obtain ⟨hvl, v0, v1, v2, _⟩ := V.c3
    have hge0 : Hid (∀ g, (Value.slice va l.length vc).ownBlock = some g → g < w.heap.size) := owns_below_lt ov0
    have hbx : b < x := by omega
    clear ov ov0
    have hbc := hcu.lt
    go_wp2_with fail
    clear hvl v0 v1 v2
    go_loopw [21] (fun i wr => ∃ (k : Nat) (D : List Int) (u1 : Value), k ≤ l.length ∧ i = .int .i64 k ∧ D.length ≤ k ∧ Box wr x [.int .i64 nx, .int .i64 y, u1, .slice none 0 0] ∧ wr.ownsRow wc.heap.size 3 1 u1 D.length (D.map (Value.int .i64)) ∧ Cur wr b bl (K + 2 + 2 * k) ∧ Chg (fun j => j = b ∨ j = x ∨ wc.heap.size ≤ j) wc wr) (fun i _ => l.length - (intOf i).toNat)
    case atStart => exact ⟨0, [], .slice none 0 0, Nat.zero_le _, rfl, Nat.le_refl _, Z, World.ownsRow_nil _ _ _ _, hcu, Chg.refl _ _⟩
    case round =>
      clear Z hcu
      obtain ⟨k, D, u1, hk, rfl, hDk, Z, oD, hcu, hC⟩ := hrel
      obtain ⟨ua, uc, rfl⟩ := owns_shape oD
      have hzr := hC.size
      by_cases hlt2 : k < l.length
      · obtain ⟨aa, cc, he, hh⟩ := IV
        simp only [Value.slice.injEq, true_and] at he
        obtain ⟨rfl, rfl⟩ := he
        obtain ⟨vb, vo, rfl, hvl, hcell⟩ := hh (by intro e; rw [e] at hlt2; simp at hlt2)
        have hvb := hge vb rfl
        have hvx : ¬ (vb = b ∨ vb = x ∨ wc.heap.size ≤ vb) := by have := hge0.out vb rfl; omega
        have hc0 := (hC.cell (p := ⟨vb, vo + k * 4, none⟩) hvl hvx).trans (hcell k hlt2).1
        have hc1 := (hC.cell (p := ⟨vb, vo + k * 4 + 1, none⟩) hvl hvx).trans (hcell k hlt2).2.1
        have hc2 := (hC.cell (p := ⟨vb, vo + k * 4 + 2, none⟩) hvl hvx).trans (hcell k hlt2).2.2.1
        have hc3 := (hC.cell (p := ⟨vb, vo + k * 4 + 3, none⟩) hvl hvx).trans (hcell k hlt2).2.2.2
        have hvl2 : vb < wr.heap.size := by omega
        clear hcell hh
        generalize l[k] = m at *
        obtain ⟨tn, td, tk, tv⟩ := m
        dsimp only at *
        have T := Box.new wr #[.int .i64 tn, .int .i64 td, .string tk, .string tv] 71
        have hA := below_alloc wr (.cells #[.int .i64 tn, .int .i64 td, .string tk, .string tv] 71)
        have hbr := hcu.lt
        have hZl := Z.1
        replace Z := Z.below hA
        replace oD := owns_below oD hA
        replace hcu := hcu.chg hA
        replace hC := hC.trans (Chg.of_below hA)
        clear hA
        go_wp2_with fail
        clear hc0 hc1 hc2 hc3
        refine (one_any b bl _ 4 _ hcu hl (by omega) (by omega)).mono ?_
        rintro e w3 ⟨⟨c, rfl⟩, hcu2, hch⟩
        have hgeD := owns_ge oD
        replace T := hch.box T (by omega)
        replace Z := hch.box Z (by omega)
        replace oD := hch.owns oD (fun g hg q => by have := hgeD g hg; omega)
        replace hC := hC.trans (hch.mono fun j hj => .inl hj)
        have hcu := hcu2
        have hz3 := hC.size
        clear hch hcu2
        cases c with
        | false =>
          go_wp2
          go_roundw
          case rel => exact ⟨k + 1, D, _, by omega, by go_num, by omega, Z, oD, hcu.mono (by omega), hC⟩
          case measure => simp [intOf]; omega
        | true =>
          obtain ⟨ht3, t0, _⟩ := T.c4
          obtain ⟨hzl, z0, z1, z2, z3, f0, f1, f2, f3⟩ := Z.e4
          have hA := below_alloc w3 (.cells #[.int .i64 tn] 3)
          have hC1 := hC.trans (Chg.of_below hA)
          have Z1 := Z.below hA
          have hcu1 := hcu.chg hA
          have HCU : Hid (Cur (w3.alloc (.cells #[.int .i64 tn] 3)) b bl (K + 2 + 2 * (k + 1))) := hcu1.mono (by omega)
          have hml : (D.map (Value.int .i64)).length = D.length := by simp
          have HDL : Hid (D.length + 1 ≤ k + 1) := Nat.succ_le_succ hDk
          obtain ⟨zs, hzs2⟩ : ∃ zs, zs = D.map (Value.int .i64) := ⟨_, rfl⟩
          rw [← hzs2] at oD hml
          have HZS : Hid (zs = D.map (Value.int .i64)) := hzs2
          obtain ⟨nd, hnd⟩ : ∃ nd, nd = D.length := ⟨_, rfl⟩
          have HND : Hid (nd = D.length) := hnd
          rw [← hnd] at oD hml Z Z1 z2 hgeD hDk
          clear hcu hcu1 hzs2 hnd
          go_wp2_with (at_builtin; refine wpList_append_own _ rfl _ _ 23 rfl wc.heap.size 3 i0 (.int .i64 0) 1 8 Tryz.underlying23 hi hz0 hzs hzb rfl (by decide) _ nd zs rfl (owns_below oD (below_alloc _ _)) ⟨w3.heap.size, 0, none⟩ 1 1 [.int .i64 tn] rfl rfl (one_new w3 tn) (by intro u hu; simp at hu; subst hu; rfl) (by unfold maxLen; omega) (by omega) (by simp; omega) ?_; intro v' w7 hown7 hgrow7 _; refine StopV.go ?_)
          have hG := grown_chgV hgrow7
          have hC7 := hC1.trans (hG.mono fun j hj => .inr (.inr (hgeD j hj)))
          have Z7 := hG.box Z1 (fun e => by have := hgeD x e; omega)
          have hcu7 : Cur w7 b bl (K + 2 + 2 * (k + 1)) := cur_low HCU.out hbc (hG.below (B := wc.heap.size) (by simp; omega) (fun j hj => hgeD j hj))
          obtain ⟨v2a, v2c, rfl⟩ := owns_shape hown7
          have hbl7 := Z7.1
          have hge7 := owns_ge hown7
          clear z0 z1 z2 z3 f0 f1 f2 f3 t0 T Z oD hC Z1 hC1 hG hgrow7 HCU
          obtain ⟨_, z0, z1, z2, z3, f0, f1, f2, f3⟩ := Z7.e4
          have Zn := Z7.set 2 (.slice v2a (nd + 1) v2c) (by simp)
          have hS : Chg (fun j => j = x) w7 (w7.setCell ⟨x, 2, none⟩ (.slice v2a (nd + 1) v2c)) := Chg.setCell (S := fun j => j = x) (p := ⟨x, 2, none⟩) (Chg.refl _ _) rfl _
          have On := hS.owns hown7 (fun g hg hh => by have := hge7 g hg; omega)
          have hCn := hC7.setCell (p := ⟨x, 2, none⟩) (.inr (.inl rfl)) (.slice v2a (nd + 1) v2c)
          have hcun := cur_low hcu7 hbx (hS.below (B := x) (by omega) (fun j hj => by omega))
          clear Z7 hown7 hC7 hS hcu7
          unfold StopV
          go_wp2
          go_roundw
          case rel => exact ⟨k + 1, D ++ [tn], .slice v2a (nd + 1) v2c, by omega, by go_num, by rw [List.length_append]; exact HDL.out, Zn, by rw [flat_snoc, List.length_append, ← HZS.out, ← HND.out]; exact On, hcun, hCn⟩
          case measure => simp [intOf]; omega
      · obtain rfl : k = l.length := by omega
        clear IV hge
        have hDk2 : D.length ≤ 40 := by omega
        replace hcu := hcu.mono (show K + 2 + 2 * l.length ≤ K + 90 by omega)
        have hgeD := owns_ge oD
        clear hDk hk
        go_wp2_with fail
        refine (pick_any b bl _ 3 _ hcu hl (by omega) (by omega)).mono ?_
        rintro e w4 ⟨⟨p, rfl, hp⟩, hcu2, hch⟩
        replace Z := hch.box Z (by omega)
        replace oD := hch.owns oD (fun g hg q => by have := hgeD g hg; omega)
        replace hC := hC.trans (hch.mono fun j hj => .inl hj)
        have hcu := hcu2
        have hp2 : p ≤ 2 := by omega
        clear hch hcu2 hp hzr
        go_wp2_with fail
        go_loopw [8] (fun i wr => ∃ (j : Nat) (X : Int) (A : List Mt) (u2 : Value), A.length + j ≤ 2 ∧ i = .int .i64 j ∧ 0 ≤ X ∧ X ≤ 1000000 + A.length ∧ (∀ i (h : i < A.length), A[i].k.size ≤ 17 ∧ A[i].v.size ≤ 18) ∧ Box wr x [.int .i64 X, .int .i64 y, .slice ua D.length uc, u2] ∧ wr.ownsRow wc.heap.size 3 1 (.slice ua D.length uc) D.length (D.map (Value.int .i64)) ∧ wr.ownsRow wc.heap.size 71 4 u2 A.length (flat4 A) ∧ Cur wr b bl (K + 92 + 22 * (2 - j)) ∧ Chg (fun j => j = b ∨ j = x ∨ wc.heap.size ≤ j) wc wr) (fun i _ => (intOf i).toNat)
        case atStart => exact ⟨p, nx, [], .slice none 0 0, by simpa using hp2, rfl, hx0, by simpa using hx1, fun i h => by simp at h, Z, oD, World.ownsRow_nil _ _ _ _, hcu.mono (by omega), hC⟩
        case round =>
          clear Z oD hcu hC hx0 hx1
          obtain ⟨j, X, A, u2, hAj, rfl, hX0, hX1, hsz, Z, oD, oA, hcu, hC⟩ := hrel
          obtain ⟨ea, ec, rfl⟩ := owns_shape oA
          have HSZ : Hid (∀ i (h : i < A.length), A[i].k.size ≤ 17 ∧ A[i].v.size ≤ 18) := hsz
          clear hsz
          have hzr := hC.size
          have hgeA := owns_ge oA
          have hZl := Z.1
          by_cases hj0' : 0 < j
          · have gj : (0 : Int) < (j : Int) := by omega
            obtain ⟨hzl, z0, z1, z2, z3, f0, f1, f2, f3⟩ := Z.e4
            go_wp2_with fail
            refine (meta_any b bl _ X _ hcu hl (by omega)).mono ?_
            rintro e w5 ⟨⟨md, mk, mv, rfl, hmk, hmv⟩, hcu2, hch⟩
            replace Z := hch.box Z (by omega)
            replace oD := hch.owns oD (fun g hg q => by have := hgeD g hg; omega)
            replace oA := hch.owns oA (fun g hg q => by have := hgeA g hg; omega)
            replace hC := hC.trans (hch.mono fun j hj => .inl hj)
            have hcu := hcu2
            have hz5 := hC.size
            have hbr := hcu.lt
            clear hch hcu2 hzl z0 z1 z2 z3 f0 f1 f2 f3
            have T := Box.new w5 #[.int .i64 X, .int .i64 md, .string mk, .string mv] 71
            have hA := below_alloc w5 (.cells #[.int .i64 X, .int .i64 md, .string mk, .string mv] 71)
            replace Z := Z.below hA
            replace oD := owns_below oD hA
            replace oA := owns_below oA hA
            replace hcu := hcu.chg hA
            replace hC := hC.trans (Chg.of_below hA)
            clear hA
            obtain ⟨ht5, t0, t1, t2, t3⟩ := T.c4
            go_wp2_with fail
            refine (l9Meta_any X md mk mv _ (by omega) (by omega)).mono ?_
            rintro e w6 ⟨rfl, hb6⟩
            replace T := T.below hb6
            replace Z := Z.below hb6
            replace oD := owns_below oD hb6
            replace oA := owns_below oA hb6
            replace hcu := hcu.chg hb6
            replace hC := hC.trans (Chg.of_below hb6)
            have hT6 : w5.heap.size < w6.heap.size := by have := hb6.size; simp at this; omega
            clear hb6 ht5 t0 t1 t2 t3
            generalize okMt ⟨X, md, mk, mv⟩ = g at *
            cases g with
            | true =>
              obtain ⟨ht3, t0, t1, t2, t3⟩ := T.c4
              obtain ⟨hzl, z0, z1, z2, z3, f0, f1, f2, f3⟩ := Z.e4
              have hA := below_alloc w6 (.cells #[.int .i64 X, .int .i64 md, .string mk, .string mv] 71)
              have hC1 := hC.trans (Chg.of_below hA)
              have Z1 := Z.below hA
              have oD1 := owns_below oD hA
              have hcu1 := hcu.chg hA
              have HCU : Hid (Cur (w6.alloc (.cells #[.int .i64 X, .int .i64 md, .string mk, .string mv] 71)) b bl (K + 92 + 22 * (2 - (j - 1)))) := hcu1.mono (by omega)
              have hml := flat4_length A
              have hne := owns_type_ne oD oA (by decide)
              have HSN : Hid (∀ i (h : i < (A ++ [(⟨X, md, mk, mv⟩ : Mt)]).length), (A ++ [(⟨X, md, mk, mv⟩ : Mt)])[i].k.size ≤ 17 ∧ (A ++ [(⟨X, md, mk, mv⟩ : Mt)])[i].v.size ≤ 18) := mt_snoc HSZ.out hmk hmv
              have HX1 : Hid (X + 1 ≤ 1000000 + ((A.length : Int) + 1)) := by show _ ≤ _; omega
              obtain ⟨fs, hfs⟩ : ∃ fs, fs = flat4 A := ⟨_, rfl⟩
              rw [← hfs] at oA hml
              have HFS : Hid (fs = flat4 A) := hfs
              obtain ⟨na, hna⟩ : ∃ na, na = A.length := ⟨_, rfl⟩
              have HNA : Hid (na = A.length) := hna
              rw [← hna] at oA hml Z Z1 z3 hgeA hAj hX1 hne
              clear hcu hcu1 hfs hna HSZ hmk hmv
              go_wp2_with (at_builtin; refine wpList_append_own _ rfl _ _ 24 rfl wc.heap.size 71 j0 (.agg #[.int .i64 0, .int .i64 0, .string ⟨#[]⟩, .string ⟨#[]⟩]) 4 48 Tryz.underlying24 hj hj0 hjs hjb rfl (by decide) _ na fs rfl (owns_below oA (below_alloc _ _)) ⟨w6.heap.size, 0, none⟩ 1 1 [.int .i64 X, .int .i64 md, .string mk, .string mv] rfl rfl (four_new w6 X md mk mv) (flat4_ones X md mk mv) (by unfold maxLen; omega) (by omega) (by simp; omega) ?_; intro v' w9 hown7 hgrow7 _; refine StopV.go ?_)
              have hG := grown_chgV hgrow7
              have hC7 := hC1.trans (hG.mono fun j hj => .inr (.inr (hgeA j hj)))
              have Z7 := hG.box Z1 (fun e => by have := hgeA x e; omega)
              have oD7 := hG.owns oD1 (fun g hg hh => hne g hg hh)
              have hcu7 : Cur w9 b bl (K + 92 + 22 * (2 - (j - 1))) := cur_low HCU.out hbc (hG.below (B := wc.heap.size) (by simp; omega) (fun j hj => hgeA j hj))
              obtain ⟨v2a, v2c, rfl⟩ := owns_shape hown7
              have hbl7 := Z7.1
              have hge7 := owns_ge hown7
              clear z0 z1 z2 z3 f0 f1 f2 f3 t0 t1 t2 t3 T Z oD oA hC Z1 hC1 hG hgrow7 HCU oD1 hzl ht3
              obtain ⟨_, z0, z1, z2, z3, f0, f1, f2, f3⟩ := Z7.e4
              have Zn := (Z7.set 3 (.slice v2a (na + 1) v2c) (by simp)).set 0 (.int .i64 (X + 1)) (by simp)
              have hS : Chg (fun j => j = x) w9 ((w9.setCell ⟨x, 3, none⟩ (.slice v2a (na + 1) v2c)).setCell ⟨x, 0, none⟩ (.int .i64 (X + 1))) := Chg.setCell (S := fun j => j = x) (p := ⟨x, 0, none⟩) (Chg.setCell (S := fun j => j = x) (p := ⟨x, 3, none⟩) (Chg.refl _ _) rfl _) rfl _
              have On := hS.owns hown7 (fun g hg hh => by have := hge7 g hg; omega)
              have ODn := hS.owns oD7 (fun g hg hh => by have := hgeD g hg; omega)
              have hCn := hC7.trans (hS.mono fun j hj => .inr (.inl hj))
              have hcun := cur_low hcu7 hbx (hS.below (B := x) (by omega) (fun j hj => by omega))
              clear Z7 hown7 hC7 hS hcu7 oD7
              unfold StopV
              go_wp2
              go_roundw
              case rel => exact ⟨j - 1, X + 1, A ++ [⟨X, md, mk, mv⟩], .slice v2a (na + 1) v2c, by rw [List.length_append, ← HNA.out]; simp only [List.length_cons, List.length_nil]; omega, by go_num, by omega, by rw [List.length_append]; exact HX1.out, HSN.out, Zn, ODn, by rw [flat4_append, List.length_append, ← HFS.out, ← HNA.out]; exact On, hcun, hCn⟩
              case measure => simp [intOf]; omega
            | false =>
              go_wp2_with fail
              refine (one_any b bl _ 8 _ hcu hl (by omega) (by omega)).mono ?_
              rintro e w7 ⟨⟨c, rfl⟩, hcu2, hch⟩
              replace T := hch.box T (by omega)
              replace Z := hch.box Z (by omega)
              replace oD := hch.owns oD (fun g hg q => by have := hgeD g hg; omega)
              replace oA := hch.owns oA (fun g hg q => by have := hgeA g hg; omega)
              replace hC := hC.trans (hch.mono fun j hj => .inl hj)
              have hcu := hcu2
              clear hch hcu2 hT6
              have hT6 := T.1
              cases c with
              | false =>
                go_wp2
                go_roundw
                case rel => exact ⟨j - 1, X, A, _, by omega, by go_num, hX0, hX1, HSZ.out, Z, oD, oA, hcu.mono (by omega), hC⟩
                case measure => simp [intOf]; omega
              | true =>
                obtain ⟨ht3, t0, t1, t2, t3⟩ := T.c4
                obtain ⟨hzl, z0, z1, z2, z3, f0, f1, f2, f3⟩ := Z.e4
                have hA := below_alloc w7 (.cells #[.int .i64 X, .int .i64 md, .string mk, .string mv] 71)
                have hC1 := hC.trans (Chg.of_below hA)
                have Z1 := Z.below hA
                have oD1 := owns_below oD hA
                have hcu1 := hcu.chg hA
                have HCU : Hid (Cur (w7.alloc (.cells #[.int .i64 X, .int .i64 md, .string mk, .string mv] 71)) b bl (K + 92 + 22 * (2 - (j - 1)))) := hcu1.mono (by omega)
                have hml := flat4_length A
                have hne := owns_type_ne oD oA (by decide)
                have HSN : Hid (∀ i (h : i < (A ++ [(⟨X, md, mk, mv⟩ : Mt)]).length), (A ++ [(⟨X, md, mk, mv⟩ : Mt)])[i].k.size ≤ 17 ∧ (A ++ [(⟨X, md, mk, mv⟩ : Mt)])[i].v.size ≤ 18) := mt_snoc HSZ.out hmk hmv
                have HX1 : Hid (X + 1 ≤ 1000000 + ((A.length : Int) + 1)) := by show _ ≤ _; omega
                obtain ⟨fs, hfs⟩ : ∃ fs, fs = flat4 A := ⟨_, rfl⟩
                rw [← hfs] at oA hml
                have HFS : Hid (fs = flat4 A) := hfs
                obtain ⟨na, hna⟩ : ∃ na, na = A.length := ⟨_, rfl⟩
                have HNA : Hid (na = A.length) := hna
                rw [← hna] at oA hml Z Z1 z3 hgeA hAj hX1 hne
                clear hcu hcu1 hfs hna HSZ hmk hmv
                go_wp2_with (at_builtin; refine wpList_append_own _ rfl _ _ 24 rfl wc.heap.size 71 j0 (.agg #[.int .i64 0, .int .i64 0, .string ⟨#[]⟩, .string ⟨#[]⟩]) 4 48 Tryz.underlying24 hj hj0 hjs hjb rfl (by decide) _ na fs rfl (owns_below oA (below_alloc _ _)) ⟨w7.heap.size, 0, none⟩ 1 1 [.int .i64 X, .int .i64 md, .string mk, .string mv] rfl rfl (four_new w7 X md mk mv) (flat4_ones X md mk mv) (by unfold maxLen; omega) (by omega) (by simp; omega) ?_; intro v' w9 hown7 hgrow7 _; refine StopV.go ?_)
                have hG := grown_chgV hgrow7
                have hC7 := hC1.trans (hG.mono fun j hj => .inr (.inr (hgeA j hj)))
                have Z7 := hG.box Z1 (fun e => by have := hgeA x e; omega)
                have oD7 := hG.owns oD1 (fun g hg hh => hne g hg hh)
                have hcu7 : Cur w9 b bl (K + 92 + 22 * (2 - (j - 1))) := cur_low HCU.out hbc (hG.below (B := wc.heap.size) (by simp; omega) (fun j hj => hgeA j hj))
                obtain ⟨v2a, v2c, rfl⟩ := owns_shape hown7
                have hbl7 := Z7.1
                have hge7 := owns_ge hown7
                clear z0 z1 z2 z3 f0 f1 f2 f3 t0 t1 t2 t3 T Z oD oA hC Z1 hC1 hG hgrow7 HCU oD1 hzl ht3
                obtain ⟨_, z0, z1, z2, z3, f0, f1, f2, f3⟩ := Z7.e4
                have Zn := (Z7.set 3 (.slice v2a (na + 1) v2c) (by simp)).set 0 (.int .i64 (X + 1)) (by simp)
                have hS : Chg (fun j => j = x) w9 ((w9.setCell ⟨x, 3, none⟩ (.slice v2a (na + 1) v2c)).setCell ⟨x, 0, none⟩ (.int .i64 (X + 1))) := Chg.setCell (S := fun j => j = x) (p := ⟨x, 0, none⟩) (Chg.setCell (S := fun j => j = x) (p := ⟨x, 3, none⟩) (Chg.refl _ _) rfl _) rfl _
                have On := hS.owns hown7 (fun g hg hh => by have := hge7 g hg; omega)
                have ODn := hS.owns oD7 (fun g hg hh => by have := hgeD g hg; omega)
                have hCn := hC7.trans (hS.mono fun j hj => .inr (.inl hj))
                have hcun := cur_low hcu7 hbx (hS.below (B := x) (by omega) (fun j hj => by omega))
                clear Z7 hown7 hC7 hS hcu7 oD7
                unfold StopV
                go_wp2
                go_roundw
                case rel => exact ⟨j - 1, X + 1, A ++ [⟨X, md, mk, mv⟩], .slice v2a (na + 1) v2c, by rw [List.length_append, ← HNA.out]; simp only [List.length_cons, List.length_nil]; omega, by go_num, by omega, by rw [List.length_append]; exact HX1.out, HSN.out, Zn, ODn, by rw [flat4_append, List.length_append, ← HFS.out, ← HNA.out]; exact On, hcun, hCn⟩
                case measure => simp [intOf]; omega
          · obtain rfl : j = 0 := by omega
            have hA2 : A.length ≤ 2 := by omega
            replace hcu := hcu.mono (show K + 92 + 22 * (2 - 0) ≤ K + 140 by omega)
            clear hAj hj0' hp2
            go_wp2_with fail
            refine (pick_any b bl _ 40 _ hcu hl (by omega) (by omega)).mono ?_
            rintro e w5 ⟨⟨q, rfl, hq⟩, hcu2, hch⟩
            replace Z := hch.box Z (by omega)
            replace oD := hch.owns oD (fun g hg q => by have := hgeD g hg; omega)
            replace oA := hch.owns oA (fun g hg q => by have := hgeA g hg; omega)
            replace hC := hC.trans (hch.mono fun j hj => .inl hj)
            have hcu := hcu2
            clear hch hcu2 hZl hzr
            have hZl := Z.1
            have hzr := hC.size
            by_cases hq0 : q = 0
            · subst hq0
              go_upto_region 17 with fail
              have hD : Below w5.heap.size w5 w5.drew := (Below.refl _ _).drew
              replace Z := Z.below hD
              replace oD := owns_below oD hD
              replace oA := owns_below oA hD
              replace hcu := hcu.chg hD
              replace hC := hC.trans (Chg.of_below hD)
              clear hD
              refine wp_region_held_drew (S := fun _ => True) (by kernel_rfl) trivial (fun hHeld => ?_)
              generalize w5.drew = k0 at *
              refine wpAnyH_take (i := 0) (oi := { dst := some 65, op := Op.fieldAddr 26 (Operand.tmp 5) 2, type := 0, pos := "l9_version.go:274", after := #[], guard := none }) (v := .pointer (some ⟨x, 2, none⟩)) rfl (by kernel_rfl) (by kernel_rfl) (by kernel_rfl) (fun _ _ _ h => h) (Or.inl ⟨by rfl, ?_⟩) (by assumption) ?_
              · intro wx hSw
                clear hSw hHeld; go_simp
              simp only [Act.put, List.setIfInBounds_toArray, List.set_cons_zero, List.set_cons_succ]
              refine wpAnyH_take (i := 2) (oi := { dst := some 67, op := Op.move (Operand.tmp 0), type := 48, pos := "l9_version.go:274", after := #[], guard := none }) (v := .pointer (some ⟨b, 0, none⟩)) rfl (by kernel_rfl) (by kernel_rfl) (by kernel_rfl) (fun _ _ _ h => h) (Or.inl ⟨by rfl, ?_⟩) (by assumption) ?_
              · intro wx hSw
                clear hSw hHeld; go_simp
              simp only [Act.put, List.setIfInBounds_toArray, List.set_cons_zero, List.set_cons_succ]
              refine wpAnyH_ready (rs := [1, 3]) (by kernel_rfl) (by simp) ?_
              refine (AllReadyH.cons (o := { dst := some 66, op := Op.load 23 (Operand.tmp 65), type := 23, pos := "l9_version.go:274", after := #[{ on := 0, ground := Ground.data }], guard := none }) rfl (fun K0 hK0 => ?_) (AllReadyH.cons (o := { dst := some 68, op := Op.call { callee := Callee.value (Operand.func 31), args := #[Operand.tmp 67, Operand.const (Value.int IntKind.i64 5)], argTypes := #[48, 3] }, type := 3, pos := "l9_version.go:274", after := #[{ on := 2, ground := Ground.data }], guard := none }) rfl (fun K0 hK0 => ?_) AllReadyH.nil))
              · clear hHeld
                have ee := Z.2.1 2 _ rfl
                go_simp
                clear ee
                refine hK0.out _ _ trivial (fun hHeld => ?_)
                clear hK0 K0
                refine wpAnyH_ready (rs := [3]) (by kernel_rfl) (by simp) ?_
                refine (AllReadyH.cons (o := { dst := some 68, op := Op.call { callee := Callee.value (Operand.func 31), args := #[Operand.tmp 67, Operand.const (Value.int IntKind.i64 5)], argTypes := #[48, 3] }, type := 3, pos := "l9_version.go:274", after := #[{ on := 2, ground := Ground.data }], guard := none }) rfl (fun K0 hK0 => ?_) AllReadyH.nil)
                clear hHeld
                go_simp
                refine (pick_any b bl _ 5 _ hcu hl (by omega) (by omega)).mono ?_
                rintro e k1 ⟨⟨z, rfl, hz⟩, hcu2, hch⟩
                replace Z := hch.box Z (by omega)
                replace oD := hch.owns oD (fun g hg q => by have := hgeD g hg; omega)
                replace oA := hch.owns oA (fun g hg q => by have := hgeA g hg; omega)
                replace hC := hC.trans (hch.mono fun j hj => .inl hj)
                have hcu := hcu2
                clear hch hcu2 hz hq hZl hzr
                have hZl := Z.1
                have hzr := hC.size
                refine hK0.out _ _ trivial (fun hHeld => ?_)
                clear hK0 K0
                refine wpAnyH_ready (rs := [4]) (by kernel_rfl) (by simp) ?_
                refine (AllReadyH.cons (o := { dst := some 69, op := Op.buildSlice 23 1 #[(0, Operand.tmp 68)], type := 23, pos := "l9_version.go:274", after := #[{ on := 3, ground := Ground.data }], guard := none }) rfl (fun K0 hK0 => ?_) AllReadyH.nil)
                clear hHeld
                have O1 := one_new k1 (z : Int)
                have hA := below_alloc k1 (.cells #[.int .i64 (z : Int)] 3)
                replace Z := Z.below hA
                replace oD := owns_below oD hA
                replace oA := owns_below oA hA
                replace hcu := hcu.chg hA
                replace hC := hC.trans (Chg.of_below hA)
                clear hA
                go_simp
                refine hK0.out _ _ trivial (fun hHeld => ?_)
                clear hK0 K0
                refine wpAnyH_ready (rs := [5]) (by kernel_rfl) (by simp) ?_
                refine AllReadyH.cons (o := { dst := some 70, op := Op.call { callee := Callee.builtin Builtin.append, args := #[Operand.tmp 66, Operand.tmp 69], argTypes := #[23, 23] }, type := 23, pos := "l9_version.go:274", after := #[{ on := 1, ground := Ground.data }, { on := 4, ground := Ground.data }, { on := 3, ground := Ground.chain }], guard := none }) rfl (fun K0 hK0 => ?_) AllReadyH.nil
                clear hHeld
                have hne := owns_type_ne oA oD (by decide)
                refine wp_append_own _ _ _ 23 rfl wc.heap.size 3 i0 (.int .i64 0) 1 8 Tryz.underlying23 hi hz0 hzs hzb rfl (by decide) _ D.length (D.map (Value.int .i64)) rfl oD ⟨k1.heap.size, 0, none⟩ 1 1 [.int .i64 (z : Int)] rfl rfl O1 (by intro u hu; simp at hu; subst hu; rfl) (by unfold maxLen; omega) (by omega) (by simp; omega) ?_
                intro v' k2 hown7 hgrow7 _
                have hG := grown_chgV hgrow7
                have hC7 := hC.trans (hG.mono fun j hj => .inr (.inr (hgeD j hj)))
                have Z7 := hG.box Z (fun e => by have := hgeD x e; omega)
                have oA7 := hG.owns oA (fun g hg hh => hne g hg hh)
                have hcu7 := cur_low hcu hbc (hG.below (B := wc.heap.size) (by simp; omega) (fun j hj => hgeD j hj))
                have hown8 := hown7
                rw [← flat_snoc] at hown8
                obtain ⟨v2a, v2c, rfl⟩ := owns_shape hown7
                clear hG hgrow7 Z oD oA hC hcu hown7 O1
                refine hK0.out _ _ trivial (fun hHeld => ?_)
                clear hK0 K0
                refine wpAnyH_take (i := 6) (oi := { dst := some 71, op := Op.fieldAddr 26 (Operand.tmp 5) 2, type := 0, pos := "l9_version.go:274", after := #[{ on := 0, ground := Ground.phase }, { on := 1, ground := Ground.phase }, { on := 2, ground := Ground.phase }, { on := 3, ground := Ground.phase }, { on := 4, ground := Ground.phase }, { on := 5, ground := Ground.phase }], guard := none }) (v := .pointer (some ⟨x, 2, none⟩)) rfl (by kernel_rfl) (by kernel_rfl) (by kernel_rfl) (fun _ _ _ h => h) (Or.inl ⟨by rfl, ?_⟩) (by assumption) ?_
                · intro wx hSw
                  clear hSw hHeld; go_simp
                simp only [Act.put, List.setIfInBounds_toArray, List.set_cons_zero, List.set_cons_succ]
                refine wpAnyH_ready (rs := [7]) (by kernel_rfl) (by simp) ?_
                refine AllReadyH.cons (o := { dst := none, op := Op.store 23 (Operand.tmp 71) (Operand.tmp 70), type := 0, pos := "l9_version.go:274", after := #[{ on := 6, ground := Ground.data }, { on := 5, ground := Ground.data }, { on := 5, ground := Ground.chain }, { on := 0, ground := Ground.phase }, { on := 1, ground := Ground.phase }, { on := 2, ground := Ground.phase }, { on := 3, ground := Ground.phase }, { on := 4, ground := Ground.phase }, { on := 5, ground := Ground.phase }], guard := none }) rfl (fun K0 hK0 => ?_) AllReadyH.nil
                clear hHeld
                obtain ⟨hzl, z0, z1, z2, z3, f0, f1, f2, f3⟩ := Z7.e4
                have hge7 := owns_ge hown8
                have hch : Chg (fun j => j = x) k2 (k2.setCell ⟨x, 2, none⟩ (.slice v2a (D.length + 1) v2c)) := Chg.setCell (S := fun j => j = x) (p := ⟨x, 2, none⟩) (Chg.refl _ _) rfl _
                have Z := Z7.set 2 (.slice v2a (D.length + 1) v2c) (by simp)
                simp only [List.set_cons_zero, List.set_cons_succ] at Z
                have oD := hch.owns hown8 (fun g hg q => by have := hge7 g hg; omega)
                have oA := hch.owns oA7 (fun g hg q => by have := hgeA g hg; omega)
                have hC := hC7.trans (hch.mono fun j hj => .inr (.inl hj))
                have hcu := cur_low hcu7 hbx (hch.below (B := x) (by omega) (fun j hj => by omega))
                clear hch
                go_simp
                refine hK0.out _ (k2.setCell ⟨x, 2, none⟩ (.slice v2a (D.length + 1) v2c)) trivial (fun hHeld => ?_)
                clear hK0 K0 hHeld hzl z0 z1 z2 z3 f0 f1 f2 f3 Z7 hC7 hcu7 oA7 hown8 hge7
                generalize k2.setCell ⟨x, 2, none⟩ (.slice v2a (D.length + 1) v2c) = w7 at *
                have hdn : (D ++ [(z : Int)]).length = D.length + 1 := by simp
                have HDN : Hid ((D ++ [(z : Int)]).length ≤ 50) := by show _ ≤ _; omega
                refine wpAnyH_done (by kernel_rfl) ?_ _
                have hR := hC.box R (by omega)
                obtain ⟨hzl, z0, z1, z2, z3, f0, f1, f2, f3⟩ := Z.e4
                obtain ⟨hrl, r0, r1, r2, r3, g0, g1, g2, g3⟩ := hR.e4
                have hch := put4_chg w7 (w.heap.size + 1) (.int .i64 X) (.int .i64 y) (.slice v2a (D.length + 1) v2c) (.slice ea A.length ec)
                have hgeD2 := owns_ge oD
                have hgeA2 := owns_ge oA
                have oD2 := hch.owns oD (fun g hg hh => by have := hgeD2 g hg; omega)
                have oA2 := hch.owns oA (fun g hg hh => by have := hgeA2 g hg; omega)
                have HE : Hid (ED _ w.heap.size (.slice v2a (D.length + 1) v2c) (.slice ea A.length ec) (D ++ [(z : Int)]) A) := ⟨by rw [hdn]; exact owns_mono' oD2 (by omega), owns_mono' oA2 (by omega), HDN.out, by omega, HSZ.out⟩
                have HC2 : Hid (Chg (· = b) w _) := chg_more (chg_more hB hC (fun j hj => by omega)) hch (fun j hj => .inr (by omega))
                have hcu2 := cur_low hcu hbw (hch.below (B := w.heap.size) (by have := hC.size; omega) (fun j hj => by omega))
                clear hch oD2 oA2 oD oA hcu hC Z hR
                go_wp2
                exact bodyPost_ret (v := .agg #[.int .i64 X, .int .i64 y, .slice v2a (D.length + 1) v2c, .slice ea A.length ec]) (by simp [results, Tryz.results19, go_sem, r0, r1, r2, r3]) rfl (EditPost.mk HE.out (hcu2.mono (by omega)) HC2.out)
              · clear hHeld
                go_simp
                refine (pick_any b bl _ 5 _ hcu hl (by omega) (by omega)).mono ?_
                rintro e k1 ⟨⟨z, rfl, hz⟩, hcu2, hch⟩
                replace Z := hch.box Z (by omega)
                replace oD := hch.owns oD (fun g hg q => by have := hgeD g hg; omega)
                replace oA := hch.owns oA (fun g hg q => by have := hgeA g hg; omega)
                replace hC := hC.trans (hch.mono fun j hj => .inl hj)
                have hcu := hcu2
                clear hch hcu2 hz hq hZl hzr
                have hZl := Z.1
                have hzr := hC.size
                refine hK0.out _ _ trivial (fun hHeld => ?_)
                clear hK0 K0
                refine wpAnyH_ready (rs := [1, 4]) (by kernel_rfl) (by simp) ?_
                refine (AllReadyH.cons (o := { dst := some 66, op := Op.load 23 (Operand.tmp 65), type := 23, pos := "l9_version.go:274", after := #[{ on := 0, ground := Ground.data }], guard := none }) rfl (fun K0 hK0 => ?_) (AllReadyH.cons (o := { dst := some 69, op := Op.buildSlice 23 1 #[(0, Operand.tmp 68)], type := 23, pos := "l9_version.go:274", after := #[{ on := 3, ground := Ground.data }], guard := none }) rfl (fun K0 hK0 => ?_) AllReadyH.nil))
                · clear hHeld
                  have ee := Z.2.1 2 _ rfl
                  go_simp
                  clear ee
                  refine hK0.out _ _ trivial (fun hHeld => ?_)
                  clear hK0 K0
                  refine wpAnyH_ready (rs := [4]) (by kernel_rfl) (by simp) ?_
                  refine (AllReadyH.cons (o := { dst := some 69, op := Op.buildSlice 23 1 #[(0, Operand.tmp 68)], type := 23, pos := "l9_version.go:274", after := #[{ on := 3, ground := Ground.data }], guard := none }) rfl (fun K0 hK0 => ?_) AllReadyH.nil)
                  clear hHeld
                  have O1 := one_new k1 (z : Int)
                  have hA := below_alloc k1 (.cells #[.int .i64 (z : Int)] 3)
                  replace Z := Z.below hA
                  replace oD := owns_below oD hA
                  replace oA := owns_below oA hA
                  replace hcu := hcu.chg hA
                  replace hC := hC.trans (Chg.of_below hA)
                  clear hA
                  go_simp
                  refine hK0.out _ _ trivial (fun hHeld => ?_)
                  clear hK0 K0
                  refine wpAnyH_ready (rs := [5]) (by kernel_rfl) (by simp) ?_
                  refine AllReadyH.cons (o := { dst := some 70, op := Op.call { callee := Callee.builtin Builtin.append, args := #[Operand.tmp 66, Operand.tmp 69], argTypes := #[23, 23] }, type := 23, pos := "l9_version.go:274", after := #[{ on := 1, ground := Ground.data }, { on := 4, ground := Ground.data }, { on := 3, ground := Ground.chain }], guard := none }) rfl (fun K0 hK0 => ?_) AllReadyH.nil
                  clear hHeld
                  have hne := owns_type_ne oA oD (by decide)
                  refine wp_append_own _ _ _ 23 rfl wc.heap.size 3 i0 (.int .i64 0) 1 8 Tryz.underlying23 hi hz0 hzs hzb rfl (by decide) _ D.length (D.map (Value.int .i64)) rfl oD ⟨k1.heap.size, 0, none⟩ 1 1 [.int .i64 (z : Int)] rfl rfl O1 (by intro u hu; simp at hu; subst hu; rfl) (by unfold maxLen; omega) (by omega) (by simp; omega) ?_
                  intro v' k2 hown7 hgrow7 _
                  have hG := grown_chgV hgrow7
                  have hC7 := hC.trans (hG.mono fun j hj => .inr (.inr (hgeD j hj)))
                  have Z7 := hG.box Z (fun e => by have := hgeD x e; omega)
                  have oA7 := hG.owns oA (fun g hg hh => hne g hg hh)
                  have hcu7 := cur_low hcu hbc (hG.below (B := wc.heap.size) (by simp; omega) (fun j hj => hgeD j hj))
                  have hown8 := hown7
                  rw [← flat_snoc] at hown8
                  obtain ⟨v2a, v2c, rfl⟩ := owns_shape hown7
                  clear hG hgrow7 Z oD oA hC hcu hown7 O1
                  refine hK0.out _ _ trivial (fun hHeld => ?_)
                  clear hK0 K0
                  refine wpAnyH_take (i := 6) (oi := { dst := some 71, op := Op.fieldAddr 26 (Operand.tmp 5) 2, type := 0, pos := "l9_version.go:274", after := #[{ on := 0, ground := Ground.phase }, { on := 1, ground := Ground.phase }, { on := 2, ground := Ground.phase }, { on := 3, ground := Ground.phase }, { on := 4, ground := Ground.phase }, { on := 5, ground := Ground.phase }], guard := none }) (v := .pointer (some ⟨x, 2, none⟩)) rfl (by kernel_rfl) (by kernel_rfl) (by kernel_rfl) (fun _ _ _ h => h) (Or.inl ⟨by rfl, ?_⟩) (by assumption) ?_
                  · intro wx hSw
                    clear hSw hHeld; go_simp
                  simp only [Act.put, List.setIfInBounds_toArray, List.set_cons_zero, List.set_cons_succ]
                  refine wpAnyH_ready (rs := [7]) (by kernel_rfl) (by simp) ?_
                  refine AllReadyH.cons (o := { dst := none, op := Op.store 23 (Operand.tmp 71) (Operand.tmp 70), type := 0, pos := "l9_version.go:274", after := #[{ on := 6, ground := Ground.data }, { on := 5, ground := Ground.data }, { on := 5, ground := Ground.chain }, { on := 0, ground := Ground.phase }, { on := 1, ground := Ground.phase }, { on := 2, ground := Ground.phase }, { on := 3, ground := Ground.phase }, { on := 4, ground := Ground.phase }, { on := 5, ground := Ground.phase }], guard := none }) rfl (fun K0 hK0 => ?_) AllReadyH.nil
                  clear hHeld
                  obtain ⟨hzl, z0, z1, z2, z3, f0, f1, f2, f3⟩ := Z7.e4
                  have hge7 := owns_ge hown8
                  have hch : Chg (fun j => j = x) k2 (k2.setCell ⟨x, 2, none⟩ (.slice v2a (D.length + 1) v2c)) := Chg.setCell (S := fun j => j = x) (p := ⟨x, 2, none⟩) (Chg.refl _ _) rfl _
                  have Z := Z7.set 2 (.slice v2a (D.length + 1) v2c) (by simp)
                  simp only [List.set_cons_zero, List.set_cons_succ] at Z
                  have oD := hch.owns hown8 (fun g hg q => by have := hge7 g hg; omega)
                  have oA := hch.owns oA7 (fun g hg q => by have := hgeA g hg; omega)
                  have hC := hC7.trans (hch.mono fun j hj => .inr (.inl hj))
                  have hcu := cur_low hcu7 hbx (hch.below (B := x) (by omega) (fun j hj => by omega))
                  clear hch
                  go_simp
                  refine hK0.out _ (k2.setCell ⟨x, 2, none⟩ (.slice v2a (D.length + 1) v2c)) trivial (fun hHeld => ?_)
                  clear hK0 K0 hHeld hzl z0 z1 z2 z3 f0 f1 f2 f3 Z7 hC7 hcu7 oA7 hown8 hge7
                  generalize k2.setCell ⟨x, 2, none⟩ (.slice v2a (D.length + 1) v2c) = w7 at *
                  have hdn : (D ++ [(z : Int)]).length = D.length + 1 := by simp
                  have HDN : Hid ((D ++ [(z : Int)]).length ≤ 50) := by show _ ≤ _; omega
                  refine wpAnyH_done (by kernel_rfl) ?_ _
                  have hR := hC.box R (by omega)
                  obtain ⟨hzl, z0, z1, z2, z3, f0, f1, f2, f3⟩ := Z.e4
                  obtain ⟨hrl, r0, r1, r2, r3, g0, g1, g2, g3⟩ := hR.e4
                  have hch := put4_chg w7 (w.heap.size + 1) (.int .i64 X) (.int .i64 y) (.slice v2a (D.length + 1) v2c) (.slice ea A.length ec)
                  have hgeD2 := owns_ge oD
                  have hgeA2 := owns_ge oA
                  have oD2 := hch.owns oD (fun g hg hh => by have := hgeD2 g hg; omega)
                  have oA2 := hch.owns oA (fun g hg hh => by have := hgeA2 g hg; omega)
                  have HE : Hid (ED _ w.heap.size (.slice v2a (D.length + 1) v2c) (.slice ea A.length ec) (D ++ [(z : Int)]) A) := ⟨by rw [hdn]; exact owns_mono' oD2 (by omega), owns_mono' oA2 (by omega), HDN.out, by omega, HSZ.out⟩
                  have HC2 : Hid (Chg (· = b) w _) := chg_more (chg_more hB hC (fun j hj => by omega)) hch (fun j hj => .inr (by omega))
                  have hcu2 := cur_low hcu hbw (hch.below (B := w.heap.size) (by have := hC.size; omega) (fun j hj => by omega))
                  clear hch oD2 oA2 oD oA hcu hC Z hR
                  go_wp2
                  exact bodyPost_ret (v := .agg #[.int .i64 X, .int .i64 y, .slice v2a (D.length + 1) v2c, .slice ea A.length ec]) (by simp [results, Tryz.results19, go_sem, r0, r1, r2, r3]) rfl (EditPost.mk HE.out (hcu2.mono (by omega)) HC2.out)
                · clear hHeld
                  have O1 := one_new k1 (z : Int)
                  have hA := below_alloc k1 (.cells #[.int .i64 (z : Int)] 3)
                  replace Z := Z.below hA
                  replace oD := owns_below oD hA
                  replace oA := owns_below oA hA
                  replace hcu := hcu.chg hA
                  replace hC := hC.trans (Chg.of_below hA)
                  clear hA
                  go_simp
                  refine hK0.out _ _ trivial (fun hHeld => ?_)
                  clear hK0 K0
                  refine wpAnyH_ready (rs := [1]) (by kernel_rfl) (by simp) ?_
                  refine (AllReadyH.cons (o := { dst := some 66, op := Op.load 23 (Operand.tmp 65), type := 23, pos := "l9_version.go:274", after := #[{ on := 0, ground := Ground.data }], guard := none }) rfl (fun K0 hK0 => ?_) AllReadyH.nil)
                  clear hHeld
                  have ee := Z.2.1 2 _ rfl
                  go_simp
                  clear ee
                  refine hK0.out _ _ trivial (fun hHeld => ?_)
                  clear hK0 K0
                  refine wpAnyH_ready (rs := [5]) (by kernel_rfl) (by simp) ?_
                  refine AllReadyH.cons (o := { dst := some 70, op := Op.call { callee := Callee.builtin Builtin.append, args := #[Operand.tmp 66, Operand.tmp 69], argTypes := #[23, 23] }, type := 23, pos := "l9_version.go:274", after := #[{ on := 1, ground := Ground.data }, { on := 4, ground := Ground.data }, { on := 3, ground := Ground.chain }], guard := none }) rfl (fun K0 hK0 => ?_) AllReadyH.nil
                  clear hHeld
                  have hne := owns_type_ne oA oD (by decide)
                  refine wp_append_own _ _ _ 23 rfl wc.heap.size 3 i0 (.int .i64 0) 1 8 Tryz.underlying23 hi hz0 hzs hzb rfl (by decide) _ D.length (D.map (Value.int .i64)) rfl oD ⟨k1.heap.size, 0, none⟩ 1 1 [.int .i64 (z : Int)] rfl rfl O1 (by intro u hu; simp at hu; subst hu; rfl) (by unfold maxLen; omega) (by omega) (by simp; omega) ?_
                  intro v' k2 hown7 hgrow7 _
                  have hG := grown_chgV hgrow7
                  have hC7 := hC.trans (hG.mono fun j hj => .inr (.inr (hgeD j hj)))
                  have Z7 := hG.box Z (fun e => by have := hgeD x e; omega)
                  have oA7 := hG.owns oA (fun g hg hh => hne g hg hh)
                  have hcu7 := cur_low hcu hbc (hG.below (B := wc.heap.size) (by simp; omega) (fun j hj => hgeD j hj))
                  have hown8 := hown7
                  rw [← flat_snoc] at hown8
                  obtain ⟨v2a, v2c, rfl⟩ := owns_shape hown7
                  clear hG hgrow7 Z oD oA hC hcu hown7 O1
                  refine hK0.out _ _ trivial (fun hHeld => ?_)
                  clear hK0 K0
                  refine wpAnyH_take (i := 6) (oi := { dst := some 71, op := Op.fieldAddr 26 (Operand.tmp 5) 2, type := 0, pos := "l9_version.go:274", after := #[{ on := 0, ground := Ground.phase }, { on := 1, ground := Ground.phase }, { on := 2, ground := Ground.phase }, { on := 3, ground := Ground.phase }, { on := 4, ground := Ground.phase }, { on := 5, ground := Ground.phase }], guard := none }) (v := .pointer (some ⟨x, 2, none⟩)) rfl (by kernel_rfl) (by kernel_rfl) (by kernel_rfl) (fun _ _ _ h => h) (Or.inl ⟨by rfl, ?_⟩) (by assumption) ?_
                  · intro wx hSw
                    clear hSw hHeld; go_simp
                  simp only [Act.put, List.setIfInBounds_toArray, List.set_cons_zero, List.set_cons_succ]
                  refine wpAnyH_ready (rs := [7]) (by kernel_rfl) (by simp) ?_
                  refine AllReadyH.cons (o := { dst := none, op := Op.store 23 (Operand.tmp 71) (Operand.tmp 70), type := 0, pos := "l9_version.go:274", after := #[{ on := 6, ground := Ground.data }, { on := 5, ground := Ground.data }, { on := 5, ground := Ground.chain }, { on := 0, ground := Ground.phase }, { on := 1, ground := Ground.phase }, { on := 2, ground := Ground.phase }, { on := 3, ground := Ground.phase }, { on := 4, ground := Ground.phase }, { on := 5, ground := Ground.phase }], guard := none }) rfl (fun K0 hK0 => ?_) AllReadyH.nil
                  clear hHeld
                  obtain ⟨hzl, z0, z1, z2, z3, f0, f1, f2, f3⟩ := Z7.e4
                  have hge7 := owns_ge hown8
                  have hch : Chg (fun j => j = x) k2 (k2.setCell ⟨x, 2, none⟩ (.slice v2a (D.length + 1) v2c)) := Chg.setCell (S := fun j => j = x) (p := ⟨x, 2, none⟩) (Chg.refl _ _) rfl _
                  have Z := Z7.set 2 (.slice v2a (D.length + 1) v2c) (by simp)
                  simp only [List.set_cons_zero, List.set_cons_succ] at Z
                  have oD := hch.owns hown8 (fun g hg q => by have := hge7 g hg; omega)
                  have oA := hch.owns oA7 (fun g hg q => by have := hgeA g hg; omega)
                  have hC := hC7.trans (hch.mono fun j hj => .inr (.inl hj))
                  have hcu := cur_low hcu7 hbx (hch.below (B := x) (by omega) (fun j hj => by omega))
                  clear hch
                  go_simp
                  refine hK0.out _ (k2.setCell ⟨x, 2, none⟩ (.slice v2a (D.length + 1) v2c)) trivial (fun hHeld => ?_)
                  clear hK0 K0 hHeld hzl z0 z1 z2 z3 f0 f1 f2 f3 Z7 hC7 hcu7 oA7 hown8 hge7
                  generalize k2.setCell ⟨x, 2, none⟩ (.slice v2a (D.length + 1) v2c) = w7 at *
                  have hdn : (D ++ [(z : Int)]).length = D.length + 1 := by simp
                  have HDN : Hid ((D ++ [(z : Int)]).length ≤ 50) := by show _ ≤ _; omega
                  refine wpAnyH_done (by kernel_rfl) ?_ _
                  have hR := hC.box R (by omega)
                  obtain ⟨hzl, z0, z1, z2, z3, f0, f1, f2, f3⟩ := Z.e4
                  obtain ⟨hrl, r0, r1, r2, r3, g0, g1, g2, g3⟩ := hR.e4
                  have hch := put4_chg w7 (w.heap.size + 1) (.int .i64 X) (.int .i64 y) (.slice v2a (D.length + 1) v2c) (.slice ea A.length ec)
                  have hgeD2 := owns_ge oD
                  have hgeA2 := owns_ge oA
                  have oD2 := hch.owns oD (fun g hg hh => by have := hgeD2 g hg; omega)
                  have oA2 := hch.owns oA (fun g hg hh => by have := hgeA2 g hg; omega)
                  have HE : Hid (ED _ w.heap.size (.slice v2a (D.length + 1) v2c) (.slice ea A.length ec) (D ++ [(z : Int)]) A) := ⟨by rw [hdn]; exact owns_mono' oD2 (by omega), owns_mono' oA2 (by omega), HDN.out, by omega, HSZ.out⟩
                  have HC2 : Hid (Chg (· = b) w _) := chg_more (chg_more hB hC (fun j hj => by omega)) hch (fun j hj => .inr (by omega))
                  have hcu2 := cur_low hcu hbw (hch.below (B := w.heap.size) (by have := hC.size; omega) (fun j hj => by omega))
                  clear hch oD2 oA2 oD oA hcu hC Z hR
                  go_wp2
                  exact bodyPost_ret (v := .agg #[.int .i64 X, .int .i64 y, .slice v2a (D.length + 1) v2c, .slice ea A.length ec]) (by simp [results, Tryz.results19, go_sem, r0, r1, r2, r3]) rfl (EditPost.mk HE.out (hcu2.mono (by omega)) HC2.out)
            · have gq0 : ¬ (q : Int) = 0 := by omega
              have gq0b : ((q : Int) == 0) = false := by simp; omega
              by_cases hq1 : q = 1
              · subst hq1
                have gq1 : ((1 : Int) == 1) = true := by simp
                have T4 := Box.new w5 #[.int .i64 0, .int .i64 1, .int .i64 100001, .int .i64 100002] 3
                have hA := below_alloc w5 (.cells #[.int .i64 0, .int .i64 1, .int .i64 100001, .int .i64 100002] 3)
                have hb5 := hcu.lt
                replace Z := Z.below hA
                replace oD := owns_below oD hA
                replace oA := owns_below oA hA
                replace hcu := hcu.chg hA
                replace hC := hC.trans (Chg.of_below hA)
                clear hA
                go_wp2_with fail
                refine (among_any b bl _ w5.heap.size [0, 1, 100001, 100002] _ hcu hl (by omega) T4 (by omega) (by decide) (by decide)).mono ?_
                rintro e w6 ⟨⟨z, rfl, hz⟩, hcu2, hch⟩
                replace Z := hch.box Z (by omega)
                replace oD := hch.owns oD (fun g hg q => by have := hgeD g hg; omega)
                replace oA := hch.owns oA (fun g hg q => by have := hgeA g hg; omega)
                replace hC := hC.trans (hch.mono fun j hj => .inl hj)
                have hcu := hcu2
                clear hch hcu2 hz T4 hb5
                obtain ⟨hzl, z0, z1, z2, z3, f0, f1, f2, f3⟩ := Z.e4
                have hch : Chg (fun j => j = x) w6 (w6.setCell ⟨x, 0, none⟩ (.int .i64 z)) := Chg.setCell (S := fun j => j = x) (p := ⟨x, 0, none⟩) (Chg.refl _ _) rfl _
                have Z2 := Z.set 0 (.int .i64 z) (by simp)
                simp only [List.set_cons_zero] at Z2
                have oD2 := hch.owns oD (fun g hg q => by have := hgeD g hg; omega)
                have oA2 := hch.owns oA (fun g hg q => by have := hgeA g hg; omega)
                have hC2 := hC.trans (hch.mono fun j hj => .inr (.inl hj))
                have hcu2 := cur_low hcu hbx (hch.below (B := x) (by omega) (fun j hj => by omega))
                clear hch Z oD oA hC hcu
                go_upto_region 20 with fail
                clear hzl z0 z1 z2 z3 f0 f1 f2 f3
                generalize w6.setCell ⟨x, 0, none⟩ (.int .i64 z) = w7 at *
                have Z := Z2
                have oD := oD2
                have oA := oA2
                have hC := hC2
                have hcu := hcu2
                clear Z2 oD2 oA2 hC2 hcu2
                have hR := hC.box R (by omega)
                obtain ⟨hzl, z0, z1, z2, z3, f0, f1, f2, f3⟩ := Z.e4
                obtain ⟨hrl, r0, r1, r2, r3, g0, g1, g2, g3⟩ := hR.e4
                have hch := put4_chg w7 (w.heap.size + 1) (.int .i64 z) (.int .i64 y) (.slice ua D.length uc) (.slice ea A.length ec)
                have hgeD2 := owns_ge oD
                have hgeA2 := owns_ge oA
                have oD2 := hch.owns oD (fun g hg hh => by have := hgeD2 g hg; omega)
                have oA2 := hch.owns oA (fun g hg hh => by have := hgeA2 g hg; omega)
                have HE : Hid (ED _ w.heap.size (.slice ua D.length uc) (.slice ea A.length ec) D A) := ⟨owns_mono' oD2 (by omega), owns_mono' oA2 (by omega), by omega, by omega, HSZ.out⟩
                have HC2 : Hid (Chg (· = b) w _) := chg_more (chg_more hB hC (fun j hj => by omega)) hch (fun j hj => .inr (by omega))
                have hcu2 := cur_low hcu hbw (hch.below (B := w.heap.size) (by have := hC.size; omega) (fun j hj => by omega))
                clear hch oD2 oA2 oD oA hcu hC Z hR
                go_wp2
                exact bodyPost_ret (v := .agg #[.int .i64 z, .int .i64 y, .slice ua D.length uc, .slice ea A.length ec]) (by simp [results, Tryz.results19, go_sem, r0, r1, r2, r3]) rfl (EditPost.mk HE.out (hcu2.mono (by omega)) HC2.out)
              · have gq1 : ¬ (q : Int) = 1 := by omega
                have gq1b : ((q : Int) == 1) = false := by simp; omega
                have hR := hC.box R (by omega)
                obtain ⟨hzl, z0, z1, z2, z3, f0, f1, f2, f3⟩ := Z.e4
                obtain ⟨hrl, r0, r1, r2, r3, g0, g1, g2, g3⟩ := hR.e4
                have hch := put4_chg w5 (w.heap.size + 1) (.int .i64 X) (.int .i64 y) (.slice ua D.length uc) (.slice ea A.length ec)
                have hgeD2 := owns_ge oD
                have hgeA2 := owns_ge oA
                have oD2 := hch.owns oD (fun g hg hh => by have := hgeD2 g hg; omega)
                have oA2 := hch.owns oA (fun g hg hh => by have := hgeA2 g hg; omega)
                have HE : Hid (ED _ w.heap.size (.slice ua D.length uc) (.slice ea A.length ec) D A) := ⟨owns_mono' oD2 (by omega), owns_mono' oA2 (by omega), by omega, by omega, HSZ.out⟩
                have HC2 : Hid (Chg (· = b) w _) := chg_more (chg_more hB hC (fun j hj => by omega)) hch (fun j hj => .inr (by omega))
                have hcu2 := cur_low hcu hbw (hch.below (B := w.heap.size) (by have := hC.size; omega) (fun j hj => by omega))
                clear hch oD2 oA2 oD oA hcu hC Z hR
                go_wp2
                exact bodyPost_ret (v := .agg #[.int .i64 X, .int .i64 y, .slice ua D.length uc, .slice ea A.length ec]) (by simp [results, Tryz.results19, go_sem, r0, r1, r2, r3]) rfl (EditPost.mk HE.out (hcu2.mono (by omega)) HC2.out)
end Go.Proofs.YtenbdjlhcadhaaaGreat
