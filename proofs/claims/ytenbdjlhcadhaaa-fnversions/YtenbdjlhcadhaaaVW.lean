/-
  Two drawn versions: DrawEditBetween; a drawn version, a level and two keys: DrawOverlapsIn.
-/
import Derived.Test.YtenbdjlhcadhaaaVV
import Derived.Test.YtenbdjlhcadhaaaD2ToD3
namespace Go.Proofs.Ytenbdjlhcadhaaa
open Go.RowKit
set_option linter.unusedVariables false
set_option maxRecDepth 100000

theorem below_chg {S : Nat → Prop} {w w1 w2 : World} (h : Below w.heap.size w w1) (k : Chg S w1 w2) (hs : ∀ j, S j → w.heap.size ≤ j) : Below w.heap.size w w2 := h.trans (k.below h.size hs)
def DEBPost (w : World) (e : Ending) (w' : World) : Prop := ∃ (x y : Int) (u : Value) (L : List Mt) (x' y' : Int) (u' : Value) (L' : List Mt), e = .returned (.tuple #[.agg #[.int .i64 x, .int .i64 y, u], .agg #[.int .i64 x', .int .i64 y', u']]) ∧ VD w' w.heap.size x y u L ∧ VD w' w.heap.size x' y' u' L' ∧ Below w.heap.size w w'
theorem DEBPost.mk {w w' : World} {x y : Int} {u : Value} {L : List Mt} {x' y' : Int} {u' : Value} {L' : List Mt} (h : VD w' w.heap.size x y u L) (k : VD w' w.heap.size x' y' u' L') (hb : Below w.heap.size w w') : DEBPost w (.returned (.tuple #[.agg #[.int .i64 x, .int .i64 y, u], .agg #[.int .i64 x', .int .i64 y', u']])) w' := ⟨x, y, u, L, x', y', u', L', rfl, h, k, hb⟩
set_option maxHeartbeats 16000000 in
theorem drawEB_any (v0 : Value) (bl : List UInt8) (w : World) (hv : YL w v0 bl) (hl : bl.length ≤ maxLen) : Calls Try.prog 13 #[v0] w (DEBPost w) := by
  unfold maxLen at hl
  have B2 := below2 w (.cells #[.int .i64 0, .int .i64 0, .slice none 0 0] 25) (.cells #[.int .i64 0, .int .i64 0, .slice none 0 0] 25)
  have hv2 := hv.below B2
  have R := ((Box.new w #[.int .i64 0, .int .i64 0, .slice none 0 0] 25).alloc (.cells #[.int .i64 0, .int .i64 0, .slice none 0 0] 25)).alloc (.cells #[v0, .int .i64 0, .int .u64 0] 74)
  have Q := (Box.new (w.alloc (.cells #[.int .i64 0, .int .i64 0, .slice none 0 0] 25)) #[.int .i64 0, .int .i64 0, .slice none 0 0] 25).alloc (.cells #[v0, .int .i64 0, .int .u64 0] 74)
  have hB := below3 w (.cells #[.int .i64 0, .int .i64 0, .slice none 0 0] 25) (.cells #[.int .i64 0, .int .i64 0, .slice none 0 0] 25) (.cells #[v0, .int .i64 0, .int .u64 0] 74)
  have hcu := cur_new hv2
  simp only [World.size_alloc] at Q hcu
  obtain ⟨aa, cc, rfl, _⟩ := hv
  clear hv2 B2
  replace hl : bl.length ≤ 9223372036854775807 := by omega
  go_enter Try.func13, Try.ntmps13
  go_wp2_with fail
  refine (version_any (w.heap.size + 1 + 1) bl 0 _ hcu hl (by omega)).mono ?_
  rintro e w1 ⟨⟨nx, sq, u, l, rfl, vd⟩, hcu2, hch⟩
  have ov := vd.o
  have h30 := vd.len
  have HL0 : Hid (∀ i (h : i < l.length), l[i].k.size ≤ 16 ∧ l[i].v.size ≤ 16) := vd.sz
  have HLS : Hid (∀ i (h : i < l.length), l[i].k.size ≤ 1048576 ∧ l[i].v.size ≤ 1048576) := fun i h => by have := vd.sz i h; omega
  have hx1 := vd.x0
  have hx2 := vd.x1
  have hs1 := vd.y0
  have hs2 := vd.y1
  simp only [World.size_alloc] at ov
  clear vd
  replace R := hch.box R (by omega)
  replace Q := hch.box Q (by omega)
  replace hB := below_chg hB hch (fun k hk => by omega)
  have hcu := hcu2
  clear hch hcu2
  obtain ⟨va, vc, rfl⟩ := owns_shape ov
  have X := Box.new w1 #[.int .i64 nx, .int .i64 sq, .slice va l.length vc] 25
  have ltov := owns_below_lt ov
  have hA := below_alloc w1 (.cells #[.int .i64 nx, .int .i64 sq, .slice va l.length vc] 25)
  have hbl := hcu.lt
  replace R := R.below hA
  replace Q := Q.below hA
  replace ov := owns_below ov hA
  replace hcu := hcu.chg hA
  replace hB := below_then hB hA
  clear hA
  obtain ⟨w2, hw2⟩ : ∃ w2, w2 = w1.alloc (.cells #[.int .i64 nx, .int .i64 sq, .slice va l.length vc] 25) := ⟨_, rfl⟩
  rw [← hw2] at R Q hcu hB X ov
  go_upto_region 3 with fail
  rw [← hw2]
  clear hw2
  generalize w1.heap.size = x0 at *
  go_cut [6, 7] from 8 (fun s6 s7 wc => ∃ (y : Nat) (ok : Bool) (zx zy : Int) (za : Option Addr) (zc : Nat) (Lz : List Mt), s6 = .pointer (some ⟨y, 0, none⟩) ∧ s7 = .bool ok ∧ x0 < y ∧ Box wc x0 [.int .i64 nx, .int .i64 sq, .slice va l.length vc] ∧ Box wc w.heap.size [.int .i64 0, .int .i64 0, .slice none 0 0] ∧ Box wc (w.heap.size + 1) [.int .i64 0, .int .i64 0, .slice none 0 0] ∧ Box wc y [.int .i64 zx, .int .i64 zy, .slice za Lz.length zc] ∧ wc.ownsRow (w.heap.size + 1 + 1 + 1) 82 4 (.slice va l.length vc) l.length (flat4 l) ∧ wc.ownsRow (w.heap.size + 1 + 1 + 1) 82 4 (.slice za Lz.length zc) Lz.length (flat4 Lz) ∧ (ok = true → goodV zx zy Lz = true) ∧ Cur wc (w.heap.size + 1 + 1) bl (0 + 2000 + 200) ∧ Below w.heap.size w wc)
  case first =>
    have hD : Below w2.heap.size w2 w2.drew := (Below.refl _ _).drew
    replace X := X.below hD
    replace R := R.below hD
    replace Q := Q.below hD
    replace ov := owns_below ov hD
    replace hcu := hcu.chg hD
    replace hB := below_then hB hD
    clear hD
    refine wp_region_held_drew (S := fun w' => Box w' x0 [.int .i64 nx, .int .i64 sq, .slice va l.length vc]) (by kernel_rfl) X (fun hHeld => ?_)
    generalize w2.drew = k0 at *
    refine wpAnyH_take (i := 0) (oi := { dst := some 14, op := Op.load 25 (Operand.tmp 5), type := 25, pos := "l9_version.go:323", after := #[], guard := none }) (v := .agg #[.int .i64 nx, .int .i64 sq, .slice va l.length vc]) rfl (by kernel_rfl) (by kernel_rfl) (by kernel_rfl) (fun _ _ _ h => h) (Or.inl ⟨by rfl, ?_⟩) (by assumption) ?_
    · intro wx hSw
      have e0 := hSw.2.1 0 _ rfl; have e1 := hSw.2.1 1 _ rfl; have e2 := hSw.2.1 2 _ rfl; clear hHeld; go_simp
    simp only [Act.put, List.setIfInBounds_toArray, List.set_cons_zero, List.set_cons_succ]
    refine wpAnyH_take (i := 1) (oi := { dst := some 15, op := Op.move (Operand.tmp 4), type := 71, pos := "l9_version.go:323", after := #[], guard := none }) (v := .pointer (some ⟨w.heap.size + 1 + 1, 0, none⟩)) rfl (by kernel_rfl) (by kernel_rfl) (by kernel_rfl) (fun _ _ _ h => h) (Or.inl ⟨by rfl, ?_⟩) (by assumption) ?_
    · intro wx hSw
      clear hSw hHeld; go_simp
    simp only [Act.put, List.setIfInBounds_toArray, List.set_cons_zero, List.set_cons_succ]
    refine wpAnyH_take (i := 2) (oi := { dst := some 16, op := Op.load 25 (Operand.tmp 5), type := 25, pos := "l9_version.go:323", after := #[], guard := none }) (v := .agg #[.int .i64 nx, .int .i64 sq, .slice va l.length vc]) rfl (by kernel_rfl) (by kernel_rfl) (by kernel_rfl) (fun _ _ _ h => h) (Or.inl ⟨by rfl, ?_⟩) (by assumption) ?_
    · intro wx hSw
      have e0 := hSw.2.1 0 _ rfl; have e1 := hSw.2.1 1 _ rfl; have e2 := hSw.2.1 2 _ rfl; clear hHeld; go_simp
    simp only [Act.put, List.setIfInBounds_toArray, List.set_cons_zero, List.set_cons_succ]
    refine wpAnyH_ready (rs := [3, 8]) (by kernel_rfl) (by simp) ?_
    refine (AllReadyH.cons (o := { dst := some 17, op := Op.call { callee := Callee.value (Operand.func 49), args := #[Operand.tmp 15, Operand.tmp 16], argTypes := #[71, 25] }, type := 30, pos := "l9_version.go:323", after := #[{ on := 1, ground := Ground.data }, { on := 2, ground := Ground.data }], guard := none }) rfl (fun K0 hK0 => ?_) (AllReadyH.cons (o := { dst := some 6, op := Op.alloc 25, type := 0, pos := "l9_version.go:323", after := #[], guard := none }) rfl (fun K0 hK0 => ?_) AllReadyH.nil))
    · clear hHeld
      go_simp
      refine (edit_any (w.heap.size + 1 + 1) bl _ nx sq (.slice va l.length vc) (w.heap.size + 1 + 1 + 1) l _ hcu hl (by omega) ov (by omega) (by omega) (by omega) (by omega) (by omega) (by omega)).mono ?_
      rintro e k1 ⟨⟨ex, ey, u1, u2, D, A, rfl, he⟩, hcu2, hch⟩
      have hkX := X.1
      replace X := hch.box X (by omega)
      replace R := hch.box R (by omega)
      replace Q := hch.box Q (by omega)
      replace ov := hch.owns ov (fun g hg q => by have := owns_ge ov g hg; omega)
      replace hB := below_chg hB hch (fun k hk => by omega)
      have hcu := hcu2
      clear hch hcu2
      have oD := he.oD
      have oA := he.oA
      have hdl := he.dl
      have hal := he.al
      have HES : Hid (∀ i (h : i < A.length), A[i].k.size ≤ 1048576 ∧ A[i].v.size ≤ 1048576) := fun i h => by have := he.sz i h; omega
      obtain ⟨u1a, u1c, rfl⟩ := owns_shape oD
      obtain ⟨u2a, u2c, rfl⟩ := owns_shape oA
      clear he
      refine hK0.out _ _ X (fun hHeld => ?_)
      clear hK0 K0
      refine wpAnyH_ready (rs := [4, 8]) (by kernel_rfl) (by simp) ?_
      refine (AllReadyH.cons (o := { dst := some 18, op := Op.call { callee := Callee.value (Operand.func 17), args := #[Operand.tmp 14, Operand.tmp 17], argTypes := #[25, 30] }, type := 33, pos := "l9_version.go:323", after := #[{ on := 0, ground := Ground.data }, { on := 3, ground := Ground.data }, { on := 3, ground := Ground.chain }], guard := none }) rfl (fun K0 hK0 => ?_) (AllReadyH.cons (o := { dst := some 6, op := Op.alloc 25, type := 0, pos := "l9_version.go:323", after := #[], guard := none }) rfl (fun K0 hK0 => ?_) AllReadyH.nil))
      · clear hHeld
        go_simp
        refine (specApply_any nx sq ex ey (.slice va l.length vc) (.slice u1a D.length u1c) (.slice u2a A.length u2c) l D A _ (IX_of_owns ov rfl) (IL_of_owns oD rfl) (IR_of_owns oA rfl) (by omega) (by omega) (by omega) HLS.out HES.out).mono ?_
        rintro e k2 ⟨u, rfl, on, hb2⟩
        have hkX := X.1
        have hkc := hB.size
        clear oD oA
        replace ov := owns_below ov hb2
        replace X := X.below hb2
        replace R := R.below hb2
        replace Q := Q.below hb2
        replace hcu := hcu.chg hb2
        replace hB := below_then hB hb2
        have HG : Hid (apB nx sq l ex ey D A = true → goodV (apX nx sq l ex ey D A) (apY nx sq l ex ey D A) (apA nx sq l ex ey D A) = true) := ap_good
        clear hb2
        generalize apB nx sq l ex ey D A = ok at *
        generalize apX nx sq l ex ey D A = zx at *
        generalize apY nx sq l ex ey D A = zy at *
        generalize apA nx sq l ex ey D A = Lz at *
        obtain ⟨za, zc, rfl⟩ := owns_shape on
        have lton := owns_ge on
        replace on := owns_mono' on (show (w.heap.size + 1 + 1 + 1) ≤ k1.heap.size from by omega)
        clear lton
        refine hK0.out _ _ X (fun hHeld => ?_)
        clear hK0 K0
        refine wpAnyH_take (i := 5) (oi := { dst := some 13, op := Op.move (Operand.tmp 18), type := 33, pos := "l9_version.go:323", after := #[{ on := 4, ground := Ground.data }], guard := none }) (v := .tuple #[.agg #[.int .i64 zx, .int .i64 zy, .slice za Lz.length zc], .bool ok]) rfl (by kernel_rfl) (by kernel_rfl) (by kernel_rfl) (fun _ _ _ h => h) (Or.inl ⟨by rfl, ?_⟩) (by assumption) ?_
        · intro wx hSw
          clear hSw hHeld; go_simp
        simp only [Act.put, List.setIfInBounds_toArray, List.set_cons_zero, List.set_cons_succ]
        refine wpAnyH_take (i := 6) (oi := { dst := some 19, op := Op.extract (Operand.tmp 13) 0, type := 25, pos := "l9_version.go:323", after := #[{ on := 5, ground := Ground.data }], guard := none }) (v := .agg #[.int .i64 zx, .int .i64 zy, .slice za Lz.length zc]) rfl (by kernel_rfl) (by kernel_rfl) (by kernel_rfl) (fun _ _ _ h => h) (Or.inl ⟨by rfl, ?_⟩) (by assumption) ?_
        · intro wx hSw
          clear hSw hHeld; go_simp
        simp only [Act.put, List.setIfInBounds_toArray, List.set_cons_zero, List.set_cons_succ]
        refine wpAnyH_take (i := 7) (oi := { dst := some 20, op := Op.extract (Operand.tmp 13) 1, type := 4, pos := "l9_version.go:323", after := #[{ on := 5, ground := Ground.data }, { on := 9, ground := Ground.gcOnly Departure.lateStores }], guard := none }) (v := .bool ok) rfl (by kernel_rfl) (by kernel_rfl) (by kernel_rfl) (fun _ _ _ h => h) (Or.inl ⟨by rfl, ?_⟩) (by assumption) ?_
        · intro wx hSw
          clear hSw hHeld; go_simp
        simp only [Act.put, List.setIfInBounds_toArray, List.set_cons_zero, List.set_cons_succ]
        refine wpAnyH_ready (rs := [8]) (by kernel_rfl) (by simp) ?_
        refine AllReadyH.cons (o := { dst := some 6, op := Op.alloc 25, type := 0, pos := "l9_version.go:323", after := #[], guard := none }) rfl (fun K0 hK0 => ?_) AllReadyH.nil
        clear hHeld
        have Z := Box.new k2 #[.int .i64 0, .int .i64 0, .slice none 0 0] 25
        have hkX := X.1
        have hkb := hcu.lt
        have ltov := owns_below_lt ov
        have lton := owns_below_lt on
        have hA := below_alloc k2 (.cells #[.int .i64 0, .int .i64 0, .slice none 0 0] 25)
        replace X := X.below hA
        replace R := R.below hA
        replace Q := Q.below hA
        replace ov := owns_below ov hA
        replace on := owns_below on hA
        replace hcu := hcu.chg hA
        replace hB := below_then hB hA
        clear hA
        go_simp
        refine hK0.out _ _ X (fun hHeld => ?_)
        clear hK0 K0
        generalize k2.alloc (.cells #[.int .i64 0, .int .i64 0, .slice none 0 0] 25) = k3 at *
        generalize k2.heap.size = y at *
        have hyl := Z.1
        have ney : ∀ g, (Value.slice za Lz.length zc).ownBlock = some g → ¬ g = y := fun g hg q => by have := lton g hg; omega
        refine wpAnyH_ready (rs := [9]) (by kernel_rfl) (by simp) ?_
        refine AllReadyH.cons (o := { dst := none, op := Op.store 25 (Operand.tmp 6) (Operand.tmp 19), type := 0, pos := "l9_version.go:323", after := #[{ on := 8, ground := Ground.data }, { on := 6, ground := Ground.data }, { on := 4, ground := Ground.chain }, { on := 0, ground := Ground.phase }, { on := 1, ground := Ground.phase }, { on := 2, ground := Ground.phase }, { on := 3, ground := Ground.phase }, { on := 4, ground := Ground.phase }, { on := 5, ground := Ground.phase }, { on := 6, ground := Ground.phase }, { on := 7, ground := Ground.textOnly Departure.lateStores }, { on := 8, ground := Ground.phase }], guard := none }) rfl (fun K0 hK0 => ?_) AllReadyH.nil
        clear hHeld
        obtain ⟨hzl, z0, z1, z2, f0, f1, f2⟩ := Z.c3
        have Z2 := put3_box Z (.int .i64 zx) (.int .i64 zy) (.slice za Lz.length zc)
        have hch := put3_chg k3 y (.int .i64 zx) (.int .i64 zy) (.slice za Lz.length zc)
        have X2 := hch.box X (by omega)
        have R2 := hch.box R (by omega)
        have Q2 := hch.box Q (by omega)
        have ov2 := hch.owns ov (fun g hg q => by have := ltov g hg; omega)
        have on2 := hch.owns on (fun g hg q => ney g hg q)
        have BP := hch.below (B := w.heap.size + 1 + 1 + 1) (by omega) (fun k hk => by omega)
        have hcu2 := cur_low hcu (by omega) BP
        have hB2 := below_chg hB hch (fun k hk => by omega)
        clear hch BP X R Q Z hcu hB ov on
        go_simp
        refine hK0.out _ (put3 k3 y (.int .i64 zx) (.int .i64 zy) (.slice za Lz.length zc)) X2 (fun hHeld => ?_)
        clear hK0 K0 hzl z0 z1 z2 f0 f1 f2
        generalize put3 k3 y (.int .i64 zx) (.int .i64 zy) (.slice za Lz.length zc) = kz at *
        refine wpAnyH_take (i := 10) (oi := { dst := some 7, op := Op.assign (Operand.tmp 20), type := 4, pos := "l9_version.go:323", after := #[{ on := 7, ground := Ground.data }, { on := 9, ground := Ground.chain }, { on := 0, ground := Ground.phase }, { on := 1, ground := Ground.phase }, { on := 2, ground := Ground.phase }, { on := 3, ground := Ground.phase }, { on := 4, ground := Ground.phase }, { on := 5, ground := Ground.phase }, { on := 6, ground := Ground.phase }, { on := 7, ground := Ground.phase }, { on := 8, ground := Ground.phase }, { on := 9, ground := Ground.phase }], guard := none }) (v := .bool ok) rfl (by kernel_rfl) (by kernel_rfl) (by kernel_rfl) (fun _ _ _ h => h) (Or.inl ⟨by rfl, ?_⟩) (by assumption) ?_
        · intro wx hSw
          clear hSw hHeld; go_simp
        simp only [Act.put, List.setIfInBounds_toArray, List.set_cons_zero, List.set_cons_succ]
        clear hHeld
        refine wpAnyH_done (by kernel_rfl) ?_ _
        go_wp2_with fail
        go_meet
        exact ⟨y, ok, zx, zy, za, zc, Lz, rfl, rfl, by omega, X2, R2, Q2, Z2, ov2, on2, HG.out, hcu2, hB2⟩
      · clear hHeld
        have Z := Box.new k1 #[.int .i64 0, .int .i64 0, .slice none 0 0] 25
        have hkX := X.1
        have hkb := hcu.lt
        have ltov := owns_below_lt ov
        have ltoD := owns_below_lt oD
        have ltoA := owns_below_lt oA
        have hA := below_alloc k1 (.cells #[.int .i64 0, .int .i64 0, .slice none 0 0] 25)
        replace X := X.below hA
        replace R := R.below hA
        replace Q := Q.below hA
        replace ov := owns_below ov hA
        replace oD := owns_below oD hA
        replace oA := owns_below oA hA
        replace hcu := hcu.chg hA
        replace hB := below_then hB hA
        clear hA
        go_simp
        refine hK0.out _ _ X (fun hHeld => ?_)
        clear hK0 K0
        generalize k1.alloc (.cells #[.int .i64 0, .int .i64 0, .slice none 0 0] 25) = k2 at *
        generalize k1.heap.size = y at *
        have hyl := Z.1
        refine wpAnyH_ready (rs := [4]) (by kernel_rfl) (by simp) ?_
        refine (AllReadyH.cons (o := { dst := some 18, op := Op.call { callee := Callee.value (Operand.func 17), args := #[Operand.tmp 14, Operand.tmp 17], argTypes := #[25, 30] }, type := 33, pos := "l9_version.go:323", after := #[{ on := 0, ground := Ground.data }, { on := 3, ground := Ground.data }, { on := 3, ground := Ground.chain }], guard := none }) rfl (fun K0 hK0 => ?_) AllReadyH.nil)
        clear hHeld
        go_simp
        refine (specApply_any nx sq ex ey (.slice va l.length vc) (.slice u1a D.length u1c) (.slice u2a A.length u2c) l D A _ (IX_of_owns ov rfl) (IL_of_owns oD rfl) (IR_of_owns oA rfl) (by omega) (by omega) (by omega) HLS.out HES.out).mono ?_
        rintro e k3 ⟨u, rfl, on, hb2⟩
        have hkX := X.1
        have hkc := hB.size
        have hyl2 := Z.1
        clear oD oA
        replace ov := owns_below ov hb2
        replace X := X.below hb2
        replace R := R.below hb2
        replace Q := Q.below hb2
        replace Z := Z.below hb2
        replace hcu := hcu.chg hb2
        replace hB := below_then hB hb2
        have HG : Hid (apB nx sq l ex ey D A = true → goodV (apX nx sq l ex ey D A) (apY nx sq l ex ey D A) (apA nx sq l ex ey D A) = true) := ap_good
        clear hb2
        generalize apB nx sq l ex ey D A = ok at *
        generalize apX nx sq l ex ey D A = zx at *
        generalize apY nx sq l ex ey D A = zy at *
        generalize apA nx sq l ex ey D A = Lz at *
        obtain ⟨za, zc, rfl⟩ := owns_shape on
        have lton := owns_ge on
        replace on := owns_mono' on (show (w.heap.size + 1 + 1 + 1) ≤ k2.heap.size from by omega)
        have ney : ∀ g, (Value.slice za Lz.length zc).ownBlock = some g → ¬ g = y := fun g hg q => by have := lton g hg; omega
        clear lton
        refine hK0.out _ _ X (fun hHeld => ?_)
        clear hK0 K0
        refine wpAnyH_take (i := 5) (oi := { dst := some 13, op := Op.move (Operand.tmp 18), type := 33, pos := "l9_version.go:323", after := #[{ on := 4, ground := Ground.data }], guard := none }) (v := .tuple #[.agg #[.int .i64 zx, .int .i64 zy, .slice za Lz.length zc], .bool ok]) rfl (by kernel_rfl) (by kernel_rfl) (by kernel_rfl) (fun _ _ _ h => h) (Or.inl ⟨by rfl, ?_⟩) (by assumption) ?_
        · intro wx hSw
          clear hSw hHeld; go_simp
        simp only [Act.put, List.setIfInBounds_toArray, List.set_cons_zero, List.set_cons_succ]
        refine wpAnyH_take (i := 6) (oi := { dst := some 19, op := Op.extract (Operand.tmp 13) 0, type := 25, pos := "l9_version.go:323", after := #[{ on := 5, ground := Ground.data }], guard := none }) (v := .agg #[.int .i64 zx, .int .i64 zy, .slice za Lz.length zc]) rfl (by kernel_rfl) (by kernel_rfl) (by kernel_rfl) (fun _ _ _ h => h) (Or.inl ⟨by rfl, ?_⟩) (by assumption) ?_
        · intro wx hSw
          clear hSw hHeld; go_simp
        simp only [Act.put, List.setIfInBounds_toArray, List.set_cons_zero, List.set_cons_succ]
        refine wpAnyH_take (i := 7) (oi := { dst := some 20, op := Op.extract (Operand.tmp 13) 1, type := 4, pos := "l9_version.go:323", after := #[{ on := 5, ground := Ground.data }, { on := 9, ground := Ground.gcOnly Departure.lateStores }], guard := none }) (v := .bool ok) rfl (by kernel_rfl) (by kernel_rfl) (by kernel_rfl) (fun _ _ _ h => h) (Or.inl ⟨by rfl, ?_⟩) (by assumption) ?_
        · intro wx hSw
          clear hSw hHeld; go_simp
        simp only [Act.put, List.setIfInBounds_toArray, List.set_cons_zero, List.set_cons_succ]
        refine wpAnyH_ready (rs := [9]) (by kernel_rfl) (by simp) ?_
        refine AllReadyH.cons (o := { dst := none, op := Op.store 25 (Operand.tmp 6) (Operand.tmp 19), type := 0, pos := "l9_version.go:323", after := #[{ on := 8, ground := Ground.data }, { on := 6, ground := Ground.data }, { on := 4, ground := Ground.chain }, { on := 0, ground := Ground.phase }, { on := 1, ground := Ground.phase }, { on := 2, ground := Ground.phase }, { on := 3, ground := Ground.phase }, { on := 4, ground := Ground.phase }, { on := 5, ground := Ground.phase }, { on := 6, ground := Ground.phase }, { on := 7, ground := Ground.textOnly Departure.lateStores }, { on := 8, ground := Ground.phase }], guard := none }) rfl (fun K0 hK0 => ?_) AllReadyH.nil
        clear hHeld
        obtain ⟨hzl, z0, z1, z2, f0, f1, f2⟩ := Z.c3
        have Z2 := put3_box Z (.int .i64 zx) (.int .i64 zy) (.slice za Lz.length zc)
        have hch := put3_chg k3 y (.int .i64 zx) (.int .i64 zy) (.slice za Lz.length zc)
        have X2 := hch.box X (by omega)
        have R2 := hch.box R (by omega)
        have Q2 := hch.box Q (by omega)
        have ov2 := hch.owns ov (fun g hg q => by have := ltov g hg; omega)
        have on2 := hch.owns on (fun g hg q => ney g hg q)
        have BP := hch.below (B := w.heap.size + 1 + 1 + 1) (by omega) (fun k hk => by omega)
        have hcu2 := cur_low hcu (by omega) BP
        have hB2 := below_chg hB hch (fun k hk => by omega)
        clear hch BP X R Q Z hcu hB ov on
        go_simp
        refine hK0.out _ (put3 k3 y (.int .i64 zx) (.int .i64 zy) (.slice za Lz.length zc)) X2 (fun hHeld => ?_)
        clear hK0 K0 hzl z0 z1 z2 f0 f1 f2
        generalize put3 k3 y (.int .i64 zx) (.int .i64 zy) (.slice za Lz.length zc) = kz at *
        refine wpAnyH_take (i := 10) (oi := { dst := some 7, op := Op.assign (Operand.tmp 20), type := 4, pos := "l9_version.go:323", after := #[{ on := 7, ground := Ground.data }, { on := 9, ground := Ground.chain }, { on := 0, ground := Ground.phase }, { on := 1, ground := Ground.phase }, { on := 2, ground := Ground.phase }, { on := 3, ground := Ground.phase }, { on := 4, ground := Ground.phase }, { on := 5, ground := Ground.phase }, { on := 6, ground := Ground.phase }, { on := 7, ground := Ground.phase }, { on := 8, ground := Ground.phase }, { on := 9, ground := Ground.phase }], guard := none }) (v := .bool ok) rfl (by kernel_rfl) (by kernel_rfl) (by kernel_rfl) (fun _ _ _ h => h) (Or.inl ⟨by rfl, ?_⟩) (by assumption) ?_
        · intro wx hSw
          clear hSw hHeld; go_simp
        simp only [Act.put, List.setIfInBounds_toArray, List.set_cons_zero, List.set_cons_succ]
        clear hHeld
        refine wpAnyH_done (by kernel_rfl) ?_ _
        go_wp2_with fail
        go_meet
        exact ⟨y, ok, zx, zy, za, zc, Lz, rfl, rfl, by omega, X2, R2, Q2, Z2, ov2, on2, HG.out, hcu2, hB2⟩
    · clear hHeld
      have Z := Box.new k0 #[.int .i64 0, .int .i64 0, .slice none 0 0] 25
      have hkX := X.1
      have hkb := hcu.lt
      have ltov := owns_below_lt ov
      have hA := below_alloc k0 (.cells #[.int .i64 0, .int .i64 0, .slice none 0 0] 25)
      replace X := X.below hA
      replace R := R.below hA
      replace Q := Q.below hA
      replace ov := owns_below ov hA
      replace hcu := hcu.chg hA
      replace hB := below_then hB hA
      clear hA
      go_simp
      refine hK0.out _ _ X (fun hHeld => ?_)
      clear hK0 K0
      generalize k0.alloc (.cells #[.int .i64 0, .int .i64 0, .slice none 0 0] 25) = k1 at *
      generalize k0.heap.size = y at *
      have hyl := Z.1
      refine wpAnyH_ready (rs := [3]) (by kernel_rfl) (by simp) ?_
      refine (AllReadyH.cons (o := { dst := some 17, op := Op.call { callee := Callee.value (Operand.func 49), args := #[Operand.tmp 15, Operand.tmp 16], argTypes := #[71, 25] }, type := 30, pos := "l9_version.go:323", after := #[{ on := 1, ground := Ground.data }, { on := 2, ground := Ground.data }], guard := none }) rfl (fun K0 hK0 => ?_) AllReadyH.nil)
      clear hHeld
      go_simp
      refine (edit_any (w.heap.size + 1 + 1) bl _ nx sq (.slice va l.length vc) (w.heap.size + 1 + 1 + 1) l _ hcu hl (by omega) ov (by omega) (by omega) (by omega) (by omega) (by omega) (by omega)).mono ?_
      rintro e k2 ⟨⟨ex, ey, u1, u2, D, A, rfl, he⟩, hcu2, hch⟩
      have hkX := X.1
      replace X := hch.box X (by omega)
      replace R := hch.box R (by omega)
      replace Q := hch.box Q (by omega)
      replace ov := hch.owns ov (fun g hg q => by have := owns_ge ov g hg; omega)
      replace Z := hch.box Z (by omega)
      replace hB := below_chg hB hch (fun k hk => by omega)
      have hcu := hcu2
      clear hch hcu2
      have oD := he.oD
      have oA := he.oA
      have hdl := he.dl
      have hal := he.al
      have HES : Hid (∀ i (h : i < A.length), A[i].k.size ≤ 1048576 ∧ A[i].v.size ≤ 1048576) := fun i h => by have := he.sz i h; omega
      obtain ⟨u1a, u1c, rfl⟩ := owns_shape oD
      obtain ⟨u2a, u2c, rfl⟩ := owns_shape oA
      clear he
      refine hK0.out _ _ X (fun hHeld => ?_)
      clear hK0 K0
      refine wpAnyH_ready (rs := [4]) (by kernel_rfl) (by simp) ?_
      refine (AllReadyH.cons (o := { dst := some 18, op := Op.call { callee := Callee.value (Operand.func 17), args := #[Operand.tmp 14, Operand.tmp 17], argTypes := #[25, 30] }, type := 33, pos := "l9_version.go:323", after := #[{ on := 0, ground := Ground.data }, { on := 3, ground := Ground.data }, { on := 3, ground := Ground.chain }], guard := none }) rfl (fun K0 hK0 => ?_) AllReadyH.nil)
      clear hHeld
      go_simp
      refine (specApply_any nx sq ex ey (.slice va l.length vc) (.slice u1a D.length u1c) (.slice u2a A.length u2c) l D A _ (IX_of_owns ov rfl) (IL_of_owns oD rfl) (IR_of_owns oA rfl) (by omega) (by omega) (by omega) HLS.out HES.out).mono ?_
      rintro e k3 ⟨u, rfl, on, hb2⟩
      have hkX := X.1
      have hkc := hB.size
      have hyl2 := Z.1
      clear oD oA
      replace ov := owns_below ov hb2
      replace X := X.below hb2
      replace R := R.below hb2
      replace Q := Q.below hb2
      replace Z := Z.below hb2
      replace hcu := hcu.chg hb2
      replace hB := below_then hB hb2
      have HG : Hid (apB nx sq l ex ey D A = true → goodV (apX nx sq l ex ey D A) (apY nx sq l ex ey D A) (apA nx sq l ex ey D A) = true) := ap_good
      clear hb2
      generalize apB nx sq l ex ey D A = ok at *
      generalize apX nx sq l ex ey D A = zx at *
      generalize apY nx sq l ex ey D A = zy at *
      generalize apA nx sq l ex ey D A = Lz at *
      obtain ⟨za, zc, rfl⟩ := owns_shape on
      have lton := owns_ge on
      replace on := owns_mono' on (show (w.heap.size + 1 + 1 + 1) ≤ k2.heap.size from by omega)
      have ney : ∀ g, (Value.slice za Lz.length zc).ownBlock = some g → ¬ g = y := fun g hg q => by have := lton g hg; omega
      clear lton
      refine hK0.out _ _ X (fun hHeld => ?_)
      clear hK0 K0
      refine wpAnyH_take (i := 5) (oi := { dst := some 13, op := Op.move (Operand.tmp 18), type := 33, pos := "l9_version.go:323", after := #[{ on := 4, ground := Ground.data }], guard := none }) (v := .tuple #[.agg #[.int .i64 zx, .int .i64 zy, .slice za Lz.length zc], .bool ok]) rfl (by kernel_rfl) (by kernel_rfl) (by kernel_rfl) (fun _ _ _ h => h) (Or.inl ⟨by rfl, ?_⟩) (by assumption) ?_
      · intro wx hSw
        clear hSw hHeld; go_simp
      simp only [Act.put, List.setIfInBounds_toArray, List.set_cons_zero, List.set_cons_succ]
      refine wpAnyH_take (i := 6) (oi := { dst := some 19, op := Op.extract (Operand.tmp 13) 0, type := 25, pos := "l9_version.go:323", after := #[{ on := 5, ground := Ground.data }], guard := none }) (v := .agg #[.int .i64 zx, .int .i64 zy, .slice za Lz.length zc]) rfl (by kernel_rfl) (by kernel_rfl) (by kernel_rfl) (fun _ _ _ h => h) (Or.inl ⟨by rfl, ?_⟩) (by assumption) ?_
      · intro wx hSw
        clear hSw hHeld; go_simp
      simp only [Act.put, List.setIfInBounds_toArray, List.set_cons_zero, List.set_cons_succ]
      refine wpAnyH_take (i := 7) (oi := { dst := some 20, op := Op.extract (Operand.tmp 13) 1, type := 4, pos := "l9_version.go:323", after := #[{ on := 5, ground := Ground.data }, { on := 9, ground := Ground.gcOnly Departure.lateStores }], guard := none }) (v := .bool ok) rfl (by kernel_rfl) (by kernel_rfl) (by kernel_rfl) (fun _ _ _ h => h) (Or.inl ⟨by rfl, ?_⟩) (by assumption) ?_
      · intro wx hSw
        clear hSw hHeld; go_simp
      simp only [Act.put, List.setIfInBounds_toArray, List.set_cons_zero, List.set_cons_succ]
      refine wpAnyH_ready (rs := [9]) (by kernel_rfl) (by simp) ?_
      refine AllReadyH.cons (o := { dst := none, op := Op.store 25 (Operand.tmp 6) (Operand.tmp 19), type := 0, pos := "l9_version.go:323", after := #[{ on := 8, ground := Ground.data }, { on := 6, ground := Ground.data }, { on := 4, ground := Ground.chain }, { on := 0, ground := Ground.phase }, { on := 1, ground := Ground.phase }, { on := 2, ground := Ground.phase }, { on := 3, ground := Ground.phase }, { on := 4, ground := Ground.phase }, { on := 5, ground := Ground.phase }, { on := 6, ground := Ground.phase }, { on := 7, ground := Ground.textOnly Departure.lateStores }, { on := 8, ground := Ground.phase }], guard := none }) rfl (fun K0 hK0 => ?_) AllReadyH.nil
      clear hHeld
      obtain ⟨hzl, z0, z1, z2, f0, f1, f2⟩ := Z.c3
      have Z2 := put3_box Z (.int .i64 zx) (.int .i64 zy) (.slice za Lz.length zc)
      have hch := put3_chg k3 y (.int .i64 zx) (.int .i64 zy) (.slice za Lz.length zc)
      have X2 := hch.box X (by omega)
      have R2 := hch.box R (by omega)
      have Q2 := hch.box Q (by omega)
      have ov2 := hch.owns ov (fun g hg q => by have := ltov g hg; omega)
      have on2 := hch.owns on (fun g hg q => ney g hg q)
      have BP := hch.below (B := w.heap.size + 1 + 1 + 1) (by omega) (fun k hk => by omega)
      have hcu2 := cur_low hcu (by omega) BP
      have hB2 := below_chg hB hch (fun k hk => by omega)
      clear hch BP X R Q Z hcu hB ov on
      go_simp
      refine hK0.out _ (put3 k3 y (.int .i64 zx) (.int .i64 zy) (.slice za Lz.length zc)) X2 (fun hHeld => ?_)
      clear hK0 K0 hzl z0 z1 z2 f0 f1 f2
      generalize put3 k3 y (.int .i64 zx) (.int .i64 zy) (.slice za Lz.length zc) = kz at *
      refine wpAnyH_take (i := 10) (oi := { dst := some 7, op := Op.assign (Operand.tmp 20), type := 4, pos := "l9_version.go:323", after := #[{ on := 7, ground := Ground.data }, { on := 9, ground := Ground.chain }, { on := 0, ground := Ground.phase }, { on := 1, ground := Ground.phase }, { on := 2, ground := Ground.phase }, { on := 3, ground := Ground.phase }, { on := 4, ground := Ground.phase }, { on := 5, ground := Ground.phase }, { on := 6, ground := Ground.phase }, { on := 7, ground := Ground.phase }, { on := 8, ground := Ground.phase }, { on := 9, ground := Ground.phase }], guard := none }) (v := .bool ok) rfl (by kernel_rfl) (by kernel_rfl) (by kernel_rfl) (fun _ _ _ h => h) (Or.inl ⟨by rfl, ?_⟩) (by assumption) ?_
      · intro wx hSw
        clear hSw hHeld; go_simp
      simp only [Act.put, List.setIfInBounds_toArray, List.set_cons_zero, List.set_cons_succ]
      clear hHeld
      refine wpAnyH_done (by kernel_rfl) ?_ _
      go_wp2_with fail
      go_meet
      exact ⟨y, ok, zx, zy, za, zc, Lz, rfl, rfl, by omega, X2, R2, Q2, Z2, ov2, on2, HG.out, hcu2, hB2⟩
  case rest =>
    clear X R Q ov hcu hB ltov
    obtain ⟨y, ok, zx, zy, za, zc, Lz, rfl, rfl, hxy, X, R, Q, Z, ov, on, hg, hcu, hB⟩ := hcut
    cases ok with
    | false =>
      clear hg on Z
      go_upto_region 6 with fail
      have hD : Below wc.heap.size wc wc.drew := (Below.refl _ _).drew
      replace X := X.below hD
      replace R := R.below hD
      replace Q := Q.below hD
      replace ov := owns_below ov hD
      replace hcu := hcu.chg hD
      replace hB := below_then hB hD
      clear hD
      refine wp_region_held_drew (S := fun w' => Box w' x0 [.int .i64 nx, .int .i64 sq, .slice va l.length vc]) (by kernel_rfl) X (fun hHeld => ?_)
      generalize wc.drew = j0 at *
      refine wpAnyH_take (i := 0) (oi := { dst := some 29, op := Op.load 25 (Operand.tmp 5), type := 25, pos := "l9_version.go:326", after := #[], guard := none }) (v := .agg #[.int .i64 nx, .int .i64 sq, .slice va l.length vc]) rfl (by kernel_rfl) (by kernel_rfl) (by kernel_rfl) (fun _ _ _ h => h) (Or.inl ⟨by rfl, ?_⟩) (by assumption) ?_
      · intro wx hSw
        have e0 := hSw.2.1 0 _ rfl; have e1 := hSw.2.1 1 _ rfl; have e2 := hSw.2.1 2 _ rfl; clear hHeld; go_simp
      simp only [Act.put, List.setIfInBounds_toArray, List.set_cons_zero, List.set_cons_succ]
      refine wpAnyH_take (i := 1) (oi := { dst := some 30, op := Op.move (Operand.tmp 4), type := 71, pos := "l9_version.go:326", after := #[], guard := none }) (v := .pointer (some ⟨w.heap.size + 1 + 1, 0, none⟩)) rfl (by kernel_rfl) (by kernel_rfl) (by kernel_rfl) (fun _ _ _ h => h) (Or.inl ⟨by rfl, ?_⟩) (by assumption) ?_
      · intro wx hSw
        clear hSw hHeld; go_simp
      simp only [Act.put, List.setIfInBounds_toArray, List.set_cons_zero, List.set_cons_succ]
      refine wpAnyH_ready (rs := [2]) (by kernel_rfl) (by simp) ?_
      refine AllReadyH.cons (o := { dst := some 31, op := Op.call { callee := Callee.value (Operand.func 48), args := #[Operand.tmp 30], argTypes := #[71] }, type := 25, pos := "l9_version.go:326", after := #[{ on := 1, ground := Ground.data }], guard := none }) rfl (fun K0 hK0 => ?_) AllReadyH.nil
      clear hHeld
      go_simp
      refine (version_any (w.heap.size + 1 + 1) bl _ _ hcu hl (by omega)).mono ?_
      rintro e j1 ⟨⟨tx, ty, tu, Lt, rfl, tv⟩, hcu2, hch⟩
      have hkX := X.1
      have hkc := hB.size
      replace X := hch.box X (by omega)
      replace R := hch.box R (by omega)
      replace Q := hch.box Q (by omega)
      replace ov := hch.owns ov (fun g hg q => by have := owns_ge ov g hg; omega)
      replace hB := below_chg hB hch (fun k hk => by omega)
      have hcu := hcu2
      have ot := tv.o
      have HT : Hid (Lt.length ≤ 30 ∧ (∀ i (h : i < Lt.length), Lt[i].k.size ≤ 16 ∧ Lt[i].v.size ≤ 16) ∧ (0 ≤ tx ∧ tx ≤ 100001) ∧ 0 ≤ ty ∧ ty ≤ 1000000000) := ⟨tv.len, tv.sz, ⟨tv.x0, tv.x1⟩, tv.y0, tv.y1⟩
      clear tv hch hcu2
      replace ot := owns_mono' ot (show (w.heap.size + 1 + 1 + 1) ≤ j0.heap.size from by omega)
      obtain ⟨ta, tc, rfl⟩ := owns_shape ot
      refine hK0.out _ _ X (fun hHeld => ?_)
      clear hK0 K0
      refine wpAnyH_ready (rs := [3]) (by kernel_rfl) (by simp) ?_
      refine AllReadyH.cons (o := { dst := none, op := Op.store 25 (Operand.tmp 2) (Operand.tmp 29), type := 0, pos := "l9_version.go:326", after := #[{ on := 0, ground := Ground.data }, { on := 2, ground := Ground.chain }, { on := 0, ground := Ground.phase }, { on := 1, ground := Ground.textOnly Departure.lateStores }, { on := 2, ground := Ground.textOnly Departure.lateStoresUnsure }], guard := none }) rfl (fun K0 hK0 => ?_) AllReadyH.nil
      clear hHeld
      obtain ⟨hzl, z0, z1, z2, f0, f1, f2⟩ := R.c3
      have R' := put3_box R (.int .i64 nx) (.int .i64 sq) (.slice va l.length vc)
      have hch := put3_chg j1 w.heap.size (.int .i64 nx) (.int .i64 sq) (.slice va l.length vc)
      replace X := hch.box X (by omega)
      replace Q := hch.box Q (by omega)
      replace ov := hch.owns ov (fun g hg q => by have := owns_ge ov g hg; omega)
      replace ot := hch.owns ot (fun g hg q => by have := owns_ge ot g hg; omega)
      replace hB := below_chg hB hch (fun k hk => by omega)
      clear hch R
      go_simp
      refine hK0.out _ (put3 j1 w.heap.size (.int .i64 nx) (.int .i64 sq) (.slice va l.length vc)) X (fun hHeld => ?_)
      clear hK0 K0 hzl z0 z1 z2 f0 f1 f2
      generalize put3 j1 w.heap.size (.int .i64 nx) (.int .i64 sq) (.slice va l.length vc) = j2 at *
      have R := R'
      clear R'
      refine wpAnyH_ready (rs := [4]) (by kernel_rfl) (by simp) ?_
      refine AllReadyH.cons (o := { dst := none, op := Op.store 25 (Operand.tmp 3) (Operand.tmp 31), type := 0, pos := "l9_version.go:326", after := #[{ on := 2, ground := Ground.data }, { on := 3, ground := Ground.chain }, { on := 0, ground := Ground.phase }, { on := 1, ground := Ground.phase }, { on := 2, ground := Ground.phase }, { on := 3, ground := Ground.phase }], guard := none }) rfl (fun K0 hK0 => ?_) AllReadyH.nil
      clear hHeld
      obtain ⟨hzl, z0, z1, z2, f0, f1, f2⟩ := Q.c3
      have Q' := put3_box Q (.int .i64 tx) (.int .i64 ty) (.slice ta Lt.length tc)
      have hch := put3_chg j2 (w.heap.size + 1) (.int .i64 tx) (.int .i64 ty) (.slice ta Lt.length tc)
      replace X := hch.box X (by omega)
      replace R := hch.box R (by omega)
      replace ov := hch.owns ov (fun g hg q => by have := owns_ge ov g hg; omega)
      replace ot := hch.owns ot (fun g hg q => by have := owns_ge ot g hg; omega)
      replace hB := below_chg hB hch (fun k hk => by omega)
      clear hch Q
      go_simp
      refine hK0.out _ (put3 j2 (w.heap.size + 1) (.int .i64 tx) (.int .i64 ty) (.slice ta Lt.length tc)) X (fun hHeld => ?_)
      clear hK0 K0 hzl z0 z1 z2 f0 f1 f2
      generalize put3 j2 (w.heap.size + 1) (.int .i64 tx) (.int .i64 ty) (.slice ta Lt.length tc) = j3 at *
      have Q := Q'
      clear Q'
      clear hHeld
      refine wpAnyH_done (by kernel_rfl) ?_ _
      obtain ⟨hrl, r0, r1, r2, _⟩ := R.c3
      obtain ⟨hql, q0, q1, q2, _⟩ := Q.c3
      have HP : Hid (DEBPost w _ _) := DEBPost.mk (x := nx) (y := sq) (u := .slice va l.length vc) (L := l) (VD.mk (owns_mono' ov (by omega)) h30 HL0.out (by omega) (by omega) (by omega) (by omega)) (VD.mk (x := tx) (y := ty) (u := .slice ta Lt.length tc) (L := Lt) (owns_mono' ot (by omega)) HT.out.1 HT.out.2.1 HT.out.2.2.1.1 HT.out.2.2.1.2 HT.out.2.2.2.1 HT.out.2.2.2.2) hB
      clear ov hB
      go_wp2
      exact bodyPost_ret (v := .tuple #[.agg #[.int .i64 nx, .int .i64 sq, .slice va l.length vc], .agg #[.int .i64 tx, .int .i64 ty, .slice ta Lt.length tc]]) (by simp [results, Try.results13, go_sem, r0, r1, r2, q0, q1, q2]) rfl HP.out
    | true =>
      have HZ : Hid ((1 ≤ zx ∧ zx ≤ 100001) ∧ (0 ≤ zy ∧ zy ≤ 1000000000) ∧ Lz.length ≤ 30 ∧ ∀ i (h : i < Lz.length), Lz[i].k.size ≤ 16 ∧ Lz[i].v.size ≤ 16) := goodV_bounds (hg rfl)
      clear hg
      go_wp2_with fail
      refine (one_any (w.heap.size + 1 + 1) bl _ 4 _ hcu hl (by omega) (by omega)).mono ?_
      rintro e w3 ⟨⟨c, rfl⟩, hcu2, hch⟩
      replace X := hch.box X (by omega)
      replace R := hch.box R (by omega)
      replace Q := hch.box Q (by omega)
      replace Z := hch.box Z (by omega)
      replace ov := hch.owns ov (fun g hg q => by have := owns_ge ov g hg; omega)
      replace on := hch.owns on (fun g hg q => by have := owns_ge on g hg; omega)
      replace hB := below_chg hB hch (fun k hk => by omega)
      have hcu := hcu2
      clear hch hcu2
      cases c with
      | true =>
        clear on Z HZ
        go_upto_region 6 with fail
        have hD : Below w3.heap.size w3 w3.drew := (Below.refl _ _).drew
        replace X := X.below hD
        replace R := R.below hD
        replace Q := Q.below hD
        replace ov := owns_below ov hD
        replace hcu := hcu.chg hD
        replace hB := below_then hB hD
        clear hD
        refine wp_region_held_drew (S := fun w' => Box w' x0 [.int .i64 nx, .int .i64 sq, .slice va l.length vc]) (by kernel_rfl) X (fun hHeld => ?_)
        generalize w3.drew = j0 at *
        refine wpAnyH_take (i := 0) (oi := { dst := some 29, op := Op.load 25 (Operand.tmp 5), type := 25, pos := "l9_version.go:326", after := #[], guard := none }) (v := .agg #[.int .i64 nx, .int .i64 sq, .slice va l.length vc]) rfl (by kernel_rfl) (by kernel_rfl) (by kernel_rfl) (fun _ _ _ h => h) (Or.inl ⟨by rfl, ?_⟩) (by assumption) ?_
        · intro wx hSw
          have e0 := hSw.2.1 0 _ rfl; have e1 := hSw.2.1 1 _ rfl; have e2 := hSw.2.1 2 _ rfl; clear hHeld; go_simp
        simp only [Act.put, List.setIfInBounds_toArray, List.set_cons_zero, List.set_cons_succ]
        refine wpAnyH_take (i := 1) (oi := { dst := some 30, op := Op.move (Operand.tmp 4), type := 71, pos := "l9_version.go:326", after := #[], guard := none }) (v := .pointer (some ⟨w.heap.size + 1 + 1, 0, none⟩)) rfl (by kernel_rfl) (by kernel_rfl) (by kernel_rfl) (fun _ _ _ h => h) (Or.inl ⟨by rfl, ?_⟩) (by assumption) ?_
        · intro wx hSw
          clear hSw hHeld; go_simp
        simp only [Act.put, List.setIfInBounds_toArray, List.set_cons_zero, List.set_cons_succ]
        refine wpAnyH_ready (rs := [2]) (by kernel_rfl) (by simp) ?_
        refine AllReadyH.cons (o := { dst := some 31, op := Op.call { callee := Callee.value (Operand.func 48), args := #[Operand.tmp 30], argTypes := #[71] }, type := 25, pos := "l9_version.go:326", after := #[{ on := 1, ground := Ground.data }], guard := none }) rfl (fun K0 hK0 => ?_) AllReadyH.nil
        clear hHeld
        go_simp
        refine (version_any (w.heap.size + 1 + 1) bl _ _ hcu hl (by omega)).mono ?_
        rintro e j1 ⟨⟨tx, ty, tu, Lt, rfl, tv⟩, hcu2, hch⟩
        have hkX := X.1
        have hkc := hB.size
        replace X := hch.box X (by omega)
        replace R := hch.box R (by omega)
        replace Q := hch.box Q (by omega)
        replace ov := hch.owns ov (fun g hg q => by have := owns_ge ov g hg; omega)
        replace hB := below_chg hB hch (fun k hk => by omega)
        have hcu := hcu2
        have ot := tv.o
        have HT : Hid (Lt.length ≤ 30 ∧ (∀ i (h : i < Lt.length), Lt[i].k.size ≤ 16 ∧ Lt[i].v.size ≤ 16) ∧ (0 ≤ tx ∧ tx ≤ 100001) ∧ 0 ≤ ty ∧ ty ≤ 1000000000) := ⟨tv.len, tv.sz, ⟨tv.x0, tv.x1⟩, tv.y0, tv.y1⟩
        clear tv hch hcu2
        replace ot := owns_mono' ot (show (w.heap.size + 1 + 1 + 1) ≤ j0.heap.size from by omega)
        obtain ⟨ta, tc, rfl⟩ := owns_shape ot
        refine hK0.out _ _ X (fun hHeld => ?_)
        clear hK0 K0
        refine wpAnyH_ready (rs := [3]) (by kernel_rfl) (by simp) ?_
        refine AllReadyH.cons (o := { dst := none, op := Op.store 25 (Operand.tmp 2) (Operand.tmp 29), type := 0, pos := "l9_version.go:326", after := #[{ on := 0, ground := Ground.data }, { on := 2, ground := Ground.chain }, { on := 0, ground := Ground.phase }, { on := 1, ground := Ground.textOnly Departure.lateStores }, { on := 2, ground := Ground.textOnly Departure.lateStoresUnsure }], guard := none }) rfl (fun K0 hK0 => ?_) AllReadyH.nil
        clear hHeld
        obtain ⟨hzl, z0, z1, z2, f0, f1, f2⟩ := R.c3
        have R' := put3_box R (.int .i64 nx) (.int .i64 sq) (.slice va l.length vc)
        have hch := put3_chg j1 w.heap.size (.int .i64 nx) (.int .i64 sq) (.slice va l.length vc)
        replace X := hch.box X (by omega)
        replace Q := hch.box Q (by omega)
        replace ov := hch.owns ov (fun g hg q => by have := owns_ge ov g hg; omega)
        replace ot := hch.owns ot (fun g hg q => by have := owns_ge ot g hg; omega)
        replace hB := below_chg hB hch (fun k hk => by omega)
        clear hch R
        go_simp
        refine hK0.out _ (put3 j1 w.heap.size (.int .i64 nx) (.int .i64 sq) (.slice va l.length vc)) X (fun hHeld => ?_)
        clear hK0 K0 hzl z0 z1 z2 f0 f1 f2
        generalize put3 j1 w.heap.size (.int .i64 nx) (.int .i64 sq) (.slice va l.length vc) = j2 at *
        have R := R'
        clear R'
        refine wpAnyH_ready (rs := [4]) (by kernel_rfl) (by simp) ?_
        refine AllReadyH.cons (o := { dst := none, op := Op.store 25 (Operand.tmp 3) (Operand.tmp 31), type := 0, pos := "l9_version.go:326", after := #[{ on := 2, ground := Ground.data }, { on := 3, ground := Ground.chain }, { on := 0, ground := Ground.phase }, { on := 1, ground := Ground.phase }, { on := 2, ground := Ground.phase }, { on := 3, ground := Ground.phase }], guard := none }) rfl (fun K0 hK0 => ?_) AllReadyH.nil
        clear hHeld
        obtain ⟨hzl, z0, z1, z2, f0, f1, f2⟩ := Q.c3
        have Q' := put3_box Q (.int .i64 tx) (.int .i64 ty) (.slice ta Lt.length tc)
        have hch := put3_chg j2 (w.heap.size + 1) (.int .i64 tx) (.int .i64 ty) (.slice ta Lt.length tc)
        replace X := hch.box X (by omega)
        replace R := hch.box R (by omega)
        replace ov := hch.owns ov (fun g hg q => by have := owns_ge ov g hg; omega)
        replace ot := hch.owns ot (fun g hg q => by have := owns_ge ot g hg; omega)
        replace hB := below_chg hB hch (fun k hk => by omega)
        clear hch Q
        go_simp
        refine hK0.out _ (put3 j2 (w.heap.size + 1) (.int .i64 tx) (.int .i64 ty) (.slice ta Lt.length tc)) X (fun hHeld => ?_)
        clear hK0 K0 hzl z0 z1 z2 f0 f1 f2
        generalize put3 j2 (w.heap.size + 1) (.int .i64 tx) (.int .i64 ty) (.slice ta Lt.length tc) = j3 at *
        have Q := Q'
        clear Q'
        clear hHeld
        refine wpAnyH_done (by kernel_rfl) ?_ _
        obtain ⟨hrl, r0, r1, r2, _⟩ := R.c3
        obtain ⟨hql, q0, q1, q2, _⟩ := Q.c3
        have HP : Hid (DEBPost w _ _) := DEBPost.mk (x := nx) (y := sq) (u := .slice va l.length vc) (L := l) (VD.mk (owns_mono' ov (by omega)) h30 HL0.out (by omega) (by omega) (by omega) (by omega)) (VD.mk (x := tx) (y := ty) (u := .slice ta Lt.length tc) (L := Lt) (owns_mono' ot (by omega)) HT.out.1 HT.out.2.1 HT.out.2.2.1.1 HT.out.2.2.1.2 HT.out.2.2.2.1 HT.out.2.2.2.2) hB
        clear ov hB
        go_wp2
        exact bodyPost_ret (v := .tuple #[.agg #[.int .i64 nx, .int .i64 sq, .slice va l.length vc], .agg #[.int .i64 tx, .int .i64 ty, .slice ta Lt.length tc]]) (by simp [results, Try.results13, go_sem, r0, r1, r2, q0, q1, q2]) rfl HP.out
      | false =>
        go_upto_region 5 with fail
        have hD : Below w3.heap.size w3 w3.drew := (Below.refl _ _).drew
        replace X := X.below hD
        replace R := R.below hD
        replace Q := Q.below hD
        replace Z := Z.below hD
        replace ov := owns_below ov hD
        replace on := owns_below on hD
        replace hcu := hcu.chg hD
        replace hB := below_then hB hD
        clear hD
        refine wp_region_held_drew (S := fun w' => Box w' x0 [.int .i64 nx, .int .i64 sq, .slice va l.length vc] ∧ Box w' y [.int .i64 zx, .int .i64 zy, .slice za Lz.length zc]) (by kernel_rfl) ⟨X, Z⟩ (fun hHeld => ?_)
        generalize w3.drew = j0 at *
        refine wpAnyH_take (i := 0) (oi := { dst := some 27, op := Op.load 25 (Operand.tmp 5), type := 25, pos := "l9_version.go:324", after := #[], guard := none }) (v := .agg #[.int .i64 nx, .int .i64 sq, .slice va l.length vc]) rfl (by kernel_rfl) (by kernel_rfl) (by kernel_rfl) (fun _ _ _ h => h) (Or.inl ⟨by rfl, ?_⟩) (by assumption) ?_
        · intro wx hSw
          have e0 := hSw.1.2.1 0 _ rfl; have e1 := hSw.1.2.1 1 _ rfl; have e2 := hSw.1.2.1 2 _ rfl; clear hHeld; go_simp
        simp only [Act.put, List.setIfInBounds_toArray, List.set_cons_zero, List.set_cons_succ]
        refine wpAnyH_take (i := 1) (oi := { dst := some 28, op := Op.load 25 (Operand.tmp 6), type := 25, pos := "l9_version.go:324", after := #[{ on := 2, ground := Ground.gcOnly Departure.lateStores }], guard := none }) (v := .agg #[.int .i64 zx, .int .i64 zy, .slice za Lz.length zc]) rfl (by kernel_rfl) (by kernel_rfl) (by kernel_rfl) (fun _ _ _ h => h) (Or.inl ⟨by rfl, ?_⟩) (by assumption) ?_
        · intro wx hSw
          have e0 := hSw.2.2.1 0 _ rfl; have e1 := hSw.2.2.1 1 _ rfl; have e2 := hSw.2.2.1 2 _ rfl; clear hHeld; go_simp
        simp only [Act.put, List.setIfInBounds_toArray, List.set_cons_zero, List.set_cons_succ]
        have hkX := X.1
        have hkc := hB.size
        clear hcu
        refine wpAnyH_ready (rs := [2]) (by kernel_rfl) (by simp) ?_
        refine AllReadyH.cons (o := { dst := none, op := Op.store 25 (Operand.tmp 2) (Operand.tmp 27), type := 0, pos := "l9_version.go:324", after := #[{ on := 0, ground := Ground.data }, { on := 0, ground := Ground.phase }, { on := 1, ground := Ground.textOnly Departure.lateStores }], guard := none }) rfl (fun K0 hK0 => ?_) AllReadyH.nil
        clear hHeld
        obtain ⟨hzl, z0, z1, z2, f0, f1, f2⟩ := R.c3
        have R' := put3_box R (.int .i64 nx) (.int .i64 sq) (.slice va l.length vc)
        have hch := put3_chg j0 w.heap.size (.int .i64 nx) (.int .i64 sq) (.slice va l.length vc)
        replace X := hch.box X (by omega)
        replace Z := hch.box Z (by omega)
        replace Q := hch.box Q (by omega)
        replace ov := hch.owns ov (fun g hg q => by have := owns_ge ov g hg; omega)
        replace on := hch.owns on (fun g hg q => by have := owns_ge on g hg; omega)
        replace hB := below_chg hB hch (fun k hk => by omega)
        clear hch R
        go_simp
        refine hK0.out _ (put3 j0 w.heap.size (.int .i64 nx) (.int .i64 sq) (.slice va l.length vc)) ⟨X, Z⟩ (fun hHeld => ?_)
        clear hK0 K0 hzl z0 z1 z2 f0 f1 f2
        generalize put3 j0 w.heap.size (.int .i64 nx) (.int .i64 sq) (.slice va l.length vc) = j1 at *
        have R := R'
        clear R'
        refine wpAnyH_ready (rs := [3]) (by kernel_rfl) (by simp) ?_
        refine AllReadyH.cons (o := { dst := none, op := Op.store 25 (Operand.tmp 3) (Operand.tmp 28), type := 0, pos := "l9_version.go:324", after := #[{ on := 1, ground := Ground.data }, { on := 2, ground := Ground.chain }, { on := 0, ground := Ground.phase }, { on := 1, ground := Ground.phase }, { on := 2, ground := Ground.phase }], guard := none }) rfl (fun K0 hK0 => ?_) AllReadyH.nil
        clear hHeld
        obtain ⟨hzl, z0, z1, z2, f0, f1, f2⟩ := Q.c3
        have Q' := put3_box Q (.int .i64 zx) (.int .i64 zy) (.slice za Lz.length zc)
        have hch := put3_chg j1 (w.heap.size + 1) (.int .i64 zx) (.int .i64 zy) (.slice za Lz.length zc)
        replace X := hch.box X (by omega)
        replace Z := hch.box Z (by omega)
        replace R := hch.box R (by omega)
        replace ov := hch.owns ov (fun g hg q => by have := owns_ge ov g hg; omega)
        replace on := hch.owns on (fun g hg q => by have := owns_ge on g hg; omega)
        replace hB := below_chg hB hch (fun k hk => by omega)
        clear hch Q
        go_simp
        refine hK0.out _ (put3 j1 (w.heap.size + 1) (.int .i64 zx) (.int .i64 zy) (.slice za Lz.length zc)) ⟨X, Z⟩ (fun hHeld => ?_)
        clear hK0 K0 hzl z0 z1 z2 f0 f1 f2
        generalize put3 j1 (w.heap.size + 1) (.int .i64 zx) (.int .i64 zy) (.slice za Lz.length zc) = j2 at *
        have Q := Q'
        clear Q'
        clear hHeld
        refine wpAnyH_done (by kernel_rfl) ?_ _
        obtain ⟨hrl, r0, r1, r2, _⟩ := R.c3
        obtain ⟨hql, q0, q1, q2, _⟩ := Q.c3
        have HP : Hid (DEBPost w _ _) := DEBPost.mk (x := nx) (y := sq) (u := .slice va l.length vc) (L := l) (VD.mk (owns_mono' ov (by omega)) h30 HL0.out (by omega) (by omega) (by omega) (by omega)) (VD.mk (x := zx) (y := zy) (u := .slice za Lz.length zc) (L := Lz) (owns_mono' on (by omega)) HZ.out.2.2.1 HZ.out.2.2.2 (by have := HZ.out.1; omega) HZ.out.1.2 HZ.out.2.1.1 HZ.out.2.1.2) hB
        clear ov hB
        go_wp2
        exact bodyPost_ret (v := .tuple #[.agg #[.int .i64 nx, .int .i64 sq, .slice va l.length vc], .agg #[.int .i64 zx, .int .i64 zy, .slice za Lz.length zc]]) (by simp [results, Try.results13, go_sem, r0, r1, r2, q0, q1, q2]) rfl HP.out
def DOIPost (w : World) (e : Ending) (w' : World) : Prop := ∃ (x y : Int) (u : Value) (L : List Mt) (p : Nat) (k v : ByteArray), e = .returned (.tuple #[.agg #[.int .i64 x, .int .i64 y, u], .int .i64 p, .string k, .string v]) ∧ VD w' w.heap.size x y u L ∧ p ≤ 4 ∧ k.size ≤ 17 ∧ v.size ≤ 18 ∧ Below w.heap.size w w'
theorem DOIPost.mk {w w' : World} {x y : Int} {u : Value} {L : List Mt} {p : Nat} {k v : ByteArray} (h : VD w' w.heap.size x y u L) (hp : p ≤ 4) (hk : k.size ≤ 17) (hv : v.size ≤ 18) (hb : Below w.heap.size w w') : DOIPost w (.returned (.tuple #[.agg #[.int .i64 x, .int .i64 y, u], .int .i64 p, .string k, .string v])) w' := ⟨x, y, u, L, p, k, v, rfl, h, hp, hk, hv, hb⟩
set_option maxHeartbeats 16000000 in
theorem drawOI_any (v0 : Value) (bl : List UInt8) (w : World) (hv : YL w v0 bl) (hl : bl.length ≤ maxLen) : Calls Try.prog 19 #[v0] w (DOIPost w) := by
  unfold maxLen at hl
  have B2 := below_alloc w (.cells #[.int .i64 0, .int .i64 0, .slice none 0 0] 25)
  have hv2 := hv.below B2
  have R := (Box.new w #[.int .i64 0, .int .i64 0, .slice none 0 0] 25).alloc (.cells #[v0, .int .i64 0, .int .u64 0] 74)
  have hB := below2 w (.cells #[.int .i64 0, .int .i64 0, .slice none 0 0] 25) (.cells #[v0, .int .i64 0, .int .u64 0] 74)
  have hcu := cur_new hv2
  simp only [World.size_alloc] at hcu
  obtain ⟨aa, cc, rfl, _⟩ := hv
  clear hv2 B2
  replace hl : bl.length ≤ 9223372036854775807 := by omega
  go_enter Try.func19, Try.ntmps19
  go_wp2_with fail
  refine (meta_any (w.heap.size + 1) bl 0 1 _ hcu hl (by omega)).mono ?_
  rintro e w1 ⟨⟨md, mk, mv, rfl, hmk, hmv⟩, hcu2, hch⟩
  replace R := hch.box R (by omega)
  replace hB := below_chg hB hch (fun k hk => by omega)
  have hcu := hcu2
  clear hch hcu2
  have M := Box.new w1 #[.int .i64 1, .int .i64 md, .string mk, .string mv] 82
  have hA := below_alloc w1 (.cells #[.int .i64 1, .int .i64 md, .string mk, .string mv] 82)
  have hbl := hcu.lt
  have hRl := R.1
  replace R := R.below hA
  replace hcu := hcu.chg hA
  replace hB := below_then hB hA
  clear hA
  obtain ⟨w2, hw2⟩ : ∃ w2, w2 = w1.alloc (.cells #[.int .i64 1, .int .i64 md, .string mk, .string mv] 82) := ⟨_, rfl⟩
  rw [← hw2] at R hcu hB M
  go_upto_region 3 with fail
  rw [← hw2]
  clear hw2
  generalize w1.heap.size = m0 at *
  have hD : Below w2.heap.size w2 w2.drew := (Below.refl _ _).drew
  replace M := M.below hD
  replace R := R.below hD
  replace hcu := hcu.chg hD
  replace hB := below_then hB hD
  clear hD
  refine wp_region_held_drew (S := fun w' => Box w' m0 [.int .i64 1, .int .i64 md, .string mk, .string mv]) (by kernel_rfl) M (fun hHeld => ?_)
  generalize w2.drew = j0 at *
  refine wpAnyH_take (i := 0) (oi := { dst := some 13, op := Op.move (Operand.tmp 6), type := 71, pos := "l9_version.go:361", after := #[], guard := none }) (v := .pointer (some ⟨w.heap.size + 1, 0, none⟩)) rfl (by kernel_rfl) (by kernel_rfl) (by kernel_rfl) (fun _ _ _ h => h) (Or.inl ⟨by rfl, ?_⟩) (by assumption) ?_
  · intro wx hSw
    clear hSw hHeld; go_simp
  simp only [Act.put, List.setIfInBounds_toArray, List.set_cons_zero, List.set_cons_succ]
  refine wpAnyH_take (i := 2) (oi := { dst := some 15, op := Op.move (Operand.tmp 6), type := 71, pos := "l9_version.go:361", after := #[], guard := none }) (v := .pointer (some ⟨w.heap.size + 1, 0, none⟩)) rfl (by kernel_rfl) (by kernel_rfl) (by kernel_rfl) (fun _ _ _ h => h) (Or.inl ⟨by rfl, ?_⟩) (by assumption) ?_
  · intro wx hSw
    clear hSw hHeld; go_simp
  simp only [Act.put, List.setIfInBounds_toArray, List.set_cons_zero, List.set_cons_succ]
  refine wpAnyH_take (i := 4) (oi := { dst := some 17, op := Op.fieldAddr 82 (Operand.tmp 7) 2, type := 0, pos := "l9_version.go:361", after := #[{ on := 9, ground := Ground.gcOnly Departure.lateStores }], guard := none }) (v := .pointer (some ⟨m0, 2, none⟩)) rfl (by kernel_rfl) (by kernel_rfl) (by kernel_rfl) (fun _ _ _ h => h) (Or.inl ⟨by rfl, ?_⟩) (by assumption) ?_
  · intro wx hSw
    clear hSw hHeld; go_simp
  simp only [Act.put, List.setIfInBounds_toArray, List.set_cons_zero, List.set_cons_succ]
  refine wpAnyH_take (i := 5) (oi := { dst := some 18, op := Op.load 9 (Operand.tmp 17), type := 9, pos := "l9_version.go:361", after := #[{ on := 4, ground := Ground.data }, { on := 9, ground := Ground.gcOnly Departure.lateStores }], guard := none }) (v := .string mk) rfl (by kernel_rfl) (by kernel_rfl) (by kernel_rfl) (fun _ _ _ h => h) (Or.inl ⟨by rfl, ?_⟩) (by assumption) ?_
  · intro wx hSw
    have e0 := hSw.2.1 2 _ rfl; clear hHeld; go_simp
  simp only [Act.put, List.setIfInBounds_toArray, List.set_cons_zero, List.set_cons_succ]
  refine wpAnyH_take (i := 6) (oi := { dst := some 19, op := Op.fieldAddr 82 (Operand.tmp 7) 3, type := 0, pos := "l9_version.go:361", after := #[{ on := 10, ground := Ground.gcOnly Departure.lateStores }], guard := none }) (v := .pointer (some ⟨m0, 3, none⟩)) rfl (by kernel_rfl) (by kernel_rfl) (by kernel_rfl) (fun _ _ _ h => h) (Or.inl ⟨by rfl, ?_⟩) (by assumption) ?_
  · intro wx hSw
    clear hSw hHeld; go_simp
  simp only [Act.put, List.setIfInBounds_toArray, List.set_cons_zero, List.set_cons_succ]
  refine wpAnyH_take (i := 7) (oi := { dst := some 20, op := Op.load 9 (Operand.tmp 19), type := 9, pos := "l9_version.go:361", after := #[{ on := 6, ground := Ground.data }, { on := 10, ground := Ground.gcOnly Departure.lateStores }], guard := none }) (v := .string mv) rfl (by kernel_rfl) (by kernel_rfl) (by kernel_rfl) (fun _ _ _ h => h) (Or.inl ⟨by rfl, ?_⟩) (by assumption) ?_
  · intro wx hSw
    have e0 := hSw.2.1 3 _ rfl; clear hHeld; go_simp
  simp only [Act.put, List.setIfInBounds_toArray, List.set_cons_zero, List.set_cons_succ]
  refine wpAnyH_ready (rs := [1]) (by kernel_rfl) (by simp) ?_
  refine AllReadyH.cons (o := { dst := some 14, op := Op.call { callee := Callee.value (Operand.func 48), args := #[Operand.tmp 13], argTypes := #[71] }, type := 25, pos := "l9_version.go:361", after := #[{ on := 0, ground := Ground.data }], guard := none }) rfl (fun K0 hK0 => ?_) AllReadyH.nil
  clear hHeld
  go_simp
  refine (version_any (w.heap.size + 1) bl _ _ hcu hl (by omega)).mono ?_
  rintro e j1 ⟨⟨nx, sq, u, l, rfl, vd⟩, hcu2, hch⟩
  have hkM := M.1
  have hkc := hB.size
  have hkR := R.1
  have hkb := hcu.lt
  replace M := hch.box M (by omega)
  replace R := hch.box R (by omega)
  replace hB := below_chg hB hch (fun k hk => by omega)
  have hcu := hcu2
  have ov := vd.o
  have HV : Hid (l.length ≤ 30 ∧ (∀ i (h : i < l.length), l[i].k.size ≤ 16 ∧ l[i].v.size ≤ 16) ∧ (0 ≤ nx ∧ nx ≤ 100001) ∧ 0 ≤ sq ∧ sq ≤ 1000000000) := ⟨vd.len, vd.sz, ⟨vd.x0, vd.x1⟩, vd.y0, vd.y1⟩
  clear vd hch hcu2
  replace ov := owns_mono' ov (show w.heap.size + 1 + 1 ≤ j0.heap.size from by omega)
  obtain ⟨va, vc, rfl⟩ := owns_shape ov
  refine hK0.out _ _ M (fun hHeld => ?_)
  clear hK0 K0
  refine wpAnyH_ready (rs := [3]) (by kernel_rfl) (by simp) ?_
  refine AllReadyH.cons (o := { dst := some 16, op := Op.call { callee := Callee.value (Operand.func 60), args := #[Operand.tmp 15, Operand.const (Value.int IntKind.i64 5)], argTypes := #[71, 3] }, type := 3, pos := "l9_version.go:361", after := #[{ on := 2, ground := Ground.data }, { on := 1, ground := Ground.chain }], guard := none }) rfl (fun K0 hK0 => ?_) AllReadyH.nil
  clear hHeld
  go_simp
  refine (pick_any (w.heap.size + 1) bl _ 5 _ hcu hl (by omega) (by omega)).mono ?_
  rintro e j2 ⟨⟨p, rfl, hp⟩, hcu2, hch⟩
  replace M := hch.box M (by omega)
  replace R := hch.box R (by omega)
  replace ov := hch.owns ov (fun g hg q => by have := owns_ge ov g hg; omega)
  replace hB := below_chg hB hch (fun k hk => by omega)
  have hcu := hcu2
  clear hch hcu2 hcu
  refine hK0.out _ _ M (fun hHeld => ?_)
  clear hK0 K0
  refine wpAnyH_ready (rs := [8]) (by kernel_rfl) (by simp) ?_
  refine AllReadyH.cons (o := { dst := none, op := Op.store 25 (Operand.tmp 2) (Operand.tmp 14), type := 0, pos := "l9_version.go:361", after := #[{ on := 1, ground := Ground.data }, { on := 3, ground := Ground.chain }, { on := 0, ground := Ground.phase }, { on := 1, ground := Ground.phase }, { on := 2, ground := Ground.textOnly Departure.lateStores }, { on := 3, ground := Ground.textOnly Departure.lateStoresUnsure }, { on := 4, ground := Ground.textOnly Departure.lateStores }, { on := 5, ground := Ground.textOnly Departure.lateStores }, { on := 6, ground := Ground.textOnly Departure.lateStores }, { on := 7, ground := Ground.textOnly Departure.lateStores }], guard := none }) rfl (fun K0 hK0 => ?_) AllReadyH.nil
  clear hHeld
  obtain ⟨hzl, z0, z1, z2, f0, f1, f2⟩ := R.c3
  have R' := put3_box R (.int .i64 nx) (.int .i64 sq) (.slice va l.length vc)
  have hch := put3_chg j2 w.heap.size (.int .i64 nx) (.int .i64 sq) (.slice va l.length vc)
  replace M := hch.box M (by omega)
  replace ov := hch.owns ov (fun g hg q => by have := owns_ge ov g hg; omega)
  replace hB := below_chg hB hch (fun k hk => by omega)
  clear hch R
  go_simp
  refine hK0.out _ (put3 j2 w.heap.size (.int .i64 nx) (.int .i64 sq) (.slice va l.length vc)) M (fun hHeld => ?_)
  clear hK0 K0 hzl z0 z1 z2 f0 f1 f2
  generalize put3 j2 w.heap.size (.int .i64 nx) (.int .i64 sq) (.slice va l.length vc) = j3 at *
  have R := R'
  clear R'
  refine wpAnyH_take (i := 9) (oi := { dst := some 3, op := Op.assign (Operand.tmp 16), type := 3, pos := "l9_version.go:361", after := #[{ on := 3, ground := Ground.data }, { on := 8, ground := Ground.chain }, { on := 0, ground := Ground.phase }, { on := 1, ground := Ground.phase }, { on := 2, ground := Ground.phase }, { on := 3, ground := Ground.phase }, { on := 4, ground := Ground.textOnly Departure.lateStores }, { on := 5, ground := Ground.textOnly Departure.lateStores }, { on := 6, ground := Ground.textOnly Departure.lateStores }, { on := 7, ground := Ground.textOnly Departure.lateStores }, { on := 8, ground := Ground.phase }], guard := none }) (v := .int .i64 p) rfl (by kernel_rfl) (by kernel_rfl) (by kernel_rfl) (fun _ _ _ h => h) (Or.inl ⟨by rfl, ?_⟩) (by assumption) ?_
  · intro wx hSw
    clear hSw hHeld; go_simp
  simp only [Act.put, List.setIfInBounds_toArray, List.set_cons_zero, List.set_cons_succ]
  refine wpAnyH_take (i := 10) (oi := { dst := some 4, op := Op.assign (Operand.tmp 18), type := 9, pos := "l9_version.go:361", after := #[{ on := 5, ground := Ground.data }, { on := 9, ground := Ground.chain }, { on := 0, ground := Ground.phase }, { on := 1, ground := Ground.phase }, { on := 2, ground := Ground.phase }, { on := 3, ground := Ground.phase }, { on := 4, ground := Ground.phase }, { on := 5, ground := Ground.phase }, { on := 6, ground := Ground.textOnly Departure.lateStores }, { on := 7, ground := Ground.textOnly Departure.lateStores }, { on := 8, ground := Ground.phase }, { on := 9, ground := Ground.phase }], guard := none }) (v := .string mk) rfl (by kernel_rfl) (by kernel_rfl) (by kernel_rfl) (fun _ _ _ h => h) (Or.inl ⟨by rfl, ?_⟩) (by assumption) ?_
  · intro wx hSw
    clear hSw hHeld; go_simp
  simp only [Act.put, List.setIfInBounds_toArray, List.set_cons_zero, List.set_cons_succ]
  refine wpAnyH_take (i := 11) (oi := { dst := some 5, op := Op.assign (Operand.tmp 20), type := 9, pos := "l9_version.go:361", after := #[{ on := 7, ground := Ground.data }, { on := 10, ground := Ground.chain }, { on := 0, ground := Ground.phase }, { on := 1, ground := Ground.phase }, { on := 2, ground := Ground.phase }, { on := 3, ground := Ground.phase }, { on := 4, ground := Ground.phase }, { on := 5, ground := Ground.phase }, { on := 6, ground := Ground.phase }, { on := 7, ground := Ground.phase }, { on := 8, ground := Ground.phase }, { on := 9, ground := Ground.phase }, { on := 10, ground := Ground.phase }], guard := none }) (v := .string mv) rfl (by kernel_rfl) (by kernel_rfl) (by kernel_rfl) (fun _ _ _ h => h) (Or.inl ⟨by rfl, ?_⟩) (by assumption) ?_
  · intro wx hSw
    clear hSw hHeld; go_simp
  simp only [Act.put, List.setIfInBounds_toArray, List.set_cons_zero, List.set_cons_succ]
  clear hHeld
  refine wpAnyH_done (by kernel_rfl) ?_ _
  obtain ⟨hrl, r0, r1, r2, _⟩ := R.c3
  have HP : Hid (DOIPost w _ _) := DOIPost.mk (x := nx) (y := sq) (u := .slice va l.length vc) (L := l) (p := p) (VD.mk (owns_mono' ov (by omega)) HV.out.1 HV.out.2.1 HV.out.2.2.1.1 HV.out.2.2.1.2 HV.out.2.2.2.1 HV.out.2.2.2.2) (by omega) hmk hmv hB
  clear ov hB
  go_wp2
  exact bodyPost_ret (v := .tuple #[.agg #[.int .i64 nx, .int .i64 sq, .slice va l.length vc], .int .i64 p, .string mk, .string mv]) (by simp [results, Try.results19, go_sem, r0, r1, r2]) rfl HP.out
end Go.Proofs.Ytenbdjlhcadhaaa
