/-
  A drawn version: the cursor's version.
-/
import Derived.Test.YtenbdjlhcadhaaaGreatVE
import Derived.Test.YtenbdjlhcadhaaaGreatAPSToLNew
import Derived.Deep.CutRange
namespace Go.Proofs.YtenbdjlhcadhaaaGreat
open Go.RowKit
set_option linter.unusedVariables false
set_option maxRecDepth 100000

theorem ap_good {nx sq : Int} {l : List Mt} {nx2 sq2 : Int} {dr : List Int} {ad : List Mt} (h : apB nx sq l nx2 sq2 dr ad = true) : goodV (apX nx sq l nx2 sq2 dr ad) (apY nx sq l nx2 sq2 dr ad) (apA nx sq l nx2 sq2 dr ad) = true := by
  unfold apX apY apA
  rw [h]
  simp only [if_true]
  unfold apB at h
  simp only [Bool.and_eq_true] at h
  exact h.2
/-- What is drawn of a version. -/
structure VD (w : World) (base : Nat) (x y : Int) (u : Value) (L : List Mt) : Prop where
  o : w.ownsRow base 71 4 u L.length (flat4 L)
  len : L.length ≤ 30
  sz : ∀ i (h : i < L.length), L[i].k.size ≤ 16 ∧ L[i].v.size ≤ 16
  x0 : 0 ≤ x
  x1 : x ≤ 100001
  y0 : 0 ≤ y
  y1 : y ≤ 1000000000
theorem goodV_bounds {x y : Int} {L : List Mt} (h : goodV x y L = true) : (1 ≤ x ∧ x ≤ 100001) ∧ (0 ≤ y ∧ y ≤ 1000000000) ∧ L.length ≤ 30 ∧ ∀ i (h : i < L.length), L[i].k.size ≤ 16 ∧ L[i].v.size ≤ 16 := by
  have h1 := goodV_ms h
  have h2 := goodV_len h
  unfold goodV okNext okSeq at h
  simp only [Bool.and_eq_true, decide_eq_true_eq] at h
  refine ⟨h.1.1.1, h.1.1.2, h2, fun i hi => ?_⟩
  have := okMt_key (goodMs_ok h1 hi)
  omega
def VerPost (b : Nat) (bl : List UInt8) (K : Nat) (w : World) (e : Ending) (w' : World) : Prop := (∃ (x y : Int) (u : Value) (L : List Mt), e = .returned (.agg #[.int .i64 x, .int .i64 y, u]) ∧ VD w' w.heap.size x y u L) ∧ Cur w' b bl (K + 2000) ∧ Chg (· = b) w w'
theorem VerPost.mk {b : Nat} {bl : List UInt8} {K : Nat} {w w' : World} {x y : Int} {u : Value} {L : List Mt} (h : VD w' w.heap.size x y u L) (hc : Cur w' b bl (K + 2000)) (hg : Chg (· = b) w w') : VerPost b bl K w (.returned (.agg #[.int .i64 x, .int .i64 y, u])) w' := ⟨⟨x, y, u, L, rfl, h⟩, hc, hg⟩
theorem flat4_lev (x : Mt) (r : List Mt) (z : Int) : (flat4 (x :: r)).set 1 (.int .i64 z) = flat4 (⟨x.n, z, x.k, x.v⟩ :: r) := by simp [flat4]
set_option maxHeartbeats 16000000 in
theorem version_any (b : Nat) (bl : List UInt8) (K : Nat) (w : World) (h : Cur w b bl K) (hl : bl.length ≤ 9223372036854775807) (hK : K ≤ 50000) : Calls Tryz.prog 20 #[.pointer (some ⟨b, 0, none⟩)] w (VerPost b bl K w) := by
  have hbw := h.lt
  have B0 := below_alloc w (.cells #[.int .i64 0, .int .i64 0, .slice none 0 0] 35)
  have R := Box.new w #[.int .i64 0, .int .i64 0, .slice none 0 0] 35
  have hcu := h.chg B0
  have hB : Chg (· = b) w (w.alloc (.cells #[.int .i64 0, .int .i64 0, .slice none 0 0] 35)) := Chg.of_below B0
  clear B0 h
  go_enter Tryz.func20, Tryz.ntmps20
  go_wp2_with fail
  refine (specNew_any _).mono ?_
  rintro e w1 ⟨rfl, hb1⟩
  replace R := R.below hb1
  replace hcu := hcu.chg hb1
  replace hB := hB.trans (Chg.of_below hb1)
  have hR1 := R.1
  clear hb1
  have X := Box.new w1 #[.int .i64 1, .int .i64 0, .slice none 0 0] 35
  have hA := below_alloc w1 (.cells #[.int .i64 1, .int .i64 0, .slice none 0 0] 35)
  have hbl := hcu.lt
  replace R := R.below hA
  replace hcu := hcu.chg hA
  replace hB := hB.trans (Chg.of_below hA)
  clear hA
  go_wp2_with fail
  obtain ⟨w2, hw2⟩ : ∃ w2, w2 = w1.alloc (.cells #[.int .i64 1, .int .i64 0, .slice none 0 0] 35) := ⟨_, rfl⟩
  rw [← hw2] at R hcu hB X ⊢
  obtain ⟨x0, hx0⟩ : ∃ x0, x0 = w1.heap.size := ⟨_, rfl⟩
  rw [← hx0] at X hR1 hbl ⊢
  clear hw2 hx0
  refine (pick_any b bl K 8 _ hcu hl (by omega) (by omega)).mono ?_
  rintro e w3 ⟨⟨p, rfl, hp⟩, hcu2, hch⟩
  replace X := hch.box X (by omega)
  replace R := hch.box R (by omega)
  replace hB := hB.trans hch
  have hcu := hcu2
  have hp7 : p ≤ 7 := by omega
  clear hch hcu2 hp
  go_wp2_with fail
  go_loopw [4] (fun i wr => ∃ (j : Nat) (nx sq : Int) (u : Value) (l : List Mt), j ≤ 7 ∧ i = .int .i64 j ∧ Box wr x0 [.int .i64 nx, .int .i64 sq, u] ∧ Box wr w.heap.size [.int .i64 0, .int .i64 0, .slice none 0 0] ∧ wr.ownsRow (x0 + 1) 71 4 u l.length (flat4 l) ∧ goodV nx sq l = true ∧ Cur wr b bl (K + 2 + 200 * (7 - j)) ∧ Chg (· = b) w wr) (fun i _ => (intOf i).toNat)
  case atStart => exact ⟨p, 1, 0, .slice none 0 0, [], hp7, rfl, X, R, World.ownsRow_nil _ _ _ _, by decide, hcu.mono (by omega), hB⟩
  case round =>
    clear X R hcu hB hp7
    obtain ⟨j, nx, sq, u, l, hj7, rfl, X, R, ov, hg, hcu, hB⟩ := hrel
    obtain ⟨va, vc, rfl⟩ := owns_shape ov
    obtain ⟨⟨hx1, hx2⟩, ⟨hs1, hs2⟩, h30, HLS0⟩ := goodV_bounds hg
    have HLS : Hid (∀ i (h : i < l.length), l[i].k.size ≤ 1048576 ∧ l[i].v.size ≤ 1048576) := fun i h => by have := HLS0 i h; omega
    have HL0 : Hid (∀ i (h : i < l.length), l[i].k.size ≤ 16 ∧ l[i].v.size ≤ 16) := HLS0
    have HGV : Hid (goodV nx sq l = true) := hg
    clear HLS0 hg
    by_cases hj0 : 0 < j
    · have gj : (0 : Int) < (j : Int) := by omega
      go_upto_region 5 with fail
      go_cut [5, 6] from 10 to 23 (fun s5 s6 wc => ∃ (y : Nat) (ok : Bool) (zx zy : Int) (za : Option Addr) (zc : Nat) (Lz : List Mt), s5 = .pointer (some ⟨y, 0, none⟩) ∧ s6 = .bool ok ∧ x0 < y ∧ Box wc x0 [.int .i64 nx, .int .i64 sq, .slice va l.length vc] ∧ Box wc w.heap.size [.int .i64 0, .int .i64 0, .slice none 0 0] ∧ Box wc y [.int .i64 zx, .int .i64 zy, .slice za Lz.length zc] ∧ wc.ownsRow (x0 + 1) 71 4 (.slice va l.length vc) l.length (flat4 l) ∧ wc.ownsRow (x0 + 1) 71 4 (.slice za Lz.length zc) Lz.length (flat4 Lz) ∧ (ok = true → goodV zx zy Lz = true) ∧ Cur wc b bl (K + 2 + 200 * (7 - (j - 1))) ∧ Chg (· = b) w wc)
      case first =>
        have ltov := owns_below_lt ov
        have hD : Below wr.heap.size wr wr.drew := (Below.refl _ _).drew
        replace X := X.below hD
        replace R := R.below hD
        replace ov := owns_below ov hD
        replace hcu := hcu.chg hD
        replace hB := hB.trans (Chg.of_below hD)
        clear hD
        refine wp_region_held_drew (S := fun w' => Box w' x0 [.int .i64 nx, .int .i64 sq, .slice va l.length vc]) (by kernel_rfl) X (fun hHeld => ?_)
        generalize wr.drew = k0 at *
        refine wpAnyH_take (i := 0) (oi := { dst := some 15, op := Op.load 35 (Operand.tmp 3), type := 35, pos := "l9_version.go:284", after := #[], guard := none }) (v := .agg #[.int .i64 nx, .int .i64 sq, .slice va l.length vc]) rfl (by kernel_rfl) (by kernel_rfl) (by kernel_rfl) (fun _ _ _ h => h) (Or.inl ⟨by rfl, ?_⟩) (by assumption) ?_
        · intro wx hSw
          have e0 := hSw.2.1 0 _ rfl; have e1 := hSw.2.1 1 _ rfl; have e2 := hSw.2.1 2 _ rfl; clear hHeld; go_simp
        simp only [Act.put, List.setIfInBounds_toArray, List.set_cons_zero, List.set_cons_succ]
        refine wpAnyH_take (i := 1) (oi := { dst := some 16, op := Op.move (Operand.tmp 0), type := 48, pos := "l9_version.go:284", after := #[], guard := none }) (v := .pointer (some ⟨b, 0, none⟩)) rfl (by kernel_rfl) (by kernel_rfl) (by kernel_rfl) (fun _ _ _ h => h) (Or.inl ⟨by rfl, ?_⟩) (by assumption) ?_
        · intro wx hSw
          clear hSw hHeld; go_simp
        simp only [Act.put, List.setIfInBounds_toArray, List.set_cons_zero, List.set_cons_succ]
        refine wpAnyH_take (i := 2) (oi := { dst := some 17, op := Op.load 35 (Operand.tmp 3), type := 35, pos := "l9_version.go:284", after := #[], guard := none }) (v := .agg #[.int .i64 nx, .int .i64 sq, .slice va l.length vc]) rfl (by kernel_rfl) (by kernel_rfl) (by kernel_rfl) (fun _ _ _ h => h) (Or.inl ⟨by rfl, ?_⟩) (by assumption) ?_
        · intro wx hSw
          have e0 := hSw.2.1 0 _ rfl; have e1 := hSw.2.1 1 _ rfl; have e2 := hSw.2.1 2 _ rfl; clear hHeld; go_simp
        simp only [Act.put, List.setIfInBounds_toArray, List.set_cons_zero, List.set_cons_succ]
        refine wpAnyH_ready (rs := [3, 8]) (by kernel_rfl) (by simp) ?_
        refine (AllReadyH.cons (o := { dst := some 18, op := Op.call { callee := Callee.value (Operand.func 19), args := #[Operand.tmp 16, Operand.tmp 17], argTypes := #[48, 35] }, type := 26, pos := "l9_version.go:284", after := #[{ on := 1, ground := Ground.data }, { on := 2, ground := Ground.data }], guard := none }) rfl (fun K0 hK0 => ?_) (AllReadyH.cons (o := { dst := some 5, op := Op.alloc 35, type := 0, pos := "l9_version.go:284", after := #[], guard := none }) rfl (fun K0 hK0 => ?_) AllReadyH.nil))
        · clear hHeld
          go_simp
          refine (edit_any b bl _ nx sq (.slice va l.length vc) (x0 + 1) l _ hcu hl (by omega) ov (by omega) (by omega) (by omega) (by omega) (by omega) (by omega)).mono ?_
          rintro e k1 ⟨⟨ex, ey, u1, u2, D, A, rfl, he⟩, hcu2, hch⟩
          have hkX := X.1
          obtain ⟨hsz, hsx, hcx⟩ : True ∧ True ∧ True := ⟨trivial, trivial, trivial⟩
          replace X := hch.box X (by omega)
          replace R := hch.box R (by omega)
          replace ov := hch.owns ov (fun g hg q => by have := owns_ge ov g hg; omega)
          replace hB := hB.trans hch
          have hcu := hcu2
          clear hch hcu2 hsz hsx hcx
          have oD := he.oD
          have oA := he.oA
          have hdl := he.dl
          have hal := he.al
          have HES : Hid (∀ i (h : i < A.length), A[i].k.size ≤ 1048576 ∧ A[i].v.size ≤ 1048576) := fun i h => by have := he.sz i h; omega
          obtain ⟨u1a, u1c, rfl⟩ := owns_shape oD
          obtain ⟨u2a, u2c, rfl⟩ := owns_shape oA
          clear he
          refine hK0.out _ _ X (fun hHeld => ?_)
          clear hK0 K0
          refine wpAnyH_ready (rs := [4, 8]) (by kernel_rfl) (by simp) ?_
          refine (AllReadyH.cons (o := { dst := some 19, op := Op.call { callee := Callee.value (Operand.func 32), args := #[Operand.tmp 15, Operand.tmp 18], argTypes := #[35, 26] }, type := 45, pos := "l9_version.go:284", after := #[{ on := 0, ground := Ground.data }, { on := 3, ground := Ground.data }, { on := 3, ground := Ground.chain }], guard := none }) rfl (fun K0 hK0 => ?_) (AllReadyH.cons (o := { dst := some 5, op := Op.alloc 35, type := 0, pos := "l9_version.go:284", after := #[], guard := none }) rfl (fun K0 hK0 => ?_) AllReadyH.nil))
          · clear hHeld
            go_simp
            refine (specApply_any nx sq ex ey (.slice va l.length vc) (.slice u1a D.length u1c) (.slice u2a A.length u2c) l D A _ (IX_of_owns ov rfl) (IL_of_owns oD rfl) (IR_of_owns oA rfl) (by omega) (by omega) (by omega) HLS.out HES.out).mono ?_
            rintro e k2 ⟨u, rfl, on, hb2⟩
            have hkX := X.1
            have hkc := hB.size
            clear oD oA
            replace ov := owns_below ov hb2
            replace X := X.below hb2
            replace R := R.below hb2
            replace hcu := hcu.chg hb2
            replace hB := hB.trans (Chg.of_below hb2)
            have HG : Hid (apB nx sq l ex ey D A = true → goodV (apX nx sq l ex ey D A) (apY nx sq l ex ey D A) (apA nx sq l ex ey D A) = true) := ap_good
            clear hb2
            generalize apB nx sq l ex ey D A = ok at *
            generalize apX nx sq l ex ey D A = zx at *
            generalize apY nx sq l ex ey D A = zy at *
            generalize apA nx sq l ex ey D A = Lz at *
            obtain ⟨za, zc, rfl⟩ := owns_shape on
            have lton := owns_ge on
            replace on := owns_mono' on (show x0 + 1 ≤ k1.heap.size from by omega)
            clear lton
            refine hK0.out _ _ X (fun hHeld => ?_)
            clear hK0 K0
            refine wpAnyH_take (i := 5) (oi := { dst := some 14, op := Op.move (Operand.tmp 19), type := 45, pos := "l9_version.go:284", after := #[{ on := 4, ground := Ground.data }], guard := none }) (v := .tuple #[.agg #[.int .i64 zx, .int .i64 zy, .slice za Lz.length zc], .bool ok]) rfl (by kernel_rfl) (by kernel_rfl) (by kernel_rfl) (fun _ _ _ h => h) (Or.inl ⟨by rfl, ?_⟩) (by assumption) ?_
            · intro wx hSw
              clear hSw hHeld; go_simp
            simp only [Act.put, List.setIfInBounds_toArray, List.set_cons_zero, List.set_cons_succ]
            refine wpAnyH_take (i := 6) (oi := { dst := some 20, op := Op.extract (Operand.tmp 14) 0, type := 35, pos := "l9_version.go:284", after := #[{ on := 5, ground := Ground.data }], guard := none }) (v := .agg #[.int .i64 zx, .int .i64 zy, .slice za Lz.length zc]) rfl (by kernel_rfl) (by kernel_rfl) (by kernel_rfl) (fun _ _ _ h => h) (Or.inl ⟨by rfl, ?_⟩) (by assumption) ?_
            · intro wx hSw
              clear hSw hHeld; go_simp
            simp only [Act.put, List.setIfInBounds_toArray, List.set_cons_zero, List.set_cons_succ]
            refine wpAnyH_take (i := 7) (oi := { dst := some 21, op := Op.extract (Operand.tmp 14) 1, type := 4, pos := "l9_version.go:284", after := #[{ on := 5, ground := Ground.data }, { on := 9, ground := Ground.gcOnly Departure.lateStores }], guard := none }) (v := .bool ok) rfl (by kernel_rfl) (by kernel_rfl) (by kernel_rfl) (fun _ _ _ h => h) (Or.inl ⟨by rfl, ?_⟩) (by assumption) ?_
            · intro wx hSw
              clear hSw hHeld; go_simp
            simp only [Act.put, List.setIfInBounds_toArray, List.set_cons_zero, List.set_cons_succ]
            refine wpAnyH_ready (rs := [8]) (by kernel_rfl) (by simp) ?_
            refine AllReadyH.cons (o := { dst := some 5, op := Op.alloc 35, type := 0, pos := "l9_version.go:284", after := #[], guard := none }) rfl (fun K0 hK0 => ?_) AllReadyH.nil
            clear hHeld
            have Z := Box.new k2 #[.int .i64 0, .int .i64 0, .slice none 0 0] 35
            have hkX := X.1
            have hkb := hcu.lt
            have ltov := owns_below_lt ov
            have lton := owns_below_lt on
            have hA := below_alloc k2 (.cells #[.int .i64 0, .int .i64 0, .slice none 0 0] 35)
            replace X := X.below hA
            replace R := R.below hA
            replace ov := owns_below ov hA
            replace on := owns_below on hA
            replace hcu := hcu.chg hA
            replace hB := hB.trans (Chg.of_below hA)
            clear hA
            go_simp
            refine hK0.out _ _ X (fun hHeld => ?_)
            clear hK0 K0
            generalize k2.alloc (.cells #[.int .i64 0, .int .i64 0, .slice none 0 0] 35) = k3 at *
            generalize k2.heap.size = y at *
            have hyl := Z.1
            have ney : ∀ g, (Value.slice za Lz.length zc).ownBlock = some g → ¬ g = y := fun g hg q => by have := lton g hg; omega
            refine wpAnyH_ready (rs := [9]) (by kernel_rfl) (by simp) ?_
            refine AllReadyH.cons (o := { dst := none, op := Op.store 35 (Operand.tmp 5) (Operand.tmp 20), type := 0, pos := "l9_version.go:284", after := #[{ on := 8, ground := Ground.data }, { on := 6, ground := Ground.data }, { on := 4, ground := Ground.chain }, { on := 0, ground := Ground.phase }, { on := 1, ground := Ground.phase }, { on := 2, ground := Ground.phase }, { on := 3, ground := Ground.phase }, { on := 4, ground := Ground.phase }, { on := 5, ground := Ground.phase }, { on := 6, ground := Ground.phase }, { on := 7, ground := Ground.textOnly Departure.lateStores }, { on := 8, ground := Ground.phase }], guard := none }) rfl (fun K0 hK0 => ?_) AllReadyH.nil
            clear hHeld
            obtain ⟨hzl, z0, z1, z2, f0, f1, f2⟩ := Z.c3
            have Z2 := put3_box Z (.int .i64 zx) (.int .i64 zy) (.slice za Lz.length zc)
            have hch := put3_chg k3 y (.int .i64 zx) (.int .i64 zy) (.slice za Lz.length zc)
            have X2 := hch.box X (by omega)
            have R2 := hch.box R (by omega)
            have ov2 := hch.owns ov (fun g hg q => by have := ltov g hg; omega)
            have on2 := hch.owns on (fun g hg q => ney g hg q)
            have BP := hch.below (B := w.heap.size) (by have := hB.size; omega) (fun k hk => by omega)
            have hcu2 := cur_low hcu hbw BP
            have hB2 := chg_below hB BP
            clear hch BP X R Z hcu hB ov on
            go_simp
            refine hK0.out _ (put3 k3 y (.int .i64 zx) (.int .i64 zy) (.slice za Lz.length zc)) X2 (fun hHeld => ?_)
            clear hK0 K0 hzl z0 z1 z2 f0 f1 f2
            generalize put3 k3 y (.int .i64 zx) (.int .i64 zy) (.slice za Lz.length zc) = kz at *
            refine wpAnyH_take (i := 10) (oi := { dst := some 6, op := Op.assign (Operand.tmp 21), type := 4, pos := "l9_version.go:284", after := #[{ on := 7, ground := Ground.data }, { on := 9, ground := Ground.chain }, { on := 0, ground := Ground.phase }, { on := 1, ground := Ground.phase }, { on := 2, ground := Ground.phase }, { on := 3, ground := Ground.phase }, { on := 4, ground := Ground.phase }, { on := 5, ground := Ground.phase }, { on := 6, ground := Ground.phase }, { on := 7, ground := Ground.phase }, { on := 8, ground := Ground.phase }, { on := 9, ground := Ground.phase }], guard := none }) (v := .bool ok) rfl (by kernel_rfl) (by kernel_rfl) (by kernel_rfl) (fun _ _ _ h => h) (Or.inl ⟨by rfl, ?_⟩) (by assumption) ?_
            · intro wx hSw
              clear hSw hHeld; go_simp
            simp only [Act.put, List.setIfInBounds_toArray, List.set_cons_zero, List.set_cons_succ]
            clear hHeld
            refine wpAnyH_done (by kernel_rfl) ?_ _
            go_wp2_with fail
            go_meet
            exact ⟨y, ok, zx, zy, za, zc, Lz, rfl, rfl, by omega, X2, R2, Z2, ov2, on2, HG.out, hcu2.mono (by omega), hB2⟩
          · clear hHeld
            have Z := Box.new k1 #[.int .i64 0, .int .i64 0, .slice none 0 0] 35
            have hkX := X.1
            have hkb := hcu.lt
            have ltov := owns_below_lt ov
            have ltoD := owns_below_lt oD
            have ltoA := owns_below_lt oA
            have hA := below_alloc k1 (.cells #[.int .i64 0, .int .i64 0, .slice none 0 0] 35)
            replace X := X.below hA
            replace R := R.below hA
            replace ov := owns_below ov hA
            replace oD := owns_below oD hA
            replace oA := owns_below oA hA
            replace hcu := hcu.chg hA
            replace hB := hB.trans (Chg.of_below hA)
            clear hA
            go_simp
            refine hK0.out _ _ X (fun hHeld => ?_)
            clear hK0 K0
            generalize k1.alloc (.cells #[.int .i64 0, .int .i64 0, .slice none 0 0] 35) = k2 at *
            generalize k1.heap.size = y at *
            have hyl := Z.1
            refine wpAnyH_ready (rs := [4]) (by kernel_rfl) (by simp) ?_
            refine (AllReadyH.cons (o := { dst := some 19, op := Op.call { callee := Callee.value (Operand.func 32), args := #[Operand.tmp 15, Operand.tmp 18], argTypes := #[35, 26] }, type := 45, pos := "l9_version.go:284", after := #[{ on := 0, ground := Ground.data }, { on := 3, ground := Ground.data }, { on := 3, ground := Ground.chain }], guard := none }) rfl (fun K0 hK0 => ?_) AllReadyH.nil)
            clear hHeld
            go_simp
            refine (specApply_any nx sq ex ey (.slice va l.length vc) (.slice u1a D.length u1c) (.slice u2a A.length u2c) l D A _ (IX_of_owns ov rfl) (IL_of_owns oD rfl) (IR_of_owns oA rfl) (by omega) (by omega) (by omega) HLS.out HES.out).mono ?_
            rintro e k3 ⟨u, rfl, on, hb2⟩
            have hkX := X.1
            have hyl2 := Z.1
            have hkc := hB.size
            clear oD oA
            replace ov := owns_below ov hb2
            replace X := X.below hb2
            replace R := R.below hb2
            replace Z := Z.below hb2
            replace hcu := hcu.chg hb2
            replace hB := hB.trans (Chg.of_below hb2)
            have HG : Hid (apB nx sq l ex ey D A = true → goodV (apX nx sq l ex ey D A) (apY nx sq l ex ey D A) (apA nx sq l ex ey D A) = true) := ap_good
            clear hb2
            generalize apB nx sq l ex ey D A = ok at *
            generalize apX nx sq l ex ey D A = zx at *
            generalize apY nx sq l ex ey D A = zy at *
            generalize apA nx sq l ex ey D A = Lz at *
            obtain ⟨za, zc, rfl⟩ := owns_shape on
            have lton := owns_ge on
            replace on := owns_mono' on (show x0 + 1 ≤ k2.heap.size from by omega)
            have ney : ∀ g, (Value.slice za Lz.length zc).ownBlock = some g → ¬ g = y := fun g hg q => by have := lton g hg; omega
            clear lton
            refine hK0.out _ _ X (fun hHeld => ?_)
            clear hK0 K0
            refine wpAnyH_take (i := 5) (oi := { dst := some 14, op := Op.move (Operand.tmp 19), type := 45, pos := "l9_version.go:284", after := #[{ on := 4, ground := Ground.data }], guard := none }) (v := .tuple #[.agg #[.int .i64 zx, .int .i64 zy, .slice za Lz.length zc], .bool ok]) rfl (by kernel_rfl) (by kernel_rfl) (by kernel_rfl) (fun _ _ _ h => h) (Or.inl ⟨by rfl, ?_⟩) (by assumption) ?_
            · intro wx hSw
              clear hSw hHeld; go_simp
            simp only [Act.put, List.setIfInBounds_toArray, List.set_cons_zero, List.set_cons_succ]
            refine wpAnyH_take (i := 6) (oi := { dst := some 20, op := Op.extract (Operand.tmp 14) 0, type := 35, pos := "l9_version.go:284", after := #[{ on := 5, ground := Ground.data }], guard := none }) (v := .agg #[.int .i64 zx, .int .i64 zy, .slice za Lz.length zc]) rfl (by kernel_rfl) (by kernel_rfl) (by kernel_rfl) (fun _ _ _ h => h) (Or.inl ⟨by rfl, ?_⟩) (by assumption) ?_
            · intro wx hSw
              clear hSw hHeld; go_simp
            simp only [Act.put, List.setIfInBounds_toArray, List.set_cons_zero, List.set_cons_succ]
            refine wpAnyH_take (i := 7) (oi := { dst := some 21, op := Op.extract (Operand.tmp 14) 1, type := 4, pos := "l9_version.go:284", after := #[{ on := 5, ground := Ground.data }, { on := 9, ground := Ground.gcOnly Departure.lateStores }], guard := none }) (v := .bool ok) rfl (by kernel_rfl) (by kernel_rfl) (by kernel_rfl) (fun _ _ _ h => h) (Or.inl ⟨by rfl, ?_⟩) (by assumption) ?_
            · intro wx hSw
              clear hSw hHeld; go_simp
            simp only [Act.put, List.setIfInBounds_toArray, List.set_cons_zero, List.set_cons_succ]
            refine wpAnyH_ready (rs := [9]) (by kernel_rfl) (by simp) ?_
            refine AllReadyH.cons (o := { dst := none, op := Op.store 35 (Operand.tmp 5) (Operand.tmp 20), type := 0, pos := "l9_version.go:284", after := #[{ on := 8, ground := Ground.data }, { on := 6, ground := Ground.data }, { on := 4, ground := Ground.chain }, { on := 0, ground := Ground.phase }, { on := 1, ground := Ground.phase }, { on := 2, ground := Ground.phase }, { on := 3, ground := Ground.phase }, { on := 4, ground := Ground.phase }, { on := 5, ground := Ground.phase }, { on := 6, ground := Ground.phase }, { on := 7, ground := Ground.textOnly Departure.lateStores }, { on := 8, ground := Ground.phase }], guard := none }) rfl (fun K0 hK0 => ?_) AllReadyH.nil
            clear hHeld
            obtain ⟨hzl, z0, z1, z2, f0, f1, f2⟩ := Z.c3
            have Z2 := put3_box Z (.int .i64 zx) (.int .i64 zy) (.slice za Lz.length zc)
            have hch := put3_chg k3 y (.int .i64 zx) (.int .i64 zy) (.slice za Lz.length zc)
            have X2 := hch.box X (by omega)
            have R2 := hch.box R (by omega)
            have ov2 := hch.owns ov (fun g hg q => by have := ltov g hg; omega)
            have on2 := hch.owns on (fun g hg q => ney g hg q)
            have BP := hch.below (B := w.heap.size) (by have := hB.size; omega) (fun k hk => by omega)
            have hcu2 := cur_low hcu hbw BP
            have hB2 := chg_below hB BP
            clear hch BP X R Z hcu hB ov on
            go_simp
            refine hK0.out _ (put3 k3 y (.int .i64 zx) (.int .i64 zy) (.slice za Lz.length zc)) X2 (fun hHeld => ?_)
            clear hK0 K0 hzl z0 z1 z2 f0 f1 f2
            generalize put3 k3 y (.int .i64 zx) (.int .i64 zy) (.slice za Lz.length zc) = kz at *
            refine wpAnyH_take (i := 10) (oi := { dst := some 6, op := Op.assign (Operand.tmp 21), type := 4, pos := "l9_version.go:284", after := #[{ on := 7, ground := Ground.data }, { on := 9, ground := Ground.chain }, { on := 0, ground := Ground.phase }, { on := 1, ground := Ground.phase }, { on := 2, ground := Ground.phase }, { on := 3, ground := Ground.phase }, { on := 4, ground := Ground.phase }, { on := 5, ground := Ground.phase }, { on := 6, ground := Ground.phase }, { on := 7, ground := Ground.phase }, { on := 8, ground := Ground.phase }, { on := 9, ground := Ground.phase }], guard := none }) (v := .bool ok) rfl (by kernel_rfl) (by kernel_rfl) (by kernel_rfl) (fun _ _ _ h => h) (Or.inl ⟨by rfl, ?_⟩) (by assumption) ?_
            · intro wx hSw
              clear hSw hHeld; go_simp
            simp only [Act.put, List.setIfInBounds_toArray, List.set_cons_zero, List.set_cons_succ]
            clear hHeld
            refine wpAnyH_done (by kernel_rfl) ?_ _
            go_wp2_with fail
            go_meet
            exact ⟨y, ok, zx, zy, za, zc, Lz, rfl, rfl, by omega, X2, R2, Z2, ov2, on2, HG.out, hcu2.mono (by omega), hB2⟩
        · clear hHeld
          have Z := Box.new k0 #[.int .i64 0, .int .i64 0, .slice none 0 0] 35
          have hkX := X.1
          have hkb := hcu.lt
          have ltov := owns_below_lt ov
          have hA := below_alloc k0 (.cells #[.int .i64 0, .int .i64 0, .slice none 0 0] 35)
          replace X := X.below hA
          replace R := R.below hA
          replace ov := owns_below ov hA
          replace hcu := hcu.chg hA
          replace hB := hB.trans (Chg.of_below hA)
          clear hA
          go_simp
          refine hK0.out _ _ X (fun hHeld => ?_)
          clear hK0 K0
          generalize k0.alloc (.cells #[.int .i64 0, .int .i64 0, .slice none 0 0] 35) = k1 at *
          generalize k0.heap.size = y at *
          have hyl := Z.1
          refine wpAnyH_ready (rs := [3]) (by kernel_rfl) (by simp) ?_
          refine (AllReadyH.cons (o := { dst := some 18, op := Op.call { callee := Callee.value (Operand.func 19), args := #[Operand.tmp 16, Operand.tmp 17], argTypes := #[48, 35] }, type := 26, pos := "l9_version.go:284", after := #[{ on := 1, ground := Ground.data }, { on := 2, ground := Ground.data }], guard := none }) rfl (fun K0 hK0 => ?_) AllReadyH.nil)
          clear hHeld
          go_simp
          refine (edit_any b bl _ nx sq (.slice va l.length vc) (x0 + 1) l _ hcu hl (by omega) ov (by omega) (by omega) (by omega) (by omega) (by omega) (by omega)).mono ?_
          rintro e k2 ⟨⟨ex, ey, u1, u2, D, A, rfl, he⟩, hcu2, hch⟩
          have hkX := X.1
          obtain ⟨hsz, hsx, hcx⟩ : True ∧ True ∧ True := ⟨trivial, trivial, trivial⟩
          replace X := hch.box X (by omega)
          replace R := hch.box R (by omega)
          replace ov := hch.owns ov (fun g hg q => by have := owns_ge ov g hg; omega)
          replace Z := hch.box Z (by omega)
          replace hB := hB.trans hch
          have hcu := hcu2
          clear hch hcu2 hsz hsx hcx
          have oD := he.oD
          have oA := he.oA
          have hdl := he.dl
          have hal := he.al
          have HES : Hid (∀ i (h : i < A.length), A[i].k.size ≤ 1048576 ∧ A[i].v.size ≤ 1048576) := fun i h => by have := he.sz i h; omega
          obtain ⟨u1a, u1c, rfl⟩ := owns_shape oD
          obtain ⟨u2a, u2c, rfl⟩ := owns_shape oA
          clear he
          refine hK0.out _ _ X (fun hHeld => ?_)
          clear hK0 K0
          refine wpAnyH_ready (rs := [4]) (by kernel_rfl) (by simp) ?_
          refine (AllReadyH.cons (o := { dst := some 19, op := Op.call { callee := Callee.value (Operand.func 32), args := #[Operand.tmp 15, Operand.tmp 18], argTypes := #[35, 26] }, type := 45, pos := "l9_version.go:284", after := #[{ on := 0, ground := Ground.data }, { on := 3, ground := Ground.data }, { on := 3, ground := Ground.chain }], guard := none }) rfl (fun K0 hK0 => ?_) AllReadyH.nil)
          clear hHeld
          go_simp
          refine (specApply_any nx sq ex ey (.slice va l.length vc) (.slice u1a D.length u1c) (.slice u2a A.length u2c) l D A _ (IX_of_owns ov rfl) (IL_of_owns oD rfl) (IR_of_owns oA rfl) (by omega) (by omega) (by omega) HLS.out HES.out).mono ?_
          rintro e k3 ⟨u, rfl, on, hb2⟩
          have hkX := X.1
          have hyl2 := Z.1
          have hkc := hB.size
          clear oD oA
          replace ov := owns_below ov hb2
          replace X := X.below hb2
          replace R := R.below hb2
          replace Z := Z.below hb2
          replace hcu := hcu.chg hb2
          replace hB := hB.trans (Chg.of_below hb2)
          have HG : Hid (apB nx sq l ex ey D A = true → goodV (apX nx sq l ex ey D A) (apY nx sq l ex ey D A) (apA nx sq l ex ey D A) = true) := ap_good
          clear hb2
          generalize apB nx sq l ex ey D A = ok at *
          generalize apX nx sq l ex ey D A = zx at *
          generalize apY nx sq l ex ey D A = zy at *
          generalize apA nx sq l ex ey D A = Lz at *
          obtain ⟨za, zc, rfl⟩ := owns_shape on
          have lton := owns_ge on
          replace on := owns_mono' on (show x0 + 1 ≤ k2.heap.size from by omega)
          have ney : ∀ g, (Value.slice za Lz.length zc).ownBlock = some g → ¬ g = y := fun g hg q => by have := lton g hg; omega
          clear lton
          refine hK0.out _ _ X (fun hHeld => ?_)
          clear hK0 K0
          refine wpAnyH_take (i := 5) (oi := { dst := some 14, op := Op.move (Operand.tmp 19), type := 45, pos := "l9_version.go:284", after := #[{ on := 4, ground := Ground.data }], guard := none }) (v := .tuple #[.agg #[.int .i64 zx, .int .i64 zy, .slice za Lz.length zc], .bool ok]) rfl (by kernel_rfl) (by kernel_rfl) (by kernel_rfl) (fun _ _ _ h => h) (Or.inl ⟨by rfl, ?_⟩) (by assumption) ?_
          · intro wx hSw
            clear hSw hHeld; go_simp
          simp only [Act.put, List.setIfInBounds_toArray, List.set_cons_zero, List.set_cons_succ]
          refine wpAnyH_take (i := 6) (oi := { dst := some 20, op := Op.extract (Operand.tmp 14) 0, type := 35, pos := "l9_version.go:284", after := #[{ on := 5, ground := Ground.data }], guard := none }) (v := .agg #[.int .i64 zx, .int .i64 zy, .slice za Lz.length zc]) rfl (by kernel_rfl) (by kernel_rfl) (by kernel_rfl) (fun _ _ _ h => h) (Or.inl ⟨by rfl, ?_⟩) (by assumption) ?_
          · intro wx hSw
            clear hSw hHeld; go_simp
          simp only [Act.put, List.setIfInBounds_toArray, List.set_cons_zero, List.set_cons_succ]
          refine wpAnyH_take (i := 7) (oi := { dst := some 21, op := Op.extract (Operand.tmp 14) 1, type := 4, pos := "l9_version.go:284", after := #[{ on := 5, ground := Ground.data }, { on := 9, ground := Ground.gcOnly Departure.lateStores }], guard := none }) (v := .bool ok) rfl (by kernel_rfl) (by kernel_rfl) (by kernel_rfl) (fun _ _ _ h => h) (Or.inl ⟨by rfl, ?_⟩) (by assumption) ?_
          · intro wx hSw
            clear hSw hHeld; go_simp
          simp only [Act.put, List.setIfInBounds_toArray, List.set_cons_zero, List.set_cons_succ]
          refine wpAnyH_ready (rs := [9]) (by kernel_rfl) (by simp) ?_
          refine AllReadyH.cons (o := { dst := none, op := Op.store 35 (Operand.tmp 5) (Operand.tmp 20), type := 0, pos := "l9_version.go:284", after := #[{ on := 8, ground := Ground.data }, { on := 6, ground := Ground.data }, { on := 4, ground := Ground.chain }, { on := 0, ground := Ground.phase }, { on := 1, ground := Ground.phase }, { on := 2, ground := Ground.phase }, { on := 3, ground := Ground.phase }, { on := 4, ground := Ground.phase }, { on := 5, ground := Ground.phase }, { on := 6, ground := Ground.phase }, { on := 7, ground := Ground.textOnly Departure.lateStores }, { on := 8, ground := Ground.phase }], guard := none }) rfl (fun K0 hK0 => ?_) AllReadyH.nil
          clear hHeld
          obtain ⟨hzl, z0, z1, z2, f0, f1, f2⟩ := Z.c3
          have Z2 := put3_box Z (.int .i64 zx) (.int .i64 zy) (.slice za Lz.length zc)
          have hch := put3_chg k3 y (.int .i64 zx) (.int .i64 zy) (.slice za Lz.length zc)
          have X2 := hch.box X (by omega)
          have R2 := hch.box R (by omega)
          have ov2 := hch.owns ov (fun g hg q => by have := ltov g hg; omega)
          have on2 := hch.owns on (fun g hg q => ney g hg q)
          have BP := hch.below (B := w.heap.size) (by have := hB.size; omega) (fun k hk => by omega)
          have hcu2 := cur_low hcu hbw BP
          have hB2 := chg_below hB BP
          clear hch BP X R Z hcu hB ov on
          go_simp
          refine hK0.out _ (put3 k3 y (.int .i64 zx) (.int .i64 zy) (.slice za Lz.length zc)) X2 (fun hHeld => ?_)
          clear hK0 K0 hzl z0 z1 z2 f0 f1 f2
          generalize put3 k3 y (.int .i64 zx) (.int .i64 zy) (.slice za Lz.length zc) = kz at *
          refine wpAnyH_take (i := 10) (oi := { dst := some 6, op := Op.assign (Operand.tmp 21), type := 4, pos := "l9_version.go:284", after := #[{ on := 7, ground := Ground.data }, { on := 9, ground := Ground.chain }, { on := 0, ground := Ground.phase }, { on := 1, ground := Ground.phase }, { on := 2, ground := Ground.phase }, { on := 3, ground := Ground.phase }, { on := 4, ground := Ground.phase }, { on := 5, ground := Ground.phase }, { on := 6, ground := Ground.phase }, { on := 7, ground := Ground.phase }, { on := 8, ground := Ground.phase }, { on := 9, ground := Ground.phase }], guard := none }) (v := .bool ok) rfl (by kernel_rfl) (by kernel_rfl) (by kernel_rfl) (fun _ _ _ h => h) (Or.inl ⟨by rfl, ?_⟩) (by assumption) ?_
          · intro wx hSw
            clear hSw hHeld; go_simp
          simp only [Act.put, List.setIfInBounds_toArray, List.set_cons_zero, List.set_cons_succ]
          clear hHeld
          refine wpAnyH_done (by kernel_rfl) ?_ _
          go_wp2_with fail
          go_meet
          exact ⟨y, ok, zx, zy, za, zc, Lz, rfl, rfl, by omega, X2, R2, Z2, ov2, on2, HG.out, hcu2.mono (by omega), hB2⟩
      case rest =>
        clear X R ov hcu hB
        obtain ⟨y, ok, zx, zy, za, zc, Lz, rfl, rfl, hxy, X, R, Z, ov, on, hg, hcu, hB⟩ := hcut
        cases ok with
        | false =>
          clear hg on Z
          go_wp2
          go_roundw
          case rel => exact ⟨j - 1, nx, sq, _, l, by omega, by go_num, X, R, ov, HGV.out, hcu, hB⟩
          case measure => simp [intOf]; omega
        | true =>
          have HG2 : Hid (goodV zx zy Lz = true) := hg rfl
          have X2 := put3_box X (.int .i64 zx) (.int .i64 zy) (.slice za Lz.length zc)
          have hch := put3_chg wc x0 (.int .i64 zx) (.int .i64 zy) (.slice za Lz.length zc)
          have R2 := hch.box R (by omega)
          have on2 := hch.owns on (fun g hg q => by have := owns_ge on g hg; omega)
          have BP := hch.below (B := w.heap.size) (by have := hB.size; omega) (fun k hk => by omega)
          have hcu2 := cur_low hcu hbw BP
          have hB2 := chg_below hB BP
          obtain ⟨hzl, z0, z1, z2, _⟩ := Z.c3
          obtain ⟨hxl, x1, x2, x3, f0, f1, f2⟩ := X.c3
          clear hch BP R hcu hB ov on hg X Z
          go_wp2
          go_roundw
          case rel => exact ⟨j - 1, zx, zy, _, Lz, by omega, by go_num, X2, R2, on2, HG2.out, hcu2, hB2⟩
          case measure => simp [intOf]; omega
    · obtain rfl : j = 0 := by omega
      replace hcu := hcu.mono (show K + 2 + 200 * (7 - 0) ≤ K + 1500 by omega)
      clear hj7 hj0 HLS
      go_wp2_with fail
      refine (pick_any b bl _ 40 _ hcu hl (by omega) (by omega)).mono ?_
      rintro e w4 ⟨⟨q, rfl, hq⟩, hcu2, hch⟩
      replace X := hch.box X (by omega)
      replace R := hch.box R (by omega)
      replace ov := hch.owns ov (fun g hg q => by have := owns_ge ov g hg; omega)
      replace hB := hB.trans hch
      have hcu := hcu2
      clear hch hcu2
      by_cases hq0 : q = 0
      · subst hq0
        have T3 := Box.new w4 #[.int .i64 0, .int .i64 1, .int .i64 100001] 3
        have hA := below_alloc w4 (.cells #[.int .i64 0, .int .i64 1, .int .i64 100001] 3)
        have hb4 := hcu.lt
        replace X := X.below hA
        replace R := R.below hA
        replace ov := owns_below ov hA
        replace hcu := hcu.chg hA
        replace hB := hB.trans (Chg.of_below hA)
        clear hA
        go_wp2_with fail
        refine (among_any b bl _ w4.heap.size [0, 1, 100001] _ hcu hl (by omega) T3 (by omega) (by decide) (by decide)).mono ?_
        rintro e w5 ⟨⟨z, rfl, hz⟩, hcu2, hch⟩
        have hz2 : 0 ≤ z ∧ z ≤ 100001 := by
          simp only [List.mem_cons, List.not_mem_nil, or_false] at hz
          omega
        replace X := hch.box X (by omega)
        replace R := hch.box R (by omega)
        replace ov := hch.owns ov (fun g hg q => by have := owns_ge ov g hg; omega)
        replace hB := hB.trans hch
        have hcu := hcu2
        clear hch hcu2 hz T3 hb4 hq
        obtain ⟨hxl, c0, c1, c2, f0, f1, f2⟩ := X.c3
        have hch : Chg (fun j => j = x0) w5 (w5.setCell ⟨x0, 0, none⟩ (.int .i64 z)) := Chg.setCell (S := fun j => j = x0) (p := ⟨x0, 0, none⟩) (Chg.refl _ _) rfl _
        have X2 := X.set 0 (.int .i64 z) (by simp)
        simp only [List.set_cons_zero] at X2
        have R2 := hch.box R (by omega)
        have ov2 := hch.owns ov (fun g hg q => by have := owns_ge ov g hg; omega)
        have BP := hch.below (B := w.heap.size) (by have := hB.size; omega) (fun k hk => by omega)
        have hcu2 := cur_low hcu hbw BP
        have hB2 := chg_below hB BP
        clear hch X R ov hB hcu BP
        go_upto_region 14 with fail
        clear hxl c0 c1 c2 f0 f1 f2
        generalize w5.setCell ⟨x0, 0, none⟩ (.int .i64 z) = w6 at *
        have X := X2
        have R := R2
        have ov := ov2
        have hcu := hcu2
        have hB := hB2
        clear X2 R2 ov2 hcu2 hB2
        obtain ⟨hxl, c0, c1, c2, _⟩ := X.c3
        obtain ⟨hrl, r0, r1, r2, f0, f1, f2⟩ := R.c3
        have hch := put3_chg w6 w.heap.size (.int .i64 z) (.int .i64 sq) (.slice va l.length vc)
        have ov2 := hch.owns ov (fun g hg q => by have := owns_ge ov g hg; omega)
        have BP := hch.below (B := w.heap.size) (by have := hB.size; omega) (fun k hk => by omega)
        have hcu2 := cur_low hcu hbw BP
        have hB2 := chg_below hB BP
        have HV : Hid (VD _ w.heap.size z sq (.slice va l.length vc) l) := ⟨owns_mono' ov2 (by omega), h30, HL0.out, by omega, by omega, by omega, by omega⟩
        clear hch BP X R hcu hB ov ov2
        go_wp2
        exact bodyPost_ret (v := .agg #[.int .i64 z, .int .i64 sq, .slice va l.length vc]) (by simp [results, Tryz.results20, go_sem, r0, r1, r2]) rfl (VerPost.mk HV.out (hcu2.mono (by omega)) hB2)
      · have gq0 : ¬ (q : Int) = 0 := by omega
        have gq0b : ((q : Int) == 0) = false := by simp; omega
        by_cases hq1 : q = 1
        · subst hq1
          obtain ⟨hxl, c0, c1, c2, f0, f1, f2⟩ := X.c3
          cases l with
          | nil =>
            have gl : (([] : List Mt).length : Int) = 0 := rfl
            simp only [List.length_nil] at ov c2 X ⊢
            go_upto_region 14 with fail
            clear hxl c0 c1 c2 f0 f1 f2
            obtain ⟨hxl, c0, c1, c2, _⟩ := X.c3
            obtain ⟨hrl, r0, r1, r2, f0, f1, f2⟩ := R.c3
            have hch := put3_chg w4 w.heap.size (.int .i64 nx) (.int .i64 sq) (.slice va 0 vc)
            have ov2 := hch.owns ov (fun g hg q => by have := owns_ge ov g hg; omega)
            have BP := hch.below (B := w.heap.size) (by have := hB.size; omega) (fun k hk => by omega)
            have hcu2 := cur_low hcu hbw BP
            have hB2 := chg_below hB BP
            have HV : Hid (VD _ w.heap.size nx sq (.slice va 0 vc) []) := ⟨owns_mono' ov2 (by omega), by simp, fun i h => by simp at h, by omega, by omega, by omega, by omega⟩
            clear hch BP X R hcu hB ov ov2
            go_wp2
            exact bodyPost_ret (v := .agg #[.int .i64 nx, .int .i64 sq, .slice va 0 vc]) (by simp [results, Tryz.results20, go_sem, r0, r1, r2]) rfl (VerPost.mk HV.out (hcu2.mono (by omega)) hB2)
          | cons m r =>
            have gl : (0 : Int) < ((m :: r).length : Int) := by simp only [List.length_cons]; omega
            have gn : 0 < (m :: r).length := by simp only [List.length_cons]; omega
            obtain ⟨gb, rfl⟩ : ∃ gb, va = some ⟨gb, 0, none⟩ := by
              rcases ov.2 with ⟨q, q2⟩ | ⟨g, cap, cur, q, _⟩
              · simp at q2
              · simp only [Value.slice.injEq] at q; exact ⟨g, q.1⟩
            have hgg := owns_ge ov gb rfl
            have HL1 : Hid (∀ (z : Int) i (h : i < (⟨m.n, z, m.k, m.v⟩ :: r : List Mt).length), (⟨m.n, z, m.k, m.v⟩ :: r : List Mt)[i].k.size ≤ 16 ∧ (⟨m.n, z, m.k, m.v⟩ :: r : List Mt)[i].v.size ≤ 16) := fun z i h => by
              have := HL0.out i (by simpa using h)
              cases i with
              | zero => exact this
              | succ i => exact this
            have hnl : ∀ z : Int, (⟨m.n, z, m.k, m.v⟩ :: r : List Mt).length = (m :: r).length := fun z => rfl
            obtain ⟨nl, hnl2⟩ : ∃ nl, nl = (m :: r).length := ⟨_, rfl⟩
            rw [← hnl2] at ov X c2 gl gn h30
            have HNL : Hid (nl = (m :: r).length) := hnl2
            clear hnl2
            go_upto_region 13 with fail
            clear hxl c0 c1 c2 f0 f1 f2
            have hD : Below w4.heap.size w4 w4.drew := (Below.refl _ _).drew
            replace X := X.below hD
            replace R := R.below hD
            replace ov := owns_below ov hD
            replace hcu := hcu.chg hD
            replace hB := hB.trans (Chg.of_below hD)
            clear hD
            refine wp_region_held_drew (S := fun w' => w'.cell? ⟨x0, 2, none⟩ = some (.slice (some ⟨gb, 0, none⟩) nl vc)) (by kernel_rfl) (X.2.1 2 _ rfl) (fun hHeld => ?_)
            generalize w4.drew = k0 at *
            refine wpAnyH_take (i := 0) (oi := { dst := some 38, op := Op.fieldAddr 35 (Operand.tmp 3) 2, type := 0, pos := "l9_version.go:293", after := #[], guard := none }) (v := .pointer (some ⟨x0, 2, none⟩)) rfl (by kernel_rfl) (by kernel_rfl) (by kernel_rfl) (fun _ _ _ h => h) (Or.inl ⟨by rfl, ?_⟩) (by assumption) ?_
            · intro wx hSw
              clear hSw hHeld; go_simp
            simp only [Act.put, List.setIfInBounds_toArray, List.set_cons_zero, List.set_cons_succ]
            refine wpAnyH_take (i := 1) (oi := { dst := some 39, op := Op.load 24 (Operand.tmp 38), type := 24, pos := "l9_version.go:293", after := #[{ on := 0, ground := Ground.data }], guard := none }) (v := .slice (some ⟨gb, 0, none⟩) nl vc) rfl (by kernel_rfl) (by kernel_rfl) (by kernel_rfl) (fun _ _ _ h => h) (Or.inl ⟨by rfl, ?_⟩) (by assumption) ?_
            · intro wx hSw
              have e := hSw; clear hHeld hSw; go_simp
            simp only [Act.put, List.setIfInBounds_toArray, List.set_cons_zero, List.set_cons_succ]
            refine wpAnyH_take (i := 2) (oi := { dst := some 40, op := Op.move (Operand.tmp 0), type := 48, pos := "l9_version.go:293", after := #[], guard := none }) (v := .pointer (some ⟨b, 0, none⟩)) rfl (by kernel_rfl) (by kernel_rfl) (by kernel_rfl) (fun _ _ _ h => h) (Or.inl ⟨by rfl, ?_⟩) (by assumption) ?_
            · intro wx hSw
              clear hSw hHeld; go_simp
            simp only [Act.put, List.setIfInBounds_toArray, List.set_cons_zero, List.set_cons_succ]
            refine wpAnyH_ready (rs := [3]) (by kernel_rfl) (by simp) ?_
            refine AllReadyH.cons (o := { dst := some 41, op := Op.call { callee := Callee.value (Operand.func 31), args := #[Operand.tmp 40, Operand.const (Value.int IntKind.i64 3)], argTypes := #[48, 3] }, type := 3, pos := "l9_version.go:293", after := #[{ on := 2, ground := Ground.data }], guard := none }) rfl (fun K0 hK => ?_) AllReadyH.nil
            clear hHeld
            go_simp
            refine (pick_any b bl _ 3 _ hcu hl (by omega) (by omega)).mono ?_
            rintro e k1 ⟨⟨z, rfl, hz⟩, hcu2, hch⟩
            replace X := hch.box X (by omega)
            replace R := hch.box R (by omega)
            replace ov := hch.owns ov (fun g hg q => by have := owns_ge ov g hg; omega)
            replace hB := hB.trans hch
            have hcu := hcu2
            clear hch hcu2 hq
            refine hK.out _ _ (X.2.1 2 _ rfl) (fun hHeld => ?_)
            clear hK K0
            refine wpAnyH_take (i := 4) (oi := { dst := some 42, op := Op.binOp BinOp.add 3 (Operand.const (Value.int IntKind.i64 1)) (Operand.tmp 41) 3, type := 3, pos := "l9_version.go:293", after := #[{ on := 3, ground := Ground.data }], guard := none }) (v := .int .i64 (1 + z)) rfl (by kernel_rfl) (by kernel_rfl) (by kernel_rfl) (fun _ _ _ h => h) (Or.inl ⟨by rfl, ?_⟩) (by assumption) ?_
            · intro wx hSw
              clear hSw hHeld; go_simp; rw [IntKind.wrap_i64]; omega
            simp only [Act.put, List.setIfInBounds_toArray, List.set_cons_zero, List.set_cons_succ]
            refine wpAnyH_take (i := 5) (oi := { dst := some 43, op := Op.indexAddr 24 (Operand.tmp 39) (Operand.const (Value.int IntKind.i64 0)), type := 0, pos := "l9_version.go:293", after := #[{ on := 1, ground := Ground.data }, { on := 0, ground := Ground.phase }, { on := 1, ground := Ground.phase }, { on := 2, ground := Ground.phase }, { on := 3, ground := Ground.phase }, { on := 4, ground := Ground.phase }], guard := none }) (v := .pointer (some ⟨gb, 0, none⟩)) rfl (by kernel_rfl) (by kernel_rfl) (by kernel_rfl) (fun _ _ _ h => h) (Or.inl ⟨by rfl, ?_⟩) (by assumption) ?_
            · intro wx hSw
              clear hSw hHeld; go_simp
            simp only [Act.put, List.setIfInBounds_toArray, List.set_cons_zero, List.set_cons_succ]
            refine wpAnyH_take (i := 6) (oi := { dst := some 44, op := Op.fieldAddr 71 (Operand.tmp 43) 1, type := 0, pos := "l9_version.go:293", after := #[{ on := 5, ground := Ground.data }, { on := 0, ground := Ground.phase }, { on := 1, ground := Ground.phase }, { on := 2, ground := Ground.phase }, { on := 3, ground := Ground.phase }, { on := 4, ground := Ground.phase }], guard := none }) (v := .pointer (some ⟨gb, 1, none⟩)) rfl (by kernel_rfl) (by kernel_rfl) (by kernel_rfl) (fun _ _ _ h => h) (Or.inl ⟨by rfl, ?_⟩) (by assumption) ?_
            · intro wx hSw
              clear hSw hHeld; go_simp
            simp only [Act.put, List.setIfInBounds_toArray, List.set_cons_zero, List.set_cons_succ]
            refine wpAnyH_ready (rs := [7]) (by kernel_rfl) (by simp) ?_
            refine AllReadyH.cons (o := { dst := none, op := Op.store 3 (Operand.tmp 44) (Operand.tmp 42), type := 0, pos := "l9_version.go:293", after := #[{ on := 6, ground := Ground.data }, { on := 4, ground := Ground.data }, { on := 3, ground := Ground.chain }, { on := 0, ground := Ground.phase }, { on := 1, ground := Ground.phase }, { on := 2, ground := Ground.phase }, { on := 3, ground := Ground.phase }, { on := 4, ground := Ground.phase }], guard := none }) rfl (fun K0 hK => ?_) AllReadyH.nil
            clear hHeld
            have cc : k1.cell? ⟨gb, 1, none⟩ = some (.int .i64 m.d) := by rw [ov.cellAt 1 (by rw [HNL.out, List.length_cons]; omega)]; rfl
            have cf := ov.frozenAt 1
            have hgl := (owns_lt ov).2
            have ov1 := (ov.stored 1 (.int .i64 (1 + z))).1
            rw [flat4_lev] at ov1
            have X2 := X.setOther ⟨gb, 1, none⟩ (.int .i64 (1 + z)) (by simp; omega)
            have R2 := R.setOther ⟨gb, 1, none⟩ (.int .i64 (1 + z)) (by simp; omega)
            have BP : Below w.heap.size k1 (k1.setCell ⟨gb, 1, none⟩ (.int .i64 (1 + z))) := (Below.refl _ _).setCell (p := ⟨gb, 1, none⟩) (by simp; omega) _
            have hcu2 := cur_low hcu hbw BP
            have hB2 := chg_below hB BP
            clear ov X R hcu hB BP
            go_simp
            refine hK.out _ (k1.setCell ⟨gb, 1, none⟩ (.int .i64 (1 + z))) (X2.2.1 2 _ rfl) (fun hHeld => ?_)
            clear hK K0 hHeld cc cf
            generalize k1.setCell ⟨gb, 1, none⟩ (.int .i64 (1 + z)) = w6 at *
            have X := X2
            have R := R2
            have ov := ov1
            have hcu := hcu2
            have hB := hB2
            clear X2 R2 ov1 hcu2 hB2
            refine wpAnyH_done (by kernel_rfl) ?_ _
            obtain ⟨hxl, c0, c1, c2, _⟩ := X.c3
            obtain ⟨hrl, r0, r1, r2, f0, f1, f2⟩ := R.c3
            have hch := put3_chg w6 w.heap.size (.int .i64 nx) (.int .i64 sq) (.slice (some ⟨gb, 0, none⟩) nl vc)
            have ov2 := hch.owns ov (fun g hg q => by have := owns_ge ov g hg; omega)
            have BP := hch.below (B := w.heap.size) (by have := hB.size; omega) (fun k hk => by omega)
            have hcu2 := cur_low hcu hbw BP
            have hB2 := chg_below hB BP
            have HV : Hid (VD _ w.heap.size nx sq (.slice (some ⟨gb, 0, none⟩) nl vc) (⟨m.n, 1 + z, m.k, m.v⟩ :: r)) := ⟨by rw [hnl, ← HNL.out]; exact owns_mono' ov2 (by omega), by rw [hnl, ← HNL.out]; exact h30, HL1.out _, by omega, by omega, by omega, by omega⟩
            clear hch BP X R hcu hB ov ov2
            go_wp2
            exact bodyPost_ret (v := .agg #[.int .i64 nx, .int .i64 sq, .slice (some ⟨gb, 0, none⟩) nl vc]) (by simp [results, Tryz.results20, go_sem, r0, r1, r2]) rfl (VerPost.mk HV.out (hcu2.mono (by omega)) hB2)
        · have gq1 : ¬ (q : Int) = 1 := by omega
          have gq1b : ((q : Int) == 1) = false := by simp; omega
          go_upto_region 14 with fail
          obtain ⟨hxl, c0, c1, c2, _⟩ := X.c3
          obtain ⟨hrl, r0, r1, r2, f0, f1, f2⟩ := R.c3
          have hch := put3_chg w4 w.heap.size (.int .i64 nx) (.int .i64 sq) (.slice va l.length vc)
          have ov2 := hch.owns ov (fun g hg q => by have := owns_ge ov g hg; omega)
          have BP := hch.below (B := w.heap.size) (by have := hB.size; omega) (fun k hk => by omega)
          have hcu2 := cur_low hcu hbw BP
          have hB2 := chg_below hB BP
          have HV : Hid (VD _ w.heap.size nx sq (.slice va l.length vc) l) := ⟨owns_mono' ov2 (by omega), h30, HL0.out, by omega, by omega, by omega, by omega⟩
          clear hch BP X R hcu hB ov ov2
          go_wp2
          exact bodyPost_ret (v := .agg #[.int .i64 nx, .int .i64 sq, .slice va l.length vc]) (by simp [results, Tryz.results20, go_sem, r0, r1, r2]) rfl (VerPost.mk HV.out (hcu2.mono (by omega)) hB2)
end Go.Proofs.YtenbdjlhcadhaaaGreat
