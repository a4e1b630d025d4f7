/-
  A chunk taken by a good taking: impl.with.
-/
import Derived.Test.YtocaigffikdlhaaEQ
import Derived.Deep.Cut
import Derived.Deep.RegionHeld3
namespace Go.Proofs.Ytocaigffikdlhaa
open Go.RowKit Go.Maps
set_option linter.unusedVariables false
set_option maxRecDepth 100000

def put2 (w : World) (b : Nat) (v0 v1 : Value) : World := (w.setCell ⟨b, 0, none⟩ v0).setCell ⟨b, 1, none⟩ v1
theorem put2_chg (w : World) (b : Nat) (v0 v1 : Value) : Chg (· = b) w (put2 w b v0 v1) := Chg.setCell (S := fun k => k = b) (p := ⟨b, 1, none⟩) (Chg.setCell (S := fun k => k = b) (p := ⟨b, 0, none⟩) (Chg.refl _ _) rfl _) rfl _
theorem put2_box {w : World} {b : Nat} {u0 u1 : Value} (h : Box w b [u0, u1]) (v0 v1 : Value) : Box (put2 w b v0 v1) b [v0, v1] := by
  have h1 := h.set 0 v0 (by simp)
  have h2 := h1.set 1 v1 (by simp)
  unfold put2
  simpa using h2
theorem Box.f2 {w : World} {b : Nat} {v0 v1 : Value} (h : Box w b [v0, v1]) : b < w.heap.size ∧ w.cell? ⟨b, 0, none⟩ = some v0 ∧ w.cell? ⟨b, 1, none⟩ = some v1 ∧ w.frozen? ⟨b, 0, none⟩ = false ∧ w.frozen? ⟨b, 1, none⟩ = false := ⟨h.1, h.2.1 0 _ rfl, h.2.1 1 _ rfl, h.2.2 0, h.2.2 1⟩
def tkW (W : List Wt) (G : List Ck) (c : Ck) : List Wt := if tkB W G c then W else []
def tkR (W : List Wt) (G : List Ck) (c : Ck) : List Ck := if tkB W G c then tkG G c else []

set_option maxHeartbeats 64000000 in
theorem with_any (a c : Value) (W : List Wt) (G : List Ck) (y : Ck) (w : World) (h : TR w a c W G) (na : Nn a) (nc : Nn c) (hok : wOk W) (h200 : G.length ≤ 200) (hgc : gcB W G = true) (hy : y.k.size ≤ 1048576) :
    Calls Try.prog 74 #[.agg #[a, c], .agg #[.int .i64 y.n, .int .i64 y.d, .string y.k, .int .u32 y.v]] w fun e w' => ∃ a' c', e = .returned (.tuple #[.agg #[a', c'], .bool (tkB W G y)]) ∧ OT w' w.heap.size a' c' (tkW W G y) (tkR W G y) ∧ Below w.heap.size w w' := by
  have hsr := gcB_srt hgc
  have h12 := hok.1
  have KF := fun W' (hb : Below w.heap.size w W') => fits_any a c W G y W' (h.below hb) hok hy
  have KD := fun W' (hb : Below w.heap.size w W') => find_any a c W G y W' (h.below hb) (by omega) hsr
  have KW := fun W' (hb : Below w.heap.size w W') => cloneW_any a W W' (h.1.below hb) na (by omega)
  have KC := fun W' (hb : Below w.heap.size w W') => cloneC_any c G W' (h.2.below hb) nc (by omega)
  have HPL := plc_is hsr y
  have HHA := HPL.has hsr
  have HTB : tkB W G y = (ftB W y && (if hasC G y.n y.d then (G.getD (plc G y) default).k.toList == y.k.toList else decide (G.length < 200))) := rfl
  have HTG : tkG G y = if hasC G y.n y.d then G else insC G (plc G y) y := rfl
  have HTW : tkW W G y = if tkB W G y then W else [] := rfl
  have HTR : tkR W G y = if tkB W G y then tkG G y else [] := rfl
  obtain ⟨⟨wa, wb, rfl, _⟩, ca, cb, rfl, hcc⟩ := h
  obtain ⟨yn, yd, yk, yv⟩ := y
  dsimp only at *
  have X := ((Box.new w #[.slice wa W.length wb, .slice ca G.length cb] 41).alloc (.cells #[.int .i64 yn, .int .i64 yd, .string yk, .int .u32 yv] 37)).alloc (.cells #[.slice none 0 0, .slice none 0 0] 41)
  have Y := (Box.new (w.alloc (.cells #[.slice wa W.length wb, .slice ca G.length cb] 41)) #[.int .i64 yn, .int .i64 yd, .string yk, .int .u32 yv] 37).alloc (.cells #[.slice none 0 0, .slice none 0 0] 41)
  have R := Box.new ((w.alloc (.cells #[.slice wa W.length wb, .slice ca G.length cb] 41)).alloc (.cells #[.int .i64 yn, .int .i64 yd, .string yk, .int .u32 yv] 37)) #[.slice none 0 0, .slice none 0 0] 41
  have hB := below3 w (.cells #[.slice wa W.length wb, .slice ca G.length cb] 41) (.cells #[.int .i64 yn, .int .i64 yd, .string yk, .int .u32 yv] 37) (.cells #[.slice none 0 0, .slice none 0 0] 41)
  simp only [World.size_alloc] at Y R
  obtain ⟨p, hp⟩ : ∃ p, p = plc G ⟨yn, yd, yk, yv⟩ := ⟨_, rfl⟩
  rw [← hp] at HPL HHA HTB HTG
  have HP : Hid _ := HPL
  have hple := HPL.le
  have HPO := fun q (h : IsPl G ⟨yn, yd, yk, yv⟩ q) => IsPl.one h HPL
  clear hp HPL na nc hok hgc
  cases hf : ftB W ⟨yn, yd, yk, yv⟩ with
  | false =>
    have e0 : tkB W G ⟨yn, yd, yk, yv⟩ = false := by rw [HTB, hf]; rfl
    have e1 : tkW W G ⟨yn, yd, yk, yv⟩ = [] := by rw [HTW, e0]; rfl
    have e2 : tkR W G ⟨yn, yd, yk, yv⟩ = [] := by rw [HTR, e0]; rfl
    rw [e0, e1, e2]
    rw [hf] at KF
    clear KD KW KC HHA HTB HTG HTW HTR hcc hsr hf e0 e1 e2 HP HPO
    go_enter Try.func74, Try.ntmps74
    go_wp2_with fail
    refine (KF _ hB).mono ?_
    rintro e w1 ⟨rfl, hb1⟩
    replace hB := below_then hB hb1
    replace R := R.below hb1
    obtain ⟨hvl, v0, v1, f0, f1⟩ := R.f2
    clear hb1 KF X Y R
    go_wp2
    exact bodyPost_ret (v := .tuple #[.agg #[.slice none 0 0, .slice none 0 0], .bool false]) (by simp [results, Try.results74, go_sem, v0, v1]) rfl ⟨_, _, rfl, OT.nil _ _, (hB.setCell (by simp; omega) _).setCell (by simp; omega) _⟩
  | true =>
  rw [hf] at KF
  rw [hf, Bool.true_and] at HTB
  go_enter Try.func74, Try.ntmps74
  go_wp2_with fail
  refine (KF _ hB).mono ?_
  rintro e w1 ⟨rfl, hb1⟩
  replace hB := below_then hB hb1
  replace R := R.below hb1
  replace X := X.below hb1
  replace Y := Y.below hb1
  clear hb1 KF hf
  obtain ⟨hxl, x0, x1⟩ := X.c2
  obtain ⟨hyl, y0, y1, y2, y3⟩ := Y.c4
  go_wp2_with fail
  refine (KD _ hB).mono ?_
  rintro e w2 ⟨⟨q, hq, rfl⟩, hb2⟩
  obtain rfl := HPO q hq
  replace hB := below_then hB hb2
  replace R := R.below hb2
  replace X := X.below hb2
  replace Y := Y.below hb2
  clear hb2 KD hxl x0 x1 hyl y0 y1 y2 y3 HPO hq
  obtain ⟨hxl, x0, x1⟩ := X.c2
  obtain ⟨hyl, y0, y1, y2, y3⟩ := Y.c4
  have hz2 := hB.size
  have qx1 := fun x : WC w2.heap.size w2 => (x.ok.cell (p := ⟨w.heap.size, 1, none⟩) hxl).trans x1
  have qy2 := fun x : WC w2.heap.size w2 => (x.ok.cell (p := ⟨w.heap.size + 1, 2, none⟩) hyl).trans y2
  have hne : Nonempty (WC w2.heap.size w2) := ⟨⟨_, Below.refl _ _⟩⟩
  clear hxl x0 x1 hyl y0 y1 y2 y3
  cases hh : hasC G yn yd with
  | true =>
    rw [hh, if_pos rfl] at HTB HTG
    obtain ⟨hpl, _⟩ := HHA.1 hh
    obtain ⟨bg, og, rfl, hbg, hgcell⟩ := hcc (by intro e; simp [e] at hpl)
    have gk := ((hB.cell (p := ⟨bg, og + q * 4 + 2, none⟩) hbg).trans (hgcell q hpl).2.2.1)
    have hbg2 : bg < w2.heap.size := by omega
    have qg := fun x : WC w2.heap.size w2 => (x.ok.cell (p := ⟨bg, og + q * 4 + 2, none⟩) hbg2).trans gk
    rw [getC_at G q hpl] at HTB
    clear gk hgcell hcc HHA hh
    generalize G[q].k = gk at *
    cases hk : (gk.toList == yk.toList) with
    | false =>
      have e0 : Hid (tkB W G ⟨yn, yd, yk, yv⟩ = false) := by show _ = _; rw [HTB, hk]
      have e1 : Hid (tkW W G ⟨yn, yd, yk, yv⟩ = []) := by show _ = _; rw [HTW, e0.out]; rfl
      have e2 : Hid (tkR W G ⟨yn, yd, yk, yv⟩ = []) := by show _ = _; rw [HTR, e0.out]; rfl
      have hk2 : (gk.toList != yk.toList) = true := by simp only [bne, hk]; rfl
      clear HTB HTG HTW HTR hsr
      go_upto_region 4 with fail
      refine wp_region_calm (B := w2.heap.size) (W := w2) (by kernel_rfl) (by kernel_rfl) (Below.refl _ _) ?_
      repeat (go_big_quiet_step (fail))
      refine wpQuiet_nil ?_
      intro _ hw'
      obtain ⟨x, hx⟩ := hw'
      subst hx
      replace hB := below_then hB x.ok
      replace R := R.below x.ok
      replace X := X.below x.ok
      replace Y := Y.below x.ok
      clear qx1 qy2 hne qg
      generalize x.w = w3 at *
      clear x
      obtain ⟨hvl, v0, v1, f0, f1⟩ := R.f2
      clear X Y R KW KC
      go_wp2
      exact bodyPost_ret (v := .tuple #[.agg #[.slice none 0 0, .slice none 0 0], .bool false]) (by simp [results, Try.results74, go_sem, v0, v1]) rfl ⟨_, _, by rw [e0.out], by rw [e1.out, e2.out]; exact OT.nil _ _, (hB.setCell (by simp; omega) _).setCell (by simp; omega) _⟩
    | true =>
      have e0 : Hid (tkB W G ⟨yn, yd, yk, yv⟩ = true) := by show _ = _; rw [HTB, hk]
      have e1 : Hid (tkW W G ⟨yn, yd, yk, yv⟩ = W) := by show _ = _; rw [HTW, e0.out]; rfl
      have e2 : Hid (tkR W G ⟨yn, yd, yk, yv⟩ = G) := by show _ = _; rw [HTR, e0.out, HTG]; rfl
      have hk2 : (gk.toList != yk.toList) = false := by simp only [bne, hk]; rfl
      clear HTB HTG HTW HTR hsr
      go_upto_region 4 with fail
      refine wp_region_calm (B := w2.heap.size) (W := w2) (by kernel_rfl) (by kernel_rfl) (Below.refl _ _) ?_
      repeat (go_big_quiet_step (fail))
      refine wpQuiet_nil ?_
      intro _ hw'
      obtain ⟨x, hx⟩ := hw'
      subst hx
      replace hB := below_then hB x.ok
      replace R := R.below x.ok
      replace X := X.below x.ok
      replace Y := Y.below x.ok
      clear qx1 qy2 hne qg
      generalize x.w = w3 at *
      clear x
      go_upto_region 6 with fail
      go_cut [8] from 9 (fun s8 wc => ∃ (b : Nat) (ua : Option Addr) (ub : Nat) (uc : Option Addr) (ud : Nat), s8 = .pointer (some ⟨b, 0, none⟩) ∧ Box wc w.heap.size [.slice wa W.length wb, .slice (some ⟨bg, og, none⟩) G.length cb] ∧ Box wc (w.heap.size + 1) [.int .i64 yn, .int .i64 yd, .string yk, .int .u32 yv] ∧ Box wc (w.heap.size + 1 + 1) [.slice none 0 0, .slice none 0 0] ∧ Box wc b [.slice ua W.length ub, .slice uc G.length ud] ∧ wc.ownsRow (w.heap.size + 1 + 1 + 1) 54 2 (.slice ua W.length ub) W.length (flat2 W) ∧ wc.ownsRow (w.heap.size + 1 + 1 + 1) 37 4 (.slice uc G.length ud) G.length (flat4 G) ∧ (∀ g, (Value.slice ua W.length ub).ownBlock = some g → g ≠ b) ∧ (∀ g, (Value.slice uc G.length ud).ownBlock = some g → g ≠ b) ∧ w.heap.size + 1 + 1 < b ∧ Below w.heap.size w wc)
      case first =>
        have hvv := R.1
        have hD : Below (w3).heap.size (w3) (w3).drew := (Below.refl _ _).drew
        replace hB := below_then hB hD
        replace X := X.below hD
        replace Y := Y.below hD
        replace R := R.below hD
        clear hD
        refine wp_region_held_drew (S := fun w' => Box w' w.heap.size [.slice wa W.length wb, .slice (some ⟨bg, og, none⟩) G.length cb]) (by kernel_rfl) X (fun hHeld => ?_)
        generalize (w3).drew = v0 at *
        refine wpAnyH_take (i := 0) (oi := { dst := some 43, op := Op.fieldAddr 41 (Operand.tmp 2) 0, type := 0, pos := "l13_chunk.go:202", after := #[], guard := none }) (v := .pointer (some ⟨w.heap.size, 0, none⟩)) rfl (by kernel_rfl) (by kernel_rfl) (by kernel_rfl) (fun _ _ _ h => h) (Or.inl ⟨by rfl, ?_⟩) (by assumption) ?_
        · intro wx hSw
          clear hSw hHeld; go_simp
        simp only [Act.put, List.setIfInBounds_toArray, List.set_cons_zero, List.set_cons_succ]
        refine wpAnyH_take (i := 1) (oi := { dst := some 44, op := Op.load 39 (Operand.tmp 43), type := 39, pos := "l13_chunk.go:202", after := #[{ on := 0, ground := Ground.data }], guard := none }) (v := .slice wa W.length wb) rfl (by kernel_rfl) (by kernel_rfl) (by kernel_rfl) (fun _ _ _ h => h) (Or.inl ⟨by rfl, ?_⟩) (by assumption) ?_
        · intro wx hSw
          have e := hSw.2.1 0 _ rfl; clear hHeld hSw; go_simp
        simp only [Act.put, List.setIfInBounds_toArray, List.set_cons_zero, List.set_cons_succ]
        refine wpAnyH_take (i := 3) (oi := { dst := some 46, op := Op.fieldAddr 41 (Operand.tmp 2) 1, type := 0, pos := "l13_chunk.go:202", after := #[], guard := none }) (v := .pointer (some ⟨w.heap.size, 1, none⟩)) rfl (by kernel_rfl) (by kernel_rfl) (by kernel_rfl) (fun _ _ _ h => h) (Or.inl ⟨by rfl, ?_⟩) (by assumption) ?_
        · intro wx hSw
          clear hSw hHeld; go_simp
        simp only [Act.put, List.setIfInBounds_toArray, List.set_cons_zero, List.set_cons_succ]
        refine wpAnyH_take (i := 4) (oi := { dst := some 47, op := Op.load 30 (Operand.tmp 46), type := 30, pos := "l13_chunk.go:202", after := #[{ on := 3, ground := Ground.data }], guard := none }) (v := .slice (some ⟨bg, og, none⟩) G.length cb) rfl (by kernel_rfl) (by kernel_rfl) (by kernel_rfl) (fun _ _ _ h => h) (Or.inl ⟨by rfl, ?_⟩) (by assumption) ?_
        · intro wx hSw
          have e := hSw.2.1 1 _ rfl; clear hHeld hSw; go_simp
        simp only [Act.put, List.setIfInBounds_toArray, List.set_cons_zero, List.set_cons_succ]
        refine wpAnyH_ready (rs := [2, 7]) (by kernel_rfl) (by simp) ?_
        refine (AllReadyH.cons (o := { dst := some 45, op := Op.call { callee := Callee.value (Operand.func 89), args := #[Operand.tmp 44], argTypes := #[39] }, type := 39, pos := "l13_chunk.go:202", after := #[{ on := 1, ground := Ground.data }], guard := none }) rfl (fun K hK => ?_) (AllReadyH.cons (o := { dst := some 8, op := Op.alloc 41, type := 0, pos := "l13_chunk.go:202", after := #[], guard := none }) rfl (fun K hK => ?_) AllReadyH.nil))
        · clear hHeld
          go_simp
          refine (KW _ hB).mono ?_
          rintro e v1 ⟨u, rfl, OW, hbv⟩
          have hzc := hB.size
          have hzR := R.1
          replace hB := below_then hB hbv
          replace X := X.below hbv
          replace Y := Y.below hbv
          replace R := R.below hbv
          obtain ⟨ua, ub, rfl⟩ := owns_shape OW
          replace OW := owns_mono' OW (Nat.succ_le_of_lt hzR)
          clear hbv hzc
          refine hK.out _ _ X (fun hHeld => ?_)
          clear hK K
          refine wpAnyH_ready (rs := [5, 7]) (by kernel_rfl) (by simp) ?_
          refine (AllReadyH.cons (o := { dst := some 48, op := Op.call { callee := Callee.value (Operand.func 100), args := #[Operand.tmp 47], argTypes := #[30] }, type := 30, pos := "l13_chunk.go:202", after := #[{ on := 4, ground := Ground.data }, { on := 2, ground := Ground.chain }], guard := none }) rfl (fun K hK => ?_) (AllReadyH.cons (o := { dst := some 8, op := Op.alloc 41, type := 0, pos := "l13_chunk.go:202", after := #[], guard := none }) rfl (fun K hK => ?_) AllReadyH.nil))
          · clear hHeld
            go_simp
            refine (KC _ hB).mono ?_
            rintro e v2 ⟨u, rfl, OC, hbv⟩
            have hzc := hB.size
            have hzR := R.1
            replace hB := below_then hB hbv
            replace X := X.below hbv
            replace Y := Y.below hbv
            replace R := R.below hbv
            replace OW := owns_below OW hbv
            obtain ⟨uc, ud, rfl⟩ := owns_shape OC
            replace OC := owns_mono' OC (Nat.succ_le_of_lt hzR)
            clear hbv hzc
            refine hK.out _ _ X (fun hHeld => ?_)
            clear hK K
            refine wpAnyH_take (i := 6) (oi := { dst := some 49, op := Op.build 41 #[(0, Operand.tmp 45), (1, Operand.tmp 48)], type := 41, pos := "l13_chunk.go:202", after := #[{ on := 2, ground := Ground.data }, { on := 5, ground := Ground.data }], guard := none }) (v := .agg #[.slice ua W.length ub, .slice uc G.length ud]) rfl (by kernel_rfl) (by kernel_rfl) (by kernel_rfl) (fun _ _ _ h => h) (Or.inl ⟨by rfl, ?_⟩) (by assumption) ?_
            · intro wx hSw
              clear hSw hHeld; go_simp
            simp only [Act.put, List.setIfInBounds_toArray, List.set_cons_zero, List.set_cons_succ]
            refine wpAnyH_ready (rs := [7]) (by kernel_rfl) (by simp) ?_
            refine (AllReadyH.cons (o := { dst := some 8, op := Op.alloc 41, type := 0, pos := "l13_chunk.go:202", after := #[], guard := none }) rfl (fun K hK => ?_) AllReadyH.nil)
            clear hHeld
            have Z := Box.new v2 #[.slice none 0 0, .slice none 0 0] 41
            have hkX := X.1
            have hkY := Y.1
            have hkR := R.1
            have hkOW := owns_below_lt OW
            have hkOC := owns_below_lt OC
            have hkw := hB.size
            have hA := below_alloc v2 (.cells #[.slice none 0 0, .slice none 0 0] 41)
            replace hB := below_then hB hA
            replace X := X.below hA
            replace Y := Y.below hA
            replace R := R.below hA
            replace OW := owns_below OW hA
            replace OC := owns_below OC hA
            clear hA
            go_simp
            refine hK.out _ _ X (fun hHeld => ?_)
            clear hK K
            generalize v2.alloc (.cells #[.slice none 0 0, .slice none 0 0] 41) = v3 at *
            generalize v2.heap.size = b at *
            have neOW := fun g hg => Nat.ne_of_lt (hkOW g hg)
            clear hkOW
            have neOC := fun g hg => Nat.ne_of_lt (hkOC g hg)
            clear hkOC
            refine wpAnyH_ready (rs := [8]) (by kernel_rfl) (by simp) ?_
            refine (AllReadyH.cons (o := { dst := none, op := Op.store 41 (Operand.tmp 8) (Operand.tmp 49), type := 0, pos := "l13_chunk.go:202", after := #[{ on := 7, ground := Ground.data }, { on := 6, ground := Ground.data }, { on := 5, ground := Ground.chain }, { on := 0, ground := Ground.phase }, { on := 1, ground := Ground.phase }, { on := 2, ground := Ground.phase }, { on := 3, ground := Ground.phase }, { on := 4, ground := Ground.phase }, { on := 5, ground := Ground.phase }, { on := 6, ground := Ground.phase }, { on := 7, ground := Ground.phase }], guard := none }) rfl (fun K hK => ?_) AllReadyH.nil)
            clear hHeld
            obtain ⟨zl, t0, t1, f0, f1⟩ := Z.f2
            have hC := put2_chg v3 b (.slice ua W.length ub) (.slice uc G.length ud)
            have Xn := hC.box X (by omega)
            have Yn := hC.box Y (by omega)
            have Rn := hC.box R (by omega)
            have OWn := hC.owns OW (fun g hg hh => neOW g hg hh)
            have OCn := hC.owns OC (fun g hg hh => neOC g hg hh)
            have Zn := put2_box Z (.slice ua W.length ub) (.slice uc G.length ud)
            have hBn := hB.trans (hC.below (B := w.heap.size) hB.size (fun k hk => by omega))
            clear hC
            go_simp
            refine hK.out _ (put2 v3 b (.slice ua W.length ub) (.slice uc G.length ud)) Xn (fun hHeld => ?_)
            clear hK K t0 t1 f0 f1
            clear hHeld
            refine wpAnyH_done (by kernel_rfl) ?_ _
            go_wp2_with fail
            go_meet
            case rel => exact ⟨b, ua, ub, uc, ud, rfl, Xn, Yn, Rn, Zn, OWn, OCn, neOW, neOC, by omega, hBn⟩
          · clear hHeld
            have Z := Box.new v1 #[.slice none 0 0, .slice none 0 0] 41
            have hkX := X.1
            have hkY := Y.1
            have hkR := R.1
            have hkOW := owns_below_lt OW
            have hkw := hB.size
            have hA := below_alloc v1 (.cells #[.slice none 0 0, .slice none 0 0] 41)
            replace hB := below_then hB hA
            replace X := X.below hA
            replace Y := Y.below hA
            replace R := R.below hA
            replace OW := owns_below OW hA
            clear hA
            go_simp
            refine hK.out _ _ X (fun hHeld => ?_)
            clear hK K
            generalize v1.alloc (.cells #[.slice none 0 0, .slice none 0 0] 41) = v4 at *
            generalize v1.heap.size = b at *
            have neOW := fun g hg => Nat.ne_of_lt (hkOW g hg)
            clear hkOW
            refine wpAnyH_ready (rs := [5]) (by kernel_rfl) (by simp) ?_
            refine (AllReadyH.cons (o := { dst := some 48, op := Op.call { callee := Callee.value (Operand.func 100), args := #[Operand.tmp 47], argTypes := #[30] }, type := 30, pos := "l13_chunk.go:202", after := #[{ on := 4, ground := Ground.data }, { on := 2, ground := Ground.chain }], guard := none }) rfl (fun K hK => ?_) AllReadyH.nil)
            clear hHeld
            go_simp
            refine (KC _ hB).mono ?_
            rintro e v5 ⟨u, rfl, OC, hbv⟩
            have hzb := Z.1
            have hzc := hB.size
            have hzR := R.1
            replace hB := below_then hB hbv
            replace X := X.below hbv
            replace Y := Y.below hbv
            replace R := R.below hbv
            replace OW := owns_below OW hbv
            replace Z := Z.below hbv
            obtain ⟨uc, ud, rfl⟩ := owns_shape OC
            have neOC := fun g hg => Nat.ne_of_gt (Nat.lt_of_lt_of_le hzb (owns_ge OC g hg))
            replace OC := owns_mono' OC (Nat.succ_le_of_lt hzR)
            clear hbv hzc
            refine hK.out _ _ X (fun hHeld => ?_)
            clear hK K
            refine wpAnyH_take (i := 6) (oi := { dst := some 49, op := Op.build 41 #[(0, Operand.tmp 45), (1, Operand.tmp 48)], type := 41, pos := "l13_chunk.go:202", after := #[{ on := 2, ground := Ground.data }, { on := 5, ground := Ground.data }], guard := none }) (v := .agg #[.slice ua W.length ub, .slice uc G.length ud]) rfl (by kernel_rfl) (by kernel_rfl) (by kernel_rfl) (fun _ _ _ h => h) (Or.inl ⟨by rfl, ?_⟩) (by assumption) ?_
            · intro wx hSw
              clear hSw hHeld; go_simp
            simp only [Act.put, List.setIfInBounds_toArray, List.set_cons_zero, List.set_cons_succ]
            refine wpAnyH_ready (rs := [8]) (by kernel_rfl) (by simp) ?_
            refine (AllReadyH.cons (o := { dst := none, op := Op.store 41 (Operand.tmp 8) (Operand.tmp 49), type := 0, pos := "l13_chunk.go:202", after := #[{ on := 7, ground := Ground.data }, { on := 6, ground := Ground.data }, { on := 5, ground := Ground.chain }, { on := 0, ground := Ground.phase }, { on := 1, ground := Ground.phase }, { on := 2, ground := Ground.phase }, { on := 3, ground := Ground.phase }, { on := 4, ground := Ground.phase }, { on := 5, ground := Ground.phase }, { on := 6, ground := Ground.phase }, { on := 7, ground := Ground.phase }], guard := none }) rfl (fun K hK => ?_) AllReadyH.nil)
            clear hHeld
            obtain ⟨zl, t0, t1, f0, f1⟩ := Z.f2
            have hC := put2_chg v5 b (.slice ua W.length ub) (.slice uc G.length ud)
            have Xn := hC.box X (by omega)
            have Yn := hC.box Y (by omega)
            have Rn := hC.box R (by omega)
            have OWn := hC.owns OW (fun g hg hh => neOW g hg hh)
            have OCn := hC.owns OC (fun g hg hh => neOC g hg hh)
            have Zn := put2_box Z (.slice ua W.length ub) (.slice uc G.length ud)
            have hBn := hB.trans (hC.below (B := w.heap.size) hB.size (fun k hk => by omega))
            clear hC
            go_simp
            refine hK.out _ (put2 v5 b (.slice ua W.length ub) (.slice uc G.length ud)) Xn (fun hHeld => ?_)
            clear hK K t0 t1 f0 f1
            clear hHeld
            refine wpAnyH_done (by kernel_rfl) ?_ _
            go_wp2_with fail
            go_meet
            case rel => exact ⟨b, ua, ub, uc, ud, rfl, Xn, Yn, Rn, Zn, OWn, OCn, neOW, neOC, by omega, hBn⟩
        · clear hHeld
          have Z := Box.new v0 #[.slice none 0 0, .slice none 0 0] 41
          have hkX := X.1
          have hkY := Y.1
          have hkR := R.1
          have hkw := hB.size
          have hA := below_alloc v0 (.cells #[.slice none 0 0, .slice none 0 0] 41)
          replace hB := below_then hB hA
          replace X := X.below hA
          replace Y := Y.below hA
          replace R := R.below hA
          clear hA
          go_simp
          refine hK.out _ _ X (fun hHeld => ?_)
          clear hK K
          generalize v0.alloc (.cells #[.slice none 0 0, .slice none 0 0] 41) = v6 at *
          generalize v0.heap.size = b at *
          refine wpAnyH_ready (rs := [2]) (by kernel_rfl) (by simp) ?_
          refine (AllReadyH.cons (o := { dst := some 45, op := Op.call { callee := Callee.value (Operand.func 89), args := #[Operand.tmp 44], argTypes := #[39] }, type := 39, pos := "l13_chunk.go:202", after := #[{ on := 1, ground := Ground.data }], guard := none }) rfl (fun K hK => ?_) AllReadyH.nil)
          clear hHeld
          go_simp
          refine (KW _ hB).mono ?_
          rintro e v7 ⟨u, rfl, OW, hbv⟩
          have hzb := Z.1
          have hzc := hB.size
          have hzR := R.1
          replace hB := below_then hB hbv
          replace X := X.below hbv
          replace Y := Y.below hbv
          replace R := R.below hbv
          replace Z := Z.below hbv
          obtain ⟨ua, ub, rfl⟩ := owns_shape OW
          have neOW := fun g hg => Nat.ne_of_gt (Nat.lt_of_lt_of_le hzb (owns_ge OW g hg))
          replace OW := owns_mono' OW (Nat.succ_le_of_lt hzR)
          clear hbv hzc
          refine hK.out _ _ X (fun hHeld => ?_)
          clear hK K
          refine wpAnyH_ready (rs := [5]) (by kernel_rfl) (by simp) ?_
          refine (AllReadyH.cons (o := { dst := some 48, op := Op.call { callee := Callee.value (Operand.func 100), args := #[Operand.tmp 47], argTypes := #[30] }, type := 30, pos := "l13_chunk.go:202", after := #[{ on := 4, ground := Ground.data }, { on := 2, ground := Ground.chain }], guard := none }) rfl (fun K hK => ?_) AllReadyH.nil)
          clear hHeld
          go_simp
          refine (KC _ hB).mono ?_
          rintro e v8 ⟨u, rfl, OC, hbv⟩
          have hzb := Z.1
          have hzc := hB.size
          have hzR := R.1
          replace hB := below_then hB hbv
          replace X := X.below hbv
          replace Y := Y.below hbv
          replace R := R.below hbv
          replace Z := Z.below hbv
          replace OW := owns_below OW hbv
          obtain ⟨uc, ud, rfl⟩ := owns_shape OC
          have neOC := fun g hg => Nat.ne_of_gt (Nat.lt_of_lt_of_le hzb (owns_ge OC g hg))
          replace OC := owns_mono' OC (Nat.succ_le_of_lt hzR)
          clear hbv hzc
          refine hK.out _ _ X (fun hHeld => ?_)
          clear hK K
          refine wpAnyH_take (i := 6) (oi := { dst := some 49, op := Op.build 41 #[(0, Operand.tmp 45), (1, Operand.tmp 48)], type := 41, pos := "l13_chunk.go:202", after := #[{ on := 2, ground := Ground.data }, { on := 5, ground := Ground.data }], guard := none }) (v := .agg #[.slice ua W.length ub, .slice uc G.length ud]) rfl (by kernel_rfl) (by kernel_rfl) (by kernel_rfl) (fun _ _ _ h => h) (Or.inl ⟨by rfl, ?_⟩) (by assumption) ?_
          · intro wx hSw
            clear hSw hHeld; go_simp
          simp only [Act.put, List.setIfInBounds_toArray, List.set_cons_zero, List.set_cons_succ]
          refine wpAnyH_ready (rs := [8]) (by kernel_rfl) (by simp) ?_
          refine (AllReadyH.cons (o := { dst := none, op := Op.store 41 (Operand.tmp 8) (Operand.tmp 49), type := 0, pos := "l13_chunk.go:202", after := #[{ on := 7, ground := Ground.data }, { on := 6, ground := Ground.data }, { on := 5, ground := Ground.chain }, { on := 0, ground := Ground.phase }, { on := 1, ground := Ground.phase }, { on := 2, ground := Ground.phase }, { on := 3, ground := Ground.phase }, { on := 4, ground := Ground.phase }, { on := 5, ground := Ground.phase }, { on := 6, ground := Ground.phase }, { on := 7, ground := Ground.phase }], guard := none }) rfl (fun K hK => ?_) AllReadyH.nil)
          clear hHeld
          obtain ⟨zl, t0, t1, f0, f1⟩ := Z.f2
          have hC := put2_chg v8 b (.slice ua W.length ub) (.slice uc G.length ud)
          have Xn := hC.box X (by omega)
          have Yn := hC.box Y (by omega)
          have Rn := hC.box R (by omega)
          have OWn := hC.owns OW (fun g hg hh => neOW g hg hh)
          have OCn := hC.owns OC (fun g hg hh => neOC g hg hh)
          have Zn := put2_box Z (.slice ua W.length ub) (.slice uc G.length ud)
          have hBn := hB.trans (hC.below (B := w.heap.size) hB.size (fun k hk => by omega))
          clear hC
          go_simp
          refine hK.out _ (put2 v8 b (.slice ua W.length ub) (.slice uc G.length ud)) Xn (fun hHeld => ?_)
          clear hK K t0 t1 f0 f1
          clear hHeld
          refine wpAnyH_done (by kernel_rfl) ?_ _
          go_wp2_with fail
          go_meet
          case rel => exact ⟨b, ua, ub, uc, ud, rfl, Xn, Yn, Rn, Zn, OWn, OCn, neOW, neOC, by omega, hBn⟩
      case rest =>
        clear X Y R hB KW KC
        obtain ⟨b, ua, ub, uc, ud, rfl, X, Y, R, Z, OW, OC, neW, neC, hbw, hB⟩ := hcut
        obtain ⟨hzl, z0, z1, _, _⟩ := Z.f2
        obtain ⟨hvl, v0, v1, f0, f1⟩ := R.f2
        have OW2 := ownsRow_setCell_below (ownsRow_setCell_below OW (a := ⟨w.heap.size + 1 + 1, 0, none⟩) (by simp) (.slice ua W.length ub)) (a := ⟨w.heap.size + 1 + 1, 1, none⟩) (by simp) (.slice uc G.length ud)
        have OC2 := ownsRow_setCell_below (ownsRow_setCell_below OC (a := ⟨w.heap.size + 1 + 1, 0, none⟩) (by simp) (.slice ua W.length ub)) (a := ⟨w.heap.size + 1 + 1, 1, none⟩) (by simp) (.slice uc G.length ud)
        have HOW : Hid _ := OW2
        have HOC : Hid _ := OC2
        clear X Y R Z OW OC neW neC OW2 OC2
        go_wp2
        exact bodyPost_ret (v := .tuple #[.agg #[.slice ua W.length ub, .slice uc G.length ud], .bool true]) (by simp [results, Try.results74, go_sem, v0, v1]) rfl ⟨_, _, by rw [e0.out], by rw [e1.out, e2.out]; exact ⟨owns_mono' HOW.out (by omega), owns_mono' HOC.out (by omega)⟩, (hB.setCell (by simp; omega) _).setCell (by simp; omega) _⟩
  | false =>
    rw [hh, if_neg (by simp)] at HTB HTG
    clear hcc HHA hh hsr
    by_cases hl : G.length < 200
    rotate_left
    · have e0 : Hid (tkB W G ⟨yn, yd, yk, yv⟩ = false) := by show _ = _; rw [HTB, decide_eq_false hl]
      have e1 : Hid (tkW W G ⟨yn, yd, yk, yv⟩ = []) := by show _ = _; rw [HTW, e0.out]; rfl
      have e2 : Hid (tkR W G ⟨yn, yd, yk, yv⟩ = []) := by show _ = _; rw [HTR, e0.out]; rfl
      have g2 : decide ((200 : Int) ≤ (G.length : Int)) = true := decide_eq_true (by omega)
      clear HTB HTG HTW HTR
      go_upto_region 4 with fail
      refine wp_region_calm (B := w2.heap.size) (W := w2) (by kernel_rfl) (by kernel_rfl) (Below.refl _ _) ?_
      repeat (go_big_quiet_step (fail))
      refine wpQuiet_nil ?_
      intro _ hw'
      obtain ⟨x, hx⟩ := hw'
      subst hx
      replace hB := below_then hB x.ok
      replace R := R.below x.ok
      replace X := X.below x.ok
      replace Y := Y.below x.ok
      clear qx1 qy2 hne 
      generalize x.w = w3 at *
      clear x
      obtain ⟨hvl, v0, v1, f0, f1⟩ := R.f2
      clear X Y R KW KC
      go_wp2
      exact bodyPost_ret (v := .tuple #[.agg #[.slice none 0 0, .slice none 0 0], .bool false]) (by simp [results, Try.results74, go_sem, v0, v1]) rfl ⟨_, _, by rw [e0.out], by rw [e1.out, e2.out]; exact OT.nil _ _, (hB.setCell (by simp; omega) _).setCell (by simp; omega) _⟩
    · have e0 : Hid (tkB W G ⟨yn, yd, yk, yv⟩ = true) := by show _ = _; rw [HTB, decide_eq_true hl]
      have e1 : Hid (tkW W G ⟨yn, yd, yk, yv⟩ = W) := by show _ = _; rw [HTW, e0.out]; rfl
      have e2 : Hid (tkR W G ⟨yn, yd, yk, yv⟩ = insC G q ⟨yn, yd, yk, yv⟩) := by show _ = _; rw [HTR, e0.out, HTG]; rfl
      have g2 : decide ((200 : Int) ≤ (G.length : Int)) = false := decide_eq_false (by omega)
      clear HTB HTG HTW HTR
      go_upto_region 4 with fail
      refine wp_region_calm (B := w2.heap.size) (W := w2) (by kernel_rfl) (by kernel_rfl) (Below.refl _ _) ?_
      repeat (go_big_quiet_step (fail))
      refine wpQuiet_nil ?_
      intro _ hw'
      obtain ⟨x, hx⟩ := hw'
      subst hx
      replace hB := below_then hB x.ok
      replace R := R.below x.ok
      replace X := X.below x.ok
      replace Y := Y.below x.ok
      clear qx1 qy2 hne 
      generalize x.w = w3 at *
      clear x
      go_upto_region 6 with fail
      go_cut [8] from 9 (fun s8 wc => ∃ (b : Nat) (ua : Option Addr) (ub : Nat) (uc : Option Addr) (ud : Nat), s8 = .pointer (some ⟨b, 0, none⟩) ∧ Box wc w.heap.size [.slice wa W.length wb, .slice ca G.length cb] ∧ Box wc (w.heap.size + 1) [.int .i64 yn, .int .i64 yd, .string yk, .int .u32 yv] ∧ Box wc (w.heap.size + 1 + 1) [.slice none 0 0, .slice none 0 0] ∧ Box wc b [.slice ua W.length ub, .slice uc G.length ud] ∧ wc.ownsRow (w.heap.size + 1 + 1 + 1) 54 2 (.slice ua W.length ub) W.length (flat2 W) ∧ wc.ownsRow (w.heap.size + 1 + 1 + 1) 37 4 (.slice uc G.length ud) G.length (flat4 G) ∧ (∀ g, (Value.slice ua W.length ub).ownBlock = some g → g ≠ b) ∧ (∀ g, (Value.slice uc G.length ud).ownBlock = some g → g ≠ b) ∧ w.heap.size + 1 + 1 < b ∧ Below w.heap.size w wc)
      case first =>
        have hvv := R.1
        have hD : Below (w3).heap.size (w3) (w3).drew := (Below.refl _ _).drew
        replace hB := below_then hB hD
        replace X := X.below hD
        replace Y := Y.below hD
        replace R := R.below hD
        clear hD
        refine wp_region_held_drew (S := fun w' => Box w' w.heap.size [.slice wa W.length wb, .slice ca G.length cb]) (by kernel_rfl) X (fun hHeld => ?_)
        generalize (w3).drew = v0 at *
        refine wpAnyH_take (i := 0) (oi := { dst := some 43, op := Op.fieldAddr 41 (Operand.tmp 2) 0, type := 0, pos := "l13_chunk.go:202", after := #[], guard := none }) (v := .pointer (some ⟨w.heap.size, 0, none⟩)) rfl (by kernel_rfl) (by kernel_rfl) (by kernel_rfl) (fun _ _ _ h => h) (Or.inl ⟨by rfl, ?_⟩) (by assumption) ?_
        · intro wx hSw
          clear hSw hHeld; go_simp
        simp only [Act.put, List.setIfInBounds_toArray, List.set_cons_zero, List.set_cons_succ]
        refine wpAnyH_take (i := 1) (oi := { dst := some 44, op := Op.load 39 (Operand.tmp 43), type := 39, pos := "l13_chunk.go:202", after := #[{ on := 0, ground := Ground.data }], guard := none }) (v := .slice wa W.length wb) rfl (by kernel_rfl) (by kernel_rfl) (by kernel_rfl) (fun _ _ _ h => h) (Or.inl ⟨by rfl, ?_⟩) (by assumption) ?_
        · intro wx hSw
          have e := hSw.2.1 0 _ rfl; clear hHeld hSw; go_simp
        simp only [Act.put, List.setIfInBounds_toArray, List.set_cons_zero, List.set_cons_succ]
        refine wpAnyH_take (i := 3) (oi := { dst := some 46, op := Op.fieldAddr 41 (Operand.tmp 2) 1, type := 0, pos := "l13_chunk.go:202", after := #[], guard := none }) (v := .pointer (some ⟨w.heap.size, 1, none⟩)) rfl (by kernel_rfl) (by kernel_rfl) (by kernel_rfl) (fun _ _ _ h => h) (Or.inl ⟨by rfl, ?_⟩) (by assumption) ?_
        · intro wx hSw
          clear hSw hHeld; go_simp
        simp only [Act.put, List.setIfInBounds_toArray, List.set_cons_zero, List.set_cons_succ]
        refine wpAnyH_take (i := 4) (oi := { dst := some 47, op := Op.load 30 (Operand.tmp 46), type := 30, pos := "l13_chunk.go:202", after := #[{ on := 3, ground := Ground.data }], guard := none }) (v := .slice ca G.length cb) rfl (by kernel_rfl) (by kernel_rfl) (by kernel_rfl) (fun _ _ _ h => h) (Or.inl ⟨by rfl, ?_⟩) (by assumption) ?_
        · intro wx hSw
          have e := hSw.2.1 1 _ rfl; clear hHeld hSw; go_simp
        simp only [Act.put, List.setIfInBounds_toArray, List.set_cons_zero, List.set_cons_succ]
        refine wpAnyH_ready (rs := [2, 7]) (by kernel_rfl) (by simp) ?_
        refine (AllReadyH.cons (o := { dst := some 45, op := Op.call { callee := Callee.value (Operand.func 89), args := #[Operand.tmp 44], argTypes := #[39] }, type := 39, pos := "l13_chunk.go:202", after := #[{ on := 1, ground := Ground.data }], guard := none }) rfl (fun K hK => ?_) (AllReadyH.cons (o := { dst := some 8, op := Op.alloc 41, type := 0, pos := "l13_chunk.go:202", after := #[], guard := none }) rfl (fun K hK => ?_) AllReadyH.nil))
        · clear hHeld
          go_simp
          refine (KW _ hB).mono ?_
          rintro e v1 ⟨u, rfl, OW, hbv⟩
          have hzc := hB.size
          have hzR := R.1
          replace hB := below_then hB hbv
          replace X := X.below hbv
          replace Y := Y.below hbv
          replace R := R.below hbv
          obtain ⟨ua, ub, rfl⟩ := owns_shape OW
          replace OW := owns_mono' OW (Nat.succ_le_of_lt hzR)
          clear hbv hzc
          refine hK.out _ _ X (fun hHeld => ?_)
          clear hK K
          refine wpAnyH_ready (rs := [5, 7]) (by kernel_rfl) (by simp) ?_
          refine (AllReadyH.cons (o := { dst := some 48, op := Op.call { callee := Callee.value (Operand.func 100), args := #[Operand.tmp 47], argTypes := #[30] }, type := 30, pos := "l13_chunk.go:202", after := #[{ on := 4, ground := Ground.data }, { on := 2, ground := Ground.chain }], guard := none }) rfl (fun K hK => ?_) (AllReadyH.cons (o := { dst := some 8, op := Op.alloc 41, type := 0, pos := "l13_chunk.go:202", after := #[], guard := none }) rfl (fun K hK => ?_) AllReadyH.nil))
          · clear hHeld
            go_simp
            refine (KC _ hB).mono ?_
            rintro e v2 ⟨u, rfl, OC, hbv⟩
            have hzc := hB.size
            have hzR := R.1
            replace hB := below_then hB hbv
            replace X := X.below hbv
            replace Y := Y.below hbv
            replace R := R.below hbv
            replace OW := owns_below OW hbv
            obtain ⟨uc, ud, rfl⟩ := owns_shape OC
            replace OC := owns_mono' OC (Nat.succ_le_of_lt hzR)
            clear hbv hzc
            refine hK.out _ _ X (fun hHeld => ?_)
            clear hK K
            refine wpAnyH_take (i := 6) (oi := { dst := some 49, op := Op.build 41 #[(0, Operand.tmp 45), (1, Operand.tmp 48)], type := 41, pos := "l13_chunk.go:202", after := #[{ on := 2, ground := Ground.data }, { on := 5, ground := Ground.data }], guard := none }) (v := .agg #[.slice ua W.length ub, .slice uc G.length ud]) rfl (by kernel_rfl) (by kernel_rfl) (by kernel_rfl) (fun _ _ _ h => h) (Or.inl ⟨by rfl, ?_⟩) (by assumption) ?_
            · intro wx hSw
              clear hSw hHeld; go_simp
            simp only [Act.put, List.setIfInBounds_toArray, List.set_cons_zero, List.set_cons_succ]
            refine wpAnyH_ready (rs := [7]) (by kernel_rfl) (by simp) ?_
            refine (AllReadyH.cons (o := { dst := some 8, op := Op.alloc 41, type := 0, pos := "l13_chunk.go:202", after := #[], guard := none }) rfl (fun K hK => ?_) AllReadyH.nil)
            clear hHeld
            have Z := Box.new v2 #[.slice none 0 0, .slice none 0 0] 41
            have hkX := X.1
            have hkY := Y.1
            have hkR := R.1
            have hkOW := owns_below_lt OW
            have hkOC := owns_below_lt OC
            have hkw := hB.size
            have hA := below_alloc v2 (.cells #[.slice none 0 0, .slice none 0 0] 41)
            replace hB := below_then hB hA
            replace X := X.below hA
            replace Y := Y.below hA
            replace R := R.below hA
            replace OW := owns_below OW hA
            replace OC := owns_below OC hA
            clear hA
            go_simp
            refine hK.out _ _ X (fun hHeld => ?_)
            clear hK K
            generalize v2.alloc (.cells #[.slice none 0 0, .slice none 0 0] 41) = v3 at *
            generalize v2.heap.size = b at *
            have neOW := fun g hg => Nat.ne_of_lt (hkOW g hg)
            clear hkOW
            have neOC := fun g hg => Nat.ne_of_lt (hkOC g hg)
            clear hkOC
            refine wpAnyH_ready (rs := [8]) (by kernel_rfl) (by simp) ?_
            refine (AllReadyH.cons (o := { dst := none, op := Op.store 41 (Operand.tmp 8) (Operand.tmp 49), type := 0, pos := "l13_chunk.go:202", after := #[{ on := 7, ground := Ground.data }, { on := 6, ground := Ground.data }, { on := 5, ground := Ground.chain }, { on := 0, ground := Ground.phase }, { on := 1, ground := Ground.phase }, { on := 2, ground := Ground.phase }, { on := 3, ground := Ground.phase }, { on := 4, ground := Ground.phase }, { on := 5, ground := Ground.phase }, { on := 6, ground := Ground.phase }, { on := 7, ground := Ground.phase }], guard := none }) rfl (fun K hK => ?_) AllReadyH.nil)
            clear hHeld
            obtain ⟨zl, t0, t1, f0, f1⟩ := Z.f2
            have hC := put2_chg v3 b (.slice ua W.length ub) (.slice uc G.length ud)
            have Xn := hC.box X (by omega)
            have Yn := hC.box Y (by omega)
            have Rn := hC.box R (by omega)
            have OWn := hC.owns OW (fun g hg hh => neOW g hg hh)
            have OCn := hC.owns OC (fun g hg hh => neOC g hg hh)
            have Zn := put2_box Z (.slice ua W.length ub) (.slice uc G.length ud)
            have hBn := hB.trans (hC.below (B := w.heap.size) hB.size (fun k hk => by omega))
            clear hC
            go_simp
            refine hK.out _ (put2 v3 b (.slice ua W.length ub) (.slice uc G.length ud)) Xn (fun hHeld => ?_)
            clear hK K t0 t1 f0 f1
            clear hHeld
            refine wpAnyH_done (by kernel_rfl) ?_ _
            go_wp2_with fail
            go_meet
            case rel => exact ⟨b, ua, ub, uc, ud, rfl, Xn, Yn, Rn, Zn, OWn, OCn, neOW, neOC, by omega, hBn⟩
          · clear hHeld
            have Z := Box.new v1 #[.slice none 0 0, .slice none 0 0] 41
            have hkX := X.1
            have hkY := Y.1
            have hkR := R.1
            have hkOW := owns_below_lt OW
            have hkw := hB.size
            have hA := below_alloc v1 (.cells #[.slice none 0 0, .slice none 0 0] 41)
            replace hB := below_then hB hA
            replace X := X.below hA
            replace Y := Y.below hA
            replace R := R.below hA
            replace OW := owns_below OW hA
            clear hA
            go_simp
            refine hK.out _ _ X (fun hHeld => ?_)
            clear hK K
            generalize v1.alloc (.cells #[.slice none 0 0, .slice none 0 0] 41) = v4 at *
            generalize v1.heap.size = b at *
            have neOW := fun g hg => Nat.ne_of_lt (hkOW g hg)
            clear hkOW
            refine wpAnyH_ready (rs := [5]) (by kernel_rfl) (by simp) ?_
            refine (AllReadyH.cons (o := { dst := some 48, op := Op.call { callee := Callee.value (Operand.func 100), args := #[Operand.tmp 47], argTypes := #[30] }, type := 30, pos := "l13_chunk.go:202", after := #[{ on := 4, ground := Ground.data }, { on := 2, ground := Ground.chain }], guard := none }) rfl (fun K hK => ?_) AllReadyH.nil)
            clear hHeld
            go_simp
            refine (KC _ hB).mono ?_
            rintro e v5 ⟨u, rfl, OC, hbv⟩
            have hzb := Z.1
            have hzc := hB.size
            have hzR := R.1
            replace hB := below_then hB hbv
            replace X := X.below hbv
            replace Y := Y.below hbv
            replace R := R.below hbv
            replace OW := owns_below OW hbv
            replace Z := Z.below hbv
            obtain ⟨uc, ud, rfl⟩ := owns_shape OC
            have neOC := fun g hg => Nat.ne_of_gt (Nat.lt_of_lt_of_le hzb (owns_ge OC g hg))
            replace OC := owns_mono' OC (Nat.succ_le_of_lt hzR)
            clear hbv hzc
            refine hK.out _ _ X (fun hHeld => ?_)
            clear hK K
            refine wpAnyH_take (i := 6) (oi := { dst := some 49, op := Op.build 41 #[(0, Operand.tmp 45), (1, Operand.tmp 48)], type := 41, pos := "l13_chunk.go:202", after := #[{ on := 2, ground := Ground.data }, { on := 5, ground := Ground.data }], guard := none }) (v := .agg #[.slice ua W.length ub, .slice uc G.length ud]) rfl (by kernel_rfl) (by kernel_rfl) (by kernel_rfl) (fun _ _ _ h => h) (Or.inl ⟨by rfl, ?_⟩) (by assumption) ?_
            · intro wx hSw
              clear hSw hHeld; go_simp
            simp only [Act.put, List.setIfInBounds_toArray, List.set_cons_zero, List.set_cons_succ]
            refine wpAnyH_ready (rs := [8]) (by kernel_rfl) (by simp) ?_
            refine (AllReadyH.cons (o := { dst := none, op := Op.store 41 (Operand.tmp 8) (Operand.tmp 49), type := 0, pos := "l13_chunk.go:202", after := #[{ on := 7, ground := Ground.data }, { on := 6, ground := Ground.data }, { on := 5, ground := Ground.chain }, { on := 0, ground := Ground.phase }, { on := 1, ground := Ground.phase }, { on := 2, ground := Ground.phase }, { on := 3, ground := Ground.phase }, { on := 4, ground := Ground.phase }, { on := 5, ground := Ground.phase }, { on := 6, ground := Ground.phase }, { on := 7, ground := Ground.phase }], guard := none }) rfl (fun K hK => ?_) AllReadyH.nil)
            clear hHeld
            obtain ⟨zl, t0, t1, f0, f1⟩ := Z.f2
            have hC := put2_chg v5 b (.slice ua W.length ub) (.slice uc G.length ud)
            have Xn := hC.box X (by omega)
            have Yn := hC.box Y (by omega)
            have Rn := hC.box R (by omega)
            have OWn := hC.owns OW (fun g hg hh => neOW g hg hh)
            have OCn := hC.owns OC (fun g hg hh => neOC g hg hh)
            have Zn := put2_box Z (.slice ua W.length ub) (.slice uc G.length ud)
            have hBn := hB.trans (hC.below (B := w.heap.size) hB.size (fun k hk => by omega))
            clear hC
            go_simp
            refine hK.out _ (put2 v5 b (.slice ua W.length ub) (.slice uc G.length ud)) Xn (fun hHeld => ?_)
            clear hK K t0 t1 f0 f1
            clear hHeld
            refine wpAnyH_done (by kernel_rfl) ?_ _
            go_wp2_with fail
            go_meet
            case rel => exact ⟨b, ua, ub, uc, ud, rfl, Xn, Yn, Rn, Zn, OWn, OCn, neOW, neOC, by omega, hBn⟩
        · clear hHeld
          have Z := Box.new v0 #[.slice none 0 0, .slice none 0 0] 41
          have hkX := X.1
          have hkY := Y.1
          have hkR := R.1
          have hkw := hB.size
          have hA := below_alloc v0 (.cells #[.slice none 0 0, .slice none 0 0] 41)
          replace hB := below_then hB hA
          replace X := X.below hA
          replace Y := Y.below hA
          replace R := R.below hA
          clear hA
          go_simp
          refine hK.out _ _ X (fun hHeld => ?_)
          clear hK K
          generalize v0.alloc (.cells #[.slice none 0 0, .slice none 0 0] 41) = v6 at *
          generalize v0.heap.size = b at *
          refine wpAnyH_ready (rs := [2]) (by kernel_rfl) (by simp) ?_
          refine (AllReadyH.cons (o := { dst := some 45, op := Op.call { callee := Callee.value (Operand.func 89), args := #[Operand.tmp 44], argTypes := #[39] }, type := 39, pos := "l13_chunk.go:202", after := #[{ on := 1, ground := Ground.data }], guard := none }) rfl (fun K hK => ?_) AllReadyH.nil)
          clear hHeld
          go_simp
          refine (KW _ hB).mono ?_
          rintro e v7 ⟨u, rfl, OW, hbv⟩
          have hzb := Z.1
          have hzc := hB.size
          have hzR := R.1
          replace hB := below_then hB hbv
          replace X := X.below hbv
          replace Y := Y.below hbv
          replace R := R.below hbv
          replace Z := Z.below hbv
          obtain ⟨ua, ub, rfl⟩ := owns_shape OW
          have neOW := fun g hg => Nat.ne_of_gt (Nat.lt_of_lt_of_le hzb (owns_ge OW g hg))
          replace OW := owns_mono' OW (Nat.succ_le_of_lt hzR)
          clear hbv hzc
          refine hK.out _ _ X (fun hHeld => ?_)
          clear hK K
          refine wpAnyH_ready (rs := [5]) (by kernel_rfl) (by simp) ?_
          refine (AllReadyH.cons (o := { dst := some 48, op := Op.call { callee := Callee.value (Operand.func 100), args := #[Operand.tmp 47], argTypes := #[30] }, type := 30, pos := "l13_chunk.go:202", after := #[{ on := 4, ground := Ground.data }, { on := 2, ground := Ground.chain }], guard := none }) rfl (fun K hK => ?_) AllReadyH.nil)
          clear hHeld
          go_simp
          refine (KC _ hB).mono ?_
          rintro e v8 ⟨u, rfl, OC, hbv⟩
          have hzb := Z.1
          have hzc := hB.size
          have hzR := R.1
          replace hB := below_then hB hbv
          replace X := X.below hbv
          replace Y := Y.below hbv
          replace R := R.below hbv
          replace Z := Z.below hbv
          replace OW := owns_below OW hbv
          obtain ⟨uc, ud, rfl⟩ := owns_shape OC
          have neOC := fun g hg => Nat.ne_of_gt (Nat.lt_of_lt_of_le hzb (owns_ge OC g hg))
          replace OC := owns_mono' OC (Nat.succ_le_of_lt hzR)
          clear hbv hzc
          refine hK.out _ _ X (fun hHeld => ?_)
          clear hK K
          refine wpAnyH_take (i := 6) (oi := { dst := some 49, op := Op.build 41 #[(0, Operand.tmp 45), (1, Operand.tmp 48)], type := 41, pos := "l13_chunk.go:202", after := #[{ on := 2, ground := Ground.data }, { on := 5, ground := Ground.data }], guard := none }) (v := .agg #[.slice ua W.length ub, .slice uc G.length ud]) rfl (by kernel_rfl) (by kernel_rfl) (by kernel_rfl) (fun _ _ _ h => h) (Or.inl ⟨by rfl, ?_⟩) (by assumption) ?_
          · intro wx hSw
            clear hSw hHeld; go_simp
          simp only [Act.put, List.setIfInBounds_toArray, List.set_cons_zero, List.set_cons_succ]
          refine wpAnyH_ready (rs := [8]) (by kernel_rfl) (by simp) ?_
          refine (AllReadyH.cons (o := { dst := none, op := Op.store 41 (Operand.tmp 8) (Operand.tmp 49), type := 0, pos := "l13_chunk.go:202", after := #[{ on := 7, ground := Ground.data }, { on := 6, ground := Ground.data }, { on := 5, ground := Ground.chain }, { on := 0, ground := Ground.phase }, { on := 1, ground := Ground.phase }, { on := 2, ground := Ground.phase }, { on := 3, ground := Ground.phase }, { on := 4, ground := Ground.phase }, { on := 5, ground := Ground.phase }, { on := 6, ground := Ground.phase }, { on := 7, ground := Ground.phase }], guard := none }) rfl (fun K hK => ?_) AllReadyH.nil)
          clear hHeld
          obtain ⟨zl, t0, t1, f0, f1⟩ := Z.f2
          have hC := put2_chg v8 b (.slice ua W.length ub) (.slice uc G.length ud)
          have Xn := hC.box X (by omega)
          have Yn := hC.box Y (by omega)
          have Rn := hC.box R (by omega)
          have OWn := hC.owns OW (fun g hg hh => neOW g hg hh)
          have OCn := hC.owns OC (fun g hg hh => neOC g hg hh)
          have Zn := put2_box Z (.slice ua W.length ub) (.slice uc G.length ud)
          have hBn := hB.trans (hC.below (B := w.heap.size) hB.size (fun k hk => by omega))
          clear hC
          go_simp
          refine hK.out _ (put2 v8 b (.slice ua W.length ub) (.slice uc G.length ud)) Xn (fun hHeld => ?_)
          clear hK K t0 t1 f0 f1
          clear hHeld
          refine wpAnyH_done (by kernel_rfl) ?_ _
          go_wp2_with fail
          go_meet
          case rel => exact ⟨b, ua, ub, uc, ud, rfl, Xn, Yn, Rn, Zn, OWn, OCn, neOW, neOC, by omega, hBn⟩
      case rest =>
        clear X Y R hB KW KC
        obtain ⟨b, ua, ub, uc, ud, rfl, X, Y, R, Z, OW, OC, neW, neC, hbw, hB⟩ := hcut
        obtain ⟨hzl, z0, z1, zf0, zf1⟩ := Z.f2
        obtain ⟨hyl, y0, y1, y2, y3⟩ := Y.c4
        have hzc := hB.size
        have BA := below_alloc wc (.cells #[.int .i64 yn, .int .i64 yd, .string yk, .int .u32 yv] 37)
        have VB : (wc.alloc (.cells #[.int .i64 yn, .int .i64 yd, .string yk, .int .u32 yv] 37)).ownsRow 0 37 4 (.slice (some ⟨wc.heap.size, 0, none⟩) 1 1) 1 (flat4 [⟨yn, yd, yk, yv⟩]) := World.ownsRow_lit wc #[.int .i64 yn, .int .i64 yd, .string yk, .int .u32 yv] 1 (Nat.zero_le _) (by unfold maxLen; omega) rfl
        have hcl := owns_below_lt OC
        have KI := insert_any (.slice uc G.length ud) (w.heap.size + 1 + 1 + 1) wc.heap.size 0 q G ⟨yn, yd, yk, yv⟩ _ (owns_below OC BA) VB (fun e => by have := hcl _ e; omega) (by simp; omega) hple (by omega)
        have hneT := owns_type_ne OW OC (by decide)
        have OW1 := owns_below OW BA
        have R1 := R.below BA
        have Z1 := Z.below BA
        have hB1 := below_then hB BA
        have hgec := owns_ge OC
        clear X Y OW OC R Z BA VB
        go_wp2_with fail
        refine KI.mono ?_
        rintro e w5 ⟨u, rfl, OI, hIg, hc5⟩
        obtain ⟨ia, ib, rfl⟩ := owns_shape OI
        replace OW1 := hc5.owns OW1 (fun g hg hh => hneT g hg hh)
        replace R1 := hc5.box R1 (fun hh => by have := hgec _ hh; omega)
        replace Z1 := hc5.box Z1 (fun hh => neC _ hh rfl)
        replace hB1 := hB1.trans (hc5.below (B := w.heap.size) (by simp; omega) (fun k hk => by have := hgec k hk; omega))
        have hIn : ∀ g, (Value.slice ia (G.length + 1) ib).ownBlock = some g → g ≠ b := fun g hg e => by
          rcases hIg g hg with h | h
          · exact neC g h e
          · simp only [World.size_alloc] at h; omega
        have hIR := owns_ge OI
        clear hc5 KI hzl z0 z1 zf0 zf1 hyl y0 y1 y2 y3 hIg
        obtain ⟨hzl, z0, z1, zf0, zf1⟩ := Z1.f2
        obtain ⟨hvl, v0, v1, f0, f1⟩ := R1.f2
        have OW2 := ownsRow_setCell_below (ownsRow_setCell_below (ownsRow_setCell_other OW1 (a := ⟨b, 1, none⟩) (fun e => neW _ e rfl) (.slice ia (G.length + 1) ib)) (a := ⟨w.heap.size + 1 + 1, 0, none⟩) (by simp) (.slice ua W.length ub)) (a := ⟨w.heap.size + 1 + 1, 1, none⟩) (by simp) (.slice ia (G.length + 1) ib)
        have OI2 := ownsRow_setCell_below (ownsRow_setCell_below (ownsRow_setCell_other OI (a := ⟨b, 1, none⟩) (fun e => hIn _ e rfl) (.slice ia (G.length + 1) ib)) (a := ⟨w.heap.size + 1 + 1, 0, none⟩) (by simp) (.slice ua W.length ub)) (a := ⟨w.heap.size + 1 + 1, 1, none⟩) (by simp) (.slice ia (G.length + 1) ib)
        have hB2 := ((hB1.setCell (p := ⟨b, 1, none⟩) (by simp; omega) (.slice ia (G.length + 1) ib)).setCell (p := ⟨w.heap.size + 1 + 1, 0, none⟩) (by simp; omega) (.slice ua W.length ub)).setCell (p := ⟨w.heap.size + 1 + 1, 1, none⟩) (by simp; omega) (.slice ia (G.length + 1) ib)
        have HOW : Hid _ := OW2
        have HOI : Hid _ := OI2
        have HLI : Hid ((insC G q ⟨yn, yd, yk, yv⟩).length = G.length + 1) := insC_length _ _ _ hple
        have hbr : ¬ (b = w.heap.size + 1 + 1) := by omega
        clear OW1 OI R1 Z1 neW neC OW2 OI2 hIn hB1 hneT hgec hcl hIR
        go_wp2
        exact bodyPost_ret (v := .tuple #[.agg #[.slice ua W.length ub, .slice ia (G.length + 1) ib], .bool true]) (by simp [results, Try.results74, go_sem, v0, v1]) rfl ⟨_, _, by rw [e0.out], by rw [e1.out, e2.out]; exact ⟨owns_mono' HOW.out (by omega), by rw [HLI.out]; exact owns_mono' HOI.out (by omega)⟩, hB2⟩
end Go.Proofs.Ytocaigffikdlhaa
