/-
  A drawn taking and a drawn chunk: spec.DrawTakeChunk.
-/
import Derived.Test.YtocaigffikdlhaaTG
import Derived.Test.YtocaigffikdlhaaTO
namespace Go.Proofs.Ytocaigffikdlhaa
open Go.RowKit Go.Maps
set_option linter.unusedVariables false
set_option maxRecDepth 100000

theorem DT.chg {S : Nat → Prop} {w w' : World} {base : Nat} {a c v : Value} {W : List Wt} {G C : List Ck} (h : DT w base a c v W G C) (hc : Chg S w w') (hs : ∀ g, a.ownBlock = some g ∨ c.ownBlock = some g ∨ v.ownBlock = some g → ¬ S g) : DT w' base a c v W G C :=
  ⟨hc.owns h.oa fun g hg => hs g (.inl hg), hc.owns h.oc fun g hg => hs g (.inr (.inl hg)), hc.owns h.ov fun g hg => hs g (.inr (.inr hg)), h.ok, h.srt, h.len, h.sz, h.cl, h.cs⟩
theorem DT.below {w w' : World} {base : Nat} {a c v : Value} {W : List Wt} {G C : List Ck} (h : DT w base a c v W G C) (hb : Below w.heap.size w w') : DT w' base a c v W G C :=
  ⟨owns_below h.oa hb, owns_below h.oc hb, owns_below h.ov hb, h.ok, h.srt, h.len, h.sz, h.cl, h.cs⟩
theorem DT.ge {w : World} {base : Nat} {a c v : Value} {W : List Wt} {G C : List Ck} (h : DT w base a c v W G C) : ∀ g, a.ownBlock = some g ∨ c.ownBlock = some g ∨ v.ownBlock = some g → base ≤ g := fun g hg => hg.elim (owns_ge h.oa g) fun hg => hg.elim (owns_ge h.oc g) (owns_ge h.ov g)
theorem DT.lt {w : World} {base : Nat} {a c v : Value} {W : List Wt} {G C : List Ck} (h : DT w base a c v W G C) : ∀ g, a.ownBlock = some g ∨ c.ownBlock = some g ∨ v.ownBlock = some g → g < w.heap.size := fun g hg => hg.elim (owns_below_lt h.oa g) fun hg => hg.elim (owns_below_lt h.oc g) (owns_below_lt h.ov g)
theorem DT.mono {w : World} {base base' : Nat} {a c v : Value} {W : List Wt} {G C : List Ck} (h : DT w base a c v W G C) (hb : base' ≤ base) : DT w base' a c v W G C := ⟨owns_mono' h.oa hb, owns_mono' h.oc hb, owns_mono' h.ov hb, h.ok, h.srt, h.len, h.sz, h.cl, h.cs⟩
theorem DT.shapes {w : World} {base : Nat} {a c v : Value} {W : List Wt} {G C : List Ck} (h : DT w base a c v W G C) : (∃ x y, a = .slice x W.length y) ∧ (∃ x y, c = .slice x G.length y) ∧ ∃ x y, v = .slice x C.length y := ⟨owns_shape h.oa, owns_shape h.oc, owns_shape h.ov⟩
def put4 (w : World) (b : Nat) (v0 v1 v2 v3 : Value) : World := (((w.setCell ⟨b, 0, none⟩ v0).setCell ⟨b, 1, none⟩ v1).setCell ⟨b, 2, none⟩ v2).setCell ⟨b, 3, none⟩ v3
theorem put4_chg (w : World) (b : Nat) (v0 v1 v2 v3 : Value) : Chg (· = b) w (put4 w b v0 v1 v2 v3) := Chg.setCell (S := fun k => k = b) (p := ⟨b, 3, none⟩) (Chg.setCell (S := fun k => k = b) (p := ⟨b, 2, none⟩) (Chg.setCell (S := fun k => k = b) (p := ⟨b, 1, none⟩) (Chg.setCell (S := fun k => k = b) (p := ⟨b, 0, none⟩) (Chg.refl _ _) rfl _) rfl _) rfl _) rfl _
theorem put4_box {w : World} {b : Nat} {u0 u1 u2 u3 : Value} (h : Box w b [u0, u1, u2, u3]) (v0 v1 v2 v3 : Value) : Box (put4 w b v0 v1 v2 v3) b [v0, v1, v2, v3] := by
  have h1 := h.set 0 v0 (by simp)
  have h2 := h1.set 1 v1 (by simp)
  have h3 := h2.set 2 v2 (by simp)
  have h4 := h3.set 3 v3 (by simp)
  unfold put4
  simpa using h4
theorem Box.f4 {w : World} {b : Nat} {v0 v1 v2 v3 : Value} (h : Box w b [v0, v1, v2, v3]) : b < w.heap.size ∧ w.cell? ⟨b, 0, none⟩ = some v0 ∧ w.cell? ⟨b, 1, none⟩ = some v1 ∧ w.cell? ⟨b, 2, none⟩ = some v2 ∧ w.cell? ⟨b, 3, none⟩ = some v3 ∧ ∀ j, w.frozen? ⟨b, j, none⟩ = false := ⟨h.1, h.2.1 0 _ rfl, h.2.1 1 _ rfl, h.2.1 2 _ rfl, h.2.1 3 _ rfl, h.2.2⟩
/-- What DrawTakeChunk answers. -/
def DTCPost (w : World) (e : Ending) (w' : World) : Prop := (∃ (a c v : Value) (W : List Wt) (G C : List Ck) (y : Ck), e = .returned (.tuple #[.agg #[a, c], .agg #[.int .i64 y.n, .int .i64 y.d, .string y.k, .int .u32 y.v]]) ∧ DT w' w.heap.size a c v W G C ∧ y.k.size ≤ 4001) ∧ Below w.heap.size w w'
theorem DTCPost.mk {w w' : World} {a c v : Value} {W : List Wt} {G C : List Ck} {n d : Int} {k : ByteArray} {z : Int} (h : DT w' w.heap.size a c v W G C) (hk : k.size ≤ 4001) (hb : Below w.heap.size w w') : DTCPost w (.returned (.tuple #[.agg #[a, c], .agg #[.int .i64 n, .int .i64 d, .string k, .int .u32 z]])) w' := ⟨⟨_, _, _, _, _, _, ⟨n, d, k, z⟩, rfl, h, hk⟩, hb⟩
set_option maxHeartbeats 64000000 in
theorem drawTC_any (v0 : Value) (l : List UInt8) (w : World) (hv : YL w v0 l) (hl : l.length ≤ maxLen) : Calls Try.prog 21 #[v0] w (DTCPost w) := by
  unfold maxLen at hl
  have B2 := below2 w (.cells #[.slice none 0 0, .slice none 0 0] 41) (.cells #[.int .i64 0, .int .i64 0, .string ⟨#[]⟩, .int .u32 0] 37)
  have hv2 := hv.below B2
  have R := ((Box.new w #[.slice none 0 0, .slice none 0 0] 41).alloc (.cells #[.int .i64 0, .int .i64 0, .string ⟨#[]⟩, .int .u32 0] 37)).alloc (.cells #[v0, .int .i64 0, .int .u64 0] 88)
  have Q := (Box.new (w.alloc (.cells #[.slice none 0 0, .slice none 0 0] 41)) #[.int .i64 0, .int .i64 0, .string ⟨#[]⟩, .int .u32 0] 37).alloc (.cells #[v0, .int .i64 0, .int .u64 0] 88)
  have hB := below3 w (.cells #[.slice none 0 0, .slice none 0 0] 41) (.cells #[.int .i64 0, .int .i64 0, .string ⟨#[]⟩, .int .u32 0] 37) (.cells #[v0, .int .i64 0, .int .u64 0] 88)
  have hcu := cur_new hv2
  simp only [World.size_alloc] at Q hcu
  obtain ⟨va, vc, rfl, _⟩ := hv
  clear hv2 B2
  go_enter Try.func21, Try.ntmps21
  go_wp2_with fail
  refine (taking_any _ l 0 _ hcu (by omega) (by omega)).mono ?_
  rintro e w1 ⟨⟨a, c, v, W, G, C, rfl, D⟩, hc1, hch⟩
  simp only [World.size_alloc] at D
  have sB : ∀ k, k = w.heap.size + 1 + 1 → w.heap.size ≤ k := fun k q => by omega
  replace R := hch.box R (by omega)
  replace Q := hch.box Q (by omega)
  replace hB := hB.trans (hch.below (B := w.heap.size) (by simp <;> omega) sB)
  have hlt := D.lt
  have hge := D.ge
  have hw1 := hc1.lt
  clear hch hcu
  have bx := below_alloc w1 (.cells #[a, c] 41)
  have X := Box.new w1 #[a, c] 41
  replace R := R.below bx
  replace Q := Q.below bx
  replace D := D.below bx
  replace hB := hB.trans (bx.mono hB.size)
  have hcu := hc1.chg bx
  clear bx hc1
  obtain ⟨⟨xa, xb, rfl⟩, ⟨ya, yb, rfl⟩, za, zb, rfl⟩ := D.shapes
  have nb : ∀ g, (Value.slice xa W.length xb).ownBlock = some g ∨ (Value.slice ya G.length yb).ownBlock = some g ∨ (Value.slice za C.length zb).ownBlock = some g → ¬ g = w.heap.size + 1 + 1 := fun g hg q => by have := hge g hg; omega
  go_wp2_with fail
  refine (pick_any _ l _ 3 _ hcu (by omega) (by omega) (by omega)).mono ?_
  rintro e w2 ⟨⟨p, rfl, hp⟩, hcu2, hch⟩
  replace X := hch.box X (by omega)
  replace R := hch.box R (by omega)
  replace Q := hch.box Q (by omega)
  replace D := D.chg hch nb
  replace hB := hB.trans (hch.below (B := w.heap.size) (by have := hB.size; omega) sB)
  have hcu := hcu2
  clear hch hcu2
  go_wp2_with fail
  refine (pick_any _ l _ 3 _ hcu (by omega) (by omega) (by omega)).mono ?_
  rintro e w3 ⟨⟨q, rfl, hq⟩, hcu2, hch⟩
  replace X := hch.box X (by omega)
  replace R := hch.box R (by omega)
  replace Q := hch.box Q (by omega)
  replace D := D.chg hch nb
  replace hB := hB.trans (hch.below (B := w.heap.size) (by have := hB.size; omega) sB)
  have hcu := hcu2
  clear hch hcu2
  obtain ⟨dd, Ed⟩ : ∃ dd : Int, (64 : Int) * (q : Int) = dd := ⟨_, rfl⟩
  have bx := below_alloc w3 (.cells #[.int .i64 p, .int .i64 dd, .string ⟨#[120]⟩, .int .u32 0] 37)
  have Y := Box.new w3 #[.int .i64 p, .int .i64 dd, .string ⟨#[120]⟩, .int .u32 0] 37
  have hx3 := X.1
  replace X := X.below bx
  replace R := R.below bx
  replace Q := Q.below bx
  replace D := D.below bx
  replace hB := hB.trans (bx.mono hB.size)
  replace hcu := hcu.chg bx
  clear bx
  obtain ⟨n0, hn0⟩ : ∃ n0 : Int, n0 = (p : Int) := ⟨_, rfl⟩
  by_cases hC : 0 < C.length
  · have gC : (0 : Int) < (C.length : Int) := by omega
    go_wp2_with fail
    refine (one_any _ l _ 6 _ hcu (by omega) (by omega) (by omega)).mono ?_
    rintro e w4 ⟨⟨y6, rfl⟩, hcu2, hch⟩
    replace X := hch.box X (by omega)
    replace Y := hch.box Y (by omega)
    replace R := hch.box R (by omega)
    replace Q := hch.box Q (by omega)
    replace D := D.chg hch nb
    replace hB := hB.trans (hch.below (B := w.heap.size) (by have := hB.size; omega) sB)
    have hcu := hcu2
    clear hch hcu2
    cases y6 with
    | true =>
      go_wp2_with fail
      refine (one_any _ l _ 4 _ hcu (by omega) (by omega) (by omega)).mono ?_
      rintro e wa ⟨⟨y4, rfl⟩, hcu2, hch⟩
      replace X := hch.box X (by omega)
      replace Y := hch.box Y (by omega)
      replace R := hch.box R (by omega)
      replace Q := hch.box Q (by omega)
      replace D := D.chg hch nb
      replace hB := hB.trans (hch.below (B := w.heap.size) (by have := hB.size; omega) sB)
      have hcu := hcu2
      clear hch hcu2
      cases y4 with
      | true =>
        obtain ⟨hyl, y0, y1, y2, y3, yf⟩ := Y.f4
        go_wp2_with fail
        refine (torn_any _ l _ ⟨#[120]⟩ _ hcu (by omega) (by omega) (by have := (show (⟨#[120]⟩ : ByteArray).size ≤ 4001 from by decide); omega)).mono ?_
        rintro e wb ⟨⟨tt, rfl, htt⟩, hcu2, hch⟩
        replace X := hch.box X (by omega)
        replace Y := hch.box Y (by omega)
        replace R := hch.box R (by omega)
        replace Q := hch.box Q (by omega)
        replace D := D.chg hch nb
        replace hB := hB.trans (hch.below (B := w.heap.size) (by have := hB.size; omega) sB)
        have hcu := hcu2
        clear hch hcu2
        clear hyl y0 y1 y2 y3 yf
        obtain ⟨hyl, y0, y1, y2, y3, yf⟩ := Y.f4
        have Y2 := Y.set 2 (.string tt) (by simp)
        simp only [List.set_cons_zero, List.set_cons_succ] at Y2
        have PC : Chg (· = w3.heap.size) wb (wb.setCell ⟨w3.heap.size, 2, none⟩ (.string tt)) := Chg.setCell (S := fun k => k = w3.heap.size) (p := ⟨w3.heap.size, 2, none⟩) (Chg.refl _ _) rfl _
        have X2 := PC.box X (by omega)
        have R2 := PC.box R (by omega)
        have Q2 := PC.box Q (by omega)
        have D2 := D.chg PC (fun g hg q => by have := hlt g hg; omega)
        have hB2 := hB.trans (PC.below (B := w.heap.size) (by have := hB.size; omega) (fun k q => by omega))
        have hts : tt.size ≤ 4001 := by have := (show (⟨#[120]⟩ : ByteArray).size ≤ 4001 from by decide); omega
        clear X R Q D hB PC Y hcu
        go_upto_region 8 with fail
        clear hyl y0 y1 y2 y3 yf
        generalize wb.setCell ⟨w3.heap.size, 2, none⟩ (.string tt) = wc at *
        have X := X2
        have R := R2
        have Q := Q2
        have D := D2
        have Y := Y2
        have hB := hB2
        clear X2 R2 Q2 D2 Y2 hB2
        have hD : Below (wc).heap.size (wc) (wc).drew := (Below.refl _ _).drew
        replace X := X.below hD
        replace Y := Y.below hD
        replace R := R.below hD
        replace Q := Q.below hD
        replace D := D.below hD
        replace hB := hB.trans (hD.mono hB.size)
        clear hD
        refine wp_region_held_drew (S := fun w' => Box w' w1.heap.size [.slice xa W.length xb, .slice ya G.length yb] ∧ Box w' w3.heap.size [.int .i64 p, .int .i64 dd, .string tt, .int .u32 0]) (by kernel_rfl) ⟨X, Y⟩ (fun hHeld => ?_)
        generalize (wc).drew = k0 at *
        refine wpAnyH_take (i := 0) (oi := { dst := some 44, op := Op.load 41 (Operand.tmp 5), type := 41, pos := "l13_chunk.go:297", after := #[], guard := none }) (v := .agg #[.slice xa W.length xb, .slice ya G.length yb]) rfl (by kernel_rfl) (by kernel_rfl) (by kernel_rfl) (fun _ _ _ h => h) (Or.inl ⟨by rfl, ?_⟩) (by assumption) ?_
        · intro wx hSw
          have e0 := hSw.1.2.1 0 _ rfl; have e1 := hSw.1.2.1 1 _ rfl; clear hHeld hSw; go_simp
        simp only [Act.put, List.setIfInBounds_toArray, List.set_cons_zero, List.set_cons_succ]
        refine wpAnyH_take (i := 1) (oi := { dst := some 45, op := Op.load 37 (Operand.tmp 7), type := 37, pos := "l13_chunk.go:297", after := #[{ on := 2, ground := Ground.gcOnly Departure.lateStores }], guard := none }) (v := .agg #[.int .i64 p, .int .i64 dd, .string tt, .int .u32 0]) rfl (by kernel_rfl) (by kernel_rfl) (by kernel_rfl) (fun _ _ _ h => h) (Or.inl ⟨by rfl, ?_⟩) (by assumption) ?_
        · intro wx hSw
          have e0 := hSw.2.2.1 0 _ rfl; have e1 := hSw.2.2.1 1 _ rfl; have e2 := hSw.2.2.1 2 _ rfl; have e3 := hSw.2.2.1 3 _ rfl; clear hHeld hSw; go_simp
        simp only [Act.put, List.setIfInBounds_toArray, List.set_cons_zero, List.set_cons_succ]
        refine wpAnyH_ready (rs := [2]) (by kernel_rfl) (by simp) ?_
        refine AllReadyH.cons (o := { dst := none, op := Op.store 41 (Operand.tmp 2) (Operand.tmp 44), type := 0, pos := "l13_chunk.go:297", after := #[{ on := 0, ground := Ground.data }, { on := 0, ground := Ground.phase }, { on := 1, ground := Ground.textOnly Departure.lateStores }], guard := none }) rfl (fun K hK => ?_) AllReadyH.nil
        clear hHeld
        obtain ⟨hfl, r0, r1, rf0, rf1⟩ := R.f2
        have PC := put2_chg k0 w.heap.size (.slice xa W.length xb) (.slice ya G.length yb)
        have R2 := put2_box R (.slice xa W.length xb) (.slice ya G.length yb)
        have Q2 := PC.box Q (by omega)
        have X2 := PC.box X (by omega)
        have Y2 := PC.box Y (by omega)
        have D2 := D.chg PC (fun g hg q => by have := hge g hg; omega)
        have hB2 := hB.trans (PC.below (B := w.heap.size) (by have := hB.size; omega) (fun k q => by omega))
        go_simp
        refine hK.out _ (put2 k0 w.heap.size (.slice xa W.length xb) (.slice ya G.length yb)) ⟨X2, Y2⟩ (fun hHeld => ?_)
        clear hK K hfl r0 r1 rf0 rf1 PC X Y R Q D hB
        generalize put2 k0 w.heap.size (.slice xa W.length xb) (.slice ya G.length yb) = k1 at *
        have X := X2
        have Y := Y2
        have R := R2
        have Q := Q2
        have D := D2
        have hB := hB2
        clear X2 Y2 R2 Q2 D2 hB2
        refine wpAnyH_ready (rs := [3]) (by kernel_rfl) (by simp) ?_
        refine AllReadyH.cons (o := { dst := none, op := Op.store 37 (Operand.tmp 3) (Operand.tmp 45), type := 0, pos := "l13_chunk.go:297", after := #[{ on := 1, ground := Ground.data }, { on := 2, ground := Ground.chain }, { on := 0, ground := Ground.phase }, { on := 1, ground := Ground.phase }, { on := 2, ground := Ground.phase }], guard := none }) rfl (fun K hK => ?_) AllReadyH.nil
        clear hHeld
        obtain ⟨hfl, q0, q1, q2, q3, qf⟩ := Q.f4
        have PC := put4_chg k1 (w.heap.size + 1) (.int .i64 p) (.int .i64 dd) (.string tt) (.int .u32 0)
        have Q2 := put4_box Q (.int .i64 p) (.int .i64 dd) (.string tt) (.int .u32 0)
        have R2 := PC.box R (by omega)
        have X2 := PC.box X (by omega)
        have Y2 := PC.box Y (by omega)
        have D2 := D.chg PC (fun g hg q => by have := hge g hg; omega)
        have hB2 := hB.trans (PC.below (B := w.heap.size) (by have := hB.size; omega) (fun k q => by omega))
        go_simp
        refine hK.out _ (put4 k1 (w.heap.size + 1) (.int .i64 p) (.int .i64 dd) (.string tt) (.int .u32 0)) ⟨X2, Y2⟩ (fun hHeld => ?_)
        clear hK K hfl q0 q1 q2 q3 qf PC X Y R Q D hB
        generalize put4 k1 (w.heap.size + 1) (.int .i64 p) (.int .i64 dd) (.string tt) (.int .u32 0) = k2 at *
        have X := X2
        have Y := Y2
        have R := R2
        have Q := Q2
        have D := D2
        have hB := hB2
        clear X2 Y2 R2 Q2 D2 hB2
        clear hHeld
        refine wpAnyH_done (by kernel_rfl) ?_ _
        obtain ⟨_, r0, r1⟩ := R.c2
        obtain ⟨_, q0, q1, q2, q3⟩ := Q.c4
        have HD : Hid (DT k2 w.heap.size (.slice xa W.length xb) (.slice ya G.length yb) (.slice za C.length zb) W G C) := D.mono (by omega)
        clear X Y R Q D
        go_wp2
        exact bodyPost_ret (v := .tuple #[.agg #[.slice xa W.length xb, .slice ya G.length yb], .agg #[.int .i64 p, .int .i64 dd, .string tt, .int .u32 0]]) (by simp [results, Try.results21, go_sem, r0, r1, q0, q1, q2, q3]) rfl (DTCPost.mk HD.out hts hB)
      | false =>
        go_upto_region 8 with fail
        have hD : Below (wa).heap.size (wa) (wa).drew := (Below.refl _ _).drew
        replace X := X.below hD
        replace Y := Y.below hD
        replace R := R.below hD
        replace Q := Q.below hD
        replace D := D.below hD
        replace hB := hB.trans (hD.mono hB.size)
        clear hD
        refine wp_region_held_drew (S := fun w' => Box w' w1.heap.size [.slice xa W.length xb, .slice ya G.length yb] ∧ Box w' w3.heap.size [.int .i64 p, .int .i64 dd, .string ⟨#[120]⟩, .int .u32 0]) (by kernel_rfl) ⟨X, Y⟩ (fun hHeld => ?_)
        generalize (wa).drew = k0 at *
        refine wpAnyH_take (i := 0) (oi := { dst := some 44, op := Op.load 41 (Operand.tmp 5), type := 41, pos := "l13_chunk.go:297", after := #[], guard := none }) (v := .agg #[.slice xa W.length xb, .slice ya G.length yb]) rfl (by kernel_rfl) (by kernel_rfl) (by kernel_rfl) (fun _ _ _ h => h) (Or.inl ⟨by rfl, ?_⟩) (by assumption) ?_
        · intro wx hSw
          have e0 := hSw.1.2.1 0 _ rfl; have e1 := hSw.1.2.1 1 _ rfl; clear hHeld hSw; go_simp
        simp only [Act.put, List.setIfInBounds_toArray, List.set_cons_zero, List.set_cons_succ]
        refine wpAnyH_take (i := 1) (oi := { dst := some 45, op := Op.load 37 (Operand.tmp 7), type := 37, pos := "l13_chunk.go:297", after := #[{ on := 2, ground := Ground.gcOnly Departure.lateStores }], guard := none }) (v := .agg #[.int .i64 p, .int .i64 dd, .string ⟨#[120]⟩, .int .u32 0]) rfl (by kernel_rfl) (by kernel_rfl) (by kernel_rfl) (fun _ _ _ h => h) (Or.inl ⟨by rfl, ?_⟩) (by assumption) ?_
        · intro wx hSw
          have e0 := hSw.2.2.1 0 _ rfl; have e1 := hSw.2.2.1 1 _ rfl; have e2 := hSw.2.2.1 2 _ rfl; have e3 := hSw.2.2.1 3 _ rfl; clear hHeld hSw; go_simp
        simp only [Act.put, List.setIfInBounds_toArray, List.set_cons_zero, List.set_cons_succ]
        refine wpAnyH_ready (rs := [2]) (by kernel_rfl) (by simp) ?_
        refine AllReadyH.cons (o := { dst := none, op := Op.store 41 (Operand.tmp 2) (Operand.tmp 44), type := 0, pos := "l13_chunk.go:297", after := #[{ on := 0, ground := Ground.data }, { on := 0, ground := Ground.phase }, { on := 1, ground := Ground.textOnly Departure.lateStores }], guard := none }) rfl (fun K hK => ?_) AllReadyH.nil
        clear hHeld
        obtain ⟨hfl, r0, r1, rf0, rf1⟩ := R.f2
        have PC := put2_chg k0 w.heap.size (.slice xa W.length xb) (.slice ya G.length yb)
        have R2 := put2_box R (.slice xa W.length xb) (.slice ya G.length yb)
        have Q2 := PC.box Q (by omega)
        have X2 := PC.box X (by omega)
        have Y2 := PC.box Y (by omega)
        have D2 := D.chg PC (fun g hg q => by have := hge g hg; omega)
        have hB2 := hB.trans (PC.below (B := w.heap.size) (by have := hB.size; omega) (fun k q => by omega))
        go_simp
        refine hK.out _ (put2 k0 w.heap.size (.slice xa W.length xb) (.slice ya G.length yb)) ⟨X2, Y2⟩ (fun hHeld => ?_)
        clear hK K hfl r0 r1 rf0 rf1 PC X Y R Q D hB
        generalize put2 k0 w.heap.size (.slice xa W.length xb) (.slice ya G.length yb) = k1 at *
        have X := X2
        have Y := Y2
        have R := R2
        have Q := Q2
        have D := D2
        have hB := hB2
        clear X2 Y2 R2 Q2 D2 hB2
        refine wpAnyH_ready (rs := [3]) (by kernel_rfl) (by simp) ?_
        refine AllReadyH.cons (o := { dst := none, op := Op.store 37 (Operand.tmp 3) (Operand.tmp 45), type := 0, pos := "l13_chunk.go:297", after := #[{ on := 1, ground := Ground.data }, { on := 2, ground := Ground.chain }, { on := 0, ground := Ground.phase }, { on := 1, ground := Ground.phase }, { on := 2, ground := Ground.phase }], guard := none }) rfl (fun K hK => ?_) AllReadyH.nil
        clear hHeld
        obtain ⟨hfl, q0, q1, q2, q3, qf⟩ := Q.f4
        have PC := put4_chg k1 (w.heap.size + 1) (.int .i64 p) (.int .i64 dd) (.string ⟨#[120]⟩) (.int .u32 0)
        have Q2 := put4_box Q (.int .i64 p) (.int .i64 dd) (.string ⟨#[120]⟩) (.int .u32 0)
        have R2 := PC.box R (by omega)
        have X2 := PC.box X (by omega)
        have Y2 := PC.box Y (by omega)
        have D2 := D.chg PC (fun g hg q => by have := hge g hg; omega)
        have hB2 := hB.trans (PC.below (B := w.heap.size) (by have := hB.size; omega) (fun k q => by omega))
        go_simp
        refine hK.out _ (put4 k1 (w.heap.size + 1) (.int .i64 p) (.int .i64 dd) (.string ⟨#[120]⟩) (.int .u32 0)) ⟨X2, Y2⟩ (fun hHeld => ?_)
        clear hK K hfl q0 q1 q2 q3 qf PC X Y R Q D hB
        generalize put4 k1 (w.heap.size + 1) (.int .i64 p) (.int .i64 dd) (.string ⟨#[120]⟩) (.int .u32 0) = k2 at *
        have X := X2
        have Y := Y2
        have R := R2
        have Q := Q2
        have D := D2
        have hB := hB2
        clear X2 Y2 R2 Q2 D2 hB2
        clear hHeld
        refine wpAnyH_done (by kernel_rfl) ?_ _
        obtain ⟨_, r0, r1⟩ := R.c2
        obtain ⟨_, q0, q1, q2, q3⟩ := Q.c4
        have HD : Hid (DT k2 w.heap.size (.slice xa W.length xb) (.slice ya G.length yb) (.slice za C.length zb) W G C) := D.mono (by omega)
        clear X Y R Q D
        go_wp2
        exact bodyPost_ret (v := .tuple #[.agg #[.slice xa W.length xb, .slice ya G.length yb], .agg #[.int .i64 p, .int .i64 dd, .string ⟨#[120]⟩, .int .u32 0]]) (by simp [results, Try.results21, go_sem, r0, r1, q0, q1, q2, q3]) rfl (DTCPost.mk HD.out (show (⟨#[120]⟩ : ByteArray).size ≤ 4001 from by decide) hB)
    | false =>
      go_wp2_with fail
      refine (pick_any _ l _ C.length _ hcu (by omega) (by omega) (by have := D.cl; omega)).mono ?_
      rintro e w5 ⟨⟨x, rfl, hx⟩, hcu2, hch⟩
      replace X := hch.box X (by omega)
      replace Y := hch.box Y (by omega)
      replace R := hch.box R (by omega)
      replace Q := hch.box Q (by omega)
      replace D := D.chg hch nb
      replace hB := hB.trans (hch.below (B := w.heap.size) (by have := hB.size; omega) sB)
      have hcu := hcu2
      clear hch hcu2
      have hxc : x < C.length := by omega
      obtain ⟨vb, vo, rfl⟩ : ∃ vb vo, za = some ⟨vb, vo, none⟩ := by
        obtain ⟨aa, cc, he, hh⟩ := IR_of_owns D.ov rfl
        simp only [Value.slice.injEq, true_and] at he
        obtain ⟨rfl, rfl⟩ := he
        obtain ⟨b', o', h1, _⟩ := hh (by intro e; rw [e] at hC; simp at hC)
        exact ⟨b', o', h1⟩
      obtain ⟨q0, q1, q2, q3⟩ := chunkCells D.ov x hxc
      have hys := D.cs x hxc
      obtain ⟨hyl, y0, y1, y2, y3, yf⟩ := Y.f4
      obtain ⟨s, hs⟩ : ∃ s, s = C[x] := ⟨_, rfl⟩
      rw [← hs] at q0 q1 q2 q3 hys
      have Y2 := put4_box Y (.int .i64 s.n) (.int .i64 s.d) (.string s.k) (.int .u32 s.v)
      have PC := put4_chg w5 w3.heap.size (.int .i64 s.n) (.int .i64 s.d) (.string s.k) (.int .u32 s.v)
      have X2 := PC.box X (by omega)
      have R2 := PC.box R (by omega)
      have Q2 := PC.box Q (by omega)
      have D2 := D.chg PC (fun g hg q => by have := hlt g hg; omega)
      have BP : Below (w.heap.size + 1 + 1 + 1) w5 (put4 w5 w3.heap.size (.int .i64 s.n) (.int .i64 s.d) (.string s.k) (.int .u32 s.v)) := PC.below (by omega) (fun k q => by omega)
      have hcu3 := cur_low hcu (by omega) BP
      have hB2 := hB.trans (BP.mono (by omega))
      clear hs X R Q D hcu hB PC BP Y
      obtain ⟨sn, sd, sk, sv⟩ := s
      dsimp only at *
      go_upto_region 6 with fail
      change Code.wp _ _ _ _ (put4 w5 w3.heap.size (.int .i64 sn) (.int .i64 sd) (.string sk) (.int .u32 sv))
      clear q0 q1 q2 q3 hyl y0 y1 y2 y3 yf
      generalize put4 w5 w3.heap.size (.int .i64 sn) (.int .i64 sd) (.string sk) (.int .u32 sv) = w6 at *
      have X := X2
      have R := R2
      have Q := Q2
      have D := D2
      have Y := Y2
      have hcu := hcu3
      have hB := hB2
      clear X2 R2 Q2 D2 Y2 hcu3 hB2
      go_wp2_with fail
      refine (one_any _ l _ 4 _ hcu (by omega) (by omega) (by omega)).mono ?_
      rintro e wa ⟨⟨y4, rfl⟩, hcu2, hch⟩
      replace X := hch.box X (by omega)
      replace Y := hch.box Y (by omega)
      replace R := hch.box R (by omega)
      replace Q := hch.box Q (by omega)
      replace D := D.chg hch nb
      replace hB := hB.trans (hch.below (B := w.heap.size) (by have := hB.size; omega) sB)
      have hcu := hcu2
      clear hch hcu2
      cases y4 with
      | true =>
        obtain ⟨hyl, y0, y1, y2, y3, yf⟩ := Y.f4
        go_wp2_with fail
        refine (torn_any _ l _ sk _ hcu (by omega) (by omega) (by have := hys; omega)).mono ?_
        rintro e wb ⟨⟨tt, rfl, htt⟩, hcu2, hch⟩
        replace X := hch.box X (by omega)
        replace Y := hch.box Y (by omega)
        replace R := hch.box R (by omega)
        replace Q := hch.box Q (by omega)
        replace D := D.chg hch nb
        replace hB := hB.trans (hch.below (B := w.heap.size) (by have := hB.size; omega) sB)
        have hcu := hcu2
        clear hch hcu2
        clear hyl y0 y1 y2 y3 yf
        obtain ⟨hyl, y0, y1, y2, y3, yf⟩ := Y.f4
        have Y2 := Y.set 2 (.string tt) (by simp)
        simp only [List.set_cons_zero, List.set_cons_succ] at Y2
        have PC : Chg (· = w3.heap.size) wb (wb.setCell ⟨w3.heap.size, 2, none⟩ (.string tt)) := Chg.setCell (S := fun k => k = w3.heap.size) (p := ⟨w3.heap.size, 2, none⟩) (Chg.refl _ _) rfl _
        have X2 := PC.box X (by omega)
        have R2 := PC.box R (by omega)
        have Q2 := PC.box Q (by omega)
        have D2 := D.chg PC (fun g hg q => by have := hlt g hg; omega)
        have hB2 := hB.trans (PC.below (B := w.heap.size) (by have := hB.size; omega) (fun k q => by omega))
        have hts : tt.size ≤ 4001 := by have := hys; omega
        clear X R Q D hB PC Y hcu
        go_upto_region 8 with fail
        clear hyl y0 y1 y2 y3 yf
        generalize wb.setCell ⟨w3.heap.size, 2, none⟩ (.string tt) = wc at *
        have X := X2
        have R := R2
        have Q := Q2
        have D := D2
        have Y := Y2
        have hB := hB2
        clear X2 R2 Q2 D2 Y2 hB2
        have hD : Below (wc).heap.size (wc) (wc).drew := (Below.refl _ _).drew
        replace X := X.below hD
        replace Y := Y.below hD
        replace R := R.below hD
        replace Q := Q.below hD
        replace D := D.below hD
        replace hB := hB.trans (hD.mono hB.size)
        clear hD
        refine wp_region_held_drew (S := fun w' => Box w' w1.heap.size [.slice xa W.length xb, .slice ya G.length yb] ∧ Box w' w3.heap.size [.int .i64 sn, .int .i64 sd, .string tt, .int .u32 sv]) (by kernel_rfl) ⟨X, Y⟩ (fun hHeld => ?_)
        generalize (wc).drew = k0 at *
        refine wpAnyH_take (i := 0) (oi := { dst := some 44, op := Op.load 41 (Operand.tmp 5), type := 41, pos := "l13_chunk.go:297", after := #[], guard := none }) (v := .agg #[.slice xa W.length xb, .slice ya G.length yb]) rfl (by kernel_rfl) (by kernel_rfl) (by kernel_rfl) (fun _ _ _ h => h) (Or.inl ⟨by rfl, ?_⟩) (by assumption) ?_
        · intro wx hSw
          have e0 := hSw.1.2.1 0 _ rfl; have e1 := hSw.1.2.1 1 _ rfl; clear hHeld hSw; go_simp
        simp only [Act.put, List.setIfInBounds_toArray, List.set_cons_zero, List.set_cons_succ]
        refine wpAnyH_take (i := 1) (oi := { dst := some 45, op := Op.load 37 (Operand.tmp 7), type := 37, pos := "l13_chunk.go:297", after := #[{ on := 2, ground := Ground.gcOnly Departure.lateStores }], guard := none }) (v := .agg #[.int .i64 sn, .int .i64 sd, .string tt, .int .u32 sv]) rfl (by kernel_rfl) (by kernel_rfl) (by kernel_rfl) (fun _ _ _ h => h) (Or.inl ⟨by rfl, ?_⟩) (by assumption) ?_
        · intro wx hSw
          have e0 := hSw.2.2.1 0 _ rfl; have e1 := hSw.2.2.1 1 _ rfl; have e2 := hSw.2.2.1 2 _ rfl; have e3 := hSw.2.2.1 3 _ rfl; clear hHeld hSw; go_simp
        simp only [Act.put, List.setIfInBounds_toArray, List.set_cons_zero, List.set_cons_succ]
        refine wpAnyH_ready (rs := [2]) (by kernel_rfl) (by simp) ?_
        refine AllReadyH.cons (o := { dst := none, op := Op.store 41 (Operand.tmp 2) (Operand.tmp 44), type := 0, pos := "l13_chunk.go:297", after := #[{ on := 0, ground := Ground.data }, { on := 0, ground := Ground.phase }, { on := 1, ground := Ground.textOnly Departure.lateStores }], guard := none }) rfl (fun K hK => ?_) AllReadyH.nil
        clear hHeld
        obtain ⟨hfl, r0, r1, rf0, rf1⟩ := R.f2
        have PC := put2_chg k0 w.heap.size (.slice xa W.length xb) (.slice ya G.length yb)
        have R2 := put2_box R (.slice xa W.length xb) (.slice ya G.length yb)
        have Q2 := PC.box Q (by omega)
        have X2 := PC.box X (by omega)
        have Y2 := PC.box Y (by omega)
        have D2 := D.chg PC (fun g hg q => by have := hge g hg; omega)
        have hB2 := hB.trans (PC.below (B := w.heap.size) (by have := hB.size; omega) (fun k q => by omega))
        go_simp
        refine hK.out _ (put2 k0 w.heap.size (.slice xa W.length xb) (.slice ya G.length yb)) ⟨X2, Y2⟩ (fun hHeld => ?_)
        clear hK K hfl r0 r1 rf0 rf1 PC X Y R Q D hB
        generalize put2 k0 w.heap.size (.slice xa W.length xb) (.slice ya G.length yb) = k1 at *
        have X := X2
        have Y := Y2
        have R := R2
        have Q := Q2
        have D := D2
        have hB := hB2
        clear X2 Y2 R2 Q2 D2 hB2
        refine wpAnyH_ready (rs := [3]) (by kernel_rfl) (by simp) ?_
        refine AllReadyH.cons (o := { dst := none, op := Op.store 37 (Operand.tmp 3) (Operand.tmp 45), type := 0, pos := "l13_chunk.go:297", after := #[{ on := 1, ground := Ground.data }, { on := 2, ground := Ground.chain }, { on := 0, ground := Ground.phase }, { on := 1, ground := Ground.phase }, { on := 2, ground := Ground.phase }], guard := none }) rfl (fun K hK => ?_) AllReadyH.nil
        clear hHeld
        obtain ⟨hfl, q0, q1, q2, q3, qf⟩ := Q.f4
        have PC := put4_chg k1 (w.heap.size + 1) (.int .i64 sn) (.int .i64 sd) (.string tt) (.int .u32 sv)
        have Q2 := put4_box Q (.int .i64 sn) (.int .i64 sd) (.string tt) (.int .u32 sv)
        have R2 := PC.box R (by omega)
        have X2 := PC.box X (by omega)
        have Y2 := PC.box Y (by omega)
        have D2 := D.chg PC (fun g hg q => by have := hge g hg; omega)
        have hB2 := hB.trans (PC.below (B := w.heap.size) (by have := hB.size; omega) (fun k q => by omega))
        go_simp
        refine hK.out _ (put4 k1 (w.heap.size + 1) (.int .i64 sn) (.int .i64 sd) (.string tt) (.int .u32 sv)) ⟨X2, Y2⟩ (fun hHeld => ?_)
        clear hK K hfl q0 q1 q2 q3 qf PC X Y R Q D hB
        generalize put4 k1 (w.heap.size + 1) (.int .i64 sn) (.int .i64 sd) (.string tt) (.int .u32 sv) = k2 at *
        have X := X2
        have Y := Y2
        have R := R2
        have Q := Q2
        have D := D2
        have hB := hB2
        clear X2 Y2 R2 Q2 D2 hB2
        clear hHeld
        refine wpAnyH_done (by kernel_rfl) ?_ _
        obtain ⟨_, r0, r1⟩ := R.c2
        obtain ⟨_, q0, q1, q2, q3⟩ := Q.c4
        have HD : Hid (DT k2 w.heap.size (.slice xa W.length xb) (.slice ya G.length yb) (.slice (some ⟨vb, vo, none⟩) C.length zb) W G C) := D.mono (by omega)
        clear X Y R Q D
        go_wp2
        exact bodyPost_ret (v := .tuple #[.agg #[.slice xa W.length xb, .slice ya G.length yb], .agg #[.int .i64 sn, .int .i64 sd, .string tt, .int .u32 sv]]) (by simp [results, Try.results21, go_sem, r0, r1, q0, q1, q2, q3]) rfl (DTCPost.mk HD.out hts hB)
      | false =>
        go_upto_region 8 with fail
        have hD : Below (wa).heap.size (wa) (wa).drew := (Below.refl _ _).drew
        replace X := X.below hD
        replace Y := Y.below hD
        replace R := R.below hD
        replace Q := Q.below hD
        replace D := D.below hD
        replace hB := hB.trans (hD.mono hB.size)
        clear hD
        refine wp_region_held_drew (S := fun w' => Box w' w1.heap.size [.slice xa W.length xb, .slice ya G.length yb] ∧ Box w' w3.heap.size [.int .i64 sn, .int .i64 sd, .string sk, .int .u32 sv]) (by kernel_rfl) ⟨X, Y⟩ (fun hHeld => ?_)
        generalize (wa).drew = k0 at *
        refine wpAnyH_take (i := 0) (oi := { dst := some 44, op := Op.load 41 (Operand.tmp 5), type := 41, pos := "l13_chunk.go:297", after := #[], guard := none }) (v := .agg #[.slice xa W.length xb, .slice ya G.length yb]) rfl (by kernel_rfl) (by kernel_rfl) (by kernel_rfl) (fun _ _ _ h => h) (Or.inl ⟨by rfl, ?_⟩) (by assumption) ?_
        · intro wx hSw
          have e0 := hSw.1.2.1 0 _ rfl; have e1 := hSw.1.2.1 1 _ rfl; clear hHeld hSw; go_simp
        simp only [Act.put, List.setIfInBounds_toArray, List.set_cons_zero, List.set_cons_succ]
        refine wpAnyH_take (i := 1) (oi := { dst := some 45, op := Op.load 37 (Operand.tmp 7), type := 37, pos := "l13_chunk.go:297", after := #[{ on := 2, ground := Ground.gcOnly Departure.lateStores }], guard := none }) (v := .agg #[.int .i64 sn, .int .i64 sd, .string sk, .int .u32 sv]) rfl (by kernel_rfl) (by kernel_rfl) (by kernel_rfl) (fun _ _ _ h => h) (Or.inl ⟨by rfl, ?_⟩) (by assumption) ?_
        · intro wx hSw
          have e0 := hSw.2.2.1 0 _ rfl; have e1 := hSw.2.2.1 1 _ rfl; have e2 := hSw.2.2.1 2 _ rfl; have e3 := hSw.2.2.1 3 _ rfl; clear hHeld hSw; go_simp
        simp only [Act.put, List.setIfInBounds_toArray, List.set_cons_zero, List.set_cons_succ]
        refine wpAnyH_ready (rs := [2]) (by kernel_rfl) (by simp) ?_
        refine AllReadyH.cons (o := { dst := none, op := Op.store 41 (Operand.tmp 2) (Operand.tmp 44), type := 0, pos := "l13_chunk.go:297", after := #[{ on := 0, ground := Ground.data }, { on := 0, ground := Ground.phase }, { on := 1, ground := Ground.textOnly Departure.lateStores }], guard := none }) rfl (fun K hK => ?_) AllReadyH.nil
        clear hHeld
        obtain ⟨hfl, r0, r1, rf0, rf1⟩ := R.f2
        have PC := put2_chg k0 w.heap.size (.slice xa W.length xb) (.slice ya G.length yb)
        have R2 := put2_box R (.slice xa W.length xb) (.slice ya G.length yb)
        have Q2 := PC.box Q (by omega)
        have X2 := PC.box X (by omega)
        have Y2 := PC.box Y (by omega)
        have D2 := D.chg PC (fun g hg q => by have := hge g hg; omega)
        have hB2 := hB.trans (PC.below (B := w.heap.size) (by have := hB.size; omega) (fun k q => by omega))
        go_simp
        refine hK.out _ (put2 k0 w.heap.size (.slice xa W.length xb) (.slice ya G.length yb)) ⟨X2, Y2⟩ (fun hHeld => ?_)
        clear hK K hfl r0 r1 rf0 rf1 PC X Y R Q D hB
        generalize put2 k0 w.heap.size (.slice xa W.length xb) (.slice ya G.length yb) = k1 at *
        have X := X2
        have Y := Y2
        have R := R2
        have Q := Q2
        have D := D2
        have hB := hB2
        clear X2 Y2 R2 Q2 D2 hB2
        refine wpAnyH_ready (rs := [3]) (by kernel_rfl) (by simp) ?_
        refine AllReadyH.cons (o := { dst := none, op := Op.store 37 (Operand.tmp 3) (Operand.tmp 45), type := 0, pos := "l13_chunk.go:297", after := #[{ on := 1, ground := Ground.data }, { on := 2, ground := Ground.chain }, { on := 0, ground := Ground.phase }, { on := 1, ground := Ground.phase }, { on := 2, ground := Ground.phase }], guard := none }) rfl (fun K hK => ?_) AllReadyH.nil
        clear hHeld
        obtain ⟨hfl, q0, q1, q2, q3, qf⟩ := Q.f4
        have PC := put4_chg k1 (w.heap.size + 1) (.int .i64 sn) (.int .i64 sd) (.string sk) (.int .u32 sv)
        have Q2 := put4_box Q (.int .i64 sn) (.int .i64 sd) (.string sk) (.int .u32 sv)
        have R2 := PC.box R (by omega)
        have X2 := PC.box X (by omega)
        have Y2 := PC.box Y (by omega)
        have D2 := D.chg PC (fun g hg q => by have := hge g hg; omega)
        have hB2 := hB.trans (PC.below (B := w.heap.size) (by have := hB.size; omega) (fun k q => by omega))
        go_simp
        refine hK.out _ (put4 k1 (w.heap.size + 1) (.int .i64 sn) (.int .i64 sd) (.string sk) (.int .u32 sv)) ⟨X2, Y2⟩ (fun hHeld => ?_)
        clear hK K hfl q0 q1 q2 q3 qf PC X Y R Q D hB
        generalize put4 k1 (w.heap.size + 1) (.int .i64 sn) (.int .i64 sd) (.string sk) (.int .u32 sv) = k2 at *
        have X := X2
        have Y := Y2
        have R := R2
        have Q := Q2
        have D := D2
        have hB := hB2
        clear X2 Y2 R2 Q2 D2 hB2
        clear hHeld
        refine wpAnyH_done (by kernel_rfl) ?_ _
        obtain ⟨_, r0, r1⟩ := R.c2
        obtain ⟨_, q0, q1, q2, q3⟩ := Q.c4
        have HD : Hid (DT k2 w.heap.size (.slice xa W.length xb) (.slice ya G.length yb) (.slice (some ⟨vb, vo, none⟩) C.length zb) W G C) := D.mono (by omega)
        clear X Y R Q D
        go_wp2
        exact bodyPost_ret (v := .tuple #[.agg #[.slice xa W.length xb, .slice ya G.length yb], .agg #[.int .i64 sn, .int .i64 sd, .string sk, .int .u32 sv]]) (by simp [results, Try.results21, go_sem, r0, r1, q0, q1, q2, q3]) rfl (DTCPost.mk HD.out hys hB)
  · have gC : ¬ (0 : Int) < (C.length : Int) := by omega
    go_wp2_with fail
    refine (one_any _ l _ 4 _ hcu (by omega) (by omega) (by omega)).mono ?_
    rintro e wa ⟨⟨y4, rfl⟩, hcu2, hch⟩
    replace X := hch.box X (by omega)
    replace Y := hch.box Y (by omega)
    replace R := hch.box R (by omega)
    replace Q := hch.box Q (by omega)
    replace D := D.chg hch nb
    replace hB := hB.trans (hch.below (B := w.heap.size) (by have := hB.size; omega) sB)
    have hcu := hcu2
    clear hch hcu2
    cases y4 with
    | true =>
      obtain ⟨hyl, y0, y1, y2, y3, yf⟩ := Y.f4
      go_wp2_with fail
      refine (torn_any _ l _ ⟨#[120]⟩ _ hcu (by omega) (by omega) (by have := (show (⟨#[120]⟩ : ByteArray).size ≤ 4001 from by decide); omega)).mono ?_
      rintro e wb ⟨⟨tt, rfl, htt⟩, hcu2, hch⟩
      replace X := hch.box X (by omega)
      replace Y := hch.box Y (by omega)
      replace R := hch.box R (by omega)
      replace Q := hch.box Q (by omega)
      replace D := D.chg hch nb
      replace hB := hB.trans (hch.below (B := w.heap.size) (by have := hB.size; omega) sB)
      have hcu := hcu2
      clear hch hcu2
      clear hyl y0 y1 y2 y3 yf
      obtain ⟨hyl, y0, y1, y2, y3, yf⟩ := Y.f4
      have Y2 := Y.set 2 (.string tt) (by simp)
      simp only [List.set_cons_zero, List.set_cons_succ] at Y2
      have PC : Chg (· = w3.heap.size) wb (wb.setCell ⟨w3.heap.size, 2, none⟩ (.string tt)) := Chg.setCell (S := fun k => k = w3.heap.size) (p := ⟨w3.heap.size, 2, none⟩) (Chg.refl _ _) rfl _
      have X2 := PC.box X (by omega)
      have R2 := PC.box R (by omega)
      have Q2 := PC.box Q (by omega)
      have D2 := D.chg PC (fun g hg q => by have := hlt g hg; omega)
      have hB2 := hB.trans (PC.below (B := w.heap.size) (by have := hB.size; omega) (fun k q => by omega))
      have hts : tt.size ≤ 4001 := by have := (show (⟨#[120]⟩ : ByteArray).size ≤ 4001 from by decide); omega
      clear X R Q D hB PC Y hcu
      go_upto_region 8 with fail
      clear hyl y0 y1 y2 y3 yf
      generalize wb.setCell ⟨w3.heap.size, 2, none⟩ (.string tt) = wc at *
      have X := X2
      have R := R2
      have Q := Q2
      have D := D2
      have Y := Y2
      have hB := hB2
      clear X2 R2 Q2 D2 Y2 hB2
      have hD : Below (wc).heap.size (wc) (wc).drew := (Below.refl _ _).drew
      replace X := X.below hD
      replace Y := Y.below hD
      replace R := R.below hD
      replace Q := Q.below hD
      replace D := D.below hD
      replace hB := hB.trans (hD.mono hB.size)
      clear hD
      refine wp_region_held_drew (S := fun w' => Box w' w1.heap.size [.slice xa W.length xb, .slice ya G.length yb] ∧ Box w' w3.heap.size [.int .i64 p, .int .i64 dd, .string tt, .int .u32 0]) (by kernel_rfl) ⟨X, Y⟩ (fun hHeld => ?_)
      generalize (wc).drew = k0 at *
      refine wpAnyH_take (i := 0) (oi := { dst := some 44, op := Op.load 41 (Operand.tmp 5), type := 41, pos := "l13_chunk.go:297", after := #[], guard := none }) (v := .agg #[.slice xa W.length xb, .slice ya G.length yb]) rfl (by kernel_rfl) (by kernel_rfl) (by kernel_rfl) (fun _ _ _ h => h) (Or.inl ⟨by rfl, ?_⟩) (by assumption) ?_
      · intro wx hSw
        have e0 := hSw.1.2.1 0 _ rfl; have e1 := hSw.1.2.1 1 _ rfl; clear hHeld hSw; go_simp
      simp only [Act.put, List.setIfInBounds_toArray, List.set_cons_zero, List.set_cons_succ]
      refine wpAnyH_take (i := 1) (oi := { dst := some 45, op := Op.load 37 (Operand.tmp 7), type := 37, pos := "l13_chunk.go:297", after := #[{ on := 2, ground := Ground.gcOnly Departure.lateStores }], guard := none }) (v := .agg #[.int .i64 p, .int .i64 dd, .string tt, .int .u32 0]) rfl (by kernel_rfl) (by kernel_rfl) (by kernel_rfl) (fun _ _ _ h => h) (Or.inl ⟨by rfl, ?_⟩) (by assumption) ?_
      · intro wx hSw
        have e0 := hSw.2.2.1 0 _ rfl; have e1 := hSw.2.2.1 1 _ rfl; have e2 := hSw.2.2.1 2 _ rfl; have e3 := hSw.2.2.1 3 _ rfl; clear hHeld hSw; go_simp
      simp only [Act.put, List.setIfInBounds_toArray, List.set_cons_zero, List.set_cons_succ]
      refine wpAnyH_ready (rs := [2]) (by kernel_rfl) (by simp) ?_
      refine AllReadyH.cons (o := { dst := none, op := Op.store 41 (Operand.tmp 2) (Operand.tmp 44), type := 0, pos := "l13_chunk.go:297", after := #[{ on := 0, ground := Ground.data }, { on := 0, ground := Ground.phase }, { on := 1, ground := Ground.textOnly Departure.lateStores }], guard := none }) rfl (fun K hK => ?_) AllReadyH.nil
      clear hHeld
      obtain ⟨hfl, r0, r1, rf0, rf1⟩ := R.f2
      have PC := put2_chg k0 w.heap.size (.slice xa W.length xb) (.slice ya G.length yb)
      have R2 := put2_box R (.slice xa W.length xb) (.slice ya G.length yb)
      have Q2 := PC.box Q (by omega)
      have X2 := PC.box X (by omega)
      have Y2 := PC.box Y (by omega)
      have D2 := D.chg PC (fun g hg q => by have := hge g hg; omega)
      have hB2 := hB.trans (PC.below (B := w.heap.size) (by have := hB.size; omega) (fun k q => by omega))
      go_simp
      refine hK.out _ (put2 k0 w.heap.size (.slice xa W.length xb) (.slice ya G.length yb)) ⟨X2, Y2⟩ (fun hHeld => ?_)
      clear hK K hfl r0 r1 rf0 rf1 PC X Y R Q D hB
      generalize put2 k0 w.heap.size (.slice xa W.length xb) (.slice ya G.length yb) = k1 at *
      have X := X2
      have Y := Y2
      have R := R2
      have Q := Q2
      have D := D2
      have hB := hB2
      clear X2 Y2 R2 Q2 D2 hB2
      refine wpAnyH_ready (rs := [3]) (by kernel_rfl) (by simp) ?_
      refine AllReadyH.cons (o := { dst := none, op := Op.store 37 (Operand.tmp 3) (Operand.tmp 45), type := 0, pos := "l13_chunk.go:297", after := #[{ on := 1, ground := Ground.data }, { on := 2, ground := Ground.chain }, { on := 0, ground := Ground.phase }, { on := 1, ground := Ground.phase }, { on := 2, ground := Ground.phase }], guard := none }) rfl (fun K hK => ?_) AllReadyH.nil
      clear hHeld
      obtain ⟨hfl, q0, q1, q2, q3, qf⟩ := Q.f4
      have PC := put4_chg k1 (w.heap.size + 1) (.int .i64 p) (.int .i64 dd) (.string tt) (.int .u32 0)
      have Q2 := put4_box Q (.int .i64 p) (.int .i64 dd) (.string tt) (.int .u32 0)
      have R2 := PC.box R (by omega)
      have X2 := PC.box X (by omega)
      have Y2 := PC.box Y (by omega)
      have D2 := D.chg PC (fun g hg q => by have := hge g hg; omega)
      have hB2 := hB.trans (PC.below (B := w.heap.size) (by have := hB.size; omega) (fun k q => by omega))
      go_simp
      refine hK.out _ (put4 k1 (w.heap.size + 1) (.int .i64 p) (.int .i64 dd) (.string tt) (.int .u32 0)) ⟨X2, Y2⟩ (fun hHeld => ?_)
      clear hK K hfl q0 q1 q2 q3 qf PC X Y R Q D hB
      generalize put4 k1 (w.heap.size + 1) (.int .i64 p) (.int .i64 dd) (.string tt) (.int .u32 0) = k2 at *
      have X := X2
      have Y := Y2
      have R := R2
      have Q := Q2
      have D := D2
      have hB := hB2
      clear X2 Y2 R2 Q2 D2 hB2
      clear hHeld
      refine wpAnyH_done (by kernel_rfl) ?_ _
      obtain ⟨_, r0, r1⟩ := R.c2
      obtain ⟨_, q0, q1, q2, q3⟩ := Q.c4
      have HD : Hid (DT k2 w.heap.size (.slice xa W.length xb) (.slice ya G.length yb) (.slice za C.length zb) W G C) := D.mono (by omega)
      clear X Y R Q D
      go_wp2
      exact bodyPost_ret (v := .tuple #[.agg #[.slice xa W.length xb, .slice ya G.length yb], .agg #[.int .i64 p, .int .i64 dd, .string tt, .int .u32 0]]) (by simp [results, Try.results21, go_sem, r0, r1, q0, q1, q2, q3]) rfl (DTCPost.mk HD.out hts hB)
    | false =>
      go_upto_region 8 with fail
      have hD : Below (wa).heap.size (wa) (wa).drew := (Below.refl _ _).drew
      replace X := X.below hD
      replace Y := Y.below hD
      replace R := R.below hD
      replace Q := Q.below hD
      replace D := D.below hD
      replace hB := hB.trans (hD.mono hB.size)
      clear hD
      refine wp_region_held_drew (S := fun w' => Box w' w1.heap.size [.slice xa W.length xb, .slice ya G.length yb] ∧ Box w' w3.heap.size [.int .i64 p, .int .i64 dd, .string ⟨#[120]⟩, .int .u32 0]) (by kernel_rfl) ⟨X, Y⟩ (fun hHeld => ?_)
      generalize (wa).drew = k0 at *
      refine wpAnyH_take (i := 0) (oi := { dst := some 44, op := Op.load 41 (Operand.tmp 5), type := 41, pos := "l13_chunk.go:297", after := #[], guard := none }) (v := .agg #[.slice xa W.length xb, .slice ya G.length yb]) rfl (by kernel_rfl) (by kernel_rfl) (by kernel_rfl) (fun _ _ _ h => h) (Or.inl ⟨by rfl, ?_⟩) (by assumption) ?_
      · intro wx hSw
        have e0 := hSw.1.2.1 0 _ rfl; have e1 := hSw.1.2.1 1 _ rfl; clear hHeld hSw; go_simp
      simp only [Act.put, List.setIfInBounds_toArray, List.set_cons_zero, List.set_cons_succ]
      refine wpAnyH_take (i := 1) (oi := { dst := some 45, op := Op.load 37 (Operand.tmp 7), type := 37, pos := "l13_chunk.go:297", after := #[{ on := 2, ground := Ground.gcOnly Departure.lateStores }], guard := none }) (v := .agg #[.int .i64 p, .int .i64 dd, .string ⟨#[120]⟩, .int .u32 0]) rfl (by kernel_rfl) (by kernel_rfl) (by kernel_rfl) (fun _ _ _ h => h) (Or.inl ⟨by rfl, ?_⟩) (by assumption) ?_
      · intro wx hSw
        have e0 := hSw.2.2.1 0 _ rfl; have e1 := hSw.2.2.1 1 _ rfl; have e2 := hSw.2.2.1 2 _ rfl; have e3 := hSw.2.2.1 3 _ rfl; clear hHeld hSw; go_simp
      simp only [Act.put, List.setIfInBounds_toArray, List.set_cons_zero, List.set_cons_succ]
      refine wpAnyH_ready (rs := [2]) (by kernel_rfl) (by simp) ?_
      refine AllReadyH.cons (o := { dst := none, op := Op.store 41 (Operand.tmp 2) (Operand.tmp 44), type := 0, pos := "l13_chunk.go:297", after := #[{ on := 0, ground := Ground.data }, { on := 0, ground := Ground.phase }, { on := 1, ground := Ground.textOnly Departure.lateStores }], guard := none }) rfl (fun K hK => ?_) AllReadyH.nil
      clear hHeld
      obtain ⟨hfl, r0, r1, rf0, rf1⟩ := R.f2
      have PC := put2_chg k0 w.heap.size (.slice xa W.length xb) (.slice ya G.length yb)
      have R2 := put2_box R (.slice xa W.length xb) (.slice ya G.length yb)
      have Q2 := PC.box Q (by omega)
      have X2 := PC.box X (by omega)
      have Y2 := PC.box Y (by omega)
      have D2 := D.chg PC (fun g hg q => by have := hge g hg; omega)
      have hB2 := hB.trans (PC.below (B := w.heap.size) (by have := hB.size; omega) (fun k q => by omega))
      go_simp
      refine hK.out _ (put2 k0 w.heap.size (.slice xa W.length xb) (.slice ya G.length yb)) ⟨X2, Y2⟩ (fun hHeld => ?_)
      clear hK K hfl r0 r1 rf0 rf1 PC X Y R Q D hB
      generalize put2 k0 w.heap.size (.slice xa W.length xb) (.slice ya G.length yb) = k1 at *
      have X := X2
      have Y := Y2
      have R := R2
      have Q := Q2
      have D := D2
      have hB := hB2
      clear X2 Y2 R2 Q2 D2 hB2
      refine wpAnyH_ready (rs := [3]) (by kernel_rfl) (by simp) ?_
      refine AllReadyH.cons (o := { dst := none, op := Op.store 37 (Operand.tmp 3) (Operand.tmp 45), type := 0, pos := "l13_chunk.go:297", after := #[{ on := 1, ground := Ground.data }, { on := 2, ground := Ground.chain }, { on := 0, ground := Ground.phase }, { on := 1, ground := Ground.phase }, { on := 2, ground := Ground.phase }], guard := none }) rfl (fun K hK => ?_) AllReadyH.nil
      clear hHeld
      obtain ⟨hfl, q0, q1, q2, q3, qf⟩ := Q.f4
      have PC := put4_chg k1 (w.heap.size + 1) (.int .i64 p) (.int .i64 dd) (.string ⟨#[120]⟩) (.int .u32 0)
      have Q2 := put4_box Q (.int .i64 p) (.int .i64 dd) (.string ⟨#[120]⟩) (.int .u32 0)
      have R2 := PC.box R (by omega)
      have X2 := PC.box X (by omega)
      have Y2 := PC.box Y (by omega)
      have D2 := D.chg PC (fun g hg q => by have := hge g hg; omega)
      have hB2 := hB.trans (PC.below (B := w.heap.size) (by have := hB.size; omega) (fun k q => by omega))
      go_simp
      refine hK.out _ (put4 k1 (w.heap.size + 1) (.int .i64 p) (.int .i64 dd) (.string ⟨#[120]⟩) (.int .u32 0)) ⟨X2, Y2⟩ (fun hHeld => ?_)
      clear hK K hfl q0 q1 q2 q3 qf PC X Y R Q D hB
      generalize put4 k1 (w.heap.size + 1) (.int .i64 p) (.int .i64 dd) (.string ⟨#[120]⟩) (.int .u32 0) = k2 at *
      have X := X2
      have Y := Y2
      have R := R2
      have Q := Q2
      have D := D2
      have hB := hB2
      clear X2 Y2 R2 Q2 D2 hB2
      clear hHeld
      refine wpAnyH_done (by kernel_rfl) ?_ _
      obtain ⟨_, r0, r1⟩ := R.c2
      obtain ⟨_, q0, q1, q2, q3⟩ := Q.c4
      have HD : Hid (DT k2 w.heap.size (.slice xa W.length xb) (.slice ya G.length yb) (.slice za C.length zb) W G C) := D.mono (by omega)
      clear X Y R Q D
      go_wp2
      exact bodyPost_ret (v := .tuple #[.agg #[.slice xa W.length xb, .slice ya G.length yb], .agg #[.int .i64 p, .int .i64 dd, .string ⟨#[120]⟩, .int .u32 0]]) (by simp [results, Try.results21, go_sem, r0, r1, q0, q1, q2, q3]) rfl (DTCPost.mk HD.out (show (⟨#[120]⟩ : ByteArray).size ≤ 4001 from by decide) hB)
end Go.Proofs.Ytocaigffikdlhaa
