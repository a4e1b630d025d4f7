/-
  impl.TimeoutNode: where it asks.
-/
import Derived.Test.YtapfhhmimkkhnaaQ9
import Derived.Deep.RegionHeld3
namespace Go.Proofs.Ytapfhhmimkkhnaa
open Go.RowKit Go.Maps
set_option linter.unusedVariables false
set_option maxRecDepth 100000

theorem goodN_bounds {id pe te vo co ro : Int} {log : List En} {vs mt : List Int} (h : goodN id pe te vo co ro log vs mt = true) : 0 ≤ id ∧ id < pe ∧ pe ≤ 7 ∧ 0 ≤ te ∧ log.length ≤ 60 := by
  rw [goodN_spec] at h
  simp [inB] at h
  omega

set_option maxHeartbeats 16000000 in
theorem implTime_yes (id pe te vo co ro : Int) (vl vv vm : Value) (log : List En) (vs mt : List Int) (base : Nat) (w : World) (ho : OwnN w base vl vv vm log vs mt) (nl : log.length ≤ 1048576) (nv : vs.length ≤ 1048576) (nm : mt.length ≤ 1048576) (ns : ∀ i (h : i < log.length), log[i].d.size ≤ 1048576) (he : tmOk (goodN id pe te vo co ro log vs mt) ro te = true) :
    Calls Try.prog 26 #[.agg #[.int .i64 id, .int .i64 pe, .int .i64 te, .int .i64 vo, vl, .int .i64 co, .int .i64 ro, vv, vm]] w fun e w' => ∃ ul uv um uq, e = .returned (.tuple #[.agg #[.int .i64 id, .int .i64 pe, .int .i64 (te + 1), .int .i64 id, ul, .int .i64 co, .int .i64 (tmN id pe te co log).ro, uv, um], uq, .bool true]) ∧ OwnN w' w.heap.size ul uv um log (tmN id pe te co log).vs (tmN id pe te co log).mt ∧ w'.ownsRow w.heap.size 38 9 uq (asksTo id (te + 1) log.length (tmAt log log.length) pe.toNat).length (flat9 (asksTo id (te + 1) log.length (tmAt log log.length) pe.toNat)) ∧ Below w.heap.size w w' := by
  obtain ⟨W0, hW0⟩ : ∃ W0, W0 = (w.alloc (.cells #[.int .i64 id, .int .i64 pe, .int .i64 te, .int .i64 vo, vl, .int .i64 co, .int .i64 ro, vv, vm] 26)).alloc (.cells #[.int .i64 0, .int .i64 0, .int .i64 0, .int .i64 0, .slice none 0 0, .int .i64 0, .int .i64 0, .slice none 0 0, .slice none 0 0] 26) := ⟨_, rfl⟩
  have hB : Below w.heap.size w W0 := by rw [hW0]; exact below2 _ _ _
  have hz00 : w.heap.size + 1 + 1 ≤ W0.heap.size := by rw [hW0]; simp
  have X : Box W0 w.heap.size [.int .i64 id, .int .i64 pe, .int .i64 te, .int .i64 vo, vl, .int .i64 co, .int .i64 ro, vv, vm] := by rw [hW0]; exact (Box.new w #[.int .i64 id, .int .i64 pe, .int .i64 te, .int .i64 vo, vl, .int .i64 co, .int .i64 ro, vv, vm] 26).alloc _
  have Y : Box W0 (w.heap.size + 1) [.int .i64 0, .int .i64 0, .int .i64 0, .int .i64 0, .slice none 0 0, .int .i64 0, .int .i64 0, .slice none 0 0, .slice none 0 0] := by
    rw [hW0]
    have := Box.new (w.alloc (.cells #[.int .i64 id, .int .i64 pe, .int .i64 te, .int .i64 vo, vl, .int .i64 co, .int .i64 ro, vv, vm] 26)) #[.int .i64 0, .int .i64 0, .int .i64 0, .int .i64 0, .slice none 0 0, .int .i64 0, .int .i64 0, .slice none 0 0, .slice none 0 0] 26
    simpa using this
  have ho0 := ho.below hB
  have K := implGoodN_any id pe te vo co ro vl vv vm log vs mt _ ho0.er ho0.iv ho0.im nl nv nm ns
  have K2 := fun W (h : Below w.heap.size w W) => copyNode_any id pe te vo co ro vl vv vm log vs mt W (ho.below h).er (ho.below h).iv (ho.below h).im ho.nns.1 ho.nns.2.1 ho.nns.2.2 nl nv nm
  have HG : goodN id pe te vo co ro log vs mt = true → 0 ≤ id ∧ id < pe ∧ pe ≤ 7 ∧ 0 ≤ te ∧ log.length ≤ 60 := goodN_bounds
  generalize goodN id pe te vo co ro log vs mt = g at *
  obtain ⟨⟨la, lc, rfl⟩, ⟨va, vc, rfl⟩, ma, mc, rfl⟩ := ho.shapes
  clear ns ho0 ho
  rcases tmOk_cases g ro te with ⟨_, rfl, h1, h2⟩ | ⟨h, _⟩
  rotate_left
  · rw [he] at h; cases h
  obtain ⟨i0, i1, i2, i3, i4⟩ := HG rfl
  clear he HG
  have KV := fun W a c => votedBy_all id pe (te + 1) id co a c log W i0 i1
  rw [show (tmN id pe (te + 1) co log).ro = (tmN id pe te co log).ro from by unfold tmN; split <;> rfl, show (tmN id pe (te + 1) co log).vs = (tmN id pe te co log).vs from by unfold tmN; split <;> rfl, show (tmN id pe (te + 1) co log).mt = (tmN id pe te co log).mt from by unfold tmN; split <;> rfl] at KV
  generalize (tmN id pe te co log).ro = r at *
  generalize (tmN id pe te co log).vs = nv' at *
  generalize (tmN id pe te co log).mt = nm' at *
  go_enter Try.func26, Try.ntmps26
  go_wp2_with fail
  rw [← hW0]; clear hW0
  refine K.mono ?_
  rintro e w1 ⟨rfl, hb⟩
  replace hB := below_then hB hb
  replace Y := Y.below hb
  replace X := X.below hb
  have hz1 := hb.size
  clear K hb
  obtain ⟨hxl, x0, x1, x2, x3, x4, x5, x6, x7, x8⟩ := X.e9
  have h1b : (ro == 2) = false := by simp [h1]
  have h2b : ¬ (1000 : Int) ≤ te := by omega
  go_wp2_with fail
  refine (K2 _ hB).mono ?_
  rintro e w2 ⟨u1, u2, u3, rfl, O, hb⟩
  replace hB := below_then hB hb
  replace Y := Y.below hb
  replace X := X.below hb
  have hz2 := hb.size
  clear K2 hb hxl x0 x1 x2 x3 x4 x5 x6 x7 x8
  have gl := owns_ge O.l
  obtain ⟨⟨ua, uc, rfl⟩, ⟨pa, pc, rfl⟩, qa, qc, rfl⟩ := O.shapes
  have ol := O.l
  clear O
  go_wp2_with fail
  refine (following_any _ _ _ _ _ _ _ _ _ ua log.length uc rfl _ ⟨_, _, _, rfl⟩ ⟨_, _, _, rfl⟩).mono ?_
  rintro e w3 ⟨rfl, hb⟩
  replace hB := below_then hB hb
  replace Y := Y.below hb
  replace X := X.below hb
  replace ol := owns_below ol hb
  have hz3 := hb.size
  clear hb
  obtain ⟨hxl, x0, x1, x2, x3, x4, x5, x6, x7, x8⟩ := X.e9
  obtain ⟨e0, e1, e2, e3, e4, e5, e6, e7, e8⟩ := X.f9
  go_upto_region 4 with fail
  obtain ⟨W3, hW3⟩ : ∃ W, W = put9 w3 w.heap.size (.int .i64 id) (.int .i64 pe) (.int .i64 te) (.int .i64 vo) (.slice ua log.length uc) (.int .i64 co) (.int .i64 0) (.slice none 0 0) (.slice none 0 0) := ⟨_, rfl⟩
  have hC : Chg (· = w.heap.size) w3 W3 := by rw [hW3]; exact put9_chg _ _ _ _ _ _ _ _ _ _ _
  replace X : Box W3 w.heap.size [.int .i64 id, .int .i64 pe, .int .i64 te, .int .i64 vo, .slice ua log.length uc, .int .i64 co, .int .i64 0, .slice none 0 0, .slice none 0 0] := by rw [hW3]; exact put9_box X _ _ _ _ _ _ _ _ _
  replace Y := hC.box Y (by omega)
  replace ol := hC.owns ol (fun b hb hh => by have := gl b hb; have hh : b = w.heap.size := hh; omega)
  replace hB := hB.trans (hC.below (B := w.heap.size) hB.size (fun k hk => by have hk : k = w.heap.size := hk; omega))
  have hz4 : w3.heap.size ≤ W3.heap.size := hC.size
  unfold put9 at hW3
  rw [← hW3]
  clear hW3 hC hxl x0 x1 x2 x3 x4 x5 x6 x7 x8 e0 e1 e2 e3 e4 e5 e6 e7 e8
  obtain ⟨hxl, x0, x1, x2, x3, x4, x5, x6, x7, x8⟩ := X.e9
  obtain ⟨e0, e1, e2, e3, e4, e5, e6, e7, e8⟩ := X.f9
  go_upto_region 7 with fail
  obtain ⟨W4, hW4⟩ : ∃ W, W = ((W3.setCell ⟨w.heap.size, 2, none⟩ (.int .i64 (te + 1))).setCell ⟨w.heap.size, 3, none⟩ (.int .i64 id)).setCell ⟨w.heap.size, 6, none⟩ (.int .i64 1) := ⟨_, rfl⟩
  have hC : Chg (fun k => k = w.heap.size) W3 W4 := by rw [hW4]; exact Chg.setCell (S := fun k => k = w.heap.size) (Chg.setCell (S := fun k => k = w.heap.size) (Chg.setCell (S := fun k => k = w.heap.size) (Chg.refl _ _) rfl _) rfl _) rfl _
  replace X : Box W4 w.heap.size [.int .i64 id, .int .i64 pe, .int .i64 (te + 1), .int .i64 id, .slice ua log.length uc, .int .i64 co, .int .i64 1, .slice none 0 0, .slice none 0 0] := by rw [hW4]; exact ((X.set 2 _ (by simp)).set 3 _ (by simp)).set 6 _ (by simp)
  replace Y := hC.box Y (by omega)
  replace ol := hC.owns ol (fun b hb hh => by have := gl b hb; have hh : b = w.heap.size := hh; omega)
  replace hB := hB.trans (hC.below (B := w.heap.size) hB.size (fun k hk => by have hk : k = w.heap.size := hk; omega))
  have hz5 : W3.heap.size ≤ W4.heap.size := hC.size
  rw [← hW4]
  clear hW4 hC hxl x0 x1 x2 x3 x4 x5 x6 x7 x8 e0 e1 e2 e3 e4 e5 e6 e7 e8
  obtain ⟨hxl, x0, x1, x2, x3, x4, x5, x6, x7, x8⟩ := X.e9
  go_wp2_with fail
  refine (KV _ ua uc).mono ?_
  rintro e w5 ⟨uv, um, rfl, ov, om, hne, hb⟩
  replace hB := below_then hB hb
  replace Y := Y.below hb
  replace X := X.below hb
  replace ol := owns_below ol hb
  have hz6 := hb.size
  have gv := owns_ge ov
  have gm := owns_ge om
  clear hb KV hxl x0 x1 x2 x3 x4 x5 x6 x7 x8
  obtain ⟨xa, xc, rfl⟩ := owns_shape ov
  obtain ⟨ya, yc, rfl⟩ := owns_shape om
  obtain ⟨hxl, x0, x1, x2, x3, x4, x5, x6, x7, x8⟩ := X.e9
  obtain ⟨e0, e1, e2, e3, e4, e5, e6, e7, e8⟩ := X.f9
  go_upto_region 8 with fail
  obtain ⟨W5, hW5⟩ : ∃ W, W = put9 w5 w.heap.size (.int .i64 id) (.int .i64 pe) (.int .i64 (te + 1)) (.int .i64 id) (.slice ua log.length uc) (.int .i64 co) (.int .i64 r) (.slice xa nv'.length xc) (.slice ya nm'.length yc) := ⟨_, rfl⟩
  have hC : Chg (· = w.heap.size) w5 W5 := by rw [hW5]; exact put9_chg _ _ _ _ _ _ _ _ _ _ _
  replace X : Box W5 w.heap.size [.int .i64 id, .int .i64 pe, .int .i64 (te + 1), .int .i64 id, .slice ua log.length uc, .int .i64 co, .int .i64 r, .slice xa nv'.length xc, .slice ya nm'.length yc] := by rw [hW5]; exact put9_box X _ _ _ _ _ _ _ _ _
  replace Y := hC.box Y (by omega)
  have O5 : OwnN W5 (w.heap.size + 1 + 1) (.slice ua log.length uc) (.slice xa nv'.length xc) (.slice ya nm'.length yc) log nv' nm' := ⟨owns_mono' (hC.owns ol (fun b hb hh => by have := gl b hb; have hh : b = w.heap.size := hh; omega)) (by omega), owns_mono' (hC.owns ov (fun b hb hh => by have := gv b hb; have hh : b = w.heap.size := hh; omega)) (by omega), owns_mono' (hC.owns om (fun b hb hh => by have := gm b hb; have hh : b = w.heap.size := hh; omega)) (by omega), hne⟩
  replace hB := hB.trans (hC.below (B := w.heap.size) hB.size (fun k hk => by have hk : k = w.heap.size := hk; omega))
  have hz7 : w5.heap.size ≤ W5.heap.size := hC.size
  unfold put9 at hW5
  rw [← hW5]
  clear hW5 hC hxl x0 x1 x2 x3 x4 x5 x6 x7 x8 e0 e1 e2 e3 e4 e5 e6 e7 e8 gl gv gm ol ov om hne
  have gO := fun b hb => (O5.lt b hb).1
  have KA := fun W (h : Below W5.heap.size W5 W) => asksToOthers_any id pe (te + 1) id co r _ _ _ log nv' nm' W (O5.below h).er (O5.below h).iv (O5.below h).im nl (by omega) i2
  obtain ⟨az, HAZ⟩ : ∃ az : List Mq, Hid (asksTo id (te + 1) log.length (tmAt log log.length) pe.toNat = az) := ⟨asksTo id (te + 1) log.length (tmAt log log.length) pe.toNat, rfl⟩
  rw [HAZ.out] at KA
  have HO5 : Hid (OwnN W5 (w.heap.size + 1 + 1) (.slice ua log.length uc) (.slice xa nv'.length xc) (.slice ya nm'.length yc) log nv' nm') := O5
  clear O5
  have hD : Below W5.heap.size W5 W5.drew := (Below.refl _ _).drew
  replace X := X.below hD
  replace Y := Y.below hD
  replace hB := below_then hB hD
  refine wp_region_held_drew (S := fun w' => Box w' w.heap.size [.int .i64 id, .int .i64 pe, .int .i64 (te + 1), .int .i64 id, .slice ua log.length uc, .int .i64 co, .int .i64 r, .slice xa nv'.length xc, .slice ya nm'.length yc]) (by kernel_rfl) X (fun hHeld => ?_)
  obtain ⟨v0, hv0⟩ : ∃ v0, v0 = W5.drew := ⟨_, rfl⟩
  rw [← hv0] at X Y hB hD ⊢
  clear hv0
  refine wpAnyH_take (i := 0) (oi := { dst := some 34, op := Op.load 26 (Operand.tmp 1), type := 26, pos := "l11_raft.go:92", after := #[], guard := none }) (v := .agg #[.int .i64 id, .int .i64 pe, .int .i64 (te + 1), .int .i64 id, .slice ua log.length uc, .int .i64 co, .int .i64 r, .slice xa nv'.length xc, .slice ya nm'.length yc]) rfl (by kernel_rfl) (by kernel_rfl) (by kernel_rfl) (fun _ _ _ h => h) (Or.inl ⟨by rfl, ?_⟩) (by assumption) ?_
  · intro wx hSw
    have e0 := hSw.2.1 0 _ rfl; have e1 := hSw.2.1 1 _ rfl; have e2 := hSw.2.1 2 _ rfl; have e3 := hSw.2.1 3 _ rfl; have e4 := hSw.2.1 4 _ rfl; have e5 := hSw.2.1 5 _ rfl; have e6 := hSw.2.1 6 _ rfl; have e7 := hSw.2.1 7 _ rfl; have e8 := hSw.2.1 8 _ rfl; clear hHeld; go_simp
  simp only [Act.put, List.setIfInBounds_toArray, List.set_cons_zero, List.set_cons_succ]
  refine wpAnyH_take (i := 1) (oi := { dst := some 35, op := Op.load 26 (Operand.tmp 1), type := 26, pos := "l11_raft.go:92", after := #[], guard := none }) (v := .agg #[.int .i64 id, .int .i64 pe, .int .i64 (te + 1), .int .i64 id, .slice ua log.length uc, .int .i64 co, .int .i64 r, .slice xa nv'.length xc, .slice ya nm'.length yc]) rfl (by kernel_rfl) (by kernel_rfl) (by kernel_rfl) (fun _ _ _ h => h) (Or.inl ⟨by rfl, ?_⟩) (by assumption) ?_
  · intro wx hSw
    have e0 := hSw.2.1 0 _ rfl; have e1 := hSw.2.1 1 _ rfl; have e2 := hSw.2.1 2 _ rfl; have e3 := hSw.2.1 3 _ rfl; have e4 := hSw.2.1 4 _ rfl; have e5 := hSw.2.1 5 _ rfl; have e6 := hSw.2.1 6 _ rfl; have e7 := hSw.2.1 7 _ rfl; have e8 := hSw.2.1 8 _ rfl; clear hHeld; go_simp
  simp only [Act.put, List.setIfInBounds_toArray, List.set_cons_zero, List.set_cons_succ]
  refine wpAnyH_ready (rs := [2]) (by kernel_rfl) (by simp) ?_
  refine AllReadyH.cons (o := { dst := some 36, op := Op.call { callee := Callee.value (Operand.func 82), args := #[Operand.tmp 35], argTypes := #[26] }, type := 42, pos := "l11_raft.go:92", after := #[{ on := 1, ground := Ground.data }], guard := none }) rfl (fun K hK => ?_) AllReadyH.nil
  clear hHeld
  go_simp
  refine (KA _ hD).mono ?_
  rintro e w7 ⟨uq, rfl, oq, hb7⟩
  replace X := X.below hb7
  replace Y := Y.below hb7
  have hz8 := hB.size
  have hyb := hD.size
  replace hB := below_then hB hb7
  have O7 := (HO5.out.below hD).below hb7
  have gq := owns_ge oq
  obtain ⟨za, zc, rfl⟩ := owns_shape oq
  clear KA
  refine hK.out _ _ X (fun hHeld => ?_)
  clear hK K
  refine wpAnyH_ready (rs := [3]) (by kernel_rfl) (by simp) ?_
  refine AllReadyH.cons (o := { dst := none, op := Op.store 26 (Operand.tmp 2) (Operand.tmp 34), type := 0, pos := "l11_raft.go:92", after := #[{ on := 0, ground := Ground.data }, { on := 2, ground := Ground.chain }, { on := 0, ground := Ground.phase }, { on := 1, ground := Ground.textOnly Departure.lateStores }, { on := 2, ground := Ground.textOnly Departure.lateStoresUnsure }], guard := none }) rfl (fun K hK => ?_) AllReadyH.nil
  clear hHeld
  have hC := put9_chg w7 (w.heap.size + 1) (.int .i64 id) (.int .i64 pe) (.int .i64 (te + 1)) (.int .i64 id) (.slice ua log.length uc) (.int .i64 co) (.int .i64 r) (.slice xa nv'.length xc) (.slice ya nm'.length yc)
  have Z := put9_box Y (.int .i64 id) (.int .i64 pe) (.int .i64 (te + 1)) (.int .i64 id) (.slice ua log.length uc) (.int .i64 co) (.int .i64 r) (.slice xa nv'.length xc) (.slice ya nm'.length yc)
  have X8 := hC.box X (by omega)
  have O8 := (O7.chg hC (fun b hb hh => by have := gO b hb; have hh : b = w.heap.size + 1 := hh; omega)).mono (show w.heap.size ≤ w.heap.size + 1 + 1 from by omega)
  have oE := owns_mono' (hC.owns oq (fun b hb hh => by have := gq b hb; have hh : b = w.heap.size + 1 := hh; omega)) (show w.heap.size ≤ _ from hz8)
  have hBE := hB.trans (hC.below (B := w.heap.size) hB.size (fun k hk => by have hk : k = w.heap.size + 1 := hk; omega))
  obtain ⟨hyl, y0, y1, y2, y3, y4, y5, y6, y7, y8⟩ := Y.e9
  obtain ⟨f0, f1, f2, f3, f4, f5, f6, f7, f8⟩ := Y.f9
  clear hC X Y hB O7 HO5 hb7 hD oq gq gO
  obtain ⟨WZ, hWZ⟩ : ∃ WZ, WZ = put9 w7 (w.heap.size + 1) (.int .i64 id) (.int .i64 pe) (.int .i64 (te + 1)) (.int .i64 id) (.slice ua log.length uc) (.int .i64 co) (.int .i64 r) (.slice xa nv'.length xc) (.slice ya nm'.length yc) := ⟨_, rfl⟩
  rw [← hWZ] at Z X8 O8 oE hBE
  unfold put9 at hWZ
  go_simp
  rw [← hWZ]
  refine hK.out _ _ X8 (fun hHeld => ?_)
  clear hK K hWZ hyl y0 y1 y2 y3 y4 y5 y6 y7 y8 f0 f1 f2 f3 f4 f5 f6 f7 f8
  refine wpAnyH_take (i := 4) (oi := { dst := some 3, op := Op.assign (Operand.tmp 36), type := 42, pos := "l11_raft.go:92", after := #[{ on := 2, ground := Ground.data }, { on := 3, ground := Ground.chain }, { on := 0, ground := Ground.phase }, { on := 1, ground := Ground.phase }, { on := 2, ground := Ground.phase }, { on := 3, ground := Ground.phase }], guard := none }) (v := .slice za az.length zc) rfl (by kernel_rfl) (by kernel_rfl) (by kernel_rfl) (fun _ _ _ h => h) (Or.inl ⟨by rfl, ?_⟩) (by assumption) ?_
  · intro wx hSw
    clear hSw hHeld; go_simp
  simp only [Act.put, List.setIfInBounds_toArray, List.set_cons_zero, List.set_cons_succ]
  refine wpAnyH_take (i := 5) (oi := { dst := some 4, op := Op.assign (Operand.const (Value.bool true)), type := 4, pos := "l11_raft.go:92", after := #[{ on := 4, ground := Ground.chain }, { on := 0, ground := Ground.phase }, { on := 1, ground := Ground.phase }, { on := 2, ground := Ground.phase }, { on := 3, ground := Ground.phase }, { on := 4, ground := Ground.phase }], guard := none }) (v := .bool true) rfl (by kernel_rfl) (by kernel_rfl) (by kernel_rfl) (fun _ _ _ h => h) (Or.inl ⟨by rfl, ?_⟩) (by assumption) ?_
  · intro wx hSw
    clear hSw hHeld; go_simp
  simp only [Act.put, List.setIfInBounds_toArray, List.set_cons_zero, List.set_cons_succ]
  clear hHeld
  refine wpAnyH_done (by kernel_rfl) ?_ _
  obtain ⟨hzl, t0, t1, t2, t3, t4, t5, t6, t7, t8⟩ := Z.e9
  clear Z X8
  go_wp2
  exact bodyPost_ret (v := .tuple #[.agg #[.int .i64 id, .int .i64 pe, .int .i64 (te + 1), .int .i64 id, .slice ua log.length uc, .int .i64 co, .int .i64 r, .slice xa nv'.length xc, .slice ya nm'.length yc], .slice za az.length zc, .bool true]) (by simp [results, Try.results26, go_sem, t0, t1, t2, t3, t4, t5, t6, t7, t8]) rfl ⟨_, _, _, _, rfl, O8, by rw [HAZ.out]; exact oE, hBE⟩
end Go.Proofs.Ytapfhhmimkkhnaa
