/-
  Chunks of files: plainly; both ChunksOf.
-/
import Derived.Test.YtocaigffikdlhaaX3
import Derived.Test.YtocaigffikdlhaaG1ToD5
import Derived.Deep.Cut
namespace Go.Proofs.Ytocaigffikdlhaa
open Go.RowKit Go.Maps
set_option linter.unusedVariables false
set_option maxRecDepth 100000

/-- A place filled: its bytes and its sum. -/
def filD (L : List ByteArray) (c : Ck) : ByteArray := (L.getD c.n.toNat ⟨#[]⟩).extract c.d.toNat (c.d.toNat + min 64 ((L.getD c.n.toNat ⟨#[]⟩).size - c.d.toNat))
def fil (L : List ByteArray) (c : Ck) : Ck := ⟨c.n, c.d, filD L c, ((cks c.n c.d (filD L c) : Nat) : Int)⟩
def ckL (L : List ByteArray) : List Ck := (plL (wtL L)).map (fil L)
def ckB (L : List ByteArray) : Bool := gfB L && decide ((plL (wtL L)).length ≤ 200)
def ckR (L : List ByteArray) : List Ck := if ckB L then ckL L else []
theorem fil_at (L : List ByteArray) (i j : Nat) (h : i < L.length) : fil L ⟨(i : Int), 64 * (j : Int), ⟨#[]⟩, 0⟩ = ⟨(i : Int), 64 * (j : Int), L[i].extract (64 * j) (64 * j + min 64 (L[i].size - 64 * j)), ((cks i (64 * (j : Int)) (L[i].extract (64 * j) (64 * j + min 64 (L[i].size - 64 * j))) : Nat) : Int)⟩ := by
  have e : filD L ⟨(i : Int), 64 * (j : Int), ⟨#[]⟩, 0⟩ = L[i].extract (64 * j) (64 * j + min 64 (L[i].size - 64 * j)) := by
    unfold filD
    dsimp only
    rw [show ((i : Int)).toNat = i from by omega, show (64 * (j : Int)).toNat = 64 * j from by omega]
    simp [List.getD_eq_getElem?_getD, h]
  unfold fil
  rw [e]
theorem wtL_ok {L : List ByteArray} (h : gfB L = true) : wOk (wtL L) := by
  obtain ⟨h1, h2⟩ := (gfB_iff L).1 h
  refine ⟨by rw [wtL_length]; exact h1, fun i hi => ?_⟩
  rw [wtL_length] at hi
  have := h2 i hi
  simp only [wtL, List.getElem_map]
  omega
theorem wtR_ok (L : List ByteArray) : wOk (wtR L) := by
  unfold wtR
  cases h : gfB L with
  | false => exact ⟨by simp, fun i h => by simp at h⟩
  | true => exact wtL_ok h
theorem plTo_at (W : List Wt) (k : Nat) (hk : k ≤ W.length) : ∀ c ∈ plTo W k, ∃ i j : Nat, ∃ hi : i < W.length, j < np W[i].t ∧ c = ⟨(i : Int), 64 * (j : Int), ⟨#[]⟩, 0⟩ := by
  induction k with
  | zero => intro c hc; simp [plTo] at hc
  | succ k ih =>
    intro c hc
    rw [plTo_succ W k (by omega), List.mem_append] at hc
    rcases hc with hc | hc
    · exact ih (by omega) c hc
    · simp only [plF, List.mem_map, List.mem_range] at hc
      obtain ⟨j, hj, rfl⟩ := hc
      exact ⟨k, j, by omega, hj, rfl⟩
theorem ckR_len (L : List ByteArray) : (ckR L).length ≤ 1000 := by
  unfold ckR
  cases h : ckB L with
  | false => simp
  | true => simp only [ckB, Bool.and_eq_true, decide_eq_true_eq] at h; simp [ckL]; omega
/-- The first k filled. -/
def ckP (L : List ByteArray) (P : List Ck) (k : Nat) : List Ck := (P.take k).map (fil L) ++ P.drop k
theorem ckP_zero (L : List ByteArray) (P : List Ck) : ckP L P 0 = P := by simp [ckP]
theorem ckP_all (L : List ByteArray) (P : List Ck) : ckP L P P.length = P.map (fil L) := by simp [ckP]
theorem ckP_length (L : List ByteArray) (P : List Ck) (k : Nat) : (ckP L P k).length = P.length := by simp [ckP]; omega
theorem ckP_at (L : List ByteArray) (P : List Ck) (k : Nat) (h : k < P.length) : (ckP L P k)[k]'(by rw [ckP_length]; exact h) = P[k] := by
  unfold ckP
  rw [List.getElem_append_right (by simp; omega)]
  simp only [List.length_map, List.length_take, List.getElem_drop]
  congr 1
  omega
theorem ckP_set (L : List ByteArray) (P : List Ck) (k : Nat) (h : k < P.length) : (ckP L P k).set k (fil L P[k]) = ckP L P (k + 1) := by
  unfold ckP
  have h1 : ((P.take k).map (fil L)).length = k := by simp; omega
  rw [List.set_append_right _ _ (by omega), h1, Nat.sub_self, List.take_succ_eq_append_getElem h, List.drop_eq_getElem_cons h, List.set_cons_zero, List.map_append, List.append_assoc]
  rfl
theorem slice_at (s : ByteArray) (w : World) (a e : Nat) (h1 : a ≤ e) (h2 : e ≤ s.size) (hs : s.size ≤ 4000) : (Instr.slice 9 (.string s) (some (.int .i64 (a : Int))) (some (.int .i64 (e : Int))) none).run Try.prog w = .ok (.string (s.extract a e)) w := by
  rw [run_slice_string w 9 s .i64 .i64 _ _ Try.underlying9 (by omega) (by omega) (by omega)]
  rfl

set_option maxHeartbeats 16000000 in
theorem implChunks_any (v : Value) (L : List ByteArray) (w : World) (hv : SL w v L) (hn : L.length ≤ 1048576) (hs : ∀ i (h : i < L.length), L[i].size ≤ 1048576) :
    Calls Try.prog 18 #[v] w fun e w' => ∃ u, e = .returned (.tuple #[u, .bool (ckB L)]) ∧ w'.ownsRow w.heap.size 37 4 u (ckR L).length (flat4 (ckR L)) ∧ Below w.heap.size w w' := by
  have KW := implWant_any v L w hv hn hs
  have KP := fun u w h => placesIn_any u (wtR L) w h (wtR_ok L)
  obtain ⟨a, cap, rfl, hc⟩ := hv
  have hpl := plL_len (wtR_ok L)
  cases hck : ckB L with
  | false =>
    have HR : Hid (ckR L = []) := by show _ = _; unfold ckR; rw [hck]; rfl
    rw [HR.out]
    have HD : Hid (gfB L = false ∨ (gfB L = true ∧ ¬ (plL (wtR L)).length ≤ 200)) := by
      show _ ∨ _
      cases hg : gfB L with
      | false => exact .inl rfl
      | true =>
        refine .inr ⟨rfl, fun h => ?_⟩
        unfold ckB at hck
        unfold wtR at h
        simp [hg] at hck h
        omega
    clear hck hc hs HR
    generalize gfB L = ok at *
    generalize hPe : plL (wtR L) = P at *
    have HPE : Hid (plL (wtR L) = P) := hPe
    clear hPe
    go_enter Try.func18, Try.ntmps18
    go_wp2_with fail
    refine KW.mono ?_
    rintro e w1 ⟨u, rfl, O1, hb1⟩
    have i1 := WR_of_owns O1 rfl
    obtain ⟨ua, uc, rfl⟩ := owns_shape O1
    clear KW O1
    go_wp2_with fail
    refine (KP _ _ i1).mono ?_
    rintro e w2 ⟨x, rfl, O2, hb2⟩
    have hB := below_then hb1 hb2
    obtain ⟨xa, xc, rfl⟩ := owns_shape O2
    clear KP i1 hb1 hb2 O2
    rcases HD.out with rfl | ⟨rfl, hbig⟩
    · go_wp2
      go_ret2
      exact ⟨_, rfl, World.ownsRow_nil _ _ _ _, hB⟩
    · go_wp2
      go_ret2
      exact ⟨_, rfl, World.ownsRow_nil _ _ _ _, hB⟩
  | true =>
    have hg : gfB L = true ∧ (plL (wtL L)).length ≤ 200 := by
      unfold ckB at hck
      simpa [Bool.and_eq_true, decide_eq_true_eq] using hck
    have HR : Hid (ckR L = ckL L) := by show _ = _; unfold ckR; rw [hck]; rfl
    have HWR : wtR L = wtL L := by unfold wtR; rw [hg.1]; rfl
    rw [HR.out]
    rw [HWR] at KP KW hpl
    rw [hg.1] at KW
    have HF := ((gfB_iff L).1 hg.1).2
    have HPA := plTo_at (wtL L) (wtL L).length (Nat.le_refl _)
    have HAL : Hid (ckP L (plL (wtL L)) (plL (wtL L)).length = ckL L) := ckP_all L (plL (wtL L))
    have HZ : Hid (ckP L (plL (wtL L)) 0 = plL (wtL L)) := ckP_zero L (plL (wtL L))
    have HLL : Hid ((ckL L).length = (plL (wtL L)).length) := by show _ = _; simp [ckL]
    have h12 := ((gfB_iff L).1 hg.1).1
    have HPL : ∀ k (hk : k < (plL (wtL L)).length), ∃ i j : Nat, ∃ hi : i < L.length, 64 * j < L[i].size ∧ (plL (wtL L))[k] = ⟨(i : Int), 64 * (j : Int), ⟨#[]⟩, 0⟩ := by
      intro k hk
      obtain ⟨i, j, hi, hj, e⟩ := HPA _ (List.getElem_mem hk)
      have hi' : i < L.length := by rw [wtL_length] at hi; exact hi
      refine ⟨i, j, hi', ?_, e⟩
      have e2 : (wtL L)[i].t = (L[i].size : Int) := by simp [wtL]
      rw [e2] at hj
      have := (np_lt j (show (0 : Int) ≤ (L[i].size : Int) from by omega)).2 hj
      omega
    have HSE := fun k (hk : k < (plL (wtL L)).length) => ckP_set L (plL (wtL L)) k hk
    have HPT := fun k (hk : k < (plL (wtL L)).length) => ckP_at L (plL (wtL L)) k hk
    have HLE := fun k => ckP_length L (plL (wtL L)) k
    have hp2 := hg.2
    have HWL : ∀ i (hi : i < L.length), ∃ h2 : i < (wtL L).length, ((wtL L)[i].t = (L[i].size : Int)) := fun i hi => ⟨by rw [wtL_length]; exact hi, by simp [wtL]⟩
    clear hck hs HR HWR HPA hg
    generalize wtL L = Wl at *
    generalize plL Wl = P at *
    go_enter Try.func18, Try.ntmps18
    go_wp2_with fail
    refine KW.mono ?_
    rintro e w1 ⟨u, rfl, O1, hb1⟩
    have i1 := WR_of_owns O1 rfl
    obtain ⟨ua, uc, rfl⟩ := owns_shape O1
    have hz1 := hb1.size
    clear KW
    go_wp2_with fail
    refine (KP _ _ i1).mono ?_
    rintro e w2 ⟨x, rfl, O2, hb2⟩
    have hB := below_then hb1 hb2
    replace O1 := owns_below O1 hb2
    clear i1
    obtain ⟨xa, xc, rfl⟩ := owns_shape O2
    have hz2 := hb2.size
    have hge := owns_ge O2
    clear KP hb1 hb2
    have g200 : ¬ (200 < (P.length : Int)) := by omega
    go_wp2
    go_loopw [26] (fun i wr => ∃ k : Nat, k ≤ P.length ∧ i = .int .i64 k ∧ wr.ownsRow w1.heap.size 37 4 (.slice xa P.length xc) P.length (flat4 (ckP L P k)) ∧ Below w.heap.size w wr ∧ wr.ownsRow w.heap.size 54 2 (.slice ua Wl.length uc) Wl.length (flat2 Wl)) (fun i _ => P.length - (intOf i).toNat)
    case atStart => exact ⟨0, Nat.zero_le _, rfl, by rw [HZ.out]; exact O2, hB, O1⟩
    case round =>
      clear O2 hB O1
      obtain ⟨k, hk, rfl, hown, hb, O1⟩ := hrel
      by_cases hlt : k < P.length
      · obtain ⟨i, j, hi, hj, hPk⟩ := HPL k hlt
        have hset := HSE k hlt
        have hat := HPT k hlt
        have hcl := HLE k
        obtain ⟨hi2, hwt⟩ := HWL i hi
        have hsz := HF i hi
        have HFil : Hid (fil L P[k] = ⟨(i : Int), 64 * (j : Int), L[i].extract (64 * j) (64 * j + min 64 (L[i].size - 64 * j)), ((cks i (64 * (j : Int)) (L[i].extract (64 * j) (64 * j + min 64 (L[i].size - 64 * j))) : Nat) : Int)⟩) := by
          show _ = _; rw [hPk]; exact fil_at L i j hi
        rw [HFil.out] at hset
        obtain ⟨q0, q1, q2, q3⟩ := flat4_get (ckP L P k) k (by rw [hcl]; exact hlt)
        rw [hat, hPk] at q0 q1 q2 q3
        dsimp only at q0 q1 q2 q3
        obtain ⟨g, xc', hxe⟩ := (show ∃ g c, Value.slice xa P.length xc = .slice (some ⟨g, 0, none⟩) P.length c from by
          obtain ⟨n, hn⟩ : ∃ n, P.length = n + 1 := ⟨P.length - 1, by omega⟩
          rw [hn] at hown ⊢
          exact owns_some hown)
        simp only [Value.slice.injEq, true_and] at hxe
        obtain ⟨rfl, rfl⟩ := hxe
        have c0 := (hown.cellAt (k * 4) (by omega)).trans q0
        have c1 := (hown.cellAt (k * 4 + 1) (by omega)).trans q1
        have c2 := (hown.cellAt (k * 4 + 2) (by omega)).trans q2
        have c3 := (hown.cellAt (k * 4 + 3) (by omega)).trans q3
        have hgl := (owns_lt hown).2
        have hgg := hge g rfl
        have hz := hb.size
        obtain ⟨b, off, rfl, hbl, hcell⟩ := hc (by intro e; simp [e] at hi)
        have hf0 := (hb.cell (p := ⟨b, off + i, none⟩) hbl).trans (hcell i hi)
        have hneg := owns_type_ne O1 hown (by decide)
        obtain ⟨wa, wc, hwe, hwc⟩ := WR_of_owns O1 rfl
        simp only [Value.slice.injEq, true_and] at hwe
        obtain ⟨rfl, rfl⟩ := hwe
        obtain ⟨bw, ow, rfl, hbw, hwcell⟩ := hwc (by intro e; simp [e] at hi2)
        obtain ⟨y0, y1⟩ := hwcell i hi2
        rw [hwt] at y0
        generalize (Wl[i]).d = dw at *
        have hLl : (Wl.length : Int) = (Wl.length : Nat) := rfl
        have hwl : i < Wl.length := hi2
        clear hwcell hwc hcell hc HSE HPT HLE HWL HPL HF q0 q1 q2 q3 hat hPk HFil
        generalize hse : L[i] = sx at *
        clear hse
        obtain ⟨en, hen⟩ : ∃ en, en = 64 * j + min 64 (sx.size - 64 * j) := ⟨_, rfl⟩
        rw [← hen] at hset
        have hen1 : 64 * j ≤ en := by omega
        have hen2 : en ≤ sx.size := by omega
        have hmin : min 64 ((sx.size : Int) - 64 * (j : Int)) = (en : Int) - 64 * (j : Int) := by omega
        have KS := fun w => sizeAt_any (sx.size : Int) dw (64 * (j : Int)) w (by omega) (by omega) (by omega) (by omega)
        rw [hmin] at KS
        have SL1 := fun w => slice_at sx w (64 * j) en hen1 hen2 hsz
        have hxs : (sx.extract (64 * j) en).size ≤ 4000 := by rw [ByteArray.size_extract]; omega
        have KC := fun w => implCks_any (i : Int) (64 * (j : Int)) (sx.extract (64 * j) en) w (by omega) (by omega) (by omega) (by omega) (by omega)
        generalize sx.extract (64 * j) en = D at *
        generalize cks i (64 * (j : Int)) D = r at *
        clear hmin hen
        have e64 : ((64 * j : Nat) : Int) = 64 * (j : Int) := by omega
        rw [e64] at SL1
        clear e64
        have hwr1 : IntKind.i64.wrap (64 * (j : Int) + ((en : Int) - 64 * (j : Int))) = (en : Int) := by rw [IntKind.wrap_i64]; omega
        have HSET : Hid (flat4 ((ckP L P k).set k ⟨(i : Int), 64 * (j : Int), D, (r : Int)⟩) = flat4 (ckP L P (k + 1))) := by show _ = _; rw [hset]
        have HF4 : Hid (((((flat4 (ckP L P k)).set (k * 4) (.int .i64 i)).set (k * 4 + 1) (.int .i64 (64 * (j : Int)))).set (k * 4 + 2) (.string D)).set (k * 4 + 3) (.int .u32 r) = flat4 (ckP L P (k + 1))) := (flat4_set (ckP L P k) k ⟨(i : Int), 64 * (j : Int), D, (r : Int)⟩).trans HSET.out
        clear hset HSET hcl
        generalize flat4 (ckP L P k) = ys at *
        -- the box of the chunk
        have X0 := Box.new wr #[.int .i64 i, .int .i64 (64 * (j : Int)), .string ⟨#[]⟩, .int .u32 0] 37
        have B0 := below_alloc wr (.cells #[.int .i64 i, .int .i64 (64 * (j : Int)), .string ⟨#[]⟩, .int .u32 0] 37)
        obtain ⟨W0, hW0⟩ : ∃ W0, W0 = wr.alloc (.cells #[.int .i64 i, .int .i64 (64 * (j : Int)), .string ⟨#[]⟩, .int .u32 0] 37) := ⟨_, rfl⟩
        rw [← hW0] at X0 B0
        have HW0 : Hid _ := hW0
        clear hW0
        go_upto_region 8 with fail
        have hw0 : wr.alloc (.cells #[.int .i64 i, .int .i64 (64 * (j : Int)), .string ⟨#[]⟩, .int .u32 0] 37) = W0 := HW0.out.symm
        rw [hw0]
        clear hw0 HW0
        have CC := Chg.of_below (S := (· = g)) B0
        have hown0 := owns_below hown B0
        have hf1 := (B0.cell (p := ⟨b, off + i, none⟩) (show b < wr.heap.size from by omega)).trans hf0
        have y0' := (B0.cell (p := ⟨bw, ow + i * 2, none⟩) hbw).trans y0
        have y1' := (B0.cell (p := ⟨bw, ow + i * 2 + 1, none⟩) hbw).trans y1
        have hz0 := B0.size
        obtain ⟨hx0, z0, z1, z2, z3⟩ := X0.c4
        clear hown hf0 y0 y1 c0 c1 c2 c3
        have hbW : b < W0.heap.size := by omega
        have hbw0 : bw < W0.heap.size := by omega
        have qz0 := fun x : WC W0.heap.size W0 => (x.ok.cell (p := ⟨wr.heap.size, 0, none⟩) hx0).trans z0
        have qz1 := fun x : WC W0.heap.size W0 => (x.ok.cell (p := ⟨wr.heap.size, 1, none⟩) hx0).trans z1
        have qy0 := fun x : WC W0.heap.size W0 => (x.ok.cell (p := ⟨bw, ow + i * 2, none⟩) hbw0).trans y0'
        have qy1 := fun x : WC W0.heap.size W0 => (x.ok.cell (p := ⟨bw, ow + i * 2 + 1, none⟩) hbw0).trans y1'
        have hne : Nonempty (WC W0.heap.size W0) := ⟨⟨_, Below.refl _ _⟩⟩
        refine wp_region_calm (B := W0.heap.size) (W := W0) (by kernel_rfl) (by kernel_rfl) (Below.refl _ _) ?_
        repeat (go_big_quiet_step (first | (go_at_call 69; with_reducible exact calm_of_below (Nat.le_refl _) (KS _))))
        refine wpQuiet_nil ?_
        intro _ hw'
        obtain ⟨x, hx⟩ := hw'
        subst hx
        have hB2 := x.ok
        clear qz0 qz1 qy0 qy1 hne KS y0' y1'
        generalize x.w = w3 at *
        clear x
        have X3 := X0.below hB2
        replace CC := chg_below CC (hB2.mono hz0)
        have hown3 := owns_below hown0 hB2
        have hf3 := (hB2.cell (p := ⟨b, off + i, none⟩) hbW).trans hf1
        have hz3 := hB2.size
        clear hB2 X0 hown0 hf1 z0 z1 z2 z3
        obtain ⟨hx3, z0, z1, z2, z3⟩ := X3.c4
        have zf := X3.2.2 2
        have hb3l : b < w3.heap.size := by omega
        go_upto_region 9 with fail
        go_region
        go_wp2_with fail
        refine (KC _).mono ?_
        rintro e w4 ⟨rfl, hb4⟩
        have X4 := ((X3.set 2 (.string D) (by simp)).below (Below.refl _ _).drew).below hb4
        have hown4 := owns_below ((ownsRow_setCell_other hown3 (a := ⟨wr.heap.size, 2, none⟩) (by rw [show (Value.slice (some ⟨g, 0, none⟩) P.length xc).ownBlock = some g from rfl]; intro e; injection e with e; simp only at e; omega) (.string D)).drew) hb4
        replace CC := chg_below (chg_below (chg_new CC ⟨wr.heap.size, 2, none⟩ (Nat.le_refl _) (.string D)) ((Below.refl _ _).drew)) (hb4.mono (by simp; omega))
        have hz4 := hb4.size
        have hz4' : w3.heap.size ≤ w4.heap.size := by simpa using hz4
        clear hz4
        clear hb4 X3 hown3 z0 z1 z2 z3 zf KC
        obtain ⟨hx4, z0, z1, z2, z3⟩ := X4.c4
        have zf := X4.2.2 3
        have X5 := X4.set 3 (.int .u32 r) (by simp)
        have hown5 := ownsRow_setCell_other hown4 (a := ⟨wr.heap.size, 3, none⟩) (by rw [show (Value.slice (some ⟨g, 0, none⟩) P.length xc).ownBlock = some g from rfl]; intro e; injection e with e; simp only at e; omega) (.int .u32 r)
        replace CC := chg_new CC ⟨wr.heap.size, 3, none⟩ (Nat.le_refl _) (.int .u32 r)
        clear X4 hown4
        obtain ⟨W5, hW5⟩ : ∃ W5, W5 = w4.setCell ⟨wr.heap.size, 3, none⟩ (.int .u32 r) := ⟨_, rfl⟩
        rw [← hW5] at X5 hown5 CC
        have HW5 : Hid _ := hW5
        go_upto_region 11 with fail
        have hw5 : w4.setCell ⟨wr.heap.size, 3, none⟩ (.int .u32 r) = W5 := HW5.out.symm
        rw [hw5]
        have hz5 : w4.heap.size ≤ W5.heap.size := by rw [← hw5]; simp
        clear hw5 HW5 z0 z1 z2 z3 zf hW5
        obtain ⟨hx5, z0, z1, z2, z3⟩ := X5.c4
        obtain ⟨⟨u0, d0⟩, f0⟩ := owns4_at hown5 k hlt 0 (by omega)
        obtain ⟨⟨u1, d1⟩, f1⟩ := owns4_at hown5 k hlt 1 (by omega)
        obtain ⟨⟨u2, d2⟩, f2⟩ := owns4_at hown5 k hlt 2 (by omega)
        obtain ⟨⟨u3, d3⟩, f3⟩ := owns4_at hown5 k hlt 3 (by omega)
        rw [Nat.add_zero] at d0 f0
        have HO : Hid _ := ((((hown5.stored (k * 4) (.int .i64 i)).1.stored (k * 4 + 1) (.int .i64 (64 * (j : Int)))).1.stored (k * 4 + 2) (.string D)).1.stored (k * 4 + 3) (.int .u32 r)).1
        have C6 := (((CC.setCell (p := ⟨g, k * 4, none⟩) rfl (.int .i64 i)).setCell (p := ⟨g, k * 4 + 1, none⟩) rfl (.int .i64 (64 * (j : Int)))).setCell (p := ⟨g, k * 4 + 2, none⟩) rfl (.string D)).setCell (p := ⟨g, k * 4 + 3, none⟩) rfl (.int .u32 r)
        have hO1 := C6.owns O1 (fun x hx e => hneg x hx (by rw [e]; rfl))
        have hbF := hb.trans (C6.below (B := w.heap.size) (by omega) (fun x h => by omega))
        have HO1 : Hid _ := hO1
        have HBF : Hid _ := hbF
        have hgl5 : g < W5.heap.size := by omega
        clear hown5 CC C6 O1 hb hO1 hbF X5 hneg
        go_wp2
        go_roundw
        case rel => exact ⟨k + 1, by omega, by go_num, by rw [← HF4.out]; exact HO.out, HBF.out, HO1.out⟩
        case measure => simp [intOf]; omega
      · obtain rfl : k = P.length := by omega
        rw [HAL.out] at hown
        clear hc O1 HSE HPT HLE HWL HPL HF
        go_wp2
        go_ret2
        exact ⟨_, rfl, by rw [HLL.out]; exact owns_mono' hown hz1, hb⟩
end Go.Proofs.Ytocaigffikdlhaa
