/-
  A drawn taking, and the chunks of its files: the cursor's taking.
-/
import Derived.Test.YtocaigffikdlhaaFL
import Derived.Test.YtocaigffikdlhaaTS2
import Derived.Test.YtocaigffikdlhaaSK
import Derived.Test.YtocaigffikdlhaaX5
import Derived.Test.YtocaigffikdlhaaX6
import Derived.Deep.RegionHeld3
namespace Go.Proofs.Ytocaigffikdlhaa
open Go.RowKit Go.Maps
set_option linter.unusedVariables false
set_option maxRecDepth 100000

/-- A taking of one's own and the chunks of its files, made since base: as they are drawn. -/
structure DT (w : World) (base : Nat) (a c v : Value) (W : List Wt) (G C : List Ck) : Prop where
  oa : w.ownsRow base 54 2 a W.length (flat2 W)
  oc : w.ownsRow base 37 4 c G.length (flat4 G)
  ov : w.ownsRow base 37 4 v C.length (flat4 C)
  ok : wOk W
  srt : Srt G
  len : G.length ≤ 200
  sz : ∀ i (h : i < G.length), G[i].k.size ≤ 4001
  cl : C.length ≤ 200
  cs : ∀ i (h : i < C.length), C[i].k.size ≤ 4001
theorem ckR_200 (L : List ByteArray) : (ckR L).length ≤ 200 := by
  unfold ckR
  cases h : ckB L with
  | false => simp
  | true =>
    simp only [if_true]
    unfold ckB at h
    rw [Bool.and_eq_true, decide_eq_true_eq] at h
    unfold ckL
    rw [List.length_map]
    exact h.2
theorem ckR_sz (L : List ByteArray) : ∀ i (h : i < (ckR L).length), (ckR L)[i].k.size ≤ 4001 := by
  unfold ckR
  cases h : ckB L with
  | false => intro i h; simp at h
  | true =>
    simp only [if_true]
    intro i hi
    have e : (ckL L)[i] = fil L ((plL (wtL L))[i]'(by unfold ckL at hi; simpa using hi)) := by simp only [ckL, List.getElem_map]
    rw [e]
    unfold fil filD
    simp only [ByteArray.size_extract]
    omega
theorem gwR_ok (W : List Wt) : wOk (gwR W) := by
  unfold gwR
  cases h : gwB W with
  | false => exact ⟨by simp, fun i h => by simp at h⟩
  | true => exact (gwB_iff W).1 h
theorem insC_mem {G : List Ck} {p : Nat} {c x : Ck} (h : x ∈ insC G p c) : x = c ∨ x ∈ G := by
  unfold insC at h
  simp only [List.mem_append, List.mem_singleton] at h
  rcases h with (h | h) | h
  · exact .inr (List.mem_of_mem_take h)
  · exact .inl h
  · exact .inr (List.mem_of_mem_drop h)
theorem tk2_len {W : List Wt} {G : List Ck} {c : Ck} (h : G.length ≤ 200) : (tkN2 W G c).length ≤ 200 := by
  unfold tkN2
  cases hb : tkB2 W G c with
  | false => simpa using h
  | true =>
    simp only [if_true]
    unfold tkG
    unfold tkB2 at hb
    cases hh : hasC G c.n c.d with
    | true => simpa using h
    | false =>
      rw [hh] at hb
      simp only [Bool.and_eq_true, decide_eq_true_eq, Bool.false_eq_true, if_false] at hb ⊢
      rw [insC_length G _ c (plc_le G c)]
      omega
theorem tk2_sz {W : List Wt} {G : List Ck} {c : Ck} (h : ∀ i (h : i < G.length), G[i].k.size ≤ 4001) (hc : c.k.size ≤ 4001) : ∀ i (h : i < (tkN2 W G c).length), (tkN2 W G c)[i].k.size ≤ 4001 := by
  intro i hi
  have hm := List.getElem_mem hi
  generalize (tkN2 W G c)[i] = x at *
  unfold tkN2 tkG at hm
  have hG : x ∈ G → x.k.size ≤ 4001 := fun q => by obtain ⟨j, hj, rfl⟩ := List.getElem_of_mem q; exact h j hj
  split at hm
  · split at hm
    · exact hG hm
    · rcases insC_mem hm with rfl | q
      · exact hc
      · exact hG q
  · exact hG hm
theorem tk2_srt {W : List Wt} {G : List Ck} {c : Ck} (h : Srt G) : Srt (tkN2 W G c) := by
  unfold tkN2
  split
  · unfold tkG
    cases hh : hasC G c.n c.d with
    | true => exact h
    | false =>
      simp only [Bool.false_eq_true, if_false]
      have hp := plc_is h c
      have hpl := plc_le G c
      have hno : ∀ k (hk : k < G.length), ¬ (G[k].n = c.n ∧ G[k].d = c.d) := by
        intro k hk q
        have : hasC G c.n c.d = true := (hasC_iff _ _ _).2 ⟨k, hk, q⟩
        rw [hh] at this; cases this
      have hgt : ∀ k (hk : k < G.length), plc G c ≤ k → ltC c G[k] = true := by
        intro k hk q
        have h1 := hp.ge k hk q
        have h2 := hno k hk
        rw [Bool.eq_false_iff] at h1
        rw [ltC_iff]
        have h3 : ¬ (G[k].n < c.n ∨ (G[k].n = c.n ∧ G[k].d < c.d)) := fun q => h1 ((ltC_iff _ _).2 q)
        omega
      intro i j hi hj hij
      have hl := insC_length G (plc G c) c hpl
      rw [ins_at G _ c hpl i hi, ins_at G _ c hpl j hj]
      rcases Nat.lt_trichotomy i (plc G c) with q | q | q
      · rw [dif_pos q]
        rcases Nat.lt_trichotomy j (plc G c) with r | r | r
        · rw [dif_pos r]; exact h _ _ _ _ hij
        · rw [dif_neg (by omega), dif_pos r]; exact hp.lt i (by omega) q
        · rw [dif_neg (by omega), dif_neg (by omega)]; exact h _ _ _ _ (by omega)
      · rw [dif_neg (by omega), dif_pos q, dif_neg (by omega), dif_neg (by omega)]
        exact hgt _ _ (by omega)
      · rw [dif_neg (by omega), dif_neg (by omega), dif_neg (by omega), dif_neg (by omega)]
        exact h _ _ _ _ (by omega)
  · exact h
theorem owns_cap2 {w : World} {base : Nat} {e : TypeId} {size n m : Nat} {x : Option Addr} {cap : Nat} {xs : List Value} (h : w.ownsRow base e size (.slice x m cap) n xs) : m ≤ cap := by
  rcases h.2 with ⟨q, _⟩ | ⟨g, cap', cur, q, _, _, q2, _⟩
  · simp only [Value.slice.injEq] at q; omega
  · simp only [Value.slice.injEq] at q; omega
theorem flat4_sum (x : Ck) (r : List Ck) (z : Int) : (flat4 (x :: r)).set 3 (.int .u32 z) = flat4 (⟨x.n, x.d, x.k, z⟩ :: r) := by simp [flat4]
theorem srt_sum {x : Ck} {r : List Ck} (z : Int) (h : Srt (x :: r)) : Srt (⟨x.n, x.d, x.k, z⟩ :: r) := by
  intro i j hi hj hij
  have := h i j (by simpa using hi) (by simpa using hj) hij
  cases j with
  | zero => omega
  | succ j =>
    cases i with
    | zero => exact this
    | succ i => exact this

/-- What a drawn taking is. -/
def TakingPost (b : Nat) (l : List UInt8) (K : Nat) (w : World) (e : Ending) (w' : World) : Prop := (∃ (a c v : Value) (W : List Wt) (G C : List Ck), e = .returned (.tuple #[.agg #[a, c], v]) ∧ DT w' w.heap.size a c v W G C) ∧ Cur w' b l (K + 20000) ∧ Chg (· = b) w w'
theorem TakingPost.mk {b : Nat} {l : List UInt8} {K : Nat} {w w' : World} {a c v : Value} {W : List Wt} {G C : List Ck} (h : DT w' w.heap.size a c v W G C) (hc : Cur w' b l (K + 20000)) (hg : Chg (· = b) w w') : TakingPost b l K w (.returned (.tuple #[.agg #[a, c], v])) w' := ⟨⟨_, _, _, _, _, _, rfl, h⟩, hc, hg⟩
/-- The chunks in a row. -/
def CSP (vb vo : Nat) (C : List Ck) (w : World) : Prop := ∀ i (h : i < C.length), w.cell? ⟨vb, vo + i * 4, none⟩ = some (.int .i64 C[i].n) ∧ w.cell? ⟨vb, vo + i * 4 + 1, none⟩ = some (.int .i64 C[i].d) ∧ w.cell? ⟨vb, vo + i * 4 + 2, none⟩ = some (.string C[i].k) ∧ w.cell? ⟨vb, vo + i * 4 + 3, none⟩ = some (.int .u32 C[i].v)
theorem chunkCells {w : World} {base vb vo vc : Nat} {C : List Ck} (h : w.ownsRow base 37 4 (.slice (some ⟨vb, vo, none⟩) C.length vc) C.length (flat4 C)) : CSP vb vo C w := by
  obtain ⟨aa, cc, he, hh⟩ := IR_of_owns h rfl
  simp only [Value.slice.injEq, true_and] at he
  obtain ⟨rfl, rfl⟩ := he
  intro i hi
  obtain ⟨b', o', h1, h2, h3⟩ := hh (by intro e; rw [e] at hi; simp at hi)
  simp only [Option.some.injEq, Addr.mk.injEq, and_true] at h1
  obtain ⟨rfl, rfl⟩ := h1
  exact h3 i hi
set_option maxHeartbeats 64000000 in
theorem taking_any (b : Nat) (l : List UInt8) (K : Nat) (w : World) (h : Cur w b l K) (hl : l.length ≤ 9223372036854775807) (hK : K ≤ 100000) :
    Calls Try.prog 72 #[.pointer (some ⟨b, 0, none⟩)] w (TakingPost b l K w) := by
  have hbw := h.lt
  have B0 := below_alloc w (.cells #[.slice none 0 0, .slice none 0 0] 41)
  have R := Box.new w #[.slice none 0 0, .slice none 0 0] 41
  have hc := h.chg B0
  have hB : Chg (· = b) w (w.alloc (.cells #[.slice none 0 0, .slice none 0 0] 41)) := Chg.of_below B0
  clear B0 h
  go_enter Try.func72, Try.ntmps72
  go_wp2_with fail
  refine (files_any b l K _ hc hl (by omega)).mono ?_
  rintro e w1 ⟨⟨fv, L, rfl, hL, hsz, hF⟩, hc1, hch1⟩
  replace R := hch1.box R (by omega)
  replace hB := hB.trans hch1
  have hvb : w.heap.size + 1 ≤ w1.heap.size := R.1
  simp only [World.size_alloc] at hF
  obtain ⟨fa, fc, rfl⟩ := owns_shape hF
  clear hc hch1
  go_wp2_with fail
  refine (specChunks_any _ L w1 (SL_of_owns hF) (by omega) (fun i h => by have := hsz i h; omega)).mono ?_
  rintro e w2 ⟨v, rfl, hv, hb2⟩
  have hz2 := hB.size
  have hz2' := hb2.size
  have hF2 := owns_below hF hb2
  replace R := R.below hb2
  replace hB := hB.trans (Chg.of_below hb2)
  have hc2 := hc1.chg hb2
  have HCL : Hid ((ckR L).length ≤ 200) := ckR_200 L
  have HCS : Hid (∀ i (h : i < (ckR L).length), (ckR L)[i].k.size ≤ 4001) := ckR_sz L
  have hR1 := R.1
  clear hF hc1 hb2
  generalize ckR L = C at *
  obtain ⟨va, vc, rfl⟩ := owns_shape hv
  go_wp2_with fail
  refine (specWant_any _ L w2 (SL_of_owns hF2) (by omega) (fun i h => by have := hsz i h; omega)).mono ?_
  rintro e w3 ⟨wv, rfl, hwv, hb3⟩
  replace hv := owns_below hv hb3
  replace R := R.below hb3
  replace hB := hB.trans (Chg.of_below hb3)
  have hc3 := hc2.chg hb3
  have hz3 := hb3.size
  have HW12 : (wtR L).length ≤ 1048576 := by have := (wtR_ok L).1; omega
  clear hF2 hc2 hb3 hsz
  generalize wtR L = W0 at *
  obtain ⟨wa, wc, rfl⟩ := owns_shape hwv
  go_wp2_with fail
  refine (specNew_any _ W0 w3 (WR_of_owns hwv rfl) HW12).mono ?_
  rintro e w4 ⟨a, c, rfl, hO, hb4⟩
  replace hv := owns_below hv hb4
  replace R := R.below hb4
  replace hB := hB.trans (Chg.of_below hb4)
  have hc4 := hc3.chg hb4
  have hz4 := hb4.size
  have HOK : Hid (wOk (gwR W0)) := gwR_ok W0
  clear hc3 hb4 hwv
  generalize gwR W0 = W at *
  have hlt := hO.lt
  have hvlt := owns_below_lt hv
  have bx := below_alloc w4 (.cells #[a, c] 41)
  have X := Box.new w4 #[a, c] 41
  replace hv := owns_below hv bx
  replace R := R.below bx
  replace hB := hB.trans (Chg.of_below bx)
  have hc5 := hc4.chg bx
  have oa := owns_mono' (owns_below hO.a bx) (show w.heap.size + 1 ≤ w3.heap.size from by omega)
  have oc := owns_mono' (owns_below hO.c bx) (show w.heap.size + 1 ≤ w3.heap.size from by omega)
  have ov := owns_mono' hv (show w.heap.size + 1 ≤ w1.heap.size from by omega)
  obtain ⟨⟨xa, xb, rfl⟩, ya, yb, rfl⟩ := hO.shapes
  have hbt : b < w4.heap.size := hc4.lt
  have hTB : w.heap.size + 1 ≤ w4.heap.size := by omega
  have hvn : ∀ g, (Value.slice va C.length vc).ownBlock = some g → g < w4.heap.size := hvlt
  have han : ∀ g, (Value.slice xa W.length xb).ownBlock = some g → g < w4.heap.size := fun g hg => hlt g (.inl hg)
  have hcn : ∀ g, (Value.slice ya 0 yb).ownBlock = some g → g < w4.heap.size := fun g hg => hlt g (.inr hg)
  have HC2 : C.length ≤ 200 := HCL.out
  clear hO bx hc4 hv hlt hvlt hz2 hz2' hz3 hz4 hR1 hvb
  obtain ⟨nn, hnn⟩ : ∃ nn, nn = 3 * (C.length + 1) := ⟨_, rfl⟩
  have En : (3 : Int) * ((C.length : Int) + 1) = (nn : Int) := by omega
  have hn6 : nn ≤ 603 := by omega
  clear hnn
  go_wp2_with fail
  refine (pick_any b l (K + 10000) nn _ hc5 hl (by omega) (by omega)).mono ?_
  rintro e w5 ⟨⟨x, rfl, hx⟩, hc6, hch6⟩
  have hbR : ¬ w.heap.size = b := by omega
  replace R := hch6.box R (by omega)
  replace X := hch6.box X (by omega)
  replace hB := hB.trans hch6
  have noB : ∀ {vv : Value} {e : TypeId} {s n : Nat} {xs : List Value} {W' : World}, W'.ownsRow (w.heap.size + 1) e s vv n xs → ∀ g, vv.ownBlock = some g → ¬ g = b := fun hh g hg q => by have := owns_ge hh g hg; omega
  replace oa := hch6.owns oa (noB oa)
  replace oc := hch6.owns oc (noB oc)
  replace ov := hch6.owns ov (noB ov)
  have hx6 : x ≤ 603 := by omega
  clear hc5 hch6 hx
  go_wp2_with fail
  go_loopw [11] (fun i wr => ∃ (j : Nat) (c : Value) (G : List Ck), j ≤ 603 ∧ i = .int .i64 j ∧ Box wr w4.heap.size [.slice xa W.length xb, c] ∧ Box wr w.heap.size [.slice none 0 0, .slice none 0 0] ∧ wr.ownsRow (w.heap.size + 1) 54 2 (.slice xa W.length xb) W.length (flat2 W) ∧ wr.ownsRow (w.heap.size + 1) 37 4 c G.length (flat4 G) ∧ wr.ownsRow (w.heap.size + 1) 37 4 (.slice va C.length vc) C.length (flat4 C) ∧ (∀ g, c.ownBlock = some g → ¬ g = w4.heap.size ∧ (0 < G.length → w4.heap.size < g)) ∧ Srt G ∧ G.length ≤ 200 ∧ (∀ i (h : i < G.length), G[i].k.size ≤ 4001) ∧ Cur wr b l (K + 10010 + 2 * (603 - j)) ∧ Chg (· = b) w wr) (fun i _ => (intOf i).toNat)
  case atStart => exact ⟨x, _, [], hx6, rfl, X, R, oa, oc, ov, fun g hg => ⟨by have := hcn g hg; omega, fun q => by simp at q⟩, fun i j hi => by simp at hi, by simp, fun i h => by simp at h, hc6.mono (by omega), hB⟩
  case round =>
    clear X R oa oc ov hc6 hB hcn
    obtain ⟨j, c, G, hj6, rfl, X, R, oa, oc, ov, hcn, hsr, h200, hgs, hcu, hB⟩ := hrel
    obtain ⟨ca, cb, rfl⟩ := owns_shape oc
    have HSR : Hid (Srt G) := hsr
    have HGS : Hid (∀ i (h : i < G.length), G[i].k.size ≤ 4001) := hgs
    have HCN : Hid (∀ g, (Value.slice ca G.length cb).ownBlock = some g → ¬ g = w4.heap.size ∧ (0 < G.length → w4.heap.size < g)) := hcn
    clear hsr hgs hcn
    have hX1 := X.1
    have hR1 := R.1
    by_cases hgo : 0 < j ∧ 0 < C.length
    · obtain ⟨hj0, hc0⟩ := hgo
      have gj : (0 : Int) < (j : Int) := by omega
      have gc : (0 : Int) < (C.length : Int) := by omega
      obtain ⟨vb, vo, rfl, hvbl, hvcell⟩ : ∃ vb vo, va = some ⟨vb, vo, none⟩ ∧ vb < wr.heap.size ∧ ∀ i (h : i < C.length), wr.cell? ⟨vb, vo + i * 4, none⟩ = some (.int .i64 C[i].n) ∧ wr.cell? ⟨vb, vo + i * 4 + 1, none⟩ = some (.int .i64 C[i].d) ∧ wr.cell? ⟨vb, vo + i * 4 + 2, none⟩ = some (.string C[i].k) ∧ wr.cell? ⟨vb, vo + i * 4 + 3, none⟩ = some (.int .u32 C[i].v) := by
        obtain ⟨aa, cc, he, hh⟩ := IR_of_owns ov rfl
        simp only [Value.slice.injEq, true_and] at he
        obtain ⟨rfl, rfl⟩ := he
        obtain ⟨b', o', h1, h2, h3⟩ := hh (by intro e; rw [e] at hc0; simp at hc0)
        exact ⟨b', o', h1, h2, h3⟩
      have hvT := hvn vb rfl
      have hvW := owns_ge ov vb rfl
      clear hvcell
      go_upto_region 8 with fail
      have hD : Below wr.heap.size wr wr.drew := (Below.refl _ _).drew
      replace X := X.below hD
      replace R := R.below hD
      replace oa := owns_below oa hD
      replace oc := owns_below oc hD
      replace ov := owns_below ov hD
      replace hcu := hcu.chg hD
      replace hB := hB.trans (Chg.of_below hD)
      clear hD
      refine wp_region_held_drew (S := CSP vb vo C) (by kernel_rfl) (chunkCells ov) (fun hHeld => ?_)
      generalize wr.drew = v0 at *
      refine wpAnyH_take (i := 1) (oi := { dst := some 46, op := Op.move (Operand.tmp 5), type := 30, pos := "l13_chunk.go:235", after := #[], guard := none }) (v := .slice (some ⟨vb, vo, none⟩) C.length vc) rfl (by kernel_rfl) (by kernel_rfl) (by kernel_rfl) (fun _ _ _ h => h) (Or.inl ⟨by rfl, ?_⟩) (by assumption) ?_
      · intro wx hSw
        clear hSw hHeld; go_simp
      simp only [Act.put, List.setIfInBounds_toArray, List.set_cons_zero, List.set_cons_succ]
      refine wpAnyH_take (i := 2) (oi := { dst := some 47, op := Op.move (Operand.tmp 0), type := 85, pos := "l13_chunk.go:235", after := #[], guard := none }) (v := .pointer (some ⟨b, 0, none⟩)) rfl (by kernel_rfl) (by kernel_rfl) (by kernel_rfl) (fun _ _ _ h => h) (Or.inl ⟨by rfl, ?_⟩) (by assumption) ?_
      · intro wx hSw
        clear hSw hHeld; go_simp
      simp only [Act.put, List.setIfInBounds_toArray, List.set_cons_zero, List.set_cons_succ]
      refine wpAnyH_take (i := 3) (oi := { dst := some 48, op := Op.move (Operand.tmp 5), type := 30, pos := "l13_chunk.go:235", after := #[], guard := none }) (v := .slice (some ⟨vb, vo, none⟩) C.length vc) rfl (by kernel_rfl) (by kernel_rfl) (by kernel_rfl) (fun _ _ _ h => h) (Or.inl ⟨by rfl, ?_⟩) (by assumption) ?_
      · intro wx hSw
        clear hSw hHeld; go_simp
      simp only [Act.put, List.setIfInBounds_toArray, List.set_cons_zero, List.set_cons_succ]
      refine wpAnyH_take (i := 4) (oi := { dst := some 49, op := Op.call { callee := Callee.builtin Builtin.len, args := #[Operand.tmp 48], argTypes := #[30] }, type := 3, pos := "l13_chunk.go:235", after := #[{ on := 3, ground := Ground.data }], guard := none }) (v := .int .i64 C.length) rfl (by kernel_rfl) (by kernel_rfl) (by kernel_rfl) (fun _ _ _ h => h) (Or.inl ⟨by rfl, ?_⟩) (by assumption) ?_
      · intro wx hSw
        clear hSw hHeld; go_simp
      simp only [Act.put, List.setIfInBounds_toArray, List.set_cons_zero, List.set_cons_succ]
      refine wpAnyH_ready (rs := [0, 5]) (by kernel_rfl) (by simp) ?_
      refine AllReadyH.cons (o := { dst := some 45, op := Op.load 41 (Operand.tmp 9), type := 41, pos := "l13_chunk.go:235", after := #[], guard := none }) rfl (fun K hK => ?_) (AllReadyH.cons (o := { dst := some 50, op := Op.call { callee := Callee.value (Operand.func 61), args := #[Operand.tmp 47, Operand.tmp 49], argTypes := #[85, 3] }, type := 3, pos := "l13_chunk.go:235", after := #[{ on := 2, ground := Ground.data }, { on := 4, ground := Ground.data }], guard := none }) rfl (fun K hK => ?_) AllReadyH.nil)
      · clear hHeld
        obtain ⟨hxl, x0, x1⟩ := X.c2
        go_simp
        refine hK.out _ _ (chunkCells ov) (fun hHeld => ?_)
        clear hK K hxl x0 x1
        refine wpAnyH_ready (rs := [5]) (by kernel_rfl) (by simp) ?_
        refine AllReadyH.cons (o := { dst := some 50, op := Op.call { callee := Callee.value (Operand.func 61), args := #[Operand.tmp 47, Operand.tmp 49], argTypes := #[85, 3] }, type := 3, pos := "l13_chunk.go:235", after := #[{ on := 2, ground := Ground.data }, { on := 4, ground := Ground.data }], guard := none }) rfl (fun K hK => ?_) AllReadyH.nil
        clear hHeld
        go_simp
        refine (pick_any b l _ C.length _ hcu hl (by omega) (by omega)).mono ?_
        rintro e v1 ⟨⟨x, rfl, hx⟩, hcu7, hch7⟩
        have hxc : x < C.length := by omega
        replace R := hch7.box R (by omega)
        replace X := hch7.box X (by omega)
        replace oa := hch7.owns oa (noB oa)
        replace oc := hch7.owns oc (noB oc)
        replace ov := hch7.owns ov (noB ov)
        replace hB := hB.trans hch7
        have hcu := hcu7
        clear hch7 hcu7 hx
        refine hK.out _ _ (chunkCells ov) (fun hHeld => ?_)
        clear hK K
        refine wpAnyH_take (i := 6) (oi := { dst := some 51, op := Op.indexAddr 30 (Operand.tmp 46) (Operand.tmp 50), type := 0, pos := "l13_chunk.go:235", after := #[{ on := 1, ground := Ground.data }, { on := 5, ground := Ground.data }], guard := none }) (v := .pointer (some ⟨vb, vo + x * 4, none⟩)) rfl (by kernel_rfl) (by kernel_rfl) (by kernel_rfl) (fun _ _ _ h => h) (Or.inl ⟨by rfl, ?_⟩) (by assumption) ?_
        · intro wx hSw
          clear hSw hHeld; go_simp
        simp only [Act.put, List.setIfInBounds_toArray, List.set_cons_zero, List.set_cons_succ]
        refine wpAnyH_take (i := 7) (oi := { dst := some 52, op := Op.load 37 (Operand.tmp 51), type := 37, pos := "l13_chunk.go:235", after := #[{ on := 6, ground := Ground.data }], guard := none }) (v := .agg #[.int .i64 C[x].n, .int .i64 C[x].d, .string C[x].k, .int .u32 C[x].v]) rfl (by kernel_rfl) (by kernel_rfl) (by kernel_rfl) (fun _ _ _ h => h) (Or.inl ⟨by rfl, ?_⟩) (by assumption) ?_
        · intro wx hSw
          obtain ⟨e0, e1, e2, e3⟩ := hSw x hxc; clear hHeld hSw; go_simp
        simp only [Act.put, List.setIfInBounds_toArray, List.set_cons_zero, List.set_cons_succ]
        refine wpAnyH_ready (rs := [8]) (by kernel_rfl) (by simp) ?_
        refine AllReadyH.cons (o := { dst := some 53, op := Op.call { callee := Callee.value (Operand.func 66), args := #[Operand.tmp 45, Operand.tmp 52], argTypes := #[41, 37] }, type := 44, pos := "l13_chunk.go:235", after := #[{ on := 0, ground := Ground.data }, { on := 7, ground := Ground.data }, { on := 5, ground := Ground.chain }], guard := none }) rfl (fun K hK => ?_) AllReadyH.nil
        clear hHeld
        go_simp
        have hys := HCS.out x hxc
        refine (l13TakeS_any _ _ W G C[x] _ ⟨WR_of_owns oa rfl, IR_of_owns oc rfl⟩ (fun q n c e => by rw [Value.slice.injEq] at e; obtain ⟨_, rfl, rfl⟩ := e; exact owns_cap2 oc) HOK.out h200 HSR.out (by omega)).mono ?_
        rintro e v8 ⟨u, rfl, hu, hb8⟩
        have hz8 := X.1
        have hc8 := hz8
        replace X := X.below hb8
        replace R := R.below hb8
        replace oa := owns_below oa hb8
        replace oc := owns_below oc hb8
        replace ov := owns_below ov hb8
        replace hcu := hcu.chg hb8
        replace hB := hB.trans (Chg.of_below hb8)
        obtain ⟨G2, hG2⟩ : ∃ G2, G2 = tkN2 W G C[x] := ⟨_, rfl⟩
        have HSR2 : Hid (Srt G2) := by rw [hG2]; exact tk2_srt HSR.out
        have HGS2 : Hid (∀ i (h : i < G2.length), G2[i].k.size ≤ 4001) := by rw [hG2]; exact tk2_sz HGS.out hys
        have h2002 : G2.length ≤ 200 := by rw [hG2]; exact tk2_len h200
        rw [← hG2] at hu
        have hu2 : v8.ownsRow (w.heap.size + 1) 37 4 u G2.length (flat4 G2) ∧ (∀ g, u.ownBlock = some g → ¬ g = w4.heap.size ∧ (0 < G2.length → w4.heap.size < g)) := by
          rcases hu with ⟨rfl, e2⟩ | hu
          · rw [e2]; exact ⟨oc, HCN.out⟩
          · exact ⟨owns_mono' hu (by omega), fun g hg => by have := owns_ge hu g hg; exact ⟨by omega, fun _ => by omega⟩⟩
        obtain ⟨ou, hun⟩ := hu2
        have HCN2 : Hid (∀ g, u.ownBlock = some g → ¬ g = w4.heap.size ∧ (0 < G2.length → w4.heap.size < g)) := hun
        obtain ⟨ua, ub, rfl⟩ := owns_shape ou
        clear hu hun hG2 hb8 oc HSR HGS HCN h200 hys
        refine hK.out _ _ (chunkCells ov) (fun hHeld => ?_)
        clear hK K
        refine wpAnyH_take (i := 9) (oi := { dst := some 44, op := Op.move (Operand.tmp 53), type := 44, pos := "l13_chunk.go:235", after := #[{ on := 8, ground := Ground.data }], guard := none }) (v := .tuple #[.agg #[.slice xa W.length xb, .slice ua G2.length ub], .bool (tkB2 W G C[x])]) rfl (by kernel_rfl) (by kernel_rfl) (by kernel_rfl) (fun _ _ _ h => h) (Or.inl ⟨by rfl, ?_⟩) (by assumption) ?_
        · intro wx hSw
          clear hSw hHeld; go_simp
        simp only [Act.put, List.setIfInBounds_toArray, List.set_cons_zero, List.set_cons_succ]
        refine wpAnyH_take (i := 10) (oi := { dst := some 54, op := Op.extract (Operand.tmp 44) 0, type := 41, pos := "l13_chunk.go:235", after := #[{ on := 9, ground := Ground.data }], guard := none }) (v := .agg #[.slice xa W.length xb, .slice ua G2.length ub]) rfl (by kernel_rfl) (by kernel_rfl) (by kernel_rfl) (fun _ _ _ h => h) (Or.inl ⟨by rfl, ?_⟩) (by assumption) ?_
        · intro wx hSw
          clear hSw hHeld; go_simp
        simp only [Act.put, List.setIfInBounds_toArray, List.set_cons_zero, List.set_cons_succ]
        refine wpAnyH_take (i := 11) (oi := { dst := some 55, op := Op.extract (Operand.tmp 44) 1, type := 4, pos := "l13_chunk.go:235", after := #[{ on := 9, ground := Ground.data }, { on := 12, ground := Ground.gcOnly Departure.lateStores }], guard := none }) (v := .bool (tkB2 W G C[x])) rfl (by kernel_rfl) (by kernel_rfl) (by kernel_rfl) (fun _ _ _ h => h) (Or.inl ⟨by rfl, ?_⟩) (by assumption) ?_
        · intro wx hSw
          clear hSw hHeld; go_simp
        simp only [Act.put, List.setIfInBounds_toArray, List.set_cons_zero, List.set_cons_succ]
        refine wpAnyH_ready (rs := [12]) (by kernel_rfl) (by simp) ?_
        refine AllReadyH.cons (o := { dst := none, op := Op.store 41 (Operand.tmp 9) (Operand.tmp 54), type := 0, pos := "l13_chunk.go:235", after := #[{ on := 10, ground := Ground.data }, { on := 8, ground := Ground.chain }, { on := 0, ground := Ground.phase }, { on := 1, ground := Ground.phase }, { on := 2, ground := Ground.phase }, { on := 3, ground := Ground.phase }, { on := 4, ground := Ground.phase }, { on := 5, ground := Ground.phase }, { on := 6, ground := Ground.phase }, { on := 7, ground := Ground.phase }, { on := 8, ground := Ground.phase }, { on := 9, ground := Ground.phase }, { on := 10, ground := Ground.phase }, { on := 11, ground := Ground.textOnly Departure.lateStores }], guard := none }) rfl (fun K hK => ?_) AllReadyH.nil
        clear hHeld
        obtain ⟨hxl, x0, x1, xf0, xf1⟩ := X.f2
        have X2 := put2_box X (.slice xa W.length xb) (.slice ua G2.length ub)
        have PC := put2_chg v8 w4.heap.size (.slice xa W.length xb) (.slice ua G2.length ub)
        have R2 := PC.box R (by omega)
        have oa2 := PC.owns oa (fun g hg q => by have := han g hg; omega)
        have ov2 := PC.owns ov (fun g hg q => by have := hvn g hg; omega)
        have oc2 := PC.owns ou (fun g hg q => (HCN2.out g hg).1 q)
        have BP : Below w.heap.size v8 (put2 v8 w4.heap.size (.slice xa W.length xb) (.slice ua G2.length ub)) := ((Below.refl _ _).setCell (p := ⟨w4.heap.size, 0, none⟩) (by simp; omega) _).setCell (p := ⟨w4.heap.size, 1, none⟩) (by simp; omega) _
        have hcu2 := cur_low hcu hbw BP
        have hB2 := chg_below hB BP
        go_simp
        refine hK.out _ (put2 v8 w4.heap.size (.slice xa W.length xb) (.slice ua G2.length ub)) (chunkCells ov2) (fun hHeld => ?_)
        clear hK K hHeld hxl x0 x1 xf0 xf1 PC BP X R oa ov ou hcu hB
        generalize put2 v8 w4.heap.size (.slice xa W.length xb) (.slice ua G2.length ub) = w9 at *
        refine wpAnyH_done (by kernel_rfl) ?_ _
        go_wp2
        go_roundw
        case rel => exact ⟨j - 1, _, G2, by omega, by go_num, X2, R2, oa2, oc2, ov2, HCN2.out, HSR2.out, h2002, HGS2.out, hcu2.mono (by omega), hB2⟩
        case measure => simp [intOf]; omega
      · clear hHeld
        go_simp
        refine (pick_any b l _ C.length _ hcu hl (by omega) (by omega)).mono ?_
        rintro e v1 ⟨⟨x, rfl, hx⟩, hcu7, hch7⟩
        have hxc : x < C.length := by omega
        replace R := hch7.box R (by omega)
        replace X := hch7.box X (by omega)
        replace oa := hch7.owns oa (noB oa)
        replace oc := hch7.owns oc (noB oc)
        replace ov := hch7.owns ov (noB ov)
        replace hB := hB.trans hch7
        have hcu := hcu7
        clear hch7 hcu7 hx
        refine hK.out _ _ (chunkCells ov) (fun hHeld => ?_)
        clear hK K
        refine wpAnyH_take (i := 6) (oi := { dst := some 51, op := Op.indexAddr 30 (Operand.tmp 46) (Operand.tmp 50), type := 0, pos := "l13_chunk.go:235", after := #[{ on := 1, ground := Ground.data }, { on := 5, ground := Ground.data }], guard := none }) (v := .pointer (some ⟨vb, vo + x * 4, none⟩)) rfl (by kernel_rfl) (by kernel_rfl) (by kernel_rfl) (fun _ _ _ h => h) (Or.inl ⟨by rfl, ?_⟩) (by assumption) ?_
        · intro wx hSw
          clear hSw hHeld; go_simp
        simp only [Act.put, List.setIfInBounds_toArray, List.set_cons_zero, List.set_cons_succ]
        refine wpAnyH_take (i := 7) (oi := { dst := some 52, op := Op.load 37 (Operand.tmp 51), type := 37, pos := "l13_chunk.go:235", after := #[{ on := 6, ground := Ground.data }], guard := none }) (v := .agg #[.int .i64 C[x].n, .int .i64 C[x].d, .string C[x].k, .int .u32 C[x].v]) rfl (by kernel_rfl) (by kernel_rfl) (by kernel_rfl) (fun _ _ _ h => h) (Or.inl ⟨by rfl, ?_⟩) (by assumption) ?_
        · intro wx hSw
          obtain ⟨e0, e1, e2, e3⟩ := hSw x hxc; clear hHeld hSw; go_simp
        simp only [Act.put, List.setIfInBounds_toArray, List.set_cons_zero, List.set_cons_succ]
        refine wpAnyH_ready (rs := [0]) (by kernel_rfl) (by simp) ?_
        refine AllReadyH.cons (o := { dst := some 45, op := Op.load 41 (Operand.tmp 9), type := 41, pos := "l13_chunk.go:235", after := #[], guard := none }) rfl (fun K hK => ?_) AllReadyH.nil
        clear hHeld
        obtain ⟨hxl, x0, x1⟩ := X.c2
        go_simp
        refine hK.out _ _ (chunkCells ov) (fun hHeld => ?_)
        clear hK K hxl x0 x1
        refine wpAnyH_ready (rs := [8]) (by kernel_rfl) (by simp) ?_
        refine AllReadyH.cons (o := { dst := some 53, op := Op.call { callee := Callee.value (Operand.func 66), args := #[Operand.tmp 45, Operand.tmp 52], argTypes := #[41, 37] }, type := 44, pos := "l13_chunk.go:235", after := #[{ on := 0, ground := Ground.data }, { on := 7, ground := Ground.data }, { on := 5, ground := Ground.chain }], guard := none }) rfl (fun K hK => ?_) AllReadyH.nil
        clear hHeld
        go_simp
        have hys := HCS.out x hxc
        refine (l13TakeS_any _ _ W G C[x] _ ⟨WR_of_owns oa rfl, IR_of_owns oc rfl⟩ (fun q n c e => by rw [Value.slice.injEq] at e; obtain ⟨_, rfl, rfl⟩ := e; exact owns_cap2 oc) HOK.out h200 HSR.out (by omega)).mono ?_
        rintro e v8 ⟨u, rfl, hu, hb8⟩
        have hz8 := X.1
        have hc8 := hz8
        replace X := X.below hb8
        replace R := R.below hb8
        replace oa := owns_below oa hb8
        replace oc := owns_below oc hb8
        replace ov := owns_below ov hb8
        replace hcu := hcu.chg hb8
        replace hB := hB.trans (Chg.of_below hb8)
        obtain ⟨G2, hG2⟩ : ∃ G2, G2 = tkN2 W G C[x] := ⟨_, rfl⟩
        have HSR2 : Hid (Srt G2) := by rw [hG2]; exact tk2_srt HSR.out
        have HGS2 : Hid (∀ i (h : i < G2.length), G2[i].k.size ≤ 4001) := by rw [hG2]; exact tk2_sz HGS.out hys
        have h2002 : G2.length ≤ 200 := by rw [hG2]; exact tk2_len h200
        rw [← hG2] at hu
        have hu2 : v8.ownsRow (w.heap.size + 1) 37 4 u G2.length (flat4 G2) ∧ (∀ g, u.ownBlock = some g → ¬ g = w4.heap.size ∧ (0 < G2.length → w4.heap.size < g)) := by
          rcases hu with ⟨rfl, e2⟩ | hu
          · rw [e2]; exact ⟨oc, HCN.out⟩
          · exact ⟨owns_mono' hu (by omega), fun g hg => by have := owns_ge hu g hg; exact ⟨by omega, fun _ => by omega⟩⟩
        obtain ⟨ou, hun⟩ := hu2
        have HCN2 : Hid (∀ g, u.ownBlock = some g → ¬ g = w4.heap.size ∧ (0 < G2.length → w4.heap.size < g)) := hun
        obtain ⟨ua, ub, rfl⟩ := owns_shape ou
        clear hu hun hG2 hb8 oc HSR HGS HCN h200 hys
        refine hK.out _ _ (chunkCells ov) (fun hHeld => ?_)
        clear hK K
        refine wpAnyH_take (i := 9) (oi := { dst := some 44, op := Op.move (Operand.tmp 53), type := 44, pos := "l13_chunk.go:235", after := #[{ on := 8, ground := Ground.data }], guard := none }) (v := .tuple #[.agg #[.slice xa W.length xb, .slice ua G2.length ub], .bool (tkB2 W G C[x])]) rfl (by kernel_rfl) (by kernel_rfl) (by kernel_rfl) (fun _ _ _ h => h) (Or.inl ⟨by rfl, ?_⟩) (by assumption) ?_
        · intro wx hSw
          clear hSw hHeld; go_simp
        simp only [Act.put, List.setIfInBounds_toArray, List.set_cons_zero, List.set_cons_succ]
        refine wpAnyH_take (i := 10) (oi := { dst := some 54, op := Op.extract (Operand.tmp 44) 0, type := 41, pos := "l13_chunk.go:235", after := #[{ on := 9, ground := Ground.data }], guard := none }) (v := .agg #[.slice xa W.length xb, .slice ua G2.length ub]) rfl (by kernel_rfl) (by kernel_rfl) (by kernel_rfl) (fun _ _ _ h => h) (Or.inl ⟨by rfl, ?_⟩) (by assumption) ?_
        · intro wx hSw
          clear hSw hHeld; go_simp
        simp only [Act.put, List.setIfInBounds_toArray, List.set_cons_zero, List.set_cons_succ]
        refine wpAnyH_take (i := 11) (oi := { dst := some 55, op := Op.extract (Operand.tmp 44) 1, type := 4, pos := "l13_chunk.go:235", after := #[{ on := 9, ground := Ground.data }, { on := 12, ground := Ground.gcOnly Departure.lateStores }], guard := none }) (v := .bool (tkB2 W G C[x])) rfl (by kernel_rfl) (by kernel_rfl) (by kernel_rfl) (fun _ _ _ h => h) (Or.inl ⟨by rfl, ?_⟩) (by assumption) ?_
        · intro wx hSw
          clear hSw hHeld; go_simp
        simp only [Act.put, List.setIfInBounds_toArray, List.set_cons_zero, List.set_cons_succ]
        refine wpAnyH_ready (rs := [12]) (by kernel_rfl) (by simp) ?_
        refine AllReadyH.cons (o := { dst := none, op := Op.store 41 (Operand.tmp 9) (Operand.tmp 54), type := 0, pos := "l13_chunk.go:235", after := #[{ on := 10, ground := Ground.data }, { on := 8, ground := Ground.chain }, { on := 0, ground := Ground.phase }, { on := 1, ground := Ground.phase }, { on := 2, ground := Ground.phase }, { on := 3, ground := Ground.phase }, { on := 4, ground := Ground.phase }, { on := 5, ground := Ground.phase }, { on := 6, ground := Ground.phase }, { on := 7, ground := Ground.phase }, { on := 8, ground := Ground.phase }, { on := 9, ground := Ground.phase }, { on := 10, ground := Ground.phase }, { on := 11, ground := Ground.textOnly Departure.lateStores }], guard := none }) rfl (fun K hK => ?_) AllReadyH.nil
        clear hHeld
        obtain ⟨hxl, x0, x1, xf0, xf1⟩ := X.f2
        have X2 := put2_box X (.slice xa W.length xb) (.slice ua G2.length ub)
        have PC := put2_chg v8 w4.heap.size (.slice xa W.length xb) (.slice ua G2.length ub)
        have R2 := PC.box R (by omega)
        have oa2 := PC.owns oa (fun g hg q => by have := han g hg; omega)
        have ov2 := PC.owns ov (fun g hg q => by have := hvn g hg; omega)
        have oc2 := PC.owns ou (fun g hg q => (HCN2.out g hg).1 q)
        have BP : Below w.heap.size v8 (put2 v8 w4.heap.size (.slice xa W.length xb) (.slice ua G2.length ub)) := ((Below.refl _ _).setCell (p := ⟨w4.heap.size, 0, none⟩) (by simp; omega) _).setCell (p := ⟨w4.heap.size, 1, none⟩) (by simp; omega) _
        have hcu2 := cur_low hcu hbw BP
        have hB2 := chg_below hB BP
        go_simp
        refine hK.out _ (put2 v8 w4.heap.size (.slice xa W.length xb) (.slice ua G2.length ub)) (chunkCells ov2) (fun hHeld => ?_)
        clear hK K hHeld hxl x0 x1 xf0 xf1 PC BP X R oa ov ou hcu hB
        generalize put2 v8 w4.heap.size (.slice xa W.length xb) (.slice ua G2.length ub) = w9 at *
        refine wpAnyH_done (by kernel_rfl) ?_ _
        go_wp2
        go_roundw
        case rel => exact ⟨j - 1, _, G2, by omega, by go_num, X2, R2, oa2, oc2, ov2, HCN2.out, HSR2.out, h2002, HGS2.out, hcu2.mono (by omega), hB2⟩
        case measure => simp [intOf]; omega
    · have HEND : Hid (¬ (0 < j ∧ 0 < C.length)) := hgo
      by_cases hj0 : 0 < j
      · have gj : (0 : Int) < (j : Int) := by omega
        have gc : ¬ (0 : Int) < (C.length : Int) := by omega
        clear HEND hgo
        obtain ⟨hxl, x0, x1⟩ := X.c2
        by_cases hg0 : 0 < G.length
        · have gg : (0 : Int) < (G.length : Int) := by omega
          go_wp2_with fail
          refine (one_any b l _ 30 _ hcu hl (by omega) (by omega)).mono ?_
          rintro e w7 ⟨⟨y7, rfl⟩, hcu7, hch7⟩
          replace R := hch7.box R (by omega)
          replace X := hch7.box X (by omega)
          replace oa := hch7.owns oa (noB oa)
          replace oc := hch7.owns oc (noB oc)
          replace ov := hch7.owns ov (noB ov)
          replace hB := hB.trans hch7
          have hcu := hcu7
          clear hch7 hcu7 hxl x0 x1
          cases y7 with
          | false =>
            obtain ⟨_, x0, x1⟩ := X.c2
            obtain ⟨_, r0, r1, rf0, rf1⟩ := R.f2
            have BW := ((Below.refl (w.heap.size) w7).setCell (p := ⟨w.heap.size, 0, none⟩) (by simp) (.slice xa W.length xb)).setCell (p := ⟨w.heap.size, 1, none⟩) (by simp) (.slice ca G.length cb)
            have oa2 := ownsRow_setCell_below (ownsRow_setCell_below oa (a := ⟨w.heap.size, 0, none⟩) (by simp) (.slice xa W.length xb)) (a := ⟨w.heap.size, 1, none⟩) (by simp) (.slice ca G.length cb)
            have oc2 := ownsRow_setCell_below (ownsRow_setCell_below oc (a := ⟨w.heap.size, 0, none⟩) (by simp) (.slice xa W.length xb)) (a := ⟨w.heap.size, 1, none⟩) (by simp) (.slice ca G.length cb)
            have ov2 := ownsRow_setCell_below (ownsRow_setCell_below ov (a := ⟨w.heap.size, 0, none⟩) (by simp) (.slice xa W.length xb)) (a := ⟨w.heap.size, 1, none⟩) (by simp) (.slice ca G.length cb)
            have cu2 := cur_low hcu hbw BW
            have hB2 := chg_below hB BW
            have HO : Hid (DT _ w.heap.size (.slice xa W.length xb) (.slice ca G.length cb) (.slice va C.length vc) W G C) := ⟨owns_mono' oa2 (by omega), owns_mono' oc2 (by omega), owns_mono' ov2 (by omega), HOK.out, HSR.out, h200, HGS.out, HC2, HCS.out⟩
            clear oa oc ov oa2 oc2 ov2 BW X R hcu hB
            go_wp2
            exact bodyPost_ret (v := .tuple #[.agg #[.slice xa W.length xb, (.slice ca G.length cb)], .slice va C.length vc]) (by simp [results, Try.results72, go_sem, r0, r1]) rfl (TakingPost.mk HO.out (cu2.mono (by omega)) hB2)
          | true =>
            obtain ⟨hxl, x0, x1⟩ := X.c2
            obtain ⟨s, r, rfl⟩ : ∃ s r, G = s :: r := by cases G with | nil => simp at hg0 | cons s r => exact ⟨s, r, rfl⟩
            obtain ⟨gb, rfl⟩ : ∃ gb, ca = some ⟨gb, 0, none⟩ := by
              rcases oc.2 with ⟨q, q2⟩ | ⟨g, cap, cur, q, _⟩
              · simp at q2
              · simp only [Value.slice.injEq] at q; exact ⟨g, q.1⟩
            obtain ⟨hgT, hgT2⟩ := HCN.out gb rfl
            have hgt := hgT2 hg0
            have c3 : w7.cell? ⟨gb, 3, none⟩ = some (.int .u32 s.v) := by rw [oc.cellAt 3 (by simp only [List.length_cons]; omega)]; rfl
            have f3 := oc.frozenAt 3
            have hgl := (owns_lt oc).2
            have hgw := owns_ge oc gb rfl
            obtain ⟨z, hz⟩ : ∃ z, z = (s.v + 1) % 4294967296 := ⟨_, rfl⟩
            have oc1 := (oc.stored 3 (.int .u32 z)).1
            rw [flat4_sum] at oc1
            have oa1 := ownsRow_setCell_other oa (a := ⟨gb, 3, none⟩) (fun q => owns_type_ne oa oc (by decide) gb q rfl) (.int .u32 z)
            have ov1 := ownsRow_setCell_other ov (a := ⟨gb, 3, none⟩) (fun q => by have := hvn gb q; omega) (.int .u32 z)
            have X1 := X.setOther ⟨gb, 3, none⟩ (.int .u32 z) (by simp; omega)
            have R1 := R.setOther ⟨gb, 3, none⟩ (.int .u32 z) (by simp; omega)
            have BZ : Below w.heap.size w7 (w7.setCell ⟨gb, 3, none⟩ (.int .u32 z)) := (Below.refl _ _).setCell (p := ⟨gb, 3, none⟩) (by simp; omega) _
            have hcu1 := cur_low hcu hbw BZ
            have hB1 := chg_below hB BZ
            have HS1 : Hid (Srt (⟨s.n, s.d, s.k, z⟩ :: r)) := srt_sum z HSR.out
            have HZ1 : Hid (∀ i (h : i < (⟨s.n, s.d, s.k, z⟩ :: r : List Ck).length), (⟨s.n, s.d, s.k, z⟩ :: r : List Ck)[i].k.size ≤ 4001) := fun i h => by
              have := HGS.out i (by simpa using h)
              cases i with
              | zero => exact this
              | succ i => exact this
            go_upto_region 11 with fail
            rw [← hz]
            clear oa oc ov X R hcu hB BZ c3 f3 hxl x0 x1 HSR HGS HCN hz
            generalize w7.setCell ⟨gb, 3, none⟩ (.int .u32 z) = w8 at *
            have oa := oa1
            have oc := oc1
            have ov := ov1
            have X := X1
            have R := R1
            have hcu := hcu1
            have hB := hB1
            clear oa1 oc1 ov1 X1 R1 hcu1 hB1
            simp only [List.length_cons] at h200 oc X ⊢
            obtain ⟨_, x0, x1⟩ := X.c2
            obtain ⟨_, r0, r1, rf0, rf1⟩ := R.f2
            have BW := ((Below.refl (w.heap.size) w8).setCell (p := ⟨w.heap.size, 0, none⟩) (by simp) (.slice xa W.length xb)).setCell (p := ⟨w.heap.size, 1, none⟩) (by simp) (.slice (some ⟨gb, 0, none⟩) (r.length + 1) cb)
            have oa2 := ownsRow_setCell_below (ownsRow_setCell_below oa (a := ⟨w.heap.size, 0, none⟩) (by simp) (.slice xa W.length xb)) (a := ⟨w.heap.size, 1, none⟩) (by simp) (.slice (some ⟨gb, 0, none⟩) (r.length + 1) cb)
            have oc2 := ownsRow_setCell_below (ownsRow_setCell_below oc (a := ⟨w.heap.size, 0, none⟩) (by simp) (.slice xa W.length xb)) (a := ⟨w.heap.size, 1, none⟩) (by simp) (.slice (some ⟨gb, 0, none⟩) (r.length + 1) cb)
            have ov2 := ownsRow_setCell_below (ownsRow_setCell_below ov (a := ⟨w.heap.size, 0, none⟩) (by simp) (.slice xa W.length xb)) (a := ⟨w.heap.size, 1, none⟩) (by simp) (.slice (some ⟨gb, 0, none⟩) (r.length + 1) cb)
            have cu2 := cur_low hcu hbw BW
            have hB2 := chg_below hB BW
            have HO : Hid (DT _ w.heap.size (.slice xa W.length xb) (.slice (some ⟨gb, 0, none⟩) (r.length + 1) cb) (.slice va C.length vc) W (⟨s.n, s.d, s.k, z⟩ :: r) C) := ⟨owns_mono' oa2 (by omega), owns_mono' oc2 (by omega), owns_mono' ov2 (by omega), HOK.out, HS1.out, (by simp only [List.length_cons]; omega), HZ1.out, HC2, HCS.out⟩
            clear oa oc ov oa2 oc2 ov2 BW X R hcu hB
            go_wp2
            exact bodyPost_ret (v := .tuple #[.agg #[.slice xa W.length xb, (.slice (some ⟨gb, 0, none⟩) (r.length + 1) cb)], .slice va C.length vc]) (by simp [results, Try.results72, go_sem, r0, r1]) rfl (TakingPost.mk HO.out (cu2.mono (by omega)) hB2)
        · have gg : ¬ (0 : Int) < (G.length : Int) := by omega
          clear hxl x0 x1
          obtain ⟨_, x0, x1⟩ := X.c2
          obtain ⟨_, r0, r1, rf0, rf1⟩ := R.f2
          have BW := ((Below.refl (w.heap.size) wr).setCell (p := ⟨w.heap.size, 0, none⟩) (by simp) (.slice xa W.length xb)).setCell (p := ⟨w.heap.size, 1, none⟩) (by simp) (.slice ca G.length cb)
          have oa2 := ownsRow_setCell_below (ownsRow_setCell_below oa (a := ⟨w.heap.size, 0, none⟩) (by simp) (.slice xa W.length xb)) (a := ⟨w.heap.size, 1, none⟩) (by simp) (.slice ca G.length cb)
          have oc2 := ownsRow_setCell_below (ownsRow_setCell_below oc (a := ⟨w.heap.size, 0, none⟩) (by simp) (.slice xa W.length xb)) (a := ⟨w.heap.size, 1, none⟩) (by simp) (.slice ca G.length cb)
          have ov2 := ownsRow_setCell_below (ownsRow_setCell_below ov (a := ⟨w.heap.size, 0, none⟩) (by simp) (.slice xa W.length xb)) (a := ⟨w.heap.size, 1, none⟩) (by simp) (.slice ca G.length cb)
          have cu2 := cur_low hcu hbw BW
          have hB2 := chg_below hB BW
          have HO : Hid (DT _ w.heap.size (.slice xa W.length xb) (.slice ca G.length cb) (.slice va C.length vc) W G C) := ⟨owns_mono' oa2 (by omega), owns_mono' oc2 (by omega), owns_mono' ov2 (by omega), HOK.out, HSR.out, h200, HGS.out, HC2, HCS.out⟩
          clear oa oc ov oa2 oc2 ov2 BW X R hcu hB
          go_wp2
          exact bodyPost_ret (v := .tuple #[.agg #[.slice xa W.length xb, (.slice ca G.length cb)], .slice va C.length vc]) (by simp [results, Try.results72, go_sem, r0, r1]) rfl (TakingPost.mk HO.out (cu2.mono (by omega)) hB2)
      · have gj : ¬ (0 : Int) < (j : Int) := by omega
        clear HEND hgo
        obtain ⟨hxl, x0, x1⟩ := X.c2
        by_cases hg0 : 0 < G.length
        · have gg : (0 : Int) < (G.length : Int) := by omega
          go_wp2_with fail
          refine (one_any b l _ 30 _ hcu hl (by omega) (by omega)).mono ?_
          rintro e w7 ⟨⟨y7, rfl⟩, hcu7, hch7⟩
          replace R := hch7.box R (by omega)
          replace X := hch7.box X (by omega)
          replace oa := hch7.owns oa (noB oa)
          replace oc := hch7.owns oc (noB oc)
          replace ov := hch7.owns ov (noB ov)
          replace hB := hB.trans hch7
          have hcu := hcu7
          clear hch7 hcu7 hxl x0 x1
          cases y7 with
          | false =>
            obtain ⟨_, x0, x1⟩ := X.c2
            obtain ⟨_, r0, r1, rf0, rf1⟩ := R.f2
            have BW := ((Below.refl (w.heap.size) w7).setCell (p := ⟨w.heap.size, 0, none⟩) (by simp) (.slice xa W.length xb)).setCell (p := ⟨w.heap.size, 1, none⟩) (by simp) (.slice ca G.length cb)
            have oa2 := ownsRow_setCell_below (ownsRow_setCell_below oa (a := ⟨w.heap.size, 0, none⟩) (by simp) (.slice xa W.length xb)) (a := ⟨w.heap.size, 1, none⟩) (by simp) (.slice ca G.length cb)
            have oc2 := ownsRow_setCell_below (ownsRow_setCell_below oc (a := ⟨w.heap.size, 0, none⟩) (by simp) (.slice xa W.length xb)) (a := ⟨w.heap.size, 1, none⟩) (by simp) (.slice ca G.length cb)
            have ov2 := ownsRow_setCell_below (ownsRow_setCell_below ov (a := ⟨w.heap.size, 0, none⟩) (by simp) (.slice xa W.length xb)) (a := ⟨w.heap.size, 1, none⟩) (by simp) (.slice ca G.length cb)
            have cu2 := cur_low hcu hbw BW
            have hB2 := chg_below hB BW
            have HO : Hid (DT _ w.heap.size (.slice xa W.length xb) (.slice ca G.length cb) (.slice va C.length vc) W G C) := ⟨owns_mono' oa2 (by omega), owns_mono' oc2 (by omega), owns_mono' ov2 (by omega), HOK.out, HSR.out, h200, HGS.out, HC2, HCS.out⟩
            clear oa oc ov oa2 oc2 ov2 BW X R hcu hB
            go_wp2
            exact bodyPost_ret (v := .tuple #[.agg #[.slice xa W.length xb, (.slice ca G.length cb)], .slice va C.length vc]) (by simp [results, Try.results72, go_sem, r0, r1]) rfl (TakingPost.mk HO.out (cu2.mono (by omega)) hB2)
          | true =>
            obtain ⟨hxl, x0, x1⟩ := X.c2
            obtain ⟨s, r, rfl⟩ : ∃ s r, G = s :: r := by cases G with | nil => simp at hg0 | cons s r => exact ⟨s, r, rfl⟩
            obtain ⟨gb, rfl⟩ : ∃ gb, ca = some ⟨gb, 0, none⟩ := by
              rcases oc.2 with ⟨q, q2⟩ | ⟨g, cap, cur, q, _⟩
              · simp at q2
              · simp only [Value.slice.injEq] at q; exact ⟨g, q.1⟩
            obtain ⟨hgT, hgT2⟩ := HCN.out gb rfl
            have hgt := hgT2 hg0
            have c3 : w7.cell? ⟨gb, 3, none⟩ = some (.int .u32 s.v) := by rw [oc.cellAt 3 (by simp only [List.length_cons]; omega)]; rfl
            have f3 := oc.frozenAt 3
            have hgl := (owns_lt oc).2
            have hgw := owns_ge oc gb rfl
            obtain ⟨z, hz⟩ : ∃ z, z = (s.v + 1) % 4294967296 := ⟨_, rfl⟩
            have oc1 := (oc.stored 3 (.int .u32 z)).1
            rw [flat4_sum] at oc1
            have oa1 := ownsRow_setCell_other oa (a := ⟨gb, 3, none⟩) (fun q => owns_type_ne oa oc (by decide) gb q rfl) (.int .u32 z)
            have ov1 := ownsRow_setCell_other ov (a := ⟨gb, 3, none⟩) (fun q => by have := hvn gb q; omega) (.int .u32 z)
            have X1 := X.setOther ⟨gb, 3, none⟩ (.int .u32 z) (by simp; omega)
            have R1 := R.setOther ⟨gb, 3, none⟩ (.int .u32 z) (by simp; omega)
            have BZ : Below w.heap.size w7 (w7.setCell ⟨gb, 3, none⟩ (.int .u32 z)) := (Below.refl _ _).setCell (p := ⟨gb, 3, none⟩) (by simp; omega) _
            have hcu1 := cur_low hcu hbw BZ
            have hB1 := chg_below hB BZ
            have HS1 : Hid (Srt (⟨s.n, s.d, s.k, z⟩ :: r)) := srt_sum z HSR.out
            have HZ1 : Hid (∀ i (h : i < (⟨s.n, s.d, s.k, z⟩ :: r : List Ck).length), (⟨s.n, s.d, s.k, z⟩ :: r : List Ck)[i].k.size ≤ 4001) := fun i h => by
              have := HGS.out i (by simpa using h)
              cases i with
              | zero => exact this
              | succ i => exact this
            go_upto_region 11 with fail
            rw [← hz]
            clear oa oc ov X R hcu hB BZ c3 f3 hxl x0 x1 HSR HGS HCN hz
            generalize w7.setCell ⟨gb, 3, none⟩ (.int .u32 z) = w8 at *
            have oa := oa1
            have oc := oc1
            have ov := ov1
            have X := X1
            have R := R1
            have hcu := hcu1
            have hB := hB1
            clear oa1 oc1 ov1 X1 R1 hcu1 hB1
            simp only [List.length_cons] at h200 oc X ⊢
            obtain ⟨_, x0, x1⟩ := X.c2
            obtain ⟨_, r0, r1, rf0, rf1⟩ := R.f2
            have BW := ((Below.refl (w.heap.size) w8).setCell (p := ⟨w.heap.size, 0, none⟩) (by simp) (.slice xa W.length xb)).setCell (p := ⟨w.heap.size, 1, none⟩) (by simp) (.slice (some ⟨gb, 0, none⟩) (r.length + 1) cb)
            have oa2 := ownsRow_setCell_below (ownsRow_setCell_below oa (a := ⟨w.heap.size, 0, none⟩) (by simp) (.slice xa W.length xb)) (a := ⟨w.heap.size, 1, none⟩) (by simp) (.slice (some ⟨gb, 0, none⟩) (r.length + 1) cb)
            have oc2 := ownsRow_setCell_below (ownsRow_setCell_below oc (a := ⟨w.heap.size, 0, none⟩) (by simp) (.slice xa W.length xb)) (a := ⟨w.heap.size, 1, none⟩) (by simp) (.slice (some ⟨gb, 0, none⟩) (r.length + 1) cb)
            have ov2 := ownsRow_setCell_below (ownsRow_setCell_below ov (a := ⟨w.heap.size, 0, none⟩) (by simp) (.slice xa W.length xb)) (a := ⟨w.heap.size, 1, none⟩) (by simp) (.slice (some ⟨gb, 0, none⟩) (r.length + 1) cb)
            have cu2 := cur_low hcu hbw BW
            have hB2 := chg_below hB BW
            have HO : Hid (DT _ w.heap.size (.slice xa W.length xb) (.slice (some ⟨gb, 0, none⟩) (r.length + 1) cb) (.slice va C.length vc) W (⟨s.n, s.d, s.k, z⟩ :: r) C) := ⟨owns_mono' oa2 (by omega), owns_mono' oc2 (by omega), owns_mono' ov2 (by omega), HOK.out, HS1.out, (by simp only [List.length_cons]; omega), HZ1.out, HC2, HCS.out⟩
            clear oa oc ov oa2 oc2 ov2 BW X R hcu hB
            go_wp2
            exact bodyPost_ret (v := .tuple #[.agg #[.slice xa W.length xb, (.slice (some ⟨gb, 0, none⟩) (r.length + 1) cb)], .slice va C.length vc]) (by simp [results, Try.results72, go_sem, r0, r1]) rfl (TakingPost.mk HO.out (cu2.mono (by omega)) hB2)
        · have gg : ¬ (0 : Int) < (G.length : Int) := by omega
          clear hxl x0 x1
          obtain ⟨_, x0, x1⟩ := X.c2
          obtain ⟨_, r0, r1, rf0, rf1⟩ := R.f2
          have BW := ((Below.refl (w.heap.size) wr).setCell (p := ⟨w.heap.size, 0, none⟩) (by simp) (.slice xa W.length xb)).setCell (p := ⟨w.heap.size, 1, none⟩) (by simp) (.slice ca G.length cb)
          have oa2 := ownsRow_setCell_below (ownsRow_setCell_below oa (a := ⟨w.heap.size, 0, none⟩) (by simp) (.slice xa W.length xb)) (a := ⟨w.heap.size, 1, none⟩) (by simp) (.slice ca G.length cb)
          have oc2 := ownsRow_setCell_below (ownsRow_setCell_below oc (a := ⟨w.heap.size, 0, none⟩) (by simp) (.slice xa W.length xb)) (a := ⟨w.heap.size, 1, none⟩) (by simp) (.slice ca G.length cb)
          have ov2 := ownsRow_setCell_below (ownsRow_setCell_below ov (a := ⟨w.heap.size, 0, none⟩) (by simp) (.slice xa W.length xb)) (a := ⟨w.heap.size, 1, none⟩) (by simp) (.slice ca G.length cb)
          have cu2 := cur_low hcu hbw BW
          have hB2 := chg_below hB BW
          have HO : Hid (DT _ w.heap.size (.slice xa W.length xb) (.slice ca G.length cb) (.slice va C.length vc) W G C) := ⟨owns_mono' oa2 (by omega), owns_mono' oc2 (by omega), owns_mono' ov2 (by omega), HOK.out, HSR.out, h200, HGS.out, HC2, HCS.out⟩
          clear oa oc ov oa2 oc2 ov2 BW X R hcu hB
          go_wp2
          exact bodyPost_ret (v := .tuple #[.agg #[.slice xa W.length xb, (.slice ca G.length cb)], .slice va C.length vc]) (by simp [results, Try.results72, go_sem, r0, r1]) rfl (TakingPost.mk HO.out (cu2.mono (by omega)) hB2)
end Go.Proofs.Ytocaigffikdlhaa
