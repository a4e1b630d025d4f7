/-
  Drawn disks: the cursor's disk.
-/
import Derived.Test.YtbgemebpfcbloaaU1ToU2
import Derived.Test.YtbgemebpfcbloaaU7
import Derived.Deep.RegionHeld3
namespace Go.Proofs.Ytbgemebpfcbloaa
open Go.RowKit
set_option linter.unusedVariables false
set_option maxRecDepth 100000

theorem Try.info39x : (Try.prog.info? 39).map (fun i => (i.zero, i.size, i.bytes)) = some (some (.agg #[.string ⟨#[]⟩, .int .i64 0]), 2, 24) := by kernel_rfl
theorem box4_f {w : World} {b : Nat} {v0 v1 v2 v3 : Value} (h : Box w b [v0, v1, v2, v3]) : w.frozen? ⟨b, 0, none⟩ = false ∧ w.frozen? ⟨b, 1, none⟩ = false ∧ w.frozen? ⟨b, 2, none⟩ = false ∧ w.frozen? ⟨b, 3, none⟩ = false := ⟨h.2.2 0, h.2.2 1, h.2.2 2, h.2.2 3⟩
theorem cur_put4 {w : World} {b g : Nat} {l : List UInt8} {K : Nat} (h : Cur w b l K) (hg : b < g) (x1 x2 x3 x4 : Value) : Cur (put4 w g x1 x2 x3 x4) b l K :=
  cur_set (cur_set (cur_set (cur_set h (Nat.le_refl _) _ hg _) (Nat.le_refl _) _ hg _) (Nat.le_refl _) _ hg _) (Nat.le_refl _) _ hg _
theorem chg_put4 {S : Nat → Prop} {w w1 : World} (h : Chg S w w1) {g : Nat} (hg : w.heap.size ≤ g) (x1 x2 x3 x4 : Value) : Chg S w (put4 w1 g x1 x2 x3 x4) :=
  chg_new (chg_new (chg_new (chg_new h _ hg _) _ hg _) _ hg _) _ hg _
theorem no_box {w : World} {g base e : Nat} {a : Option Addr} {n c : Nat} {v2 v3 v4 v : Value} {L : List (ByteArray × Int)} (X : Box w g [.slice a n c, v2, v3, v4]) (Q : w.ownsRow base e 2 v L.length (flat L)) (hL : L ≠ []) : ∀ k, v.ownBlock = some k → k ≠ g := by
  rintro k hk rfl
  have h0 : 0 < L.length := List.length_pos_iff.2 hL
  rcases Q.2 with ⟨_, h1⟩ | ⟨g1, cap, cur, e1, _⟩
  · omega
  · subst e1
    simp only [Value.ownBlock, Option.some.injEq] at hk
    subst hk
    have h2 := (owns_at Q 0 h0 (Nat.le_refl _)).1
    have h3 := X.c4.2.1
    rw [Nat.zero_mul] at h2
    rw [h3] at h2
    cases h2
theorem owns_cap5 {w : World} {base : Nat} {e : TypeId} {size n m c : Nat} {a : Option Addr} {xs : List Value} (h : w.ownsRow base e size (.slice a m c) n xs) : n ≤ c := by
  rcases h.2 with ⟨e1, h0⟩ | ⟨g1, cap, cur, e1, _, _, h1, _⟩
  · omega
  · simp only [Value.slice.injEq] at e1; omega
def smL (l : List (ByteArray × Int)) : Prop := tot l + l.length ≤ 1048576 ∧ ∀ i (h : i < l.length), l[i].1.size ≤ 1048576
/-- A drawn disk is small. -/
def okDk (bl lv sf : List (ByteArray × Int)) : Prop := smL bl ∧ smL lv ∧ smL sf
theorem tot_leX (l : List (ByteArray × Int)) (M : Nat) (h : ∀ x ∈ l, x.1.size ≤ M) : tot l ≤ l.length * M := by
  induction l with
  | nil => simp [tot]
  | cons x r ih =>
    have h1 := ih (fun y hy => h y (List.mem_cons_of_mem _ hy))
    have h2 := h x List.mem_cons_self
    simp only [tot, List.length_cons, Nat.add_mul, Nat.one_mul]; omega
theorem smL_of (l : List (ByteArray × Int)) (n M : Nat) (h : ∀ x ∈ l, x.1.size ≤ M) (hn : l.length ≤ n) (hm : n * M + n ≤ 1048576) (hM : M ≤ 1048576) : smL l := by
  have h1 := tot_leX l M h
  have h2 := Nat.mul_le_mul_right M hn
  exact ⟨by omega, fun i hi => Nat.le_trans (h _ (List.getElem_mem _)) hM⟩
theorem good_parts2 {bl lv sf : List (ByteArray × Int)} {r : Int} (hg : goodD bl lv sf r = true) : (∀ x ∈ bl, x.1.size ≤ 4000) ∧ bl.length ≤ 60 ∧ ((∀ x ∈ lv, x.1.size ≤ 12) ∧ lv.length ≤ 20) ∧ ((∀ x ∈ sf, x.1.size ≤ 12) ∧ sf.length ≤ 20) := by
  obtain ⟨h1, h2, h3, h4, h5, h6⟩ := (goodD_iff _ _ _ _).1 hg
  have k3 := (okNs_iff _ _).1 h3
  have k4 := (okNs_iff _ _).1 h4
  have kn : ∀ s : ByteArray, okN s = true → s.size ≤ 12 := fun s hs => by
    simp only [okN, Bool.and_eq_true, decide_eq_true_eq] at hs; omega
  exact ⟨fun x hx => ((okBs_iff _).1 h1 x hx).1, h2, ⟨fun x hx => kn _ (k3.2.1 x hx).1, k3.2.2⟩, ⟨fun x hx => kn _ (k4.2.1 x hx).1, k4.2.2⟩⟩
theorem okDk_good {bl lv sf : List (ByteArray × Int)} {r : Int} (hg : goodD bl lv sf r = true) : okDk bl lv sf := by
  obtain ⟨h1, h2, ⟨h3, h4⟩, ⟨h5, h6⟩⟩ := good_parts2 hg
  exact ⟨smL_of bl 60 4000 h1 h2 (by decide) (by decide), smL_of lv 20 12 h3 h4 (by decide) (by decide), smL_of sf 20 12 h5 h6 (by decide) (by decide)⟩
theorem okDk_more {bl lv sf : List (ByteArray × Int)} {r : Int} (hg : goodD bl lv sf r = true) (z : Int) : okDk bl (lv ++ [((⟨#[97]⟩ : ByteArray), z)]) sf := by
  obtain ⟨h1, h2, ⟨h3, h4⟩, ⟨h5, h6⟩⟩ := good_parts2 hg
  refine ⟨smL_of bl 60 4000 h1 h2 (by decide) (by decide), smL_of _ 21 12 (fun x hx => ?_) (by simp; omega) (by decide) (by decide), smL_of sf 20 12 h5 h6 (by decide) (by decide)⟩
  rcases List.mem_append.1 hx with h | h
  · exact h3 x h
  · rw [List.mem_singleton.1 h]; show (⟨#[97]⟩ : ByteArray).size ≤ 12; decide
theorem okDk_set {bl lv sf : List (ByteArray × Int)} {r : Int} (hg : goodD bl lv sf r = true) (z : Int) (h0 : 0 < bl.length) : okDk (bl.set 0 (bl[0].1, z)) lv sf := by
  obtain ⟨h1, h2, ⟨h3, h4⟩, ⟨h5, h6⟩⟩ := good_parts2 hg
  refine ⟨smL_of _ 60 4000 (fun x hx => ?_) (by simp; omega) (by decide) (by decide), smL_of lv 20 12 h3 h4 (by decide) (by decide), smL_of sf 20 12 h5 h6 (by decide) (by decide)⟩
  rcases List.mem_or_eq_of_mem_set hx with h | h
  · exact h1 x h
  · rw [h]; exact h1 bl[0] (List.getElem_mem _)
def DkPost (b : Nat) (l : List UInt8) (K : Nat) (w : World) (e : Ending) (w' : World) : Prop :=
  ∃ x1 x2 x3 bl lv sf r, e = .returned (.agg #[x1, x2, x3, .int .i64 r]) ∧ okDk bl lv sf ∧ w'.ownsRow w.heap.size 43 2 x1 bl.length (flat bl) ∧ w'.ownsRow w.heap.size 39 2 x2 lv.length (flat lv) ∧ w'.ownsRow w.heap.size 39 2 x3 sf.length (flat sf) ∧ Cur w' b l K ∧ Chg (· = b) w w'
theorem FL_take {w : World} {base e g cap n m : Nat} {L : List St} (h : w.ownsRow base e 5 (.slice (some ⟨g, 0, none⟩) n cap) n (flat5 L)) (hn : n = L.length) (hm : m ≤ n) : FL w (.slice (some ⟨g, 0, none⟩) m cap) (L.take m) := by
  subst hn
  obtain ⟨a, c, e1, hc⟩ := FL_of_owns h
  refine ⟨some ⟨g, 0, none⟩, cap, by rw [List.length_take, Nat.min_eq_left hm], fun hl => ?_⟩
  have hL : L ≠ [] := fun e => hl (by rw [e]; simp)
  obtain ⟨b, off, ha, hb, hcell⟩ := hc hL
  simp only [Value.slice.injEq, true_and] at e1
  refine ⟨b, off, by rw [e1.1, ha], hb, fun i hi => ?_⟩
  rw [List.length_take] at hi
  rw [List.getElem_take]
  exact hcell i (by omega)

set_option maxHeartbeats 16000000 in
theorem disk_any (b : Nat) (l : List UInt8) (c : Nat) (w : World) (h : Cur w b l c) (hl : l.length ≤ 9223372036854775807) (hc : c ≤ 10000) :
    Calls Try.prog 50 #[.pointer (some ⟨b, 0, none⟩)] w (DkPost b l (c + 7100) w) := by
  obtain ⟨j0, hj, kz0, kzs, kzb⟩ := info_parts Try.info39x
  have hbw := h.lt
  obtain ⟨w0, hw0⟩ : ∃ w0, w0 = w.alloc (.cells #[.slice none 0 0, .slice none 0 0, .slice none 0 0, .int .i64 0] 26) := ⟨_, rfl⟩
  have R0 : Box w0 w.heap.size [.slice none 0 0, .slice none 0 0, .slice none 0 0, .int .i64 0] := by rw [hw0]; exact Box.new w #[.slice none 0 0, .slice none 0 0, .slice none 0 0, .int .i64 0] 26
  have hb0 : Below w.heap.size w w0 := by rw [hw0]; exact below_alloc _ _
  have KS := diskSteps_any b l c w0 (h.chg hb0) hl (by omega)
  have G0 : Chg (· = b) w w0 := Chg.of_below hb0
  have hz0 : w.heap.size < w0.heap.size := R0.1
  clear h hb0
  go_enter Try.func50, Try.ntmps50
  go_wp2_with fail
  rw [← hw0]; clear hw0
  refine KS.mono ?_
  rintro e w1 ⟨v, L, rfl, o1, hL, hS, C1, G1⟩
  have R1 := G1.box R0 (by omega)
  replace G1 := G0.trans G1
  have hz1 : w.heap.size < w1.heap.size := R1.1
  have HS : Hid (allSt L) := hS
  clear KS R0 G0 hS
  by_cases hL1 : 100 < L.length
  · obtain ⟨gv, cv, rfl⟩ : ∃ gv cv, v = .slice (some ⟨gv, 0, none⟩) L.length cv := by
      rcases o1.2 with ⟨_, h0⟩ | ⟨g1, cap, cur, e1, _⟩
      · omega
      · exact ⟨g1, cap, e1⟩
    have hcv := owns_cap5 o1
    have hLi : (100 : Int) < (L.length : Int) := by omega
    have HLx : Hid ((L.take 50).length ≤ 100) := by show (L.take 50).length ≤ 100; rw [List.length_take]; omega
    have HSx : Hid (allSt (L.take 50)) := fun s hs => HS.out s (List.mem_of_mem_take hs)
    have q1 : (50 : Int) ≤ (cv : Int) := by omega
    have q2 : 50 ≤ cv := by omega
    obtain ⟨w2, hw2⟩ : ∃ w2, w2 = w1.alloc (.cells #[.int .i64 100, .int .i64 3000, .int .i64 100000] 3) := ⟨_, rfl⟩
    have XL : LitI w2 w1.heap.size [100, 3000, 100000] := by rw [hw2]; exact lit_of_box (Box.new w1 #[.int .i64 100, .int .i64 3000, .int .i64 100000] 3)
    have hb2 : Below w1.heap.size w1 w2 := by rw [hw2]; exact below_alloc _ _
    have KA := among_any b l (c + 7000) w1.heap.size 3 _ w2 (C1.chg hb2) hl (by omega) XL (by omega) rfl (by omega) (by omega)
    replace o1 := owns_below o1 hb2
    replace R1 := R1.below hb2
    replace G1 := G1.trans (Chg.of_below (S := (· = b)) hb2)
    clear XL hb2 C1
    go_wp2_with fail
    rw [← hw2]; clear hw2
    refine KA.mono ?_
    rintro e w3 ⟨⟨r, hr, rfl⟩, C3, G3⟩
    replace o1 := G3.owns o1 (fun k hk hh => by have := owns_ge o1 k hk; have hh : k = b := hh; omega)
    replace R1 := G3.box R1 (by omega)
    replace G1 := G1.trans G3
    have hr2 : 0 ≤ r ∧ r ≤ 100000 := by
      simp only [List.mem_cons, List.not_mem_nil, or_false] at hr
      rcases hr with rfl | rfl | rfl <;> decide
    have hF : FL w3 (.slice (some ⟨gv, 0, none⟩) 50 cv) (L.take 50) := FL_take o1 rfl (by omega)
    have KP := specPlay_any r _ (L.take 50) w3 hF (by have := HLx.out; omega) (fun i hi => by have := HSx.out (L.take 50)[i] (List.getElem_mem _); unfold okSt at this; omega)
    have hok : pOk r (L.take 50) = true := by
      have := HLx.out
      simp only [pOk, Bool.and_eq_true, decide_eq_true_eq]; omega
    have hgd := plD_good hr2.1 hr2.2 (L.take 50)
    simp only [pR, pD, hok, if_true] at KP
    have hz3 := G1.size
    have hz4 : w.heap.size < w3.heap.size := R1.1
    clear KA hr G3 hok o1 hF
    generalize (plD r (L.take 50)).1 = bl at *
    generalize (plD r (L.take 50)).2.1 = lv at *
    generalize (plD r (L.take 50)).2.2 = sf at *
    go_wp2_with fail
    refine KP.mono ?_
    rintro e w4 ⟨⟨x1, x2, x3, cs, rfl, M4, oc⟩, hb4⟩
    obtain ⟨ca, cc, rfl⟩ := owns_shape oc
    obtain ⟨a1, c1, a2, c2, a3, c3, rfl, rfl, rfl⟩ := M4.shape
    have HB : Hid (∀ k, (((.slice a1 bl.length c1) : Value).ownBlock = some k ∨ ((.slice a2 lv.length c2) : Value).ownBlock = some k ∨ ((.slice a3 sf.length c3) : Value).ownBlock = some k) → w3.heap.size ≤ k ∧ k < w4.heap.size) := by
      rintro k (hk | hk | hk)
      · exact ⟨owns_ge M4.1 k hk, owns_blk M4.1 k hk⟩
      · exact ⟨owns_ge M4.2.1 k hk, owns_blk M4.2.1 k hk⟩
      · exact ⟨owns_ge M4.2.2.1 k hk, owns_blk M4.2.2.1 k hk⟩
    obtain ⟨w5, hw5⟩ : ∃ w5, w5 = w4.alloc (.cells #[.slice a1 bl.length c1, .slice a2 lv.length c2, .slice a3 sf.length c3, .int .i64 r] 26) := ⟨_, rfl⟩
    have X5 : Box w5 w4.heap.size [.slice a1 bl.length c1, .slice a2 lv.length c2, .slice a3 sf.length c3, .int .i64 r] := by rw [hw5]; exact Box.new w4 #[.slice a1 bl.length c1, .slice a2 lv.length c2, .slice a3 sf.length c3, .int .i64 r] 26
    have hb5 : Below w4.heap.size w4 w5 := by rw [hw5]; exact below_alloc _ _
    have M5 := M4.below hb5
    have R5 := (R1.below hb4).below hb5
    have C5 := (C3.chg hb4).chg hb5
    have G5 := (G1.trans (Chg.of_below (S := (· = b)) hb4)).trans (Chg.of_below (S := (· = b)) hb5)
    have hBg : w3.heap.size ≤ w4.heap.size := hb4.size
    clear KP M4 oc hb4 hb5 R1 C3 G1
    generalize hBB : w3.heap.size = B at *
    clear hBB
    go_wp2_with fail
    rw [← hw5]; clear hw5
    generalize w4.heap.size = g at *
    refine (pick_any b l (c + 7000 + 2) 40 _ C5 hl (by omega) (by omega)).mono ?_
    rintro e w6 ⟨⟨q, rfl, hq⟩, C6, G6⟩
    have X6 := G6.box X5 (by omega)
    have R6 := G6.box R5 (by omega)
    have M6 := M5.chg G6 (fun k hk hh => by have hh : k = b := hh; omega)
    replace G6 := G5.trans G6
    have n1 := ((goodD_iff _ _ _ _).1 hgd).2.1
    have n2 := ((okNs_iff _ _).1 ((goodD_iff _ _ _ _).1 hgd).2.2.1).2.2
    clear X5 R5 M5 C5 G5
    by_cases q0 : q = 0
    · subst q0
      go_wp2_with fail
      have hD : Below w6.heap.size w6 w6.drew := (Below.refl _ _).drew
      have X := X6.below hD
      have R := R6.below hD
      have M := M6.below hD
      have C := C6.chg hD
      have G := G6.trans (Chg.of_below (S := (· = b)) hD)
      clear hD X6 R6 M6 C6 G6
      refine wp_region_held_drew (S := fun _ => True) (by kernel_rfl) trivial (fun hHeld => ?_)
      generalize w6.drew = va at *
      refine wpAnyH_take (i := 0) (oi := { dst := some 27, op := Op.fieldAddr 26 (Operand.tmp 4) 1, type := 0, pos := "l1_disk.go:365", after := #[], guard := none }) (v := .pointer (some ⟨g, 1, none⟩)) rfl (by kernel_rfl) (by kernel_rfl) (by kernel_rfl) (fun _ _ _ h => h) (Or.inl ⟨by rfl, ?_⟩) (by assumption) ?_
      · intro wx hSw
        clear hSw hHeld; go_simp
      simp only [Act.put, List.setIfInBounds_toArray, List.set_cons_zero, List.set_cons_succ]
      refine wpAnyH_take (i := 2) (oi := { dst := some 29, op := Op.move (Operand.tmp 0), type := 87, pos := "l1_disk.go:365", after := #[], guard := none }) (v := .pointer (some ⟨b, 0, none⟩)) rfl (by kernel_rfl) (by kernel_rfl) (by kernel_rfl) (fun _ _ _ h => h) (Or.inl ⟨by rfl, ?_⟩) (by assumption) ?_
      · intro wx hSw
        clear hSw hHeld; go_simp
      simp only [Act.put, List.setIfInBounds_toArray, List.set_cons_zero, List.set_cons_succ]
      refine wpAnyH_ready (rs := [1, 3]) (by kernel_rfl) (by simp) ?_
      refine AllReadyH.cons (o := { dst := some 28, op := Op.load 24 (Operand.tmp 27), type := 24, pos := "l1_disk.go:365", after := #[{ on := 0, ground := Ground.data }], guard := none }) rfl (fun K hK => ?_) (AllReadyH.cons (o := { dst := some 30, op := Op.call { callee := Callee.value (Operand.func 95), args := #[Operand.tmp 29, Operand.const (Value.int IntKind.i64 4)], argTypes := #[87, 3] }, type := 3, pos := "l1_disk.go:365", after := #[{ on := 2, ground := Ground.data }], guard := none }) rfl (fun K hK => ?_) AllReadyH.nil)
      · skip
        have y1 := X.c4.2.2.1
        clear hHeld
        go_simp
        refine hK.out _ _ trivial (fun hHeld => ?_)
        clear hK y1
        try (simp only [Act.put, List.setIfInBounds_toArray, List.set_cons_zero, List.set_cons_succ])
        refine wpAnyH_ready (rs := [3]) (by kernel_rfl) (by simp) ?_
        refine AllReadyH.cons (o := { dst := some 30, op := Op.call { callee := Callee.value (Operand.func 95), args := #[Operand.tmp 29, Operand.const (Value.int IntKind.i64 4)], argTypes := #[87, 3] }, type := 3, pos := "l1_disk.go:365", after := #[{ on := 2, ground := Ground.data }], guard := none }) rfl (fun K hK => ?_) AllReadyH.nil
        clear hHeld
        go_simp
        refine (pick_any b l (c + 7004) 4 _ C hl (by omega) (by omega)).mono ?_
        rintro e vc ⟨⟨z, rfl, hz⟩, C2, G2⟩
        replace X := G2.box X (by omega)
        replace R := G2.box R (by omega)
        replace M := M.chg G2 (fun k hk hh => by have hh : k = b := hh; omega)
        replace G := G.trans G2
        clear C G2 hz
        refine hK.out _ vc trivial (fun hHeld => ?_)
        clear hK
        try (simp only [Act.put, List.setIfInBounds_toArray, List.set_cons_zero, List.set_cons_succ])
        refine wpAnyH_take (i := 4) (oi := { dst := some 31, op := Op.build 39 #[(0, Operand.const (Value.string { data := #[97] })), (1, Operand.tmp 30)], type := 39, pos := "l1_disk.go:365", after := #[{ on := 3, ground := Ground.data }], guard := none }) (v := .agg #[.string ⟨#[97]⟩, .int .i64 (z : Int)]) rfl (by kernel_rfl) (by kernel_rfl) (by kernel_rfl) (fun _ _ _ h => h) (Or.inl ⟨by rfl, ?_⟩) (by assumption) ?_
        · intro wx hSw
          clear hSw hHeld; go_simp
        simp only [Act.put, List.setIfInBounds_toArray, List.set_cons_zero, List.set_cons_succ]
        refine wpAnyH_ready (rs := [5]) (by kernel_rfl) (by simp) ?_
        refine AllReadyH.cons (o := { dst := some 32, op := Op.buildSlice 24 1 #[(0, Operand.tmp 31)], type := 24, pos := "l1_disk.go:365", after := #[{ on := 4, ground := Ground.data }], guard := none }) rfl (fun K hK => ?_) AllReadyH.nil
        clear hHeld
        have hbA := below_alloc vc (.cells #[.string ⟨#[97]⟩, .int .i64 (z : Int)] 39)
        have N := Box.new vc #[.string ⟨#[97]⟩, .int .i64 (z : Int)] 39
        replace X := X.below hbA
        replace R := R.below hbA
        replace M := M.below hbA
        replace C2 := C2.chg hbA
        replace G := G.trans (Chg.of_below (S := (· = b)) hbA)
        clear hbA
        go_simp
        refine hK.out _ _ trivial (fun hHeld => ?_)
        clear hK
        try (simp only [Act.put, List.setIfInBounds_toArray, List.set_cons_zero, List.set_cons_succ])
        generalize vc.alloc (.cells #[.string ⟨#[97]⟩, .int .i64 (z : Int)] 39) = vd at *
        generalize vc.heap.size = nb at *
        refine wpAnyH_ready (rs := [6]) (by kernel_rfl) (by simp) ?_
        refine AllReadyH.cons (o := { dst := some 33, op := Op.call { callee := Callee.builtin Builtin.append, args := #[Operand.tmp 28, Operand.tmp 32], argTypes := #[24, 24] }, type := 24, pos := "l1_disk.go:365", after := #[{ on := 1, ground := Ground.data }, { on := 5, ground := Ground.data }, { on := 3, ground := Ground.chain }], guard := none }) rfl (fun K hK => ?_) AllReadyH.nil
        clear hHeld
        have hzd := G.size
        have hBd : B ≤ vd.heap.size := by have := X.1; omega
        refine wp_append_own _ _ _ 24 rfl B 39 j0 (.agg #[.string ⟨#[]⟩, .int .i64 0]) 2 24 Try.underlying24 hj kz0 kzs kzb rfl (by decide) (.slice a2 lv.length c2) lv.length (flat lv) rfl M.2.1 ⟨nb, 0, none⟩ 1 1 [.string ⟨#[97]⟩, .int .i64 (z : Int)] rfl rfl (by intro j u hu; rw [Addr.add_lit]; exact N.2.1 _ _ (by simpa using hu)) (by intro u hu; simp at hu; rcases hu with rfl | rfl <;> rfl) (by unfold maxLen; omega) (by omega) hBd ?_
        intro v2 we o2 hg2 _
        have hb6 : Below B vd we := (Below.refl B vd).grown hg2 hBd (owns_ge M.2.1)
        have hC6 := chg_grown hg2
        have X6 := hC6.box X (fun hh => absurd ((HB.out _ (.inr (.inl hh))).2) (by omega))
        have R6 := R.belowAt hb6 (by omega)
        have Q1 := hC6.owns M.1 (fun k hk hh => M.2.2.2.1 k hk hh)
        have Q3 := hC6.owns M.2.2.1 (fun k hk hh => M.2.2.2.2.2 k hh hk)
        have Q2 : we.ownsRow B 39 2 v2 (lv ++ [((⟨#[97]⟩ : ByteArray), (z : Int))]).length (flat (lv ++ [((⟨#[97]⟩ : ByteArray), (z : Int))])) := by rw [List.length_append, flat_append]; exact o2
        have C6 := cur_low C2 (show b < B by omega) hb6
        have G6 := chg_below G (hb6.mono (show w.heap.size ≤ B by omega))
        have g2 : ∀ k, v2.ownBlock = some k → k ≠ g := no_box X6 Q2 (by simp)
        obtain ⟨e2, k2, rfl⟩ := owns_shape Q2
        refine hK.out _ we trivial (fun hHeld => ?_)
        clear hK hb6 hC6 X R M C2 G o2 hg2 N hzd hBd
        try (simp only [Act.put, List.setIfInBounds_toArray, List.set_cons_zero, List.set_cons_succ])
        refine wpAnyH_take (i := 7) (oi := { dst := some 34, op := Op.fieldAddr 26 (Operand.tmp 4) 1, type := 0, pos := "l1_disk.go:365", after := #[{ on := 0, ground := Ground.phase }, { on := 1, ground := Ground.phase }, { on := 2, ground := Ground.phase }, { on := 3, ground := Ground.phase }, { on := 4, ground := Ground.phase }, { on := 5, ground := Ground.phase }, { on := 6, ground := Ground.phase }], guard := none }) (v := .pointer (some ⟨g, 1, none⟩)) rfl (by kernel_rfl) (by kernel_rfl) (by kernel_rfl) (fun _ _ _ h => h) (Or.inl ⟨by rfl, ?_⟩) (by assumption) ?_
        · intro wx hSw
          clear hSw hHeld; go_simp
        simp only [Act.put, List.setIfInBounds_toArray, List.set_cons_zero, List.set_cons_succ]
        refine wpAnyH_ready (rs := [8]) (by kernel_rfl) (by simp) ?_
        refine AllReadyH.cons (o := { dst := none, op := Op.store 24 (Operand.tmp 34) (Operand.tmp 33), type := 0, pos := "l1_disk.go:365", after := #[{ on := 7, ground := Ground.data }, { on := 6, ground := Ground.data }, { on := 6, ground := Ground.chain }, { on := 0, ground := Ground.phase }, { on := 1, ground := Ground.phase }, { on := 2, ground := Ground.phase }, { on := 3, ground := Ground.phase }, { on := 4, ground := Ground.phase }, { on := 5, ground := Ground.phase }, { on := 6, ground := Ground.phase }], guard := none }) rfl (fun K hK => ?_) AllReadyH.nil
        clear hHeld
        have y1 := X6.c4.2.2.1
        have f1 := X6.2.2 1
        have hl2 : (lv ++ [((⟨#[97]⟩ : ByteArray), (z : Int))]).length = lv.length + 1 := by simp
        generalize hLL : lv ++ [((⟨#[97]⟩ : ByteArray), (z : Int))] = LL at *
        have HLL : Hid (lv ++ [((⟨#[97]⟩ : ByteArray), (z : Int))] = LL) := hLL
        clear hLL hl2
        have hC7 : Chg (· = g) we (we.setCell ⟨g, 1, none⟩ (.slice e2 LL.length k2)) := (Chg.refl (· = g) we).setCell (p := ⟨g, 1, none⟩) rfl _
        have X : Box (we.setCell ⟨g, 1, none⟩ (.slice e2 LL.length k2)) g [.slice a1 bl.length c1, .slice e2 LL.length k2, .slice a3 sf.length c3, .int .i64 r] := X6.set 1 _ (by simp)
        have R := hC7.box R6 (show ¬ w.heap.size = g by omega)
        replace Q1 := hC7.owns Q1 (fun k hk hh => by have hh : k = g := hh; have := (HB.out k (.inl hk)).2; omega)
        replace Q2 := hC7.owns Q2 (fun k hk hh => g2 k hk hh)
        replace Q3 := hC7.owns Q3 (fun k hk hh => by have hh : k = g := hh; have := (HB.out k (.inr (.inr hk))).2; omega)
        replace C6 := cur_set C6 (Nat.le_refl _) ⟨g, 1, none⟩ (by show b < g; omega) (.slice e2 LL.length k2)
        replace G6 := chg_new G6 ⟨g, 1, none⟩ (by show w.heap.size ≤ g; omega) (.slice e2 LL.length k2)
        clear X6 R6 hC7 g2
        go_simp
        refine hK.out _ _ trivial (fun hHeld => ?_)
        clear hK K hHeld y1 f1
        generalize we.setCell ⟨g, 1, none⟩ (.slice e2 LL.length k2) = wf at *
        have R8 := R
        have HOK : Hid (okDk bl LL sf) := by rw [← HLL.out]; exact okDk_more hgd _
        refine wpAnyH_done (by kernel_rfl) ?_ _
        have R9 := put4_box R8 (.slice a1 bl.length c1) (.slice e2 LL.length k2) (.slice a3 sf.length c3) (.int .i64 r)
        have hC9 := put4_chg (wf) w.heap.size (.slice a1 bl.length c1) (.slice e2 LL.length k2) (.slice a3 sf.length c3) (.int .i64 r)
        have O1' := owns_wk (hC9.owns Q1 (fun k hk hh => by have := owns_ge Q1 k hk; have hh : k = w.heap.size := hh; omega)) (show w.heap.size ≤ B by omega)
        have O2' := owns_wk (hC9.owns Q2 (fun k hk hh => by have := owns_ge Q2 k hk; have hh : k = w.heap.size := hh; omega)) (show w.heap.size ≤ B by omega)
        have O3' := owns_wk (hC9.owns Q3 (fun k hk hh => by have := owns_ge Q3 k hk; have hh : k = w.heap.size := hh; omega)) (show w.heap.size ≤ B by omega)
        have C9 := cur_put4 C6 (show b < w.heap.size by omega) (.slice a1 bl.length c1) (.slice e2 LL.length k2) (.slice a3 sf.length c3) (.int .i64 r)
        have G9 := chg_put4 G6 (Nat.le_refl _) (.slice a1 bl.length c1) (.slice e2 LL.length k2) (.slice a3 sf.length c3) (.int .i64 r)
        obtain ⟨r0, r1, r2, r3⟩ := box4_f R
        obtain ⟨hrl, z0, z1, z2, z3⟩ := R.c4
        obtain ⟨s0, s1, s2, s3⟩ := box4_f X
        obtain ⟨hsl, t0, t1, t2, t3⟩ := X.c4
        have hgr : g ≠ w.heap.size := by omega
        have hgr2 : w.heap.size ≠ g := by omega
        clear R X R8 hC9 Q1 Q2 Q3 C6 G6
        go_wp2
        change bodyPost _ _ _ _ _ (put4 (wf) w.heap.size (.slice a1 bl.length c1) (.slice e2 LL.length k2) (.slice a3 sf.length c3) (.int .i64 r))
        generalize put4 (wf) w.heap.size (.slice a1 bl.length c1) (.slice e2 LL.length k2) (.slice a3 sf.length c3) (.int .i64 r) = W' at *
        obtain ⟨_, q0, q1, q2, q3⟩ := R9.c4
        exact bodyPost_ret (v := .agg #[.slice a1 bl.length c1, .slice e2 LL.length k2, .slice a3 sf.length c3, .int .i64 r]) (by simp [results, Try.results50, go_sem, q0, q1, q2, q3]) rfl ⟨_, _, _, bl, LL, sf, r, rfl, HOK.out, O1', O2', O3', C9.mono (by omega), G9⟩
      · skip
        clear hHeld
        go_simp
        refine (pick_any b l (c + 7004) 4 _ C hl (by omega) (by omega)).mono ?_
        rintro e vc ⟨⟨z, rfl, hz⟩, C2, G2⟩
        replace X := G2.box X (by omega)
        replace R := G2.box R (by omega)
        replace M := M.chg G2 (fun k hk hh => by have hh : k = b := hh; omega)
        replace G := G.trans G2
        clear C G2 hz
        refine hK.out _ vc trivial (fun hHeld => ?_)
        clear hK
        try (simp only [Act.put, List.setIfInBounds_toArray, List.set_cons_zero, List.set_cons_succ])
        refine wpAnyH_take (i := 4) (oi := { dst := some 31, op := Op.build 39 #[(0, Operand.const (Value.string { data := #[97] })), (1, Operand.tmp 30)], type := 39, pos := "l1_disk.go:365", after := #[{ on := 3, ground := Ground.data }], guard := none }) (v := .agg #[.string ⟨#[97]⟩, .int .i64 (z : Int)]) rfl (by kernel_rfl) (by kernel_rfl) (by kernel_rfl) (fun _ _ _ h => h) (Or.inl ⟨by rfl, ?_⟩) (by assumption) ?_
        · intro wx hSw
          clear hSw hHeld; go_simp
        simp only [Act.put, List.setIfInBounds_toArray, List.set_cons_zero, List.set_cons_succ]
        refine wpAnyH_ready (rs := [1, 5]) (by kernel_rfl) (by simp) ?_
        refine AllReadyH.cons (o := { dst := some 28, op := Op.load 24 (Operand.tmp 27), type := 24, pos := "l1_disk.go:365", after := #[{ on := 0, ground := Ground.data }], guard := none }) rfl (fun K hK => ?_) (AllReadyH.cons (o := { dst := some 32, op := Op.buildSlice 24 1 #[(0, Operand.tmp 31)], type := 24, pos := "l1_disk.go:365", after := #[{ on := 4, ground := Ground.data }], guard := none }) rfl (fun K hK => ?_) AllReadyH.nil)
        · skip
          have y1 := X.c4.2.2.1
          clear hHeld
          go_simp
          refine hK.out _ _ trivial (fun hHeld => ?_)
          clear hK y1
          try (simp only [Act.put, List.setIfInBounds_toArray, List.set_cons_zero, List.set_cons_succ])
          refine wpAnyH_ready (rs := [5]) (by kernel_rfl) (by simp) ?_
          refine AllReadyH.cons (o := { dst := some 32, op := Op.buildSlice 24 1 #[(0, Operand.tmp 31)], type := 24, pos := "l1_disk.go:365", after := #[{ on := 4, ground := Ground.data }], guard := none }) rfl (fun K hK => ?_) AllReadyH.nil
          clear hHeld
          have hbA := below_alloc vc (.cells #[.string ⟨#[97]⟩, .int .i64 (z : Int)] 39)
          have N := Box.new vc #[.string ⟨#[97]⟩, .int .i64 (z : Int)] 39
          replace X := X.below hbA
          replace R := R.below hbA
          replace M := M.below hbA
          replace C2 := C2.chg hbA
          replace G := G.trans (Chg.of_below (S := (· = b)) hbA)
          clear hbA
          go_simp
          refine hK.out _ _ trivial (fun hHeld => ?_)
          clear hK
          try (simp only [Act.put, List.setIfInBounds_toArray, List.set_cons_zero, List.set_cons_succ])
          generalize vc.alloc (.cells #[.string ⟨#[97]⟩, .int .i64 (z : Int)] 39) = vd at *
          generalize vc.heap.size = nb at *
          refine wpAnyH_ready (rs := [6]) (by kernel_rfl) (by simp) ?_
          refine AllReadyH.cons (o := { dst := some 33, op := Op.call { callee := Callee.builtin Builtin.append, args := #[Operand.tmp 28, Operand.tmp 32], argTypes := #[24, 24] }, type := 24, pos := "l1_disk.go:365", after := #[{ on := 1, ground := Ground.data }, { on := 5, ground := Ground.data }, { on := 3, ground := Ground.chain }], guard := none }) rfl (fun K hK => ?_) AllReadyH.nil
          clear hHeld
          have hzd := G.size
          have hBd : B ≤ vd.heap.size := by have := X.1; omega
          refine wp_append_own _ _ _ 24 rfl B 39 j0 (.agg #[.string ⟨#[]⟩, .int .i64 0]) 2 24 Try.underlying24 hj kz0 kzs kzb rfl (by decide) (.slice a2 lv.length c2) lv.length (flat lv) rfl M.2.1 ⟨nb, 0, none⟩ 1 1 [.string ⟨#[97]⟩, .int .i64 (z : Int)] rfl rfl (by intro j u hu; rw [Addr.add_lit]; exact N.2.1 _ _ (by simpa using hu)) (by intro u hu; simp at hu; rcases hu with rfl | rfl <;> rfl) (by unfold maxLen; omega) (by omega) hBd ?_
          intro v2 we o2 hg2 _
          have hb6 : Below B vd we := (Below.refl B vd).grown hg2 hBd (owns_ge M.2.1)
          have hC6 := chg_grown hg2
          have X6 := hC6.box X (fun hh => absurd ((HB.out _ (.inr (.inl hh))).2) (by omega))
          have R6 := R.belowAt hb6 (by omega)
          have Q1 := hC6.owns M.1 (fun k hk hh => M.2.2.2.1 k hk hh)
          have Q3 := hC6.owns M.2.2.1 (fun k hk hh => M.2.2.2.2.2 k hh hk)
          have Q2 : we.ownsRow B 39 2 v2 (lv ++ [((⟨#[97]⟩ : ByteArray), (z : Int))]).length (flat (lv ++ [((⟨#[97]⟩ : ByteArray), (z : Int))])) := by rw [List.length_append, flat_append]; exact o2
          have C6 := cur_low C2 (show b < B by omega) hb6
          have G6 := chg_below G (hb6.mono (show w.heap.size ≤ B by omega))
          have g2 : ∀ k, v2.ownBlock = some k → k ≠ g := no_box X6 Q2 (by simp)
          obtain ⟨e2, k2, rfl⟩ := owns_shape Q2
          refine hK.out _ we trivial (fun hHeld => ?_)
          clear hK hb6 hC6 X R M C2 G o2 hg2 N hzd hBd
          try (simp only [Act.put, List.setIfInBounds_toArray, List.set_cons_zero, List.set_cons_succ])
          refine wpAnyH_take (i := 7) (oi := { dst := some 34, op := Op.fieldAddr 26 (Operand.tmp 4) 1, type := 0, pos := "l1_disk.go:365", after := #[{ on := 0, ground := Ground.phase }, { on := 1, ground := Ground.phase }, { on := 2, ground := Ground.phase }, { on := 3, ground := Ground.phase }, { on := 4, ground := Ground.phase }, { on := 5, ground := Ground.phase }, { on := 6, ground := Ground.phase }], guard := none }) (v := .pointer (some ⟨g, 1, none⟩)) rfl (by kernel_rfl) (by kernel_rfl) (by kernel_rfl) (fun _ _ _ h => h) (Or.inl ⟨by rfl, ?_⟩) (by assumption) ?_
          · intro wx hSw
            clear hSw hHeld; go_simp
          simp only [Act.put, List.setIfInBounds_toArray, List.set_cons_zero, List.set_cons_succ]
          refine wpAnyH_ready (rs := [8]) (by kernel_rfl) (by simp) ?_
          refine AllReadyH.cons (o := { dst := none, op := Op.store 24 (Operand.tmp 34) (Operand.tmp 33), type := 0, pos := "l1_disk.go:365", after := #[{ on := 7, ground := Ground.data }, { on := 6, ground := Ground.data }, { on := 6, ground := Ground.chain }, { on := 0, ground := Ground.phase }, { on := 1, ground := Ground.phase }, { on := 2, ground := Ground.phase }, { on := 3, ground := Ground.phase }, { on := 4, ground := Ground.phase }, { on := 5, ground := Ground.phase }, { on := 6, ground := Ground.phase }], guard := none }) rfl (fun K hK => ?_) AllReadyH.nil
          clear hHeld
          have y1 := X6.c4.2.2.1
          have f1 := X6.2.2 1
          have hl2 : (lv ++ [((⟨#[97]⟩ : ByteArray), (z : Int))]).length = lv.length + 1 := by simp
          generalize hLL : lv ++ [((⟨#[97]⟩ : ByteArray), (z : Int))] = LL at *
          have HLL : Hid (lv ++ [((⟨#[97]⟩ : ByteArray), (z : Int))] = LL) := hLL
          clear hLL hl2
          have hC7 : Chg (· = g) we (we.setCell ⟨g, 1, none⟩ (.slice e2 LL.length k2)) := (Chg.refl (· = g) we).setCell (p := ⟨g, 1, none⟩) rfl _
          have X : Box (we.setCell ⟨g, 1, none⟩ (.slice e2 LL.length k2)) g [.slice a1 bl.length c1, .slice e2 LL.length k2, .slice a3 sf.length c3, .int .i64 r] := X6.set 1 _ (by simp)
          have R := hC7.box R6 (show ¬ w.heap.size = g by omega)
          replace Q1 := hC7.owns Q1 (fun k hk hh => by have hh : k = g := hh; have := (HB.out k (.inl hk)).2; omega)
          replace Q2 := hC7.owns Q2 (fun k hk hh => g2 k hk hh)
          replace Q3 := hC7.owns Q3 (fun k hk hh => by have hh : k = g := hh; have := (HB.out k (.inr (.inr hk))).2; omega)
          replace C6 := cur_set C6 (Nat.le_refl _) ⟨g, 1, none⟩ (by show b < g; omega) (.slice e2 LL.length k2)
          replace G6 := chg_new G6 ⟨g, 1, none⟩ (by show w.heap.size ≤ g; omega) (.slice e2 LL.length k2)
          clear X6 R6 hC7 g2
          go_simp
          refine hK.out _ _ trivial (fun hHeld => ?_)
          clear hK K hHeld y1 f1
          generalize we.setCell ⟨g, 1, none⟩ (.slice e2 LL.length k2) = wf at *
          have R8 := R
          have HOK : Hid (okDk bl LL sf) := by rw [← HLL.out]; exact okDk_more hgd _
          refine wpAnyH_done (by kernel_rfl) ?_ _
          have R9 := put4_box R8 (.slice a1 bl.length c1) (.slice e2 LL.length k2) (.slice a3 sf.length c3) (.int .i64 r)
          have hC9 := put4_chg (wf) w.heap.size (.slice a1 bl.length c1) (.slice e2 LL.length k2) (.slice a3 sf.length c3) (.int .i64 r)
          have O1' := owns_wk (hC9.owns Q1 (fun k hk hh => by have := owns_ge Q1 k hk; have hh : k = w.heap.size := hh; omega)) (show w.heap.size ≤ B by omega)
          have O2' := owns_wk (hC9.owns Q2 (fun k hk hh => by have := owns_ge Q2 k hk; have hh : k = w.heap.size := hh; omega)) (show w.heap.size ≤ B by omega)
          have O3' := owns_wk (hC9.owns Q3 (fun k hk hh => by have := owns_ge Q3 k hk; have hh : k = w.heap.size := hh; omega)) (show w.heap.size ≤ B by omega)
          have C9 := cur_put4 C6 (show b < w.heap.size by omega) (.slice a1 bl.length c1) (.slice e2 LL.length k2) (.slice a3 sf.length c3) (.int .i64 r)
          have G9 := chg_put4 G6 (Nat.le_refl _) (.slice a1 bl.length c1) (.slice e2 LL.length k2) (.slice a3 sf.length c3) (.int .i64 r)
          obtain ⟨r0, r1, r2, r3⟩ := box4_f R
          obtain ⟨hrl, z0, z1, z2, z3⟩ := R.c4
          obtain ⟨s0, s1, s2, s3⟩ := box4_f X
          obtain ⟨hsl, t0, t1, t2, t3⟩ := X.c4
          have hgr : g ≠ w.heap.size := by omega
          have hgr2 : w.heap.size ≠ g := by omega
          clear R X R8 hC9 Q1 Q2 Q3 C6 G6
          go_wp2
          change bodyPost _ _ _ _ _ (put4 (wf) w.heap.size (.slice a1 bl.length c1) (.slice e2 LL.length k2) (.slice a3 sf.length c3) (.int .i64 r))
          generalize put4 (wf) w.heap.size (.slice a1 bl.length c1) (.slice e2 LL.length k2) (.slice a3 sf.length c3) (.int .i64 r) = W' at *
          obtain ⟨_, q0, q1, q2, q3⟩ := R9.c4
          exact bodyPost_ret (v := .agg #[.slice a1 bl.length c1, .slice e2 LL.length k2, .slice a3 sf.length c3, .int .i64 r]) (by simp [results, Try.results50, go_sem, q0, q1, q2, q3]) rfl ⟨_, _, _, bl, LL, sf, r, rfl, HOK.out, O1', O2', O3', C9.mono (by omega), G9⟩
        · skip
          clear hHeld
          have hbA := below_alloc vc (.cells #[.string ⟨#[97]⟩, .int .i64 (z : Int)] 39)
          have N := Box.new vc #[.string ⟨#[97]⟩, .int .i64 (z : Int)] 39
          replace X := X.below hbA
          replace R := R.below hbA
          replace M := M.below hbA
          replace C2 := C2.chg hbA
          replace G := G.trans (Chg.of_below (S := (· = b)) hbA)
          clear hbA
          go_simp
          refine hK.out _ _ trivial (fun hHeld => ?_)
          clear hK
          try (simp only [Act.put, List.setIfInBounds_toArray, List.set_cons_zero, List.set_cons_succ])
          generalize vc.alloc (.cells #[.string ⟨#[97]⟩, .int .i64 (z : Int)] 39) = vd at *
          generalize vc.heap.size = nb at *
          refine wpAnyH_ready (rs := [1]) (by kernel_rfl) (by simp) ?_
          refine AllReadyH.cons (o := { dst := some 28, op := Op.load 24 (Operand.tmp 27), type := 24, pos := "l1_disk.go:365", after := #[{ on := 0, ground := Ground.data }], guard := none }) rfl (fun K hK => ?_) AllReadyH.nil
          have y1 := X.c4.2.2.1
          clear hHeld
          go_simp
          refine hK.out _ _ trivial (fun hHeld => ?_)
          clear hK y1
          try (simp only [Act.put, List.setIfInBounds_toArray, List.set_cons_zero, List.set_cons_succ])
          refine wpAnyH_ready (rs := [6]) (by kernel_rfl) (by simp) ?_
          refine AllReadyH.cons (o := { dst := some 33, op := Op.call { callee := Callee.builtin Builtin.append, args := #[Operand.tmp 28, Operand.tmp 32], argTypes := #[24, 24] }, type := 24, pos := "l1_disk.go:365", after := #[{ on := 1, ground := Ground.data }, { on := 5, ground := Ground.data }, { on := 3, ground := Ground.chain }], guard := none }) rfl (fun K hK => ?_) AllReadyH.nil
          clear hHeld
          have hzd := G.size
          have hBd : B ≤ vd.heap.size := by have := X.1; omega
          refine wp_append_own _ _ _ 24 rfl B 39 j0 (.agg #[.string ⟨#[]⟩, .int .i64 0]) 2 24 Try.underlying24 hj kz0 kzs kzb rfl (by decide) (.slice a2 lv.length c2) lv.length (flat lv) rfl M.2.1 ⟨nb, 0, none⟩ 1 1 [.string ⟨#[97]⟩, .int .i64 (z : Int)] rfl rfl (by intro j u hu; rw [Addr.add_lit]; exact N.2.1 _ _ (by simpa using hu)) (by intro u hu; simp at hu; rcases hu with rfl | rfl <;> rfl) (by unfold maxLen; omega) (by omega) hBd ?_
          intro v2 we o2 hg2 _
          have hb6 : Below B vd we := (Below.refl B vd).grown hg2 hBd (owns_ge M.2.1)
          have hC6 := chg_grown hg2
          have X6 := hC6.box X (fun hh => absurd ((HB.out _ (.inr (.inl hh))).2) (by omega))
          have R6 := R.belowAt hb6 (by omega)
          have Q1 := hC6.owns M.1 (fun k hk hh => M.2.2.2.1 k hk hh)
          have Q3 := hC6.owns M.2.2.1 (fun k hk hh => M.2.2.2.2.2 k hh hk)
          have Q2 : we.ownsRow B 39 2 v2 (lv ++ [((⟨#[97]⟩ : ByteArray), (z : Int))]).length (flat (lv ++ [((⟨#[97]⟩ : ByteArray), (z : Int))])) := by rw [List.length_append, flat_append]; exact o2
          have C6 := cur_low C2 (show b < B by omega) hb6
          have G6 := chg_below G (hb6.mono (show w.heap.size ≤ B by omega))
          have g2 : ∀ k, v2.ownBlock = some k → k ≠ g := no_box X6 Q2 (by simp)
          obtain ⟨e2, k2, rfl⟩ := owns_shape Q2
          refine hK.out _ we trivial (fun hHeld => ?_)
          clear hK hb6 hC6 X R M C2 G o2 hg2 N hzd hBd
          try (simp only [Act.put, List.setIfInBounds_toArray, List.set_cons_zero, List.set_cons_succ])
          refine wpAnyH_take (i := 7) (oi := { dst := some 34, op := Op.fieldAddr 26 (Operand.tmp 4) 1, type := 0, pos := "l1_disk.go:365", after := #[{ on := 0, ground := Ground.phase }, { on := 1, ground := Ground.phase }, { on := 2, ground := Ground.phase }, { on := 3, ground := Ground.phase }, { on := 4, ground := Ground.phase }, { on := 5, ground := Ground.phase }, { on := 6, ground := Ground.phase }], guard := none }) (v := .pointer (some ⟨g, 1, none⟩)) rfl (by kernel_rfl) (by kernel_rfl) (by kernel_rfl) (fun _ _ _ h => h) (Or.inl ⟨by rfl, ?_⟩) (by assumption) ?_
          · intro wx hSw
            clear hSw hHeld; go_simp
          simp only [Act.put, List.setIfInBounds_toArray, List.set_cons_zero, List.set_cons_succ]
          refine wpAnyH_ready (rs := [8]) (by kernel_rfl) (by simp) ?_
          refine AllReadyH.cons (o := { dst := none, op := Op.store 24 (Operand.tmp 34) (Operand.tmp 33), type := 0, pos := "l1_disk.go:365", after := #[{ on := 7, ground := Ground.data }, { on := 6, ground := Ground.data }, { on := 6, ground := Ground.chain }, { on := 0, ground := Ground.phase }, { on := 1, ground := Ground.phase }, { on := 2, ground := Ground.phase }, { on := 3, ground := Ground.phase }, { on := 4, ground := Ground.phase }, { on := 5, ground := Ground.phase }, { on := 6, ground := Ground.phase }], guard := none }) rfl (fun K hK => ?_) AllReadyH.nil
          clear hHeld
          have y1 := X6.c4.2.2.1
          have f1 := X6.2.2 1
          have hl2 : (lv ++ [((⟨#[97]⟩ : ByteArray), (z : Int))]).length = lv.length + 1 := by simp
          generalize hLL : lv ++ [((⟨#[97]⟩ : ByteArray), (z : Int))] = LL at *
          have HLL : Hid (lv ++ [((⟨#[97]⟩ : ByteArray), (z : Int))] = LL) := hLL
          clear hLL hl2
          have hC7 : Chg (· = g) we (we.setCell ⟨g, 1, none⟩ (.slice e2 LL.length k2)) := (Chg.refl (· = g) we).setCell (p := ⟨g, 1, none⟩) rfl _
          have X : Box (we.setCell ⟨g, 1, none⟩ (.slice e2 LL.length k2)) g [.slice a1 bl.length c1, .slice e2 LL.length k2, .slice a3 sf.length c3, .int .i64 r] := X6.set 1 _ (by simp)
          have R := hC7.box R6 (show ¬ w.heap.size = g by omega)
          replace Q1 := hC7.owns Q1 (fun k hk hh => by have hh : k = g := hh; have := (HB.out k (.inl hk)).2; omega)
          replace Q2 := hC7.owns Q2 (fun k hk hh => g2 k hk hh)
          replace Q3 := hC7.owns Q3 (fun k hk hh => by have hh : k = g := hh; have := (HB.out k (.inr (.inr hk))).2; omega)
          replace C6 := cur_set C6 (Nat.le_refl _) ⟨g, 1, none⟩ (by show b < g; omega) (.slice e2 LL.length k2)
          replace G6 := chg_new G6 ⟨g, 1, none⟩ (by show w.heap.size ≤ g; omega) (.slice e2 LL.length k2)
          clear X6 R6 hC7 g2
          go_simp
          refine hK.out _ _ trivial (fun hHeld => ?_)
          clear hK K hHeld y1 f1
          generalize we.setCell ⟨g, 1, none⟩ (.slice e2 LL.length k2) = wf at *
          have R8 := R
          have HOK : Hid (okDk bl LL sf) := by rw [← HLL.out]; exact okDk_more hgd _
          refine wpAnyH_done (by kernel_rfl) ?_ _
          have R9 := put4_box R8 (.slice a1 bl.length c1) (.slice e2 LL.length k2) (.slice a3 sf.length c3) (.int .i64 r)
          have hC9 := put4_chg (wf) w.heap.size (.slice a1 bl.length c1) (.slice e2 LL.length k2) (.slice a3 sf.length c3) (.int .i64 r)
          have O1' := owns_wk (hC9.owns Q1 (fun k hk hh => by have := owns_ge Q1 k hk; have hh : k = w.heap.size := hh; omega)) (show w.heap.size ≤ B by omega)
          have O2' := owns_wk (hC9.owns Q2 (fun k hk hh => by have := owns_ge Q2 k hk; have hh : k = w.heap.size := hh; omega)) (show w.heap.size ≤ B by omega)
          have O3' := owns_wk (hC9.owns Q3 (fun k hk hh => by have := owns_ge Q3 k hk; have hh : k = w.heap.size := hh; omega)) (show w.heap.size ≤ B by omega)
          have C9 := cur_put4 C6 (show b < w.heap.size by omega) (.slice a1 bl.length c1) (.slice e2 LL.length k2) (.slice a3 sf.length c3) (.int .i64 r)
          have G9 := chg_put4 G6 (Nat.le_refl _) (.slice a1 bl.length c1) (.slice e2 LL.length k2) (.slice a3 sf.length c3) (.int .i64 r)
          obtain ⟨r0, r1, r2, r3⟩ := box4_f R
          obtain ⟨hrl, z0, z1, z2, z3⟩ := R.c4
          obtain ⟨s0, s1, s2, s3⟩ := box4_f X
          obtain ⟨hsl, t0, t1, t2, t3⟩ := X.c4
          have hgr : g ≠ w.heap.size := by omega
          have hgr2 : w.heap.size ≠ g := by omega
          clear R X R8 hC9 Q1 Q2 Q3 C6 G6
          go_wp2
          change bodyPost _ _ _ _ _ (put4 (wf) w.heap.size (.slice a1 bl.length c1) (.slice e2 LL.length k2) (.slice a3 sf.length c3) (.int .i64 r))
          generalize put4 (wf) w.heap.size (.slice a1 bl.length c1) (.slice e2 LL.length k2) (.slice a3 sf.length c3) (.int .i64 r) = W' at *
          obtain ⟨_, q0, q1, q2, q3⟩ := R9.c4
          exact bodyPost_ret (v := .agg #[.slice a1 bl.length c1, .slice e2 LL.length k2, .slice a3 sf.length c3, .int .i64 r]) (by simp [results, Try.results50, go_sem, q0, q1, q2, q3]) rfl ⟨_, _, _, bl, LL, sf, r, rfl, HOK.out, O1', O2', O3', C9.mono (by omega), G9⟩
    by_cases q1 : q = 1
    · subst q1
      obtain ⟨w7, hw7⟩ : ∃ w7, w7 = w6.alloc (.cells #[.int .i64 (-1), .int .i64 0, .int .i64 100001] 3) := ⟨_, rfl⟩
      have XL : LitI w7 w6.heap.size [-1, 0, 100001] := by rw [hw7]; exact lit_of_box (Box.new w6 #[.int .i64 (-1), .int .i64 0, .int .i64 100001] 3)
      have hb7 : Below w6.heap.size w6 w7 := by rw [hw7]; exact below_alloc _ _
      have hbn : w6.heap.size ≠ b := by have := X6.1; omega
      have KA := among_any b l (c + 7000 + 4) w6.heap.size 3 _ w7 (C6.chg hb7) hl (by omega) XL hbn rfl (by omega) (by omega)
      have X7 := X6.below hb7
      have R7 := R6.below hb7
      have M7 := M6.below hb7
      have G7 := G6.trans (Chg.of_below (S := (· = b)) hb7)
      clear XL hb7 C6 X6 R6 M6 G6 hbn
      go_wp2_with fail
      rw [← hw7]; clear hw7
      refine KA.mono ?_
      rintro e w8 ⟨⟨rr, hr, rfl⟩, C8, G8⟩
      have X := G8.box X7 (by omega)
      have R := G8.box R7 (by omega)
      have M := M7.chg G8 (fun k hk hh => by have hh : k = b := hh; omega)
      replace G8 := G7.trans G8
      have hC7 : Chg (· = g) w8 (w8.setCell ⟨g, 3, none⟩ (.int .i64 rr)) := (Chg.refl (· = g) w8).setCell (p := ⟨g, 3, none⟩) rfl _
      have R8 := hC7.box R (show ¬ w.heap.size = g by omega)
      have O1 := hC7.owns M.1 (fun k hk hh => by have hh : k = g := hh; have := (HB.out k (.inl hk)).2; omega)
      have O2 := hC7.owns M.2.1 (fun k hk hh => by have hh : k = g := hh; have := (HB.out k (.inr (.inl hk))).2; omega)
      have O3 := hC7.owns M.2.2.1 (fun k hk hh => by have hh : k = g := hh; have := (HB.out k (.inr (.inr hk))).2; omega)
      have C9' := cur_set C8 (Nat.le_refl _) ⟨g, 3, none⟩ (by show b < g; omega) (.int .i64 rr)
      have G9' := chg_new G8 ⟨g, 3, none⟩ (by show w.heap.size ≤ g; omega) (.int .i64 rr)
      have HOK : Hid (okDk bl lv sf) := okDk_good hgd
      clear KA hr X7 R7 M7 G7 M C8 G8 hC7 HB hgd
      have R9 := put4_box R8 (.slice a1 bl.length c1) (.slice a2 lv.length c2) (.slice a3 sf.length c3) (.int .i64 rr)
      have hC9 := put4_chg (w8.setCell ⟨g, 3, none⟩ (.int .i64 rr)) w.heap.size (.slice a1 bl.length c1) (.slice a2 lv.length c2) (.slice a3 sf.length c3) (.int .i64 rr)
      have O1' := owns_wk (hC9.owns O1 (fun k hk hh => by have := owns_ge O1 k hk; have hh : k = w.heap.size := hh; omega)) (show w.heap.size ≤ B by omega)
      have O2' := owns_wk (hC9.owns O2 (fun k hk hh => by have := owns_ge O2 k hk; have hh : k = w.heap.size := hh; omega)) (show w.heap.size ≤ B by omega)
      have O3' := owns_wk (hC9.owns O3 (fun k hk hh => by have := owns_ge O3 k hk; have hh : k = w.heap.size := hh; omega)) (show w.heap.size ≤ B by omega)
      have C9 := cur_put4 C9' (show b < w.heap.size by omega) (.slice a1 bl.length c1) (.slice a2 lv.length c2) (.slice a3 sf.length c3) (.int .i64 rr)
      have G9 := chg_put4 G9' (Nat.le_refl _) (.slice a1 bl.length c1) (.slice a2 lv.length c2) (.slice a3 sf.length c3) (.int .i64 rr)
      obtain ⟨r0, r1, r2, r3⟩ := box4_f R
      obtain ⟨hrl, z0, z1, z2, z3⟩ := R.c4
      obtain ⟨s0, s1, s2, s3⟩ := box4_f X
      obtain ⟨hsl, t0, t1, t2, t3⟩ := X.c4
      have hgr : g ≠ w.heap.size := by omega
      have hgr2 : w.heap.size ≠ g := by omega
      clear R X R8 hC9 O1 O2 O3 C9' G9'
      go_wp2
      change bodyPost _ _ _ _ _ (put4 (w8.setCell ⟨g, 3, none⟩ (.int .i64 rr)) w.heap.size (.slice a1 bl.length c1) (.slice a2 lv.length c2) (.slice a3 sf.length c3) (.int .i64 rr))
      generalize put4 (w8.setCell ⟨g, 3, none⟩ (.int .i64 rr)) w.heap.size (.slice a1 bl.length c1) (.slice a2 lv.length c2) (.slice a3 sf.length c3) (.int .i64 rr) = W' at *
      obtain ⟨_, q0, q1, q2, q3⟩ := R9.c4
      exact bodyPost_ret (v := .agg #[.slice a1 bl.length c1, .slice a2 lv.length c2, .slice a3 sf.length c3, .int .i64 rr]) (by simp [results, Try.results50, go_sem, q0, q1, q2, q3]) rfl ⟨_, _, _, bl, lv, sf, rr, rfl, HOK.out, O1', O2', O3', C9.mono (by omega), G9⟩
    by_cases q2 : q = 2
    · subst q2
      by_cases hbl : 0 < bl.length
      · have hbi : (0 : Int) < (bl.length : Int) := by omega
        have hbd : decide ((0 : Int) < (bl.length : Int)) = true := decide_eq_true hbi
        obtain ⟨g1, c1', e1⟩ : ∃ g1 c1', ((.slice a1 bl.length c1) : Value) = .slice (some ⟨g1, 0, none⟩) bl.length c1' := by
          rcases M6.1.2 with ⟨e1, h0⟩ | ⟨g1, cap, cur, e1, _⟩
          · simp only [Value.slice.injEq] at e1; omega
          · exact ⟨g1, cap, e1⟩
        simp only [Value.slice.injEq, true_and] at e1
        obtain ⟨rfl, rfl⟩ := e1
        obtain ⟨_, t0, _, _, _⟩ := X6.c4
        go_wp2_with fail
        clear t0
        have hD : Below w6.heap.size w6 w6.drew := (Below.refl _ _).drew
        have X := X6.below hD
        have R := R6.below hD
        have M := M6.below hD
        have C := C6.chg hD
        have G := G6.trans (Chg.of_below (S := (· = b)) hD)
        clear hD X6 R6 M6 C6 G6
        have y0 := X.c4.2.1
        refine wp_region_held_drew (S := fun wx => wx.cell? ⟨g, 0, none⟩ = some (.slice (some ⟨g1, 0, none⟩) bl.length c1)) (by kernel_rfl) y0 (fun hHeld => ?_)
        clear y0
        generalize w6.drew = va at *
        refine wpAnyH_take (i := 0) (oi := { dst := some 47, op := Op.fieldAddr 26 (Operand.tmp 4) 0, type := 0, pos := "l1_disk.go:370", after := #[], guard := none }) (v := .pointer (some ⟨g, 0, none⟩)) rfl (by kernel_rfl) (by kernel_rfl) (by kernel_rfl) (fun _ _ _ h => h) (Or.inl ⟨by rfl, ?_⟩) (by assumption) ?_
        · intro wx hSw
          clear hSw hHeld; go_simp
        simp only [Act.put, List.setIfInBounds_toArray, List.set_cons_zero, List.set_cons_succ]
        refine wpAnyH_take (i := 1) (oi := { dst := some 48, op := Op.load 23 (Operand.tmp 47), type := 23, pos := "l1_disk.go:370", after := #[{ on := 0, ground := Ground.data }], guard := none }) (v := .slice (some ⟨g1, 0, none⟩) bl.length c1) rfl (by kernel_rfl) (by kernel_rfl) (by kernel_rfl) (fun _ _ _ h => h) (Or.inl ⟨by rfl, ?_⟩) (by assumption) ?_
        · intro wx hSw
          clear hHeld; have hSw2 : wx.cell? ⟨g, 0, none⟩ = some (.slice (some ⟨g1, 0, none⟩) bl.length c1) := hSw; clear hSw; go_simp
        simp only [Act.put, List.setIfInBounds_toArray, List.set_cons_zero, List.set_cons_succ]
        refine wpAnyH_take (i := 2) (oi := { dst := some 49, op := Op.move (Operand.tmp 0), type := 87, pos := "l1_disk.go:370", after := #[], guard := none }) (v := .pointer (some ⟨b, 0, none⟩)) rfl (by kernel_rfl) (by kernel_rfl) (by kernel_rfl) (fun _ _ _ h => h) (Or.inl ⟨by rfl, ?_⟩) (by assumption) ?_
        · intro wx hSw
          clear hSw hHeld; go_simp
        simp only [Act.put, List.setIfInBounds_toArray, List.set_cons_zero, List.set_cons_succ]
        refine wpAnyH_ready (rs := [3]) (by kernel_rfl) (by simp) ?_
        refine AllReadyH.cons (o := { dst := some 50, op := Op.call { callee := Callee.value (Operand.func 95), args := #[Operand.tmp 49, Operand.const (Value.int IntKind.i64 20)], argTypes := #[87, 3] }, type := 3, pos := "l1_disk.go:370", after := #[{ on := 2, ground := Ground.data }], guard := none }) rfl (fun K hK => ?_) AllReadyH.nil
        clear hHeld
        go_simp
        refine (pick_any b l (c + 7004) 20 _ C hl (by omega) (by omega)).mono ?_
        rintro e vc ⟨⟨z, rfl, hz⟩, C2, G2⟩
        replace X := G2.box X (by omega)
        replace R := G2.box R (by omega)
        replace M := M.chg G2 (fun k hk hh => by have hh : k = b := hh; omega)
        replace G := G.trans G2
        have hz20 : z < 20 := by omega
        have hzz : (z : Int) < 20 := by omega
        have hzn : (0 : Int) ≤ (z : Int) := by omega
        have hzw : IntKind.i64.wrap ((z : Int) - 1) = (z : Int) - 1 := by rw [IntKind.wrap_i64]; omega
        clear C G2 hz
        refine hK.out _ vc X.c4.2.1 (fun hHeld => ?_)
        clear hK
        try (simp only [Act.put, List.setIfInBounds_toArray, List.set_cons_zero, List.set_cons_succ])
        refine wpAnyH_take (i := 4) (oi := { dst := some 51, op := Op.binOp BinOp.sub 3 (Operand.tmp 50) (Operand.const (Value.int IntKind.i64 1)) 3, type := 3, pos := "l1_disk.go:370", after := #[{ on := 3, ground := Ground.data }], guard := none }) (v := .int .i64 ((z : Int) - 1)) rfl (by kernel_rfl) (by kernel_rfl) (by kernel_rfl) (fun _ _ _ h => h) (Or.inl ⟨by rfl, ?_⟩) (by assumption) ?_
        · intro wx hSw
          clear hSw hHeld; go_simp
        simp only [Act.put, List.setIfInBounds_toArray, List.set_cons_zero, List.set_cons_succ]
        refine wpAnyH_take (i := 5) (oi := { dst := some 52, op := Op.indexAddr 23 (Operand.tmp 48) (Operand.const (Value.int IntKind.i64 0)), type := 0, pos := "l1_disk.go:370", after := #[{ on := 1, ground := Ground.data }, { on := 0, ground := Ground.phase }, { on := 1, ground := Ground.phase }, { on := 2, ground := Ground.phase }, { on := 3, ground := Ground.phase }, { on := 4, ground := Ground.phase }], guard := none }) (v := .pointer (some ⟨g1, 0, none⟩)) rfl (by kernel_rfl) (by kernel_rfl) (by kernel_rfl) (fun _ _ _ h => h) (Or.inl ⟨by rfl, ?_⟩) (by assumption) ?_
        · intro wx hSw
          clear hSw hHeld; go_simp
        simp only [Act.put, List.setIfInBounds_toArray, List.set_cons_zero, List.set_cons_succ]
        refine wpAnyH_take (i := 6) (oi := { dst := some 53, op := Op.fieldAddr 43 (Operand.tmp 52) 1, type := 0, pos := "l1_disk.go:370", after := #[{ on := 5, ground := Ground.data }, { on := 0, ground := Ground.phase }, { on := 1, ground := Ground.phase }, { on := 2, ground := Ground.phase }, { on := 3, ground := Ground.phase }, { on := 4, ground := Ground.phase }], guard := none }) (v := .pointer (some ⟨g1, 1, none⟩)) rfl (by kernel_rfl) (by kernel_rfl) (by kernel_rfl) (fun _ _ _ h => h) (Or.inl ⟨by rfl, ?_⟩) (by assumption) ?_
        · intro wx hSw
          clear hSw hHeld; go_simp
        simp only [Act.put, List.setIfInBounds_toArray, List.set_cons_zero, List.set_cons_succ]
        refine wpAnyH_ready (rs := [7]) (by kernel_rfl) (by simp) ?_
        refine AllReadyH.cons (o := { dst := none, op := Op.store 3 (Operand.tmp 53) (Operand.tmp 51), type := 0, pos := "l1_disk.go:370", after := #[{ on := 6, ground := Ground.data }, { on := 4, ground := Ground.data }, { on := 3, ground := Ground.chain }, { on := 0, ground := Ground.phase }, { on := 1, ground := Ground.phase }, { on := 2, ground := Ground.phase }, { on := 3, ground := Ground.phase }, { on := 4, ground := Ground.phase }], guard := none }) rfl (fun K hK => ?_) AllReadyH.nil
        clear hHeld
        have O1 := M.1
        have O2 := M.2.1
        have O3 := M.2.2.1
        have y1 := (owns_at O1 0 (by omega) (Nat.le_refl _)).2.1
        have f1 := (owns_at O1 0 (by omega) (Nat.le_refl _)).2.2.2
        have hO := (O1.stored (0 * 2 + 1) (.int .i64 ((z : Int) - 1))).1
        rw [flat_set1 bl 0 (by omega)] at hO
        have hC7 : Chg (· = g1) vc (vc.setCell ⟨g1, 0 * 2 + 1, none⟩ (.int .i64 ((z : Int) - 1))) := (Chg.refl (· = g1) vc).setCell (p := ⟨g1, 0 * 2 + 1, none⟩) rfl _
        have hg1 := HB.out g1 (.inl rfl)
        replace X := hC7.box X (show ¬ g = g1 by omega)
        replace R := hC7.box R (show ¬ w.heap.size = g1 by omega)
        replace O2 := hC7.owns O2 (fun k hk hh => by have hh : k = g1 := hh; subst hh; exact M.2.2.2.1 _ rfl hk)
        replace O3 := hC7.owns O3 (fun k hk hh => by have hh : k = g1 := hh; subst hh; exact M.2.2.2.2.1 _ rfl hk)
        replace C2 := cur_set C2 (Nat.le_refl _) ⟨g1, 0 * 2 + 1, none⟩ (by show b < g1; omega) (.int .i64 ((z : Int) - 1))
        replace G := chg_new G ⟨g1, 0 * 2 + 1, none⟩ (by show w.heap.size ≤ g1; omega) (.int .i64 ((z : Int) - 1))
        have HOK : Hid (okDk (bl.set 0 ((bl[0]'(by omega)).1, (z : Int) - 1)) lv sf) := okDk_set hgd _ (by omega)
        have hls : (bl.set 0 ((bl[0]'(by omega)).1, (z : Int) - 1)).length = bl.length := by simp
        replace hO := (show _ from hO : (vc.setCell ⟨g1, 0 * 2 + 1, none⟩ (.int .i64 ((z : Int) - 1))).ownsRow B 43 2 (.slice (some ⟨g1, 0, none⟩) bl.length c1) bl.length (flat (bl.set 0 ((bl[0]'(by omega)).1, (z : Int) - 1))))
        generalize bl.set 0 ((bl[0]'(by omega)).1, (z : Int) - 1) = BL at *
        have OB : (vc.setCell ⟨g1, 0 * 2 + 1, none⟩ (.int .i64 ((z : Int) - 1))).ownsRow B 43 2 (.slice (some ⟨g1, 0, none⟩) bl.length c1) BL.length (flat BL) := by rw [hls]; exact hO
        have HX := X.c4.2.1
        clear O1 M hO hls hC7
        have y1 : vc.cell? ⟨g1, 1, none⟩ = some (.int .i64 (bl[0]'(by omega)).2) := y1
        have f1 : vc.frozen? ⟨g1, 1, none⟩ = false := f1
        generalize (bl[0]'(by omega)).2 = sy at *
        change Box (vc.setCell ⟨g1, 1, none⟩ (.int .i64 ((z : Int) - 1))) _ _ at X R
        change (vc.setCell ⟨g1, 1, none⟩ (.int .i64 ((z : Int) - 1))).ownsRow _ _ _ _ _ _ at O2 O3 OB
        change Cur (vc.setCell ⟨g1, 1, none⟩ (.int .i64 ((z : Int) - 1))) _ _ _ at C2
        change Chg _ _ (vc.setCell ⟨g1, 1, none⟩ (.int .i64 ((z : Int) - 1))) at G
        change (vc.setCell ⟨g1, 1, none⟩ (.int .i64 ((z : Int) - 1))).cell? _ = _ at HX
        go_simp
        refine hK.out _ _ HX (fun hHeld => ?_)
        clear hK K hHeld y1 f1 HX
        generalize vc.setCell ⟨g1, 1, none⟩ (.int .i64 ((z : Int) - 1)) = wf at *
        have R8 := R
        refine wpAnyH_done (by kernel_rfl) ?_ _
        have R9 := put4_box R8 (.slice (some ⟨g1, 0, none⟩) bl.length c1) (.slice a2 lv.length c2) (.slice a3 sf.length c3) (.int .i64 r)
        have hC9 := put4_chg (wf) w.heap.size (.slice (some ⟨g1, 0, none⟩) bl.length c1) (.slice a2 lv.length c2) (.slice a3 sf.length c3) (.int .i64 r)
        have O1' := owns_wk (hC9.owns OB (fun k hk hh => by have := owns_ge OB k hk; have hh : k = w.heap.size := hh; omega)) (show w.heap.size ≤ B by omega)
        have O2' := owns_wk (hC9.owns O2 (fun k hk hh => by have := owns_ge O2 k hk; have hh : k = w.heap.size := hh; omega)) (show w.heap.size ≤ B by omega)
        have O3' := owns_wk (hC9.owns O3 (fun k hk hh => by have := owns_ge O3 k hk; have hh : k = w.heap.size := hh; omega)) (show w.heap.size ≤ B by omega)
        have C9 := cur_put4 C2 (show b < w.heap.size by omega) (.slice (some ⟨g1, 0, none⟩) bl.length c1) (.slice a2 lv.length c2) (.slice a3 sf.length c3) (.int .i64 r)
        have G9 := chg_put4 G (Nat.le_refl _) (.slice (some ⟨g1, 0, none⟩) bl.length c1) (.slice a2 lv.length c2) (.slice a3 sf.length c3) (.int .i64 r)
        obtain ⟨r0, r1, r2, r3⟩ := box4_f R
        obtain ⟨hrl, z0, z1, z2, z3⟩ := R.c4
        obtain ⟨s0, s1, s2, s3⟩ := box4_f X
        obtain ⟨hsl, t0, t1, t2, t3⟩ := X.c4
        have hgr : g ≠ w.heap.size := by omega
        have hgr2 : w.heap.size ≠ g := by omega
        clear R X R8 hC9 OB O2 O3 C2 G
        go_wp2
        change bodyPost _ _ _ _ _ (put4 (wf) w.heap.size (.slice (some ⟨g1, 0, none⟩) bl.length c1) (.slice a2 lv.length c2) (.slice a3 sf.length c3) (.int .i64 r))
        generalize put4 (wf) w.heap.size (.slice (some ⟨g1, 0, none⟩) bl.length c1) (.slice a2 lv.length c2) (.slice a3 sf.length c3) (.int .i64 r) = W' at *
        obtain ⟨_, q0, q1, q2, q3⟩ := R9.c4
        exact bodyPost_ret (v := .agg #[.slice (some ⟨g1, 0, none⟩) bl.length c1, .slice a2 lv.length c2, .slice a3 sf.length c3, .int .i64 r]) (by simp [results, Try.results50, go_sem, q0, q1, q2, q3]) rfl ⟨_, _, _, BL, lv, sf, r, rfl, HOK.out, O1', O2', O3', C9.mono (by omega), G9⟩
      · have hbi : (bl.length : Int) ≤ 0 := by omega
        have O1 := M6.1
        have O2 := M6.2.1
        have O3 := M6.2.2.1
        have X := X6
        have R := R6
        have R8 := R6
        have HOK : Hid (okDk bl lv sf) := okDk_good hgd
        clear M6 X6 R6 HB hgd
        have R9 := put4_box R8 (.slice a1 bl.length c1) (.slice a2 lv.length c2) (.slice a3 sf.length c3) (.int .i64 r)
        have hC9 := put4_chg (w6) w.heap.size (.slice a1 bl.length c1) (.slice a2 lv.length c2) (.slice a3 sf.length c3) (.int .i64 r)
        have O1' := owns_wk (hC9.owns O1 (fun k hk hh => by have := owns_ge O1 k hk; have hh : k = w.heap.size := hh; omega)) (show w.heap.size ≤ B by omega)
        have O2' := owns_wk (hC9.owns O2 (fun k hk hh => by have := owns_ge O2 k hk; have hh : k = w.heap.size := hh; omega)) (show w.heap.size ≤ B by omega)
        have O3' := owns_wk (hC9.owns O3 (fun k hk hh => by have := owns_ge O3 k hk; have hh : k = w.heap.size := hh; omega)) (show w.heap.size ≤ B by omega)
        have C9 := cur_put4 C6 (show b < w.heap.size by omega) (.slice a1 bl.length c1) (.slice a2 lv.length c2) (.slice a3 sf.length c3) (.int .i64 r)
        have G9 := chg_put4 G6 (Nat.le_refl _) (.slice a1 bl.length c1) (.slice a2 lv.length c2) (.slice a3 sf.length c3) (.int .i64 r)
        obtain ⟨r0, r1, r2, r3⟩ := box4_f R
        obtain ⟨hrl, z0, z1, z2, z3⟩ := R.c4
        obtain ⟨s0, s1, s2, s3⟩ := box4_f X
        obtain ⟨hsl, t0, t1, t2, t3⟩ := X.c4
        have hgr : g ≠ w.heap.size := by omega
        have hgr2 : w.heap.size ≠ g := by omega
        clear R X R8 hC9 O1 O2 O3 C6 G6
        go_wp2
        change bodyPost _ _ _ _ _ (put4 (w6) w.heap.size (.slice a1 bl.length c1) (.slice a2 lv.length c2) (.slice a3 sf.length c3) (.int .i64 r))
        generalize put4 (w6) w.heap.size (.slice a1 bl.length c1) (.slice a2 lv.length c2) (.slice a3 sf.length c3) (.int .i64 r) = W' at *
        obtain ⟨_, q0, q1, q2, q3⟩ := R9.c4
        exact bodyPost_ret (v := .agg #[.slice a1 bl.length c1, .slice a2 lv.length c2, .slice a3 sf.length c3, .int .i64 r]) (by simp [results, Try.results50, go_sem, q0, q1, q2, q3]) rfl ⟨_, _, _, bl, lv, sf, r, rfl, HOK.out, O1', O2', O3', C9.mono (by omega), G9⟩
    have O1 := M6.1
    have O2 := M6.2.1
    have O3 := M6.2.2.1
    have X := X6
    have R := R6
    have R8 := R6
    have HOK : Hid (okDk bl lv sf) := okDk_good hgd
    clear M6 X6 R6 HB hgd
    have R9 := put4_box R8 (.slice a1 bl.length c1) (.slice a2 lv.length c2) (.slice a3 sf.length c3) (.int .i64 r)
    have hC9 := put4_chg (w6) w.heap.size (.slice a1 bl.length c1) (.slice a2 lv.length c2) (.slice a3 sf.length c3) (.int .i64 r)
    have O1' := owns_wk (hC9.owns O1 (fun k hk hh => by have := owns_ge O1 k hk; have hh : k = w.heap.size := hh; omega)) (show w.heap.size ≤ B by omega)
    have O2' := owns_wk (hC9.owns O2 (fun k hk hh => by have := owns_ge O2 k hk; have hh : k = w.heap.size := hh; omega)) (show w.heap.size ≤ B by omega)
    have O3' := owns_wk (hC9.owns O3 (fun k hk hh => by have := owns_ge O3 k hk; have hh : k = w.heap.size := hh; omega)) (show w.heap.size ≤ B by omega)
    have C9 := cur_put4 C6 (show b < w.heap.size by omega) (.slice a1 bl.length c1) (.slice a2 lv.length c2) (.slice a3 sf.length c3) (.int .i64 r)
    have G9 := chg_put4 G6 (Nat.le_refl _) (.slice a1 bl.length c1) (.slice a2 lv.length c2) (.slice a3 sf.length c3) (.int .i64 r)
    obtain ⟨r0, r1, r2, r3⟩ := box4_f R
    obtain ⟨hrl, z0, z1, z2, z3⟩ := R.c4
    obtain ⟨s0, s1, s2, s3⟩ := box4_f X
    obtain ⟨hsl, t0, t1, t2, t3⟩ := X.c4
    have hgr : g ≠ w.heap.size := by omega
    have hgr2 : w.heap.size ≠ g := by omega
    clear R X R8 hC9 O1 O2 O3 C6 G6
    go_wp2
    change bodyPost _ _ _ _ _ (put4 (w6) w.heap.size (.slice a1 bl.length c1) (.slice a2 lv.length c2) (.slice a3 sf.length c3) (.int .i64 r))
    generalize put4 (w6) w.heap.size (.slice a1 bl.length c1) (.slice a2 lv.length c2) (.slice a3 sf.length c3) (.int .i64 r) = W' at *
    obtain ⟨_, q0, q1, q2, q3⟩ := R9.c4
    exact bodyPost_ret (v := .agg #[.slice a1 bl.length c1, .slice a2 lv.length c2, .slice a3 sf.length c3, .int .i64 r]) (by simp [results, Try.results50, go_sem, q0, q1, q2, q3]) rfl ⟨_, _, _, bl, lv, sf, r, rfl, HOK.out, O1', O2', O3', C9.mono (by omega), G9⟩
  · obtain ⟨av, cv, rfl⟩ := owns_shape o1
    have hLi : (L.length : Int) ≤ 100 := by omega
    have HLx : Hid (L.length ≤ 100) := by show L.length ≤ 100; omega
    have HSx : Hid (allSt L) := HS
    clear hL1
    obtain ⟨w2, hw2⟩ : ∃ w2, w2 = w1.alloc (.cells #[.int .i64 100, .int .i64 3000, .int .i64 100000] 3) := ⟨_, rfl⟩
    have XL : LitI w2 w1.heap.size [100, 3000, 100000] := by rw [hw2]; exact lit_of_box (Box.new w1 #[.int .i64 100, .int .i64 3000, .int .i64 100000] 3)
    have hb2 : Below w1.heap.size w1 w2 := by rw [hw2]; exact below_alloc _ _
    have KA := among_any b l (c + 7000) w1.heap.size 3 _ w2 (C1.chg hb2) hl (by omega) XL (by omega) rfl (by omega) (by omega)
    replace o1 := owns_below o1 hb2
    replace R1 := R1.below hb2
    replace G1 := G1.trans (Chg.of_below (S := (· = b)) hb2)
    clear XL hb2 C1
    go_wp2_with fail
    rw [← hw2]; clear hw2
    refine KA.mono ?_
    rintro e w3 ⟨⟨r, hr, rfl⟩, C3, G3⟩
    replace o1 := G3.owns o1 (fun k hk hh => by have := owns_ge o1 k hk; have hh : k = b := hh; omega)
    replace R1 := G3.box R1 (by omega)
    replace G1 := G1.trans G3
    have hr2 : 0 ≤ r ∧ r ≤ 100000 := by
      simp only [List.mem_cons, List.not_mem_nil, or_false] at hr
      rcases hr with rfl | rfl | rfl <;> decide
    have hF : FL w3 (.slice av L.length cv) (L) := FL_of_owns o1
    have KP := specPlay_any r _ (L) w3 hF (by have := HLx.out; omega) (fun i hi => by have := HSx.out (L)[i] (List.getElem_mem _); unfold okSt at this; omega)
    have hok : pOk r (L) = true := by
      have := HLx.out
      simp only [pOk, Bool.and_eq_true, decide_eq_true_eq]; omega
    have hgd := plD_good hr2.1 hr2.2 (L)
    simp only [pR, pD, hok, if_true] at KP
    have hz3 := G1.size
    have hz4 : w.heap.size < w3.heap.size := R1.1
    clear KA hr G3 hok o1 hF
    generalize (plD r (L)).1 = bl at *
    generalize (plD r (L)).2.1 = lv at *
    generalize (plD r (L)).2.2 = sf at *
    go_wp2_with fail
    refine KP.mono ?_
    rintro e w4 ⟨⟨x1, x2, x3, cs, rfl, M4, oc⟩, hb4⟩
    obtain ⟨ca, cc, rfl⟩ := owns_shape oc
    obtain ⟨a1, c1, a2, c2, a3, c3, rfl, rfl, rfl⟩ := M4.shape
    have HB : Hid (∀ k, (((.slice a1 bl.length c1) : Value).ownBlock = some k ∨ ((.slice a2 lv.length c2) : Value).ownBlock = some k ∨ ((.slice a3 sf.length c3) : Value).ownBlock = some k) → w3.heap.size ≤ k ∧ k < w4.heap.size) := by
      rintro k (hk | hk | hk)
      · exact ⟨owns_ge M4.1 k hk, owns_blk M4.1 k hk⟩
      · exact ⟨owns_ge M4.2.1 k hk, owns_blk M4.2.1 k hk⟩
      · exact ⟨owns_ge M4.2.2.1 k hk, owns_blk M4.2.2.1 k hk⟩
    obtain ⟨w5, hw5⟩ : ∃ w5, w5 = w4.alloc (.cells #[.slice a1 bl.length c1, .slice a2 lv.length c2, .slice a3 sf.length c3, .int .i64 r] 26) := ⟨_, rfl⟩
    have X5 : Box w5 w4.heap.size [.slice a1 bl.length c1, .slice a2 lv.length c2, .slice a3 sf.length c3, .int .i64 r] := by rw [hw5]; exact Box.new w4 #[.slice a1 bl.length c1, .slice a2 lv.length c2, .slice a3 sf.length c3, .int .i64 r] 26
    have hb5 : Below w4.heap.size w4 w5 := by rw [hw5]; exact below_alloc _ _
    have M5 := M4.below hb5
    have R5 := (R1.below hb4).below hb5
    have C5 := (C3.chg hb4).chg hb5
    have G5 := (G1.trans (Chg.of_below (S := (· = b)) hb4)).trans (Chg.of_below (S := (· = b)) hb5)
    have hBg : w3.heap.size ≤ w4.heap.size := hb4.size
    clear KP M4 oc hb4 hb5 R1 C3 G1
    generalize hBB : w3.heap.size = B at *
    clear hBB
    go_wp2_with fail
    rw [← hw5]; clear hw5
    generalize w4.heap.size = g at *
    refine (pick_any b l (c + 7000 + 2) 40 _ C5 hl (by omega) (by omega)).mono ?_
    rintro e w6 ⟨⟨q, rfl, hq⟩, C6, G6⟩
    have X6 := G6.box X5 (by omega)
    have R6 := G6.box R5 (by omega)
    have M6 := M5.chg G6 (fun k hk hh => by have hh : k = b := hh; omega)
    replace G6 := G5.trans G6
    have n1 := ((goodD_iff _ _ _ _).1 hgd).2.1
    have n2 := ((okNs_iff _ _).1 ((goodD_iff _ _ _ _).1 hgd).2.2.1).2.2
    clear X5 R5 M5 C5 G5
    by_cases q0 : q = 0
    · subst q0
      go_wp2_with fail
      have hD : Below w6.heap.size w6 w6.drew := (Below.refl _ _).drew
      have X := X6.below hD
      have R := R6.below hD
      have M := M6.below hD
      have C := C6.chg hD
      have G := G6.trans (Chg.of_below (S := (· = b)) hD)
      clear hD X6 R6 M6 C6 G6
      refine wp_region_held_drew (S := fun _ => True) (by kernel_rfl) trivial (fun hHeld => ?_)
      generalize w6.drew = va at *
      refine wpAnyH_take (i := 0) (oi := { dst := some 27, op := Op.fieldAddr 26 (Operand.tmp 4) 1, type := 0, pos := "l1_disk.go:365", after := #[], guard := none }) (v := .pointer (some ⟨g, 1, none⟩)) rfl (by kernel_rfl) (by kernel_rfl) (by kernel_rfl) (fun _ _ _ h => h) (Or.inl ⟨by rfl, ?_⟩) (by assumption) ?_
      · intro wx hSw
        clear hSw hHeld; go_simp
      simp only [Act.put, List.setIfInBounds_toArray, List.set_cons_zero, List.set_cons_succ]
      refine wpAnyH_take (i := 2) (oi := { dst := some 29, op := Op.move (Operand.tmp 0), type := 87, pos := "l1_disk.go:365", after := #[], guard := none }) (v := .pointer (some ⟨b, 0, none⟩)) rfl (by kernel_rfl) (by kernel_rfl) (by kernel_rfl) (fun _ _ _ h => h) (Or.inl ⟨by rfl, ?_⟩) (by assumption) ?_
      · intro wx hSw
        clear hSw hHeld; go_simp
      simp only [Act.put, List.setIfInBounds_toArray, List.set_cons_zero, List.set_cons_succ]
      refine wpAnyH_ready (rs := [1, 3]) (by kernel_rfl) (by simp) ?_
      refine AllReadyH.cons (o := { dst := some 28, op := Op.load 24 (Operand.tmp 27), type := 24, pos := "l1_disk.go:365", after := #[{ on := 0, ground := Ground.data }], guard := none }) rfl (fun K hK => ?_) (AllReadyH.cons (o := { dst := some 30, op := Op.call { callee := Callee.value (Operand.func 95), args := #[Operand.tmp 29, Operand.const (Value.int IntKind.i64 4)], argTypes := #[87, 3] }, type := 3, pos := "l1_disk.go:365", after := #[{ on := 2, ground := Ground.data }], guard := none }) rfl (fun K hK => ?_) AllReadyH.nil)
      · skip
        have y1 := X.c4.2.2.1
        clear hHeld
        go_simp
        refine hK.out _ _ trivial (fun hHeld => ?_)
        clear hK y1
        try (simp only [Act.put, List.setIfInBounds_toArray, List.set_cons_zero, List.set_cons_succ])
        refine wpAnyH_ready (rs := [3]) (by kernel_rfl) (by simp) ?_
        refine AllReadyH.cons (o := { dst := some 30, op := Op.call { callee := Callee.value (Operand.func 95), args := #[Operand.tmp 29, Operand.const (Value.int IntKind.i64 4)], argTypes := #[87, 3] }, type := 3, pos := "l1_disk.go:365", after := #[{ on := 2, ground := Ground.data }], guard := none }) rfl (fun K hK => ?_) AllReadyH.nil
        clear hHeld
        go_simp
        refine (pick_any b l (c + 7004) 4 _ C hl (by omega) (by omega)).mono ?_
        rintro e vc ⟨⟨z, rfl, hz⟩, C2, G2⟩
        replace X := G2.box X (by omega)
        replace R := G2.box R (by omega)
        replace M := M.chg G2 (fun k hk hh => by have hh : k = b := hh; omega)
        replace G := G.trans G2
        clear C G2 hz
        refine hK.out _ vc trivial (fun hHeld => ?_)
        clear hK
        try (simp only [Act.put, List.setIfInBounds_toArray, List.set_cons_zero, List.set_cons_succ])
        refine wpAnyH_take (i := 4) (oi := { dst := some 31, op := Op.build 39 #[(0, Operand.const (Value.string { data := #[97] })), (1, Operand.tmp 30)], type := 39, pos := "l1_disk.go:365", after := #[{ on := 3, ground := Ground.data }], guard := none }) (v := .agg #[.string ⟨#[97]⟩, .int .i64 (z : Int)]) rfl (by kernel_rfl) (by kernel_rfl) (by kernel_rfl) (fun _ _ _ h => h) (Or.inl ⟨by rfl, ?_⟩) (by assumption) ?_
        · intro wx hSw
          clear hSw hHeld; go_simp
        simp only [Act.put, List.setIfInBounds_toArray, List.set_cons_zero, List.set_cons_succ]
        refine wpAnyH_ready (rs := [5]) (by kernel_rfl) (by simp) ?_
        refine AllReadyH.cons (o := { dst := some 32, op := Op.buildSlice 24 1 #[(0, Operand.tmp 31)], type := 24, pos := "l1_disk.go:365", after := #[{ on := 4, ground := Ground.data }], guard := none }) rfl (fun K hK => ?_) AllReadyH.nil
        clear hHeld
        have hbA := below_alloc vc (.cells #[.string ⟨#[97]⟩, .int .i64 (z : Int)] 39)
        have N := Box.new vc #[.string ⟨#[97]⟩, .int .i64 (z : Int)] 39
        replace X := X.below hbA
        replace R := R.below hbA
        replace M := M.below hbA
        replace C2 := C2.chg hbA
        replace G := G.trans (Chg.of_below (S := (· = b)) hbA)
        clear hbA
        go_simp
        refine hK.out _ _ trivial (fun hHeld => ?_)
        clear hK
        try (simp only [Act.put, List.setIfInBounds_toArray, List.set_cons_zero, List.set_cons_succ])
        generalize vc.alloc (.cells #[.string ⟨#[97]⟩, .int .i64 (z : Int)] 39) = vd at *
        generalize vc.heap.size = nb at *
        refine wpAnyH_ready (rs := [6]) (by kernel_rfl) (by simp) ?_
        refine AllReadyH.cons (o := { dst := some 33, op := Op.call { callee := Callee.builtin Builtin.append, args := #[Operand.tmp 28, Operand.tmp 32], argTypes := #[24, 24] }, type := 24, pos := "l1_disk.go:365", after := #[{ on := 1, ground := Ground.data }, { on := 5, ground := Ground.data }, { on := 3, ground := Ground.chain }], guard := none }) rfl (fun K hK => ?_) AllReadyH.nil
        clear hHeld
        have hzd := G.size
        have hBd : B ≤ vd.heap.size := by have := X.1; omega
        refine wp_append_own _ _ _ 24 rfl B 39 j0 (.agg #[.string ⟨#[]⟩, .int .i64 0]) 2 24 Try.underlying24 hj kz0 kzs kzb rfl (by decide) (.slice a2 lv.length c2) lv.length (flat lv) rfl M.2.1 ⟨nb, 0, none⟩ 1 1 [.string ⟨#[97]⟩, .int .i64 (z : Int)] rfl rfl (by intro j u hu; rw [Addr.add_lit]; exact N.2.1 _ _ (by simpa using hu)) (by intro u hu; simp at hu; rcases hu with rfl | rfl <;> rfl) (by unfold maxLen; omega) (by omega) hBd ?_
        intro v2 we o2 hg2 _
        have hb6 : Below B vd we := (Below.refl B vd).grown hg2 hBd (owns_ge M.2.1)
        have hC6 := chg_grown hg2
        have X6 := hC6.box X (fun hh => absurd ((HB.out _ (.inr (.inl hh))).2) (by omega))
        have R6 := R.belowAt hb6 (by omega)
        have Q1 := hC6.owns M.1 (fun k hk hh => M.2.2.2.1 k hk hh)
        have Q3 := hC6.owns M.2.2.1 (fun k hk hh => M.2.2.2.2.2 k hh hk)
        have Q2 : we.ownsRow B 39 2 v2 (lv ++ [((⟨#[97]⟩ : ByteArray), (z : Int))]).length (flat (lv ++ [((⟨#[97]⟩ : ByteArray), (z : Int))])) := by rw [List.length_append, flat_append]; exact o2
        have C6 := cur_low C2 (show b < B by omega) hb6
        have G6 := chg_below G (hb6.mono (show w.heap.size ≤ B by omega))
        have g2 : ∀ k, v2.ownBlock = some k → k ≠ g := no_box X6 Q2 (by simp)
        obtain ⟨e2, k2, rfl⟩ := owns_shape Q2
        refine hK.out _ we trivial (fun hHeld => ?_)
        clear hK hb6 hC6 X R M C2 G o2 hg2 N hzd hBd
        try (simp only [Act.put, List.setIfInBounds_toArray, List.set_cons_zero, List.set_cons_succ])
        refine wpAnyH_take (i := 7) (oi := { dst := some 34, op := Op.fieldAddr 26 (Operand.tmp 4) 1, type := 0, pos := "l1_disk.go:365", after := #[{ on := 0, ground := Ground.phase }, { on := 1, ground := Ground.phase }, { on := 2, ground := Ground.phase }, { on := 3, ground := Ground.phase }, { on := 4, ground := Ground.phase }, { on := 5, ground := Ground.phase }, { on := 6, ground := Ground.phase }], guard := none }) (v := .pointer (some ⟨g, 1, none⟩)) rfl (by kernel_rfl) (by kernel_rfl) (by kernel_rfl) (fun _ _ _ h => h) (Or.inl ⟨by rfl, ?_⟩) (by assumption) ?_
        · intro wx hSw
          clear hSw hHeld; go_simp
        simp only [Act.put, List.setIfInBounds_toArray, List.set_cons_zero, List.set_cons_succ]
        refine wpAnyH_ready (rs := [8]) (by kernel_rfl) (by simp) ?_
        refine AllReadyH.cons (o := { dst := none, op := Op.store 24 (Operand.tmp 34) (Operand.tmp 33), type := 0, pos := "l1_disk.go:365", after := #[{ on := 7, ground := Ground.data }, { on := 6, ground := Ground.data }, { on := 6, ground := Ground.chain }, { on := 0, ground := Ground.phase }, { on := 1, ground := Ground.phase }, { on := 2, ground := Ground.phase }, { on := 3, ground := Ground.phase }, { on := 4, ground := Ground.phase }, { on := 5, ground := Ground.phase }, { on := 6, ground := Ground.phase }], guard := none }) rfl (fun K hK => ?_) AllReadyH.nil
        clear hHeld
        have y1 := X6.c4.2.2.1
        have f1 := X6.2.2 1
        have hl2 : (lv ++ [((⟨#[97]⟩ : ByteArray), (z : Int))]).length = lv.length + 1 := by simp
        generalize hLL : lv ++ [((⟨#[97]⟩ : ByteArray), (z : Int))] = LL at *
        have HLL : Hid (lv ++ [((⟨#[97]⟩ : ByteArray), (z : Int))] = LL) := hLL
        clear hLL hl2
        have hC7 : Chg (· = g) we (we.setCell ⟨g, 1, none⟩ (.slice e2 LL.length k2)) := (Chg.refl (· = g) we).setCell (p := ⟨g, 1, none⟩) rfl _
        have X : Box (we.setCell ⟨g, 1, none⟩ (.slice e2 LL.length k2)) g [.slice a1 bl.length c1, .slice e2 LL.length k2, .slice a3 sf.length c3, .int .i64 r] := X6.set 1 _ (by simp)
        have R := hC7.box R6 (show ¬ w.heap.size = g by omega)
        replace Q1 := hC7.owns Q1 (fun k hk hh => by have hh : k = g := hh; have := (HB.out k (.inl hk)).2; omega)
        replace Q2 := hC7.owns Q2 (fun k hk hh => g2 k hk hh)
        replace Q3 := hC7.owns Q3 (fun k hk hh => by have hh : k = g := hh; have := (HB.out k (.inr (.inr hk))).2; omega)
        replace C6 := cur_set C6 (Nat.le_refl _) ⟨g, 1, none⟩ (by show b < g; omega) (.slice e2 LL.length k2)
        replace G6 := chg_new G6 ⟨g, 1, none⟩ (by show w.heap.size ≤ g; omega) (.slice e2 LL.length k2)
        clear X6 R6 hC7 g2
        go_simp
        refine hK.out _ _ trivial (fun hHeld => ?_)
        clear hK K hHeld y1 f1
        generalize we.setCell ⟨g, 1, none⟩ (.slice e2 LL.length k2) = wf at *
        have R8 := R
        have HOK : Hid (okDk bl LL sf) := by rw [← HLL.out]; exact okDk_more hgd _
        refine wpAnyH_done (by kernel_rfl) ?_ _
        have R9 := put4_box R8 (.slice a1 bl.length c1) (.slice e2 LL.length k2) (.slice a3 sf.length c3) (.int .i64 r)
        have hC9 := put4_chg (wf) w.heap.size (.slice a1 bl.length c1) (.slice e2 LL.length k2) (.slice a3 sf.length c3) (.int .i64 r)
        have O1' := owns_wk (hC9.owns Q1 (fun k hk hh => by have := owns_ge Q1 k hk; have hh : k = w.heap.size := hh; omega)) (show w.heap.size ≤ B by omega)
        have O2' := owns_wk (hC9.owns Q2 (fun k hk hh => by have := owns_ge Q2 k hk; have hh : k = w.heap.size := hh; omega)) (show w.heap.size ≤ B by omega)
        have O3' := owns_wk (hC9.owns Q3 (fun k hk hh => by have := owns_ge Q3 k hk; have hh : k = w.heap.size := hh; omega)) (show w.heap.size ≤ B by omega)
        have C9 := cur_put4 C6 (show b < w.heap.size by omega) (.slice a1 bl.length c1) (.slice e2 LL.length k2) (.slice a3 sf.length c3) (.int .i64 r)
        have G9 := chg_put4 G6 (Nat.le_refl _) (.slice a1 bl.length c1) (.slice e2 LL.length k2) (.slice a3 sf.length c3) (.int .i64 r)
        obtain ⟨r0, r1, r2, r3⟩ := box4_f R
        obtain ⟨hrl, z0, z1, z2, z3⟩ := R.c4
        obtain ⟨s0, s1, s2, s3⟩ := box4_f X
        obtain ⟨hsl, t0, t1, t2, t3⟩ := X.c4
        have hgr : g ≠ w.heap.size := by omega
        have hgr2 : w.heap.size ≠ g := by omega
        clear R X R8 hC9 Q1 Q2 Q3 C6 G6
        go_wp2
        change bodyPost _ _ _ _ _ (put4 (wf) w.heap.size (.slice a1 bl.length c1) (.slice e2 LL.length k2) (.slice a3 sf.length c3) (.int .i64 r))
        generalize put4 (wf) w.heap.size (.slice a1 bl.length c1) (.slice e2 LL.length k2) (.slice a3 sf.length c3) (.int .i64 r) = W' at *
        obtain ⟨_, q0, q1, q2, q3⟩ := R9.c4
        exact bodyPost_ret (v := .agg #[.slice a1 bl.length c1, .slice e2 LL.length k2, .slice a3 sf.length c3, .int .i64 r]) (by simp [results, Try.results50, go_sem, q0, q1, q2, q3]) rfl ⟨_, _, _, bl, LL, sf, r, rfl, HOK.out, O1', O2', O3', C9.mono (by omega), G9⟩
      · skip
        clear hHeld
        go_simp
        refine (pick_any b l (c + 7004) 4 _ C hl (by omega) (by omega)).mono ?_
        rintro e vc ⟨⟨z, rfl, hz⟩, C2, G2⟩
        replace X := G2.box X (by omega)
        replace R := G2.box R (by omega)
        replace M := M.chg G2 (fun k hk hh => by have hh : k = b := hh; omega)
        replace G := G.trans G2
        clear C G2 hz
        refine hK.out _ vc trivial (fun hHeld => ?_)
        clear hK
        try (simp only [Act.put, List.setIfInBounds_toArray, List.set_cons_zero, List.set_cons_succ])
        refine wpAnyH_take (i := 4) (oi := { dst := some 31, op := Op.build 39 #[(0, Operand.const (Value.string { data := #[97] })), (1, Operand.tmp 30)], type := 39, pos := "l1_disk.go:365", after := #[{ on := 3, ground := Ground.data }], guard := none }) (v := .agg #[.string ⟨#[97]⟩, .int .i64 (z : Int)]) rfl (by kernel_rfl) (by kernel_rfl) (by kernel_rfl) (fun _ _ _ h => h) (Or.inl ⟨by rfl, ?_⟩) (by assumption) ?_
        · intro wx hSw
          clear hSw hHeld; go_simp
        simp only [Act.put, List.setIfInBounds_toArray, List.set_cons_zero, List.set_cons_succ]
        refine wpAnyH_ready (rs := [1, 5]) (by kernel_rfl) (by simp) ?_
        refine AllReadyH.cons (o := { dst := some 28, op := Op.load 24 (Operand.tmp 27), type := 24, pos := "l1_disk.go:365", after := #[{ on := 0, ground := Ground.data }], guard := none }) rfl (fun K hK => ?_) (AllReadyH.cons (o := { dst := some 32, op := Op.buildSlice 24 1 #[(0, Operand.tmp 31)], type := 24, pos := "l1_disk.go:365", after := #[{ on := 4, ground := Ground.data }], guard := none }) rfl (fun K hK => ?_) AllReadyH.nil)
        · skip
          have y1 := X.c4.2.2.1
          clear hHeld
          go_simp
          refine hK.out _ _ trivial (fun hHeld => ?_)
          clear hK y1
          try (simp only [Act.put, List.setIfInBounds_toArray, List.set_cons_zero, List.set_cons_succ])
          refine wpAnyH_ready (rs := [5]) (by kernel_rfl) (by simp) ?_
          refine AllReadyH.cons (o := { dst := some 32, op := Op.buildSlice 24 1 #[(0, Operand.tmp 31)], type := 24, pos := "l1_disk.go:365", after := #[{ on := 4, ground := Ground.data }], guard := none }) rfl (fun K hK => ?_) AllReadyH.nil
          clear hHeld
          have hbA := below_alloc vc (.cells #[.string ⟨#[97]⟩, .int .i64 (z : Int)] 39)
          have N := Box.new vc #[.string ⟨#[97]⟩, .int .i64 (z : Int)] 39
          replace X := X.below hbA
          replace R := R.below hbA
          replace M := M.below hbA
          replace C2 := C2.chg hbA
          replace G := G.trans (Chg.of_below (S := (· = b)) hbA)
          clear hbA
          go_simp
          refine hK.out _ _ trivial (fun hHeld => ?_)
          clear hK
          try (simp only [Act.put, List.setIfInBounds_toArray, List.set_cons_zero, List.set_cons_succ])
          generalize vc.alloc (.cells #[.string ⟨#[97]⟩, .int .i64 (z : Int)] 39) = vd at *
          generalize vc.heap.size = nb at *
          refine wpAnyH_ready (rs := [6]) (by kernel_rfl) (by simp) ?_
          refine AllReadyH.cons (o := { dst := some 33, op := Op.call { callee := Callee.builtin Builtin.append, args := #[Operand.tmp 28, Operand.tmp 32], argTypes := #[24, 24] }, type := 24, pos := "l1_disk.go:365", after := #[{ on := 1, ground := Ground.data }, { on := 5, ground := Ground.data }, { on := 3, ground := Ground.chain }], guard := none }) rfl (fun K hK => ?_) AllReadyH.nil
          clear hHeld
          have hzd := G.size
          have hBd : B ≤ vd.heap.size := by have := X.1; omega
          refine wp_append_own _ _ _ 24 rfl B 39 j0 (.agg #[.string ⟨#[]⟩, .int .i64 0]) 2 24 Try.underlying24 hj kz0 kzs kzb rfl (by decide) (.slice a2 lv.length c2) lv.length (flat lv) rfl M.2.1 ⟨nb, 0, none⟩ 1 1 [.string ⟨#[97]⟩, .int .i64 (z : Int)] rfl rfl (by intro j u hu; rw [Addr.add_lit]; exact N.2.1 _ _ (by simpa using hu)) (by intro u hu; simp at hu; rcases hu with rfl | rfl <;> rfl) (by unfold maxLen; omega) (by omega) hBd ?_
          intro v2 we o2 hg2 _
          have hb6 : Below B vd we := (Below.refl B vd).grown hg2 hBd (owns_ge M.2.1)
          have hC6 := chg_grown hg2
          have X6 := hC6.box X (fun hh => absurd ((HB.out _ (.inr (.inl hh))).2) (by omega))
          have R6 := R.belowAt hb6 (by omega)
          have Q1 := hC6.owns M.1 (fun k hk hh => M.2.2.2.1 k hk hh)
          have Q3 := hC6.owns M.2.2.1 (fun k hk hh => M.2.2.2.2.2 k hh hk)
          have Q2 : we.ownsRow B 39 2 v2 (lv ++ [((⟨#[97]⟩ : ByteArray), (z : Int))]).length (flat (lv ++ [((⟨#[97]⟩ : ByteArray), (z : Int))])) := by rw [List.length_append, flat_append]; exact o2
          have C6 := cur_low C2 (show b < B by omega) hb6
          have G6 := chg_below G (hb6.mono (show w.heap.size ≤ B by omega))
          have g2 : ∀ k, v2.ownBlock = some k → k ≠ g := no_box X6 Q2 (by simp)
          obtain ⟨e2, k2, rfl⟩ := owns_shape Q2
          refine hK.out _ we trivial (fun hHeld => ?_)
          clear hK hb6 hC6 X R M C2 G o2 hg2 N hzd hBd
          try (simp only [Act.put, List.setIfInBounds_toArray, List.set_cons_zero, List.set_cons_succ])
          refine wpAnyH_take (i := 7) (oi := { dst := some 34, op := Op.fieldAddr 26 (Operand.tmp 4) 1, type := 0, pos := "l1_disk.go:365", after := #[{ on := 0, ground := Ground.phase }, { on := 1, ground := Ground.phase }, { on := 2, ground := Ground.phase }, { on := 3, ground := Ground.phase }, { on := 4, ground := Ground.phase }, { on := 5, ground := Ground.phase }, { on := 6, ground := Ground.phase }], guard := none }) (v := .pointer (some ⟨g, 1, none⟩)) rfl (by kernel_rfl) (by kernel_rfl) (by kernel_rfl) (fun _ _ _ h => h) (Or.inl ⟨by rfl, ?_⟩) (by assumption) ?_
          · intro wx hSw
            clear hSw hHeld; go_simp
          simp only [Act.put, List.setIfInBounds_toArray, List.set_cons_zero, List.set_cons_succ]
          refine wpAnyH_ready (rs := [8]) (by kernel_rfl) (by simp) ?_
          refine AllReadyH.cons (o := { dst := none, op := Op.store 24 (Operand.tmp 34) (Operand.tmp 33), type := 0, pos := "l1_disk.go:365", after := #[{ on := 7, ground := Ground.data }, { on := 6, ground := Ground.data }, { on := 6, ground := Ground.chain }, { on := 0, ground := Ground.phase }, { on := 1, ground := Ground.phase }, { on := 2, ground := Ground.phase }, { on := 3, ground := Ground.phase }, { on := 4, ground := Ground.phase }, { on := 5, ground := Ground.phase }, { on := 6, ground := Ground.phase }], guard := none }) rfl (fun K hK => ?_) AllReadyH.nil
          clear hHeld
          have y1 := X6.c4.2.2.1
          have f1 := X6.2.2 1
          have hl2 : (lv ++ [((⟨#[97]⟩ : ByteArray), (z : Int))]).length = lv.length + 1 := by simp
          generalize hLL : lv ++ [((⟨#[97]⟩ : ByteArray), (z : Int))] = LL at *
          have HLL : Hid (lv ++ [((⟨#[97]⟩ : ByteArray), (z : Int))] = LL) := hLL
          clear hLL hl2
          have hC7 : Chg (· = g) we (we.setCell ⟨g, 1, none⟩ (.slice e2 LL.length k2)) := (Chg.refl (· = g) we).setCell (p := ⟨g, 1, none⟩) rfl _
          have X : Box (we.setCell ⟨g, 1, none⟩ (.slice e2 LL.length k2)) g [.slice a1 bl.length c1, .slice e2 LL.length k2, .slice a3 sf.length c3, .int .i64 r] := X6.set 1 _ (by simp)
          have R := hC7.box R6 (show ¬ w.heap.size = g by omega)
          replace Q1 := hC7.owns Q1 (fun k hk hh => by have hh : k = g := hh; have := (HB.out k (.inl hk)).2; omega)
          replace Q2 := hC7.owns Q2 (fun k hk hh => g2 k hk hh)
          replace Q3 := hC7.owns Q3 (fun k hk hh => by have hh : k = g := hh; have := (HB.out k (.inr (.inr hk))).2; omega)
          replace C6 := cur_set C6 (Nat.le_refl _) ⟨g, 1, none⟩ (by show b < g; omega) (.slice e2 LL.length k2)
          replace G6 := chg_new G6 ⟨g, 1, none⟩ (by show w.heap.size ≤ g; omega) (.slice e2 LL.length k2)
          clear X6 R6 hC7 g2
          go_simp
          refine hK.out _ _ trivial (fun hHeld => ?_)
          clear hK K hHeld y1 f1
          generalize we.setCell ⟨g, 1, none⟩ (.slice e2 LL.length k2) = wf at *
          have R8 := R
          have HOK : Hid (okDk bl LL sf) := by rw [← HLL.out]; exact okDk_more hgd _
          refine wpAnyH_done (by kernel_rfl) ?_ _
          have R9 := put4_box R8 (.slice a1 bl.length c1) (.slice e2 LL.length k2) (.slice a3 sf.length c3) (.int .i64 r)
          have hC9 := put4_chg (wf) w.heap.size (.slice a1 bl.length c1) (.slice e2 LL.length k2) (.slice a3 sf.length c3) (.int .i64 r)
          have O1' := owns_wk (hC9.owns Q1 (fun k hk hh => by have := owns_ge Q1 k hk; have hh : k = w.heap.size := hh; omega)) (show w.heap.size ≤ B by omega)
          have O2' := owns_wk (hC9.owns Q2 (fun k hk hh => by have := owns_ge Q2 k hk; have hh : k = w.heap.size := hh; omega)) (show w.heap.size ≤ B by omega)
          have O3' := owns_wk (hC9.owns Q3 (fun k hk hh => by have := owns_ge Q3 k hk; have hh : k = w.heap.size := hh; omega)) (show w.heap.size ≤ B by omega)
          have C9 := cur_put4 C6 (show b < w.heap.size by omega) (.slice a1 bl.length c1) (.slice e2 LL.length k2) (.slice a3 sf.length c3) (.int .i64 r)
          have G9 := chg_put4 G6 (Nat.le_refl _) (.slice a1 bl.length c1) (.slice e2 LL.length k2) (.slice a3 sf.length c3) (.int .i64 r)
          obtain ⟨r0, r1, r2, r3⟩ := box4_f R
          obtain ⟨hrl, z0, z1, z2, z3⟩ := R.c4
          obtain ⟨s0, s1, s2, s3⟩ := box4_f X
          obtain ⟨hsl, t0, t1, t2, t3⟩ := X.c4
          have hgr : g ≠ w.heap.size := by omega
          have hgr2 : w.heap.size ≠ g := by omega
          clear R X R8 hC9 Q1 Q2 Q3 C6 G6
          go_wp2
          change bodyPost _ _ _ _ _ (put4 (wf) w.heap.size (.slice a1 bl.length c1) (.slice e2 LL.length k2) (.slice a3 sf.length c3) (.int .i64 r))
          generalize put4 (wf) w.heap.size (.slice a1 bl.length c1) (.slice e2 LL.length k2) (.slice a3 sf.length c3) (.int .i64 r) = W' at *
          obtain ⟨_, q0, q1, q2, q3⟩ := R9.c4
          exact bodyPost_ret (v := .agg #[.slice a1 bl.length c1, .slice e2 LL.length k2, .slice a3 sf.length c3, .int .i64 r]) (by simp [results, Try.results50, go_sem, q0, q1, q2, q3]) rfl ⟨_, _, _, bl, LL, sf, r, rfl, HOK.out, O1', O2', O3', C9.mono (by omega), G9⟩
        · skip
          clear hHeld
          have hbA := below_alloc vc (.cells #[.string ⟨#[97]⟩, .int .i64 (z : Int)] 39)
          have N := Box.new vc #[.string ⟨#[97]⟩, .int .i64 (z : Int)] 39
          replace X := X.below hbA
          replace R := R.below hbA
          replace M := M.below hbA
          replace C2 := C2.chg hbA
          replace G := G.trans (Chg.of_below (S := (· = b)) hbA)
          clear hbA
          go_simp
          refine hK.out _ _ trivial (fun hHeld => ?_)
          clear hK
          try (simp only [Act.put, List.setIfInBounds_toArray, List.set_cons_zero, List.set_cons_succ])
          generalize vc.alloc (.cells #[.string ⟨#[97]⟩, .int .i64 (z : Int)] 39) = vd at *
          generalize vc.heap.size = nb at *
          refine wpAnyH_ready (rs := [1]) (by kernel_rfl) (by simp) ?_
          refine AllReadyH.cons (o := { dst := some 28, op := Op.load 24 (Operand.tmp 27), type := 24, pos := "l1_disk.go:365", after := #[{ on := 0, ground := Ground.data }], guard := none }) rfl (fun K hK => ?_) AllReadyH.nil
          have y1 := X.c4.2.2.1
          clear hHeld
          go_simp
          refine hK.out _ _ trivial (fun hHeld => ?_)
          clear hK y1
          try (simp only [Act.put, List.setIfInBounds_toArray, List.set_cons_zero, List.set_cons_succ])
          refine wpAnyH_ready (rs := [6]) (by kernel_rfl) (by simp) ?_
          refine AllReadyH.cons (o := { dst := some 33, op := Op.call { callee := Callee.builtin Builtin.append, args := #[Operand.tmp 28, Operand.tmp 32], argTypes := #[24, 24] }, type := 24, pos := "l1_disk.go:365", after := #[{ on := 1, ground := Ground.data }, { on := 5, ground := Ground.data }, { on := 3, ground := Ground.chain }], guard := none }) rfl (fun K hK => ?_) AllReadyH.nil
          clear hHeld
          have hzd := G.size
          have hBd : B ≤ vd.heap.size := by have := X.1; omega
          refine wp_append_own _ _ _ 24 rfl B 39 j0 (.agg #[.string ⟨#[]⟩, .int .i64 0]) 2 24 Try.underlying24 hj kz0 kzs kzb rfl (by decide) (.slice a2 lv.length c2) lv.length (flat lv) rfl M.2.1 ⟨nb, 0, none⟩ 1 1 [.string ⟨#[97]⟩, .int .i64 (z : Int)] rfl rfl (by intro j u hu; rw [Addr.add_lit]; exact N.2.1 _ _ (by simpa using hu)) (by intro u hu; simp at hu; rcases hu with rfl | rfl <;> rfl) (by unfold maxLen; omega) (by omega) hBd ?_
          intro v2 we o2 hg2 _
          have hb6 : Below B vd we := (Below.refl B vd).grown hg2 hBd (owns_ge M.2.1)
          have hC6 := chg_grown hg2
          have X6 := hC6.box X (fun hh => absurd ((HB.out _ (.inr (.inl hh))).2) (by omega))
          have R6 := R.belowAt hb6 (by omega)
          have Q1 := hC6.owns M.1 (fun k hk hh => M.2.2.2.1 k hk hh)
          have Q3 := hC6.owns M.2.2.1 (fun k hk hh => M.2.2.2.2.2 k hh hk)
          have Q2 : we.ownsRow B 39 2 v2 (lv ++ [((⟨#[97]⟩ : ByteArray), (z : Int))]).length (flat (lv ++ [((⟨#[97]⟩ : ByteArray), (z : Int))])) := by rw [List.length_append, flat_append]; exact o2
          have C6 := cur_low C2 (show b < B by omega) hb6
          have G6 := chg_below G (hb6.mono (show w.heap.size ≤ B by omega))
          have g2 : ∀ k, v2.ownBlock = some k → k ≠ g := no_box X6 Q2 (by simp)
          obtain ⟨e2, k2, rfl⟩ := owns_shape Q2
          refine hK.out _ we trivial (fun hHeld => ?_)
          clear hK hb6 hC6 X R M C2 G o2 hg2 N hzd hBd
          try (simp only [Act.put, List.setIfInBounds_toArray, List.set_cons_zero, List.set_cons_succ])
          refine wpAnyH_take (i := 7) (oi := { dst := some 34, op := Op.fieldAddr 26 (Operand.tmp 4) 1, type := 0, pos := "l1_disk.go:365", after := #[{ on := 0, ground := Ground.phase }, { on := 1, ground := Ground.phase }, { on := 2, ground := Ground.phase }, { on := 3, ground := Ground.phase }, { on := 4, ground := Ground.phase }, { on := 5, ground := Ground.phase }, { on := 6, ground := Ground.phase }], guard := none }) (v := .pointer (some ⟨g, 1, none⟩)) rfl (by kernel_rfl) (by kernel_rfl) (by kernel_rfl) (fun _ _ _ h => h) (Or.inl ⟨by rfl, ?_⟩) (by assumption) ?_
          · intro wx hSw
            clear hSw hHeld; go_simp
          simp only [Act.put, List.setIfInBounds_toArray, List.set_cons_zero, List.set_cons_succ]
          refine wpAnyH_ready (rs := [8]) (by kernel_rfl) (by simp) ?_
          refine AllReadyH.cons (o := { dst := none, op := Op.store 24 (Operand.tmp 34) (Operand.tmp 33), type := 0, pos := "l1_disk.go:365", after := #[{ on := 7, ground := Ground.data }, { on := 6, ground := Ground.data }, { on := 6, ground := Ground.chain }, { on := 0, ground := Ground.phase }, { on := 1, ground := Ground.phase }, { on := 2, ground := Ground.phase }, { on := 3, ground := Ground.phase }, { on := 4, ground := Ground.phase }, { on := 5, ground := Ground.phase }, { on := 6, ground := Ground.phase }], guard := none }) rfl (fun K hK => ?_) AllReadyH.nil
          clear hHeld
          have y1 := X6.c4.2.2.1
          have f1 := X6.2.2 1
          have hl2 : (lv ++ [((⟨#[97]⟩ : ByteArray), (z : Int))]).length = lv.length + 1 := by simp
          generalize hLL : lv ++ [((⟨#[97]⟩ : ByteArray), (z : Int))] = LL at *
          have HLL : Hid (lv ++ [((⟨#[97]⟩ : ByteArray), (z : Int))] = LL) := hLL
          clear hLL hl2
          have hC7 : Chg (· = g) we (we.setCell ⟨g, 1, none⟩ (.slice e2 LL.length k2)) := (Chg.refl (· = g) we).setCell (p := ⟨g, 1, none⟩) rfl _
          have X : Box (we.setCell ⟨g, 1, none⟩ (.slice e2 LL.length k2)) g [.slice a1 bl.length c1, .slice e2 LL.length k2, .slice a3 sf.length c3, .int .i64 r] := X6.set 1 _ (by simp)
          have R := hC7.box R6 (show ¬ w.heap.size = g by omega)
          replace Q1 := hC7.owns Q1 (fun k hk hh => by have hh : k = g := hh; have := (HB.out k (.inl hk)).2; omega)
          replace Q2 := hC7.owns Q2 (fun k hk hh => g2 k hk hh)
          replace Q3 := hC7.owns Q3 (fun k hk hh => by have hh : k = g := hh; have := (HB.out k (.inr (.inr hk))).2; omega)
          replace C6 := cur_set C6 (Nat.le_refl _) ⟨g, 1, none⟩ (by show b < g; omega) (.slice e2 LL.length k2)
          replace G6 := chg_new G6 ⟨g, 1, none⟩ (by show w.heap.size ≤ g; omega) (.slice e2 LL.length k2)
          clear X6 R6 hC7 g2
          go_simp
          refine hK.out _ _ trivial (fun hHeld => ?_)
          clear hK K hHeld y1 f1
          generalize we.setCell ⟨g, 1, none⟩ (.slice e2 LL.length k2) = wf at *
          have R8 := R
          have HOK : Hid (okDk bl LL sf) := by rw [← HLL.out]; exact okDk_more hgd _
          refine wpAnyH_done (by kernel_rfl) ?_ _
          have R9 := put4_box R8 (.slice a1 bl.length c1) (.slice e2 LL.length k2) (.slice a3 sf.length c3) (.int .i64 r)
          have hC9 := put4_chg (wf) w.heap.size (.slice a1 bl.length c1) (.slice e2 LL.length k2) (.slice a3 sf.length c3) (.int .i64 r)
          have O1' := owns_wk (hC9.owns Q1 (fun k hk hh => by have := owns_ge Q1 k hk; have hh : k = w.heap.size := hh; omega)) (show w.heap.size ≤ B by omega)
          have O2' := owns_wk (hC9.owns Q2 (fun k hk hh => by have := owns_ge Q2 k hk; have hh : k = w.heap.size := hh; omega)) (show w.heap.size ≤ B by omega)
          have O3' := owns_wk (hC9.owns Q3 (fun k hk hh => by have := owns_ge Q3 k hk; have hh : k = w.heap.size := hh; omega)) (show w.heap.size ≤ B by omega)
          have C9 := cur_put4 C6 (show b < w.heap.size by omega) (.slice a1 bl.length c1) (.slice e2 LL.length k2) (.slice a3 sf.length c3) (.int .i64 r)
          have G9 := chg_put4 G6 (Nat.le_refl _) (.slice a1 bl.length c1) (.slice e2 LL.length k2) (.slice a3 sf.length c3) (.int .i64 r)
          obtain ⟨r0, r1, r2, r3⟩ := box4_f R
          obtain ⟨hrl, z0, z1, z2, z3⟩ := R.c4
          obtain ⟨s0, s1, s2, s3⟩ := box4_f X
          obtain ⟨hsl, t0, t1, t2, t3⟩ := X.c4
          have hgr : g ≠ w.heap.size := by omega
          have hgr2 : w.heap.size ≠ g := by omega
          clear R X R8 hC9 Q1 Q2 Q3 C6 G6
          go_wp2
          change bodyPost _ _ _ _ _ (put4 (wf) w.heap.size (.slice a1 bl.length c1) (.slice e2 LL.length k2) (.slice a3 sf.length c3) (.int .i64 r))
          generalize put4 (wf) w.heap.size (.slice a1 bl.length c1) (.slice e2 LL.length k2) (.slice a3 sf.length c3) (.int .i64 r) = W' at *
          obtain ⟨_, q0, q1, q2, q3⟩ := R9.c4
          exact bodyPost_ret (v := .agg #[.slice a1 bl.length c1, .slice e2 LL.length k2, .slice a3 sf.length c3, .int .i64 r]) (by simp [results, Try.results50, go_sem, q0, q1, q2, q3]) rfl ⟨_, _, _, bl, LL, sf, r, rfl, HOK.out, O1', O2', O3', C9.mono (by omega), G9⟩
    by_cases q1 : q = 1
    · subst q1
      obtain ⟨w7, hw7⟩ : ∃ w7, w7 = w6.alloc (.cells #[.int .i64 (-1), .int .i64 0, .int .i64 100001] 3) := ⟨_, rfl⟩
      have XL : LitI w7 w6.heap.size [-1, 0, 100001] := by rw [hw7]; exact lit_of_box (Box.new w6 #[.int .i64 (-1), .int .i64 0, .int .i64 100001] 3)
      have hb7 : Below w6.heap.size w6 w7 := by rw [hw7]; exact below_alloc _ _
      have hbn : w6.heap.size ≠ b := by have := X6.1; omega
      have KA := among_any b l (c + 7000 + 4) w6.heap.size 3 _ w7 (C6.chg hb7) hl (by omega) XL hbn rfl (by omega) (by omega)
      have X7 := X6.below hb7
      have R7 := R6.below hb7
      have M7 := M6.below hb7
      have G7 := G6.trans (Chg.of_below (S := (· = b)) hb7)
      clear XL hb7 C6 X6 R6 M6 G6 hbn
      go_wp2_with fail
      rw [← hw7]; clear hw7
      refine KA.mono ?_
      rintro e w8 ⟨⟨rr, hr, rfl⟩, C8, G8⟩
      have X := G8.box X7 (by omega)
      have R := G8.box R7 (by omega)
      have M := M7.chg G8 (fun k hk hh => by have hh : k = b := hh; omega)
      replace G8 := G7.trans G8
      have hC7 : Chg (· = g) w8 (w8.setCell ⟨g, 3, none⟩ (.int .i64 rr)) := (Chg.refl (· = g) w8).setCell (p := ⟨g, 3, none⟩) rfl _
      have R8 := hC7.box R (show ¬ w.heap.size = g by omega)
      have O1 := hC7.owns M.1 (fun k hk hh => by have hh : k = g := hh; have := (HB.out k (.inl hk)).2; omega)
      have O2 := hC7.owns M.2.1 (fun k hk hh => by have hh : k = g := hh; have := (HB.out k (.inr (.inl hk))).2; omega)
      have O3 := hC7.owns M.2.2.1 (fun k hk hh => by have hh : k = g := hh; have := (HB.out k (.inr (.inr hk))).2; omega)
      have C9' := cur_set C8 (Nat.le_refl _) ⟨g, 3, none⟩ (by show b < g; omega) (.int .i64 rr)
      have G9' := chg_new G8 ⟨g, 3, none⟩ (by show w.heap.size ≤ g; omega) (.int .i64 rr)
      have HOK : Hid (okDk bl lv sf) := okDk_good hgd
      clear KA hr X7 R7 M7 G7 M C8 G8 hC7 HB hgd
      have R9 := put4_box R8 (.slice a1 bl.length c1) (.slice a2 lv.length c2) (.slice a3 sf.length c3) (.int .i64 rr)
      have hC9 := put4_chg (w8.setCell ⟨g, 3, none⟩ (.int .i64 rr)) w.heap.size (.slice a1 bl.length c1) (.slice a2 lv.length c2) (.slice a3 sf.length c3) (.int .i64 rr)
      have O1' := owns_wk (hC9.owns O1 (fun k hk hh => by have := owns_ge O1 k hk; have hh : k = w.heap.size := hh; omega)) (show w.heap.size ≤ B by omega)
      have O2' := owns_wk (hC9.owns O2 (fun k hk hh => by have := owns_ge O2 k hk; have hh : k = w.heap.size := hh; omega)) (show w.heap.size ≤ B by omega)
      have O3' := owns_wk (hC9.owns O3 (fun k hk hh => by have := owns_ge O3 k hk; have hh : k = w.heap.size := hh; omega)) (show w.heap.size ≤ B by omega)
      have C9 := cur_put4 C9' (show b < w.heap.size by omega) (.slice a1 bl.length c1) (.slice a2 lv.length c2) (.slice a3 sf.length c3) (.int .i64 rr)
      have G9 := chg_put4 G9' (Nat.le_refl _) (.slice a1 bl.length c1) (.slice a2 lv.length c2) (.slice a3 sf.length c3) (.int .i64 rr)
      obtain ⟨r0, r1, r2, r3⟩ := box4_f R
      obtain ⟨hrl, z0, z1, z2, z3⟩ := R.c4
      obtain ⟨s0, s1, s2, s3⟩ := box4_f X
      obtain ⟨hsl, t0, t1, t2, t3⟩ := X.c4
      have hgr : g ≠ w.heap.size := by omega
      have hgr2 : w.heap.size ≠ g := by omega
      clear R X R8 hC9 O1 O2 O3 C9' G9'
      go_wp2
      change bodyPost _ _ _ _ _ (put4 (w8.setCell ⟨g, 3, none⟩ (.int .i64 rr)) w.heap.size (.slice a1 bl.length c1) (.slice a2 lv.length c2) (.slice a3 sf.length c3) (.int .i64 rr))
      generalize put4 (w8.setCell ⟨g, 3, none⟩ (.int .i64 rr)) w.heap.size (.slice a1 bl.length c1) (.slice a2 lv.length c2) (.slice a3 sf.length c3) (.int .i64 rr) = W' at *
      obtain ⟨_, q0, q1, q2, q3⟩ := R9.c4
      exact bodyPost_ret (v := .agg #[.slice a1 bl.length c1, .slice a2 lv.length c2, .slice a3 sf.length c3, .int .i64 rr]) (by simp [results, Try.results50, go_sem, q0, q1, q2, q3]) rfl ⟨_, _, _, bl, lv, sf, rr, rfl, HOK.out, O1', O2', O3', C9.mono (by omega), G9⟩
    by_cases q2 : q = 2
    · subst q2
      by_cases hbl : 0 < bl.length
      · have hbi : (0 : Int) < (bl.length : Int) := by omega
        have hbd : decide ((0 : Int) < (bl.length : Int)) = true := decide_eq_true hbi
        obtain ⟨g1, c1', e1⟩ : ∃ g1 c1', ((.slice a1 bl.length c1) : Value) = .slice (some ⟨g1, 0, none⟩) bl.length c1' := by
          rcases M6.1.2 with ⟨e1, h0⟩ | ⟨g1, cap, cur, e1, _⟩
          · simp only [Value.slice.injEq] at e1; omega
          · exact ⟨g1, cap, e1⟩
        simp only [Value.slice.injEq, true_and] at e1
        obtain ⟨rfl, rfl⟩ := e1
        obtain ⟨_, t0, _, _, _⟩ := X6.c4
        go_wp2_with fail
        clear t0
        have hD : Below w6.heap.size w6 w6.drew := (Below.refl _ _).drew
        have X := X6.below hD
        have R := R6.below hD
        have M := M6.below hD
        have C := C6.chg hD
        have G := G6.trans (Chg.of_below (S := (· = b)) hD)
        clear hD X6 R6 M6 C6 G6
        have y0 := X.c4.2.1
        refine wp_region_held_drew (S := fun wx => wx.cell? ⟨g, 0, none⟩ = some (.slice (some ⟨g1, 0, none⟩) bl.length c1)) (by kernel_rfl) y0 (fun hHeld => ?_)
        clear y0
        generalize w6.drew = va at *
        refine wpAnyH_take (i := 0) (oi := { dst := some 47, op := Op.fieldAddr 26 (Operand.tmp 4) 0, type := 0, pos := "l1_disk.go:370", after := #[], guard := none }) (v := .pointer (some ⟨g, 0, none⟩)) rfl (by kernel_rfl) (by kernel_rfl) (by kernel_rfl) (fun _ _ _ h => h) (Or.inl ⟨by rfl, ?_⟩) (by assumption) ?_
        · intro wx hSw
          clear hSw hHeld; go_simp
        simp only [Act.put, List.setIfInBounds_toArray, List.set_cons_zero, List.set_cons_succ]
        refine wpAnyH_take (i := 1) (oi := { dst := some 48, op := Op.load 23 (Operand.tmp 47), type := 23, pos := "l1_disk.go:370", after := #[{ on := 0, ground := Ground.data }], guard := none }) (v := .slice (some ⟨g1, 0, none⟩) bl.length c1) rfl (by kernel_rfl) (by kernel_rfl) (by kernel_rfl) (fun _ _ _ h => h) (Or.inl ⟨by rfl, ?_⟩) (by assumption) ?_
        · intro wx hSw
          clear hHeld; have hSw2 : wx.cell? ⟨g, 0, none⟩ = some (.slice (some ⟨g1, 0, none⟩) bl.length c1) := hSw; clear hSw; go_simp
        simp only [Act.put, List.setIfInBounds_toArray, List.set_cons_zero, List.set_cons_succ]
        refine wpAnyH_take (i := 2) (oi := { dst := some 49, op := Op.move (Operand.tmp 0), type := 87, pos := "l1_disk.go:370", after := #[], guard := none }) (v := .pointer (some ⟨b, 0, none⟩)) rfl (by kernel_rfl) (by kernel_rfl) (by kernel_rfl) (fun _ _ _ h => h) (Or.inl ⟨by rfl, ?_⟩) (by assumption) ?_
        · intro wx hSw
          clear hSw hHeld; go_simp
        simp only [Act.put, List.setIfInBounds_toArray, List.set_cons_zero, List.set_cons_succ]
        refine wpAnyH_ready (rs := [3]) (by kernel_rfl) (by simp) ?_
        refine AllReadyH.cons (o := { dst := some 50, op := Op.call { callee := Callee.value (Operand.func 95), args := #[Operand.tmp 49, Operand.const (Value.int IntKind.i64 20)], argTypes := #[87, 3] }, type := 3, pos := "l1_disk.go:370", after := #[{ on := 2, ground := Ground.data }], guard := none }) rfl (fun K hK => ?_) AllReadyH.nil
        clear hHeld
        go_simp
        refine (pick_any b l (c + 7004) 20 _ C hl (by omega) (by omega)).mono ?_
        rintro e vc ⟨⟨z, rfl, hz⟩, C2, G2⟩
        replace X := G2.box X (by omega)
        replace R := G2.box R (by omega)
        replace M := M.chg G2 (fun k hk hh => by have hh : k = b := hh; omega)
        replace G := G.trans G2
        have hz20 : z < 20 := by omega
        have hzz : (z : Int) < 20 := by omega
        have hzn : (0 : Int) ≤ (z : Int) := by omega
        have hzw : IntKind.i64.wrap ((z : Int) - 1) = (z : Int) - 1 := by rw [IntKind.wrap_i64]; omega
        clear C G2 hz
        refine hK.out _ vc X.c4.2.1 (fun hHeld => ?_)
        clear hK
        try (simp only [Act.put, List.setIfInBounds_toArray, List.set_cons_zero, List.set_cons_succ])
        refine wpAnyH_take (i := 4) (oi := { dst := some 51, op := Op.binOp BinOp.sub 3 (Operand.tmp 50) (Operand.const (Value.int IntKind.i64 1)) 3, type := 3, pos := "l1_disk.go:370", after := #[{ on := 3, ground := Ground.data }], guard := none }) (v := .int .i64 ((z : Int) - 1)) rfl (by kernel_rfl) (by kernel_rfl) (by kernel_rfl) (fun _ _ _ h => h) (Or.inl ⟨by rfl, ?_⟩) (by assumption) ?_
        · intro wx hSw
          clear hSw hHeld; go_simp
        simp only [Act.put, List.setIfInBounds_toArray, List.set_cons_zero, List.set_cons_succ]
        refine wpAnyH_take (i := 5) (oi := { dst := some 52, op := Op.indexAddr 23 (Operand.tmp 48) (Operand.const (Value.int IntKind.i64 0)), type := 0, pos := "l1_disk.go:370", after := #[{ on := 1, ground := Ground.data }, { on := 0, ground := Ground.phase }, { on := 1, ground := Ground.phase }, { on := 2, ground := Ground.phase }, { on := 3, ground := Ground.phase }, { on := 4, ground := Ground.phase }], guard := none }) (v := .pointer (some ⟨g1, 0, none⟩)) rfl (by kernel_rfl) (by kernel_rfl) (by kernel_rfl) (fun _ _ _ h => h) (Or.inl ⟨by rfl, ?_⟩) (by assumption) ?_
        · intro wx hSw
          clear hSw hHeld; go_simp
        simp only [Act.put, List.setIfInBounds_toArray, List.set_cons_zero, List.set_cons_succ]
        refine wpAnyH_take (i := 6) (oi := { dst := some 53, op := Op.fieldAddr 43 (Operand.tmp 52) 1, type := 0, pos := "l1_disk.go:370", after := #[{ on := 5, ground := Ground.data }, { on := 0, ground := Ground.phase }, { on := 1, ground := Ground.phase }, { on := 2, ground := Ground.phase }, { on := 3, ground := Ground.phase }, { on := 4, ground := Ground.phase }], guard := none }) (v := .pointer (some ⟨g1, 1, none⟩)) rfl (by kernel_rfl) (by kernel_rfl) (by kernel_rfl) (fun _ _ _ h => h) (Or.inl ⟨by rfl, ?_⟩) (by assumption) ?_
        · intro wx hSw
          clear hSw hHeld; go_simp
        simp only [Act.put, List.setIfInBounds_toArray, List.set_cons_zero, List.set_cons_succ]
        refine wpAnyH_ready (rs := [7]) (by kernel_rfl) (by simp) ?_
        refine AllReadyH.cons (o := { dst := none, op := Op.store 3 (Operand.tmp 53) (Operand.tmp 51), type := 0, pos := "l1_disk.go:370", after := #[{ on := 6, ground := Ground.data }, { on := 4, ground := Ground.data }, { on := 3, ground := Ground.chain }, { on := 0, ground := Ground.phase }, { on := 1, ground := Ground.phase }, { on := 2, ground := Ground.phase }, { on := 3, ground := Ground.phase }, { on := 4, ground := Ground.phase }], guard := none }) rfl (fun K hK => ?_) AllReadyH.nil
        clear hHeld
        have O1 := M.1
        have O2 := M.2.1
        have O3 := M.2.2.1
        have y1 := (owns_at O1 0 (by omega) (Nat.le_refl _)).2.1
        have f1 := (owns_at O1 0 (by omega) (Nat.le_refl _)).2.2.2
        have hO := (O1.stored (0 * 2 + 1) (.int .i64 ((z : Int) - 1))).1
        rw [flat_set1 bl 0 (by omega)] at hO
        have hC7 : Chg (· = g1) vc (vc.setCell ⟨g1, 0 * 2 + 1, none⟩ (.int .i64 ((z : Int) - 1))) := (Chg.refl (· = g1) vc).setCell (p := ⟨g1, 0 * 2 + 1, none⟩) rfl _
        have hg1 := HB.out g1 (.inl rfl)
        replace X := hC7.box X (show ¬ g = g1 by omega)
        replace R := hC7.box R (show ¬ w.heap.size = g1 by omega)
        replace O2 := hC7.owns O2 (fun k hk hh => by have hh : k = g1 := hh; subst hh; exact M.2.2.2.1 _ rfl hk)
        replace O3 := hC7.owns O3 (fun k hk hh => by have hh : k = g1 := hh; subst hh; exact M.2.2.2.2.1 _ rfl hk)
        replace C2 := cur_set C2 (Nat.le_refl _) ⟨g1, 0 * 2 + 1, none⟩ (by show b < g1; omega) (.int .i64 ((z : Int) - 1))
        replace G := chg_new G ⟨g1, 0 * 2 + 1, none⟩ (by show w.heap.size ≤ g1; omega) (.int .i64 ((z : Int) - 1))
        have HOK : Hid (okDk (bl.set 0 ((bl[0]'(by omega)).1, (z : Int) - 1)) lv sf) := okDk_set hgd _ (by omega)
        have hls : (bl.set 0 ((bl[0]'(by omega)).1, (z : Int) - 1)).length = bl.length := by simp
        replace hO := (show _ from hO : (vc.setCell ⟨g1, 0 * 2 + 1, none⟩ (.int .i64 ((z : Int) - 1))).ownsRow B 43 2 (.slice (some ⟨g1, 0, none⟩) bl.length c1) bl.length (flat (bl.set 0 ((bl[0]'(by omega)).1, (z : Int) - 1))))
        generalize bl.set 0 ((bl[0]'(by omega)).1, (z : Int) - 1) = BL at *
        have OB : (vc.setCell ⟨g1, 0 * 2 + 1, none⟩ (.int .i64 ((z : Int) - 1))).ownsRow B 43 2 (.slice (some ⟨g1, 0, none⟩) bl.length c1) BL.length (flat BL) := by rw [hls]; exact hO
        have HX := X.c4.2.1
        clear O1 M hO hls hC7
        have y1 : vc.cell? ⟨g1, 1, none⟩ = some (.int .i64 (bl[0]'(by omega)).2) := y1
        have f1 : vc.frozen? ⟨g1, 1, none⟩ = false := f1
        generalize (bl[0]'(by omega)).2 = sy at *
        change Box (vc.setCell ⟨g1, 1, none⟩ (.int .i64 ((z : Int) - 1))) _ _ at X R
        change (vc.setCell ⟨g1, 1, none⟩ (.int .i64 ((z : Int) - 1))).ownsRow _ _ _ _ _ _ at O2 O3 OB
        change Cur (vc.setCell ⟨g1, 1, none⟩ (.int .i64 ((z : Int) - 1))) _ _ _ at C2
        change Chg _ _ (vc.setCell ⟨g1, 1, none⟩ (.int .i64 ((z : Int) - 1))) at G
        change (vc.setCell ⟨g1, 1, none⟩ (.int .i64 ((z : Int) - 1))).cell? _ = _ at HX
        go_simp
        refine hK.out _ _ HX (fun hHeld => ?_)
        clear hK K hHeld y1 f1 HX
        generalize vc.setCell ⟨g1, 1, none⟩ (.int .i64 ((z : Int) - 1)) = wf at *
        have R8 := R
        refine wpAnyH_done (by kernel_rfl) ?_ _
        have R9 := put4_box R8 (.slice (some ⟨g1, 0, none⟩) bl.length c1) (.slice a2 lv.length c2) (.slice a3 sf.length c3) (.int .i64 r)
        have hC9 := put4_chg (wf) w.heap.size (.slice (some ⟨g1, 0, none⟩) bl.length c1) (.slice a2 lv.length c2) (.slice a3 sf.length c3) (.int .i64 r)
        have O1' := owns_wk (hC9.owns OB (fun k hk hh => by have := owns_ge OB k hk; have hh : k = w.heap.size := hh; omega)) (show w.heap.size ≤ B by omega)
        have O2' := owns_wk (hC9.owns O2 (fun k hk hh => by have := owns_ge O2 k hk; have hh : k = w.heap.size := hh; omega)) (show w.heap.size ≤ B by omega)
        have O3' := owns_wk (hC9.owns O3 (fun k hk hh => by have := owns_ge O3 k hk; have hh : k = w.heap.size := hh; omega)) (show w.heap.size ≤ B by omega)
        have C9 := cur_put4 C2 (show b < w.heap.size by omega) (.slice (some ⟨g1, 0, none⟩) bl.length c1) (.slice a2 lv.length c2) (.slice a3 sf.length c3) (.int .i64 r)
        have G9 := chg_put4 G (Nat.le_refl _) (.slice (some ⟨g1, 0, none⟩) bl.length c1) (.slice a2 lv.length c2) (.slice a3 sf.length c3) (.int .i64 r)
        obtain ⟨r0, r1, r2, r3⟩ := box4_f R
        obtain ⟨hrl, z0, z1, z2, z3⟩ := R.c4
        obtain ⟨s0, s1, s2, s3⟩ := box4_f X
        obtain ⟨hsl, t0, t1, t2, t3⟩ := X.c4
        have hgr : g ≠ w.heap.size := by omega
        have hgr2 : w.heap.size ≠ g := by omega
        clear R X R8 hC9 OB O2 O3 C2 G
        go_wp2
        change bodyPost _ _ _ _ _ (put4 (wf) w.heap.size (.slice (some ⟨g1, 0, none⟩) bl.length c1) (.slice a2 lv.length c2) (.slice a3 sf.length c3) (.int .i64 r))
        generalize put4 (wf) w.heap.size (.slice (some ⟨g1, 0, none⟩) bl.length c1) (.slice a2 lv.length c2) (.slice a3 sf.length c3) (.int .i64 r) = W' at *
        obtain ⟨_, q0, q1, q2, q3⟩ := R9.c4
        exact bodyPost_ret (v := .agg #[.slice (some ⟨g1, 0, none⟩) bl.length c1, .slice a2 lv.length c2, .slice a3 sf.length c3, .int .i64 r]) (by simp [results, Try.results50, go_sem, q0, q1, q2, q3]) rfl ⟨_, _, _, BL, lv, sf, r, rfl, HOK.out, O1', O2', O3', C9.mono (by omega), G9⟩
      · have hbi : (bl.length : Int) ≤ 0 := by omega
        have O1 := M6.1
        have O2 := M6.2.1
        have O3 := M6.2.2.1
        have X := X6
        have R := R6
        have R8 := R6
        have HOK : Hid (okDk bl lv sf) := okDk_good hgd
        clear M6 X6 R6 HB hgd
        have R9 := put4_box R8 (.slice a1 bl.length c1) (.slice a2 lv.length c2) (.slice a3 sf.length c3) (.int .i64 r)
        have hC9 := put4_chg (w6) w.heap.size (.slice a1 bl.length c1) (.slice a2 lv.length c2) (.slice a3 sf.length c3) (.int .i64 r)
        have O1' := owns_wk (hC9.owns O1 (fun k hk hh => by have := owns_ge O1 k hk; have hh : k = w.heap.size := hh; omega)) (show w.heap.size ≤ B by omega)
        have O2' := owns_wk (hC9.owns O2 (fun k hk hh => by have := owns_ge O2 k hk; have hh : k = w.heap.size := hh; omega)) (show w.heap.size ≤ B by omega)
        have O3' := owns_wk (hC9.owns O3 (fun k hk hh => by have := owns_ge O3 k hk; have hh : k = w.heap.size := hh; omega)) (show w.heap.size ≤ B by omega)
        have C9 := cur_put4 C6 (show b < w.heap.size by omega) (.slice a1 bl.length c1) (.slice a2 lv.length c2) (.slice a3 sf.length c3) (.int .i64 r)
        have G9 := chg_put4 G6 (Nat.le_refl _) (.slice a1 bl.length c1) (.slice a2 lv.length c2) (.slice a3 sf.length c3) (.int .i64 r)
        obtain ⟨r0, r1, r2, r3⟩ := box4_f R
        obtain ⟨hrl, z0, z1, z2, z3⟩ := R.c4
        obtain ⟨s0, s1, s2, s3⟩ := box4_f X
        obtain ⟨hsl, t0, t1, t2, t3⟩ := X.c4
        have hgr : g ≠ w.heap.size := by omega
        have hgr2 : w.heap.size ≠ g := by omega
        clear R X R8 hC9 O1 O2 O3 C6 G6
        go_wp2
        change bodyPost _ _ _ _ _ (put4 (w6) w.heap.size (.slice a1 bl.length c1) (.slice a2 lv.length c2) (.slice a3 sf.length c3) (.int .i64 r))
        generalize put4 (w6) w.heap.size (.slice a1 bl.length c1) (.slice a2 lv.length c2) (.slice a3 sf.length c3) (.int .i64 r) = W' at *
        obtain ⟨_, q0, q1, q2, q3⟩ := R9.c4
        exact bodyPost_ret (v := .agg #[.slice a1 bl.length c1, .slice a2 lv.length c2, .slice a3 sf.length c3, .int .i64 r]) (by simp [results, Try.results50, go_sem, q0, q1, q2, q3]) rfl ⟨_, _, _, bl, lv, sf, r, rfl, HOK.out, O1', O2', O3', C9.mono (by omega), G9⟩
    have O1 := M6.1
    have O2 := M6.2.1
    have O3 := M6.2.2.1
    have X := X6
    have R := R6
    have R8 := R6
    have HOK : Hid (okDk bl lv sf) := okDk_good hgd
    clear M6 X6 R6 HB hgd
    have R9 := put4_box R8 (.slice a1 bl.length c1) (.slice a2 lv.length c2) (.slice a3 sf.length c3) (.int .i64 r)
    have hC9 := put4_chg (w6) w.heap.size (.slice a1 bl.length c1) (.slice a2 lv.length c2) (.slice a3 sf.length c3) (.int .i64 r)
    have O1' := owns_wk (hC9.owns O1 (fun k hk hh => by have := owns_ge O1 k hk; have hh : k = w.heap.size := hh; omega)) (show w.heap.size ≤ B by omega)
    have O2' := owns_wk (hC9.owns O2 (fun k hk hh => by have := owns_ge O2 k hk; have hh : k = w.heap.size := hh; omega)) (show w.heap.size ≤ B by omega)
    have O3' := owns_wk (hC9.owns O3 (fun k hk hh => by have := owns_ge O3 k hk; have hh : k = w.heap.size := hh; omega)) (show w.heap.size ≤ B by omega)
    have C9 := cur_put4 C6 (show b < w.heap.size by omega) (.slice a1 bl.length c1) (.slice a2 lv.length c2) (.slice a3 sf.length c3) (.int .i64 r)
    have G9 := chg_put4 G6 (Nat.le_refl _) (.slice a1 bl.length c1) (.slice a2 lv.length c2) (.slice a3 sf.length c3) (.int .i64 r)
    obtain ⟨r0, r1, r2, r3⟩ := box4_f R
    obtain ⟨hrl, z0, z1, z2, z3⟩ := R.c4
    obtain ⟨s0, s1, s2, s3⟩ := box4_f X
    obtain ⟨hsl, t0, t1, t2, t3⟩ := X.c4
    have hgr : g ≠ w.heap.size := by omega
    have hgr2 : w.heap.size ≠ g := by omega
    clear R X R8 hC9 O1 O2 O3 C6 G6
    go_wp2
    change bodyPost _ _ _ _ _ (put4 (w6) w.heap.size (.slice a1 bl.length c1) (.slice a2 lv.length c2) (.slice a3 sf.length c3) (.int .i64 r))
    generalize put4 (w6) w.heap.size (.slice a1 bl.length c1) (.slice a2 lv.length c2) (.slice a3 sf.length c3) (.int .i64 r) = W' at *
    obtain ⟨_, q0, q1, q2, q3⟩ := R9.c4
    exact bodyPost_ret (v := .agg #[.slice a1 bl.length c1, .slice a2 lv.length c2, .slice a3 sf.length c3, .int .i64 r]) (by simp [results, Try.results50, go_sem, q0, q1, q2, q3]) rfl ⟨_, _, _, bl, lv, sf, r, rfl, HOK.out, O1', O2', O3', C9.mono (by omega), G9⟩
end Go.Proofs.Ytbgemebpfcbloaa
