/-
  l9Read: the specification's reading of an edit.
-/
import Derived.Test.YtenbdjlhcadhaaaGreatRD5
import Derived.Deep.CutBlock
namespace Go.Proofs.YtenbdjlhcadhaaaGreat
open Go.RowKit
set_option linter.unusedVariables false
set_option maxRecDepth 100000

theorem ve_start {s : ByteArray} {nx sq : Int} {dr : List Int} {ad : List Mt} (h : VE s nx sq dr ad) :
    ((tN s : Nat) : Int) = nx ∧ ((tN (tR s) : Nat) : Int) = sq ∧ tN (tR (tR s)) = dr.length ∧ (((false || decide (tC s = 0)) || decide (tC (tR s) = 0)) || decide (tC (tR (tR s)) = 0)) = false ∧ bl (tR (tR (tR s))) = drT dr ++ (varL ad.length ++ msT ad) := by
  obtain ⟨hg, _, hb⟩ := h
  obtain ⟨g1, g2, ⟨g3, g4⟩, g5, g6⟩ := goodE_parts hg
  have e0 : bl s = varL nx.toNat ++ (varL sq.toNat ++ (varL dr.length ++ (drT dr ++ (varL ad.length ++ msT ad)))) := by
    rw [hb]; unfold edL; rw [nmL_T, mtL_T]; simp only [List.append_assoc]
  obtain ⟨a1, a2, a3⟩ := tN_var (n := nx.toNat) e0 (by omega)
  obtain ⟨b1, b2, b3⟩ := tN_var (n := sq.toNat) a2 (by omega)
  obtain ⟨c1, c2, c3⟩ := tN_var (n := dr.length) b2 (by omega)
  have p1 := varL_pos nx.toNat
  have p2 := varL_pos sq.toNat
  have p3 := varL_pos dr.length
  refine ⟨by rw [a1]; omega, by rw [b1]; omega, c1, ?_, c2⟩
  rw [a3, b3, c3, decide_eq_false (by omega), decide_eq_false (by omega), decide_eq_false (by omega)]; rfl
theorem ve_parts {s : ByteArray} {nx sq : Int} {dr : List Int} {ad : List Mt} (h : VE s nx sq dr ad) : DrOk dr ∧ MtOk ad := by
  obtain ⟨g1, g2, ⟨g3, g4⟩, g5, g6⟩ := goodE_parts h.1
  exact ⟨⟨g3, goodDr_num g4⟩, mtOk_of g6 g5⟩
theorem empty_toList : (⟨#[]⟩ : ByteArray).toList = [] := by
  first
  | rfl
  | simp
  | (unfold ByteArray.toList; rw [ByteArray.toList.loop]; simp [ByteArray.size])
  | (unfold ByteArray.toList; unfold ByteArray.toList.loop; rfl)
/-- The numbers so far. -/
def In1 (s : ByteArray) (n1 n2 c : Nat) (bad : Bool) (zs : List Int) (r : ByteArray) : Prop := ∀ nx sq dr ad, VE s nx sq dr ad → (n1 : Int) = nx ∧ (n2 : Int) = sq ∧ bad = false ∧ zs.length + c = dr.length ∧ zs = dr.take zs.length ∧ bl r = drT (dr.drop zs.length) ++ (varL ad.length ++ msT ad)
def Out1 (s : ByteArray) (n1 n2 : Nat) (bad : Bool) (zs : List Int) (r : ByteArray) : Prop := ∀ nx sq dr ad, VE s nx sq dr ad → (n1 : Int) = nx ∧ (n2 : Int) = sq ∧ bad = false ∧ zs = dr ∧ bl r = varL ad.length ++ msT ad
theorem in1_step {s : ByteArray} {n1 n2 c : Nat} {zs : List Int} {r : ByteArray} (h : In1 s n1 n2 (c + 1) false zs r) : In1 s n1 n2 c (false || decide (tC r = 0)) (zs ++ [(tN r : Int)]) (tR r) := by
  intro nx sq dr ad hv
  obtain ⟨e1, e2, e3, e4, e5, e6⟩ := h nx sq dr ad hv
  have hd := (ve_parts hv).1
  obtain ⟨f1, f2⟩ := dr_next hd (by omega) e5 e6
  have hb := hd.2 zs.length (by omega)
  rw [drT_step (by omega), List.append_assoc] at e6
  obtain ⟨_, _, g3⟩ := tN_var e6 (by omega)
  have hp := varL_pos (dr[zs.length]).toNat
  refine ⟨e1, e2, ?_, by simp; omega, ?_, ?_⟩
  · rw [g3, decide_eq_false (by omega)]; rfl
  · rw [List.length_append]; exact f1
  · rw [List.length_append]; exact f2
theorem in1_none {s : ByteArray} {n1 n2 : Nat} {bad : Bool} {zs : List Int} {r : ByteArray} (h : In1 s n1 n2 0 bad zs r) : Out1 s n1 n2 bad zs r := by
  intro nx sq dr ad hv
  obtain ⟨e1, e2, e3, e4, e5, e6⟩ := h nx sq dr ad hv
  have hl : zs.length = dr.length := by omega
  rw [hl, List.take_length] at e5
  rw [hl, List.drop_length] at e6
  exact ⟨e1, e2, e3, e5, e6⟩
theorem in1_bad {s : ByteArray} {n1 n2 c : Nat} {zs : List Int} {r : ByteArray} (h : In1 s n1 n2 c true zs r) : Out1 s n1 n2 true zs r := by
  intro nx sq dr ad hv
  have := (h nx sq dr ad hv).2.2.1
  cases this
theorem in1_many {s : ByteArray} {n1 n2 c : Nat} {bad : Bool} {zs : List Int} {r : ByteArray} (h : In1 s n1 n2 c bad zs r) (hz : ¬ zs.length ≤ 30) : Out1 s n1 n2 bad zs r := by
  intro nx sq dr ad hv
  have h1 := (h nx sq dr ad hv).2.2.2.1
  have h2 := (ve_parts hv).1.1
  omega
/-- The metas so far. -/
def In2 (s : ByteArray) (n1 n2 c : Nat) (bad : Bool) (zs : List Int) (ms : List Mt) (r : ByteArray) : Prop := ∀ nx sq dr ad, VE s nx sq dr ad → (n1 : Int) = nx ∧ (n2 : Int) = sq ∧ bad = false ∧ zs = dr ∧ ms.length + c = ad.length ∧ ms = ad.take ms.length ∧ bl r = msT (ad.drop ms.length) ++ []
def Out2 (s : ByteArray) (n1 n2 : Nat) (bad : Bool) (zs : List Int) (ms : List Mt) (r : ByteArray) : Prop := ∀ nx sq dr ad, VE s nx sq dr ad → (n1 : Int) = nx ∧ (n2 : Int) = sq ∧ bad = false ∧ zs = dr ∧ ms = ad ∧ bl r = []
theorem in2_start {s : ByteArray} {n1 n2 : Nat} {bad : Bool} {zs : List Int} {r : ByteArray} (h : Out1 s n1 n2 bad zs r) : In2 s n1 n2 (tN r) (bad || decide (tC r = 0)) zs [] (tR r) := by
  intro nx sq dr ad hv
  obtain ⟨e1, e2, e3, e4, e5⟩ := h nx sq dr ad hv
  have hd := (ve_parts hv).2
  obtain ⟨f1, f2, f3⟩ := tN_var (n := ad.length) e5 (by have := hd.1; omega)
  have hp := varL_pos ad.length
  refine ⟨e1, e2, ?_, e4, by rw [f1]; simp, rfl, by rw [f2]; simp⟩
  rw [e3, f3, decide_eq_false (by omega)]; rfl
theorem in2_none {s : ByteArray} {n1 n2 : Nat} {bad : Bool} {zs : List Int} {ms : List Mt} {r : ByteArray} (h : In2 s n1 n2 0 bad zs ms r) : Out2 s n1 n2 bad zs ms r := by
  intro nx sq dr ad hv
  obtain ⟨e1, e2, e3, e4, e5, e6, e7⟩ := h nx sq dr ad hv
  have hl : ms.length = ad.length := by omega
  rw [hl, List.take_length] at e6
  rw [hl, List.drop_length] at e7
  exact ⟨e1, e2, e3, e4, e6, e7⟩
theorem in2_bad {s : ByteArray} {n1 n2 c : Nat} {zs : List Int} {ms : List Mt} {r : ByteArray} (h : In2 s n1 n2 c true zs ms r) : Out2 s n1 n2 true zs ms r := by
  intro nx sq dr ad hv
  have := (h nx sq dr ad hv).2.2.1
  cases this
theorem in2_many {s : ByteArray} {n1 n2 c : Nat} {bad : Bool} {zs : List Int} {ms : List Mt} {r : ByteArray} (h : In2 s n1 n2 c bad zs ms r) (hz : ¬ ms.length ≤ 30) : Out2 s n1 n2 bad zs ms r := by
  intro nx sq dr ad hv
  have h1 := (h nx sq dr ad hv).2.2.2.2.1
  have h2 := (ve_parts hv).2.1
  omega
/-- A meta more: two numbers and two texts, as they are read one behind another. -/
theorem in2_step {s : ByteArray} {n1 n2 c : Nat} {zs : List Int} {ms : List Mt} {r r3 r4 t1 t2 : ByteArray} {b3 b4 : Bool} (h : In2 s n1 n2 (c + 1) false zs ms r)
    (h1 : ∀ (s : ByteArray) more, s.size ≤ 16 → bl (tR (tR r)) = varL s.size ++ bl s ++ more → t1 = s ∧ bl r3 = more ∧ b3 = ((false || decide (tC r = 0)) || decide (tC (tR r) = 0)))
    (h2 : ∀ (s : ByteArray) more, s.size ≤ 16 → bl r3 = varL s.size ++ bl s ++ more → t2 = s ∧ bl r4 = more ∧ b4 = b3) :
    In2 s n1 n2 c b4 zs (ms ++ [⟨(tN r : Int), (tN (tR r) : Int), t1, t2⟩]) r4 := by
  intro nx sq dr ad hv
  obtain ⟨e1, e2, e3, e4, e5, e6, e7⟩ := h nx sq dr ad hv
  have hd := (ve_parts hv).2
  have hk : ms.length < ad.length := by omega
  obtain ⟨q1, q2, q3, q4⟩ := hd.2 ms.length hk
  rw [msT_step hk] at e7
  have hx : ad.take (ms.length + 1) = ms ++ [ad[ms.length]] := by rw [List.take_succ_eq_append_getElem hk, ← e6]
  generalize ad[ms.length] = m at *
  obtain ⟨mn, md, mk, mv⟩ := m
  dsimp only at *
  have e0 : bl r = varL mn.toNat ++ (varL md.toNat ++ (varL mk.size ++ bl mk ++ (varL mv.size ++ bl mv ++ (msT (ad.drop (ms.length + 1)) ++ [])))) := by rw [e7]; unfold mt1; simp only [List.append_assoc]
  obtain ⟨a1, a2, a3⟩ := tN_var (n := mn.toNat) e0 (by omega)
  obtain ⟨c1, c2, c3⟩ := tN_var (n := md.toNat) a2 (by omega)
  obtain ⟨d1, d2, d3⟩ := h1 mk _ (by omega) c2
  obtain ⟨f1, f2, f3⟩ := h2 mv _ (by omega) d2
  have p1 := varL_pos mn.toNat
  have p2 := varL_pos md.toNat
  have i1 : ((mn.toNat : Nat) : Int) = mn := Int.toNat_of_nonneg (by omega)
  have i2 : ((md.toNat : Nat) : Int) = md := Int.toNat_of_nonneg (by omega)
  refine ⟨e1, e2, ?_, e4, by simp; omega, ?_, ?_⟩
  · rw [f3, d3, a3, c3, decide_eq_false (by omega), decide_eq_false (by omega)]; rfl
  · rw [List.length_append, a1, c1, d1, f1, i1, i2]; exact hx.symm
  · rw [List.length_append]; exact f2

set_option maxHeartbeats 16000000 in
theorem l9Read_any (s : ByteArray) (w : World) (hs : s.size ≤ 1000) :
    Calls Tryz.prog 38 #[.string s] w fun e w' => ∃ u1 u2, e = .returned (.tuple #[.agg #[.int .i64 (rdE s).1, .int .i64 (rdE s).2.1, u1, u2], .bool (rdB s)]) ∧ w'.ownsRow w.heap.size 3 1 u1 (rdE s).2.2.1.length ((rdE s).2.2.1.map (.int .i64)) ∧ w'.ownsRow w.heap.size 71 4 u2 (rdE s).2.2.2.length (flat4 (rdE s).2.2.2) ∧ Below w.heap.size w w' := by
  obtain ⟨j0, hj, hy0, hys, hyb⟩ := info_parts Tryz.info3
  obtain ⟨i0, hi, hz0, hzs, hzb⟩ := info_parts Tryz.info71
  obtain ⟨W0, hW0⟩ : ∃ W0, W0 = (w.alloc (.cells #[.int .i64 0, .int .i64 0, .slice none 0 0, .slice none 0 0] 26)).alloc (.cells #[.string s, .bool false] 102) := ⟨_, rfl⟩
  have hB : Below w.heap.size w W0 := by rw [hW0]; exact below2 _ _ _
  have R : Box W0 w.heap.size [.int .i64 0, .int .i64 0, .slice none 0 0, .slice none 0 0] := by rw [hW0]; exact (Box.new w #[.int .i64 0, .int .i64 0, .slice none 0 0, .slice none 0 0] 26).alloc _
  have X : Box W0 (w.heap.size + 1) [.string s, .bool false] := by
    rw [hW0]
    have := Box.new (w.alloc (.cells #[.int .i64 0, .int .i64 0, .slice none 0 0, .slice none 0 0] 26)) #[.string s, .bool false] 102
    simpa using this
  have q1 := tR_size s
  have q2 := tR_size (tR s)
  have q3 := tR_size (tR (tR s))
  have N1 := num_any _ s false _ X (by omega)
  have N2 := fun W h => num_any (w.heap.size + 1) (tR s) (false || decide (tC s = 0)) W h (by omega)
  have N3 := fun W h => num_any (w.heap.size + 1) (tR (tR s)) ((false || decide (tC s = 0)) || decide (tC (tR s) = 0)) W h (by omega)
  have NN := fun r bad W h h2 => num_any (w.heap.size + 1) r bad W h h2
  have TT := fun r bad W h h2 => textR_any (w.heap.size + 1) r bad W h h2
  have H0 : Hid (In1 s (tN s) (tN (tR s)) (tN (tR (tR s))) (((false || decide (tC s = 0)) || decide (tC (tR s) = 0)) || decide (tC (tR (tR s)) = 0)) [] (tR (tR (tR s)))) := fun nx sq dr ad hv => by
    obtain ⟨e1, e2, e3, e4, e5⟩ := ve_start hv
    exact ⟨e1, e2, e4, by simp [e3], rfl, e5⟩
  have HY : Hid (∀ e, VE' s e → (∀ e', VE' s e' → e' = e) → rdB s = true ∧ rdE s = e) := fun e h hu => rd_yes h hu
  have HN : Hid ((∀ e, ¬ VE' s e) → rdB s = false ∧ rdE s = (0, 0, [], [])) := fun h => rd_no h
  generalize rdB s = BB at *
  generalize rdE s = EE at *
  obtain ⟨E1, E2, E3, E4⟩ := EE
  have hc63 := tN_lt (tR (tR s))
  generalize (((false || decide (tC s = 0)) || decide (tC (tR s) = 0)) || decide (tC (tR (tR s)) = 0)) = b3 at *
  generalize ((false || decide (tC s = 0)) || decide (tC (tR s) = 0)) = b2 at *
  generalize (false || decide (tC s = 0)) = b1 at *
  generalize tR (tR (tR s)) = r3 at *
  generalize tN (tR (tR s)) = c0 at *
  generalize tR (tR s) = r2 at *
  generalize tN (tR s) = n2 at *
  generalize tR s = r1 at *
  generalize tN s = n1 at *
  go_enter Tryz.func38, Tryz.ntmps38
  go_wp2_with fail
  rw [← hW0]; clear hW0
  refine N1.mono ?_
  rintro e w1 ⟨rfl, X1, hC1⟩
  replace R := hC1.box R (by omega)
  replace hB := hB.trans (hC1.below (B := w.heap.size) hB.size (fun j hj => by omega))
  obtain ⟨W1, hW1⟩ : ∃ W1, W1 = w1.alloc (.cells #[.int .i64 n1, .int .i64 0, .slice none 0 0, .slice none 0 0] 26) := ⟨_, rfl⟩
  have Z : Box W1 w1.heap.size [.int .i64 n1, .int .i64 0, .slice none 0 0, .slice none 0 0] := by rw [hW1]; exact Box.new w1 #[.int .i64 n1, .int .i64 0, .slice none 0 0, .slice none 0 0] 26
  have hb1 : Below w1.heap.size w1 W1 := by rw [hW1]; exact below_alloc _ _
  have hzX := X1.1
  replace R := R.below hb1
  replace X1 := X1.below hb1
  replace hB := below_then hB hb1
  have N2' := N2 _ X1
  clear N1 N2 X hC1 hb1
  go_wp2_with fail
  rw [← hW1]; clear hW1
  generalize w1.heap.size = z at *
  refine N2'.mono ?_
  rintro e w2 ⟨rfl, X2, hC2⟩
  replace R := hC2.box R (by omega)
  replace Z := hC2.box Z (by omega)
  replace hB := hB.trans (hC2.below (B := w.heap.size) hB.size (fun j hj => by omega))
  clear N2' X1 hC2
  obtain ⟨zl, z0, z1, z2, z3, f0, f1, f2, f3⟩ := Z.e4
  obtain ⟨W2, hW2⟩ : ∃ W2, W2 = w2.setCell ⟨z, 1, none⟩ (.int .i64 n2) := ⟨_, rfl⟩
  have hCs : Chg (· = z) w2 W2 := by rw [hW2]; exact Chg.setCell (S := fun k => k = z) (p := ⟨z, 1, none⟩) (Chg.refl _ _) rfl _
  have Zs : Box W2 z [.int .i64 n1, .int .i64 n2, .slice none 0 0, .slice none 0 0] := by rw [hW2]; exact Z.set 1 (.int .i64 n2) (by simp)
  replace R := hCs.box R (by omega)
  replace X2 := hCs.box X2 (by omega)
  replace hB := hB.trans (hCs.below (B := w.heap.size) hB.size (fun j hj => by omega))
  have N3' := N3 _ X2
  clear N3 Z hCs
  go_wp2_with fail
  rw [← hW2]; clear hW2 zl z0 z1 z2 z3 f0 f1 f2 f3
  refine N3'.mono ?_
  rintro e w3 ⟨rfl, X3, hC3⟩
  replace R := hC3.box R (by omega)
  replace Zs := hC3.box Zs (by omega)
  replace hB := hB.trans (hC3.below (B := w.heap.size) hB.size (fun j hj => by omega))
  clear N3' X2 hC3
  have hXl := X3.1
  have hZl := Zs.1
  have hRl := R.1
  go_upto_block 0 with fail
  go_cut [6] from 9 (fun s6 wc => ∃ (zs : List Int) (r : ByteArray) (bad : Bool) (u : Value), zs.length ≤ 31 ∧ r.size ≤ 1000 ∧ Box wc (w.heap.size + 1) [.string r, .bool bad] ∧ Box wc z [.int .i64 n1, .int .i64 n2, u, .slice none 0 0] ∧ wc.ownsRow w3.heap.size 3 1 u zs.length (zs.map (.int .i64)) ∧ Out1 s n1 n2 bad zs r ∧ Chg (fun j => j = w.heap.size + 1 ∨ j = z ∨ w3.heap.size ≤ j) w3 wc)
  case first =>
    clear HY HN R hB TT
    go_wp2_with fail
    go_loopw [6] (fun i wr => ∃ (c : Nat) (zs : List Int) (r : ByteArray) (bad : Bool) (u : Value), i = .int .i64 c ∧ c < 9223372036854775808 ∧ zs.length ≤ 31 ∧ r.size ≤ 1000 ∧ Box wr (w.heap.size + 1) [.string r, .bool bad] ∧ Box wr z [.int .i64 n1, .int .i64 n2, u, .slice none 0 0] ∧ wr.ownsRow w3.heap.size 3 1 u zs.length (zs.map (.int .i64)) ∧ In1 s n1 n2 c bad zs r ∧ Chg (fun j => j = w.heap.size + 1 ∨ j = z ∨ w3.heap.size ≤ j) w3 wr) (fun i _ => (intOf i).toNat)
    case atStart => exact ⟨c0, [], r3, b3, _, rfl, hc63, by simp, by omega, X3, Zs, World.ownsRow_nil _ _ _ _, H0.out, Chg.refl _ _⟩
    case round =>
      clear X3 Zs H0
      obtain ⟨c, zs, r, bad, u, rfl, hcl, hz31, hrs, Xr, Zr, Ow, HI, hC⟩ := hrel
      have HI : Hid (In1 s n1 n2 c bad zs r) := HI
      obtain ⟨ua, uc, rfl⟩ := owns_shape Ow
      obtain ⟨xl, x0, x1, _⟩ := Xr.d2
      obtain ⟨zl, z0, z1, z2, z3, _⟩ := Zr.e4
      by_cases hc : 0 < c
      · cases bad
        · by_cases hl : zs.length ≤ 30
          · obtain ⟨c, rfl⟩ : ∃ c', c = c' + 1 := ⟨c - 1, by omega⟩
            have HS : Hid (In1 s n1 n2 c (false || decide (tC r = 0)) (zs ++ [(tN r : Int)]) (tR r)) := in1_step HI.out
            have NC := fun W h => NN r false W h (by omega)
            have hq := tR_size r
            clear HI NN
            generalize (false || decide (tC r = 0)) = bd at *
            generalize tN r = n' at *
            generalize tR r = r' at *
            go_wp2_with fail
            clear x0 x1 xl z0 z1 z2 z3 zl
            have hD : Below wr.heap.size wr wr.drew := (Below.refl _ _).drew
            replace Xr := Xr.below hD
            replace Zr := Zr.below hD
            replace Ow := owns_below Ow hD
            replace hC := hC.trans (Chg.of_below hD)
            clear hD
            refine wp_region_held_drew (S := fun _ => True) (by kernel_rfl) trivial (fun hHeld => ?_)
            generalize wr.drew = v0 at *
            refine wpAnyH_take (i := 0) (oi := { dst := some 37, op := Op.fieldAddr 26 (Operand.tmp 5) 2, type := 0, pos := "l9_version.go:164", after := #[], guard := none }) (v := .pointer (some ⟨z, 2, none⟩)) rfl (by kernel_rfl) (by kernel_rfl) (by kernel_rfl) (fun _ _ _ h => h) (Or.inl ⟨by rfl, ?_⟩) (by assumption) ?_
            · intro wx hSw
              clear hSw hHeld; go_simp
            simp only [Act.put, List.setIfInBounds_toArray, List.set_cons_zero, List.set_cons_succ]
            refine wpAnyH_take (i := 2) (oi := { dst := some 39, op := Op.move (Operand.tmp 4), type := 100, pos := "l9_version.go:164", after := #[], guard := none }) (v := .pointer (some ⟨w.heap.size + 1, 0, none⟩)) rfl (by kernel_rfl) (by kernel_rfl) (by kernel_rfl) (fun _ _ _ h => h) (Or.inl ⟨by rfl, ?_⟩) (by assumption) ?_
            · intro wx hSw
              clear hSw hHeld; go_simp
            simp only [Act.put, List.setIfInBounds_toArray, List.set_cons_zero, List.set_cons_succ]
            obtain ⟨zl, z0, z1, z2, z3, _⟩ := Zr.e4
            refine wpAnyH_ready (rs := [1, 3]) (by kernel_rfl) (by simp) ?_
            refine AllReadyH.cons (o := { dst := some 38, op := Op.load 23 (Operand.tmp 37), type := 23, pos := "l9_version.go:164", after := #[{ on := 0, ground := Ground.data }], guard := none }) rfl (fun K hK => ?_) (AllReadyH.cons (o := { dst := some 40, op := Op.call { callee := Callee.value (Operand.func 71), args := #[Operand.tmp 39], argTypes := #[100] }, type := 3, pos := "l9_version.go:164", after := #[{ on := 2, ground := Ground.data }], guard := none }) rfl (fun K hK => ?_) AllReadyH.nil)
            · clear hHeld
              go_simp
              refine hK.out _ _ trivial (fun hHeld => ?_)
              clear hK K
              try (simp only [Act.put, List.setIfInBounds_toArray, List.set_cons_zero, List.set_cons_succ])
              refine wpAnyH_ready (rs := [3]) (by kernel_rfl) (by simp) ?_
              refine AllReadyH.cons (o := { dst := some 40, op := Op.call { callee := Callee.value (Operand.func 71), args := #[Operand.tmp 39], argTypes := #[100] }, type := 3, pos := "l9_version.go:164", after := #[{ on := 2, ground := Ground.data }], guard := none }) rfl (fun K hK => ?_) AllReadyH.nil
              clear hHeld z0 z1 z2 z3 zl
              go_simp
              refine (NC _ Xr).mono ?_
              rintro e vc ⟨rfl, Xc, hCc⟩
              have hge := owns_ge Ow
              have Zc := hCc.box Zr (by omega)
              have Oc := hCc.owns Ow (fun g hg hh => by have := hge g hg; omega)
              have hCw := hC.trans (hCc.mono fun j hj => .inl hj)
              obtain ⟨zl, z0, z1, z2, z3, _⟩ := Zc.e4
              clear Xr Zr Ow hC hCc NC
              refine hK.out _ _ trivial (fun hHeld => ?_)
              clear hK K
              try (simp only [Act.put, List.setIfInBounds_toArray, List.set_cons_zero, List.set_cons_succ])
              refine wpAnyH_ready (rs := [4]) (by kernel_rfl) (by simp) ?_
              refine AllReadyH.cons (o := { dst := some 41, op := Op.buildSlice 23 1 #[(0, Operand.tmp 40)], type := 23, pos := "l9_version.go:164", after := #[{ on := 3, ground := Ground.data }], guard := none }) rfl (fun K hK => ?_) AllReadyH.nil
              clear hHeld
              go_simp
              refine hK.out _ (vc.alloc (.cells #[.int .i64 (n' : Int)] 3)) trivial (fun hHeld => ?_)
              clear hK K
              try (simp only [Act.put, List.setIfInBounds_toArray, List.set_cons_zero, List.set_cons_succ])
              refine wpAnyH_ready (rs := [5]) (by kernel_rfl) (by simp) ?_
              refine AllReadyH.cons (o := { dst := some 42, op := Op.call { callee := Callee.builtin Builtin.append, args := #[Operand.tmp 38, Operand.tmp 41], argTypes := #[23, 23] }, type := 23, pos := "l9_version.go:164", after := #[{ on := 1, ground := Ground.data }, { on := 4, ground := Ground.data }, { on := 3, ground := Ground.chain }], guard := none }) rfl (fun K hK => ?_) AllReadyH.nil
              clear hHeld
              rw [if_pos (by rfl)]
              have hzw := hCw.size
              refine wp_append_own _ _ _ 23 (by rfl) w3.heap.size 3 j0 (.int .i64 0) 1 8 Tryz.underlying23 hj hy0 hys hyb rfl (by decide) (.slice ua zs.length uc) zs.length (zs.map (.int .i64)) (by rfl) (owns_below Oc (below_alloc _ _)) ⟨vc.heap.size, 0, none⟩ 1 1 [.int .i64 (n' : Int)] (by rfl) rfl (one_new vc (n' : Int)) (by intro u hu; simp at hu; subst hu; rfl) (by unfold maxLen; omega) (by omega) (by simp; omega) ?_
              intro v' v5 hown5 hgrow5 _
              obtain ⟨va, vcp, rfl⟩ := owns_shape hown5
              have hC5 : Chg (fun j => j = w.heap.size + 1 ∨ j = z ∨ w3.heap.size ≤ j) w3 v5 := (hCw.trans (Chg.of_below (below_alloc _ _))).trans (chg_grow hgrow5 fun g hg => .inr (.inr (hge g hg)))
              have hG5 := chg_grow (S := fun j => w3.heap.size ≤ j) hgrow5 hge
              have X5 := hG5.box (Xc.alloc _) (by omega)
              have Z5 := hG5.box (Zc.alloc _) (by omega)
              have hge5 := owns_ge hown5
              clear hG5 hgrow5 Oc Xc Zc hCw z0 z1 z2 z3 zl
              refine hK.out _ v5 trivial (fun hHeld => ?_)
              clear hK K
              simp only [Act.put, List.setIfInBounds_toArray, List.set_cons_zero, List.set_cons_succ]
              refine wpAnyH_take (i := 6) (oi := { dst := some 43, op := Op.fieldAddr 26 (Operand.tmp 5) 2, type := 0, pos := "l9_version.go:164", after := #[{ on := 0, ground := Ground.phase }, { on := 1, ground := Ground.phase }, { on := 2, ground := Ground.phase }, { on := 3, ground := Ground.phase }, { on := 4, ground := Ground.phase }, { on := 5, ground := Ground.phase }], guard := none }) (v := .pointer (some ⟨z, 2, none⟩)) rfl (by kernel_rfl) (by kernel_rfl) (by kernel_rfl) (fun _ _ _ h => h) (Or.inl ⟨by rfl, ?_⟩) (by assumption) ?_
              · intro wx hSw
                clear hSw hHeld; go_simp
              simp only [Act.put, List.setIfInBounds_toArray, List.set_cons_zero, List.set_cons_succ]
              obtain ⟨zl, z0, z1, z2, z3, f0, f1, f2, f3⟩ := Z5.e4
              refine wpAnyH_ready (rs := [7]) (by kernel_rfl) (by simp) ?_
              refine AllReadyH.cons (o := { dst := none, op := Op.store 23 (Operand.tmp 43) (Operand.tmp 42), type := 0, pos := "l9_version.go:164", after := #[{ on := 6, ground := Ground.data }, { on := 5, ground := Ground.data }, { on := 5, ground := Ground.chain }, { on := 0, ground := Ground.phase }, { on := 1, ground := Ground.phase }, { on := 2, ground := Ground.phase }, { on := 3, ground := Ground.phase }, { on := 4, ground := Ground.phase }, { on := 5, ground := Ground.phase }], guard := none }) rfl (fun K hK => ?_) AllReadyH.nil
              clear hHeld
              have Z6 := Z5.set 2 (.slice va (zs.length + 1) vcp) (by simp)
              have hCz : Chg (fun j => j = z) v5 (v5.setCell ⟨z, 2, none⟩ (.slice va (zs.length + 1) vcp)) := Chg.setCell (S := fun j => j = z) (p := ⟨z, 2, none⟩) (Chg.refl _ _) rfl _
              have X6 := hCz.box X5 (by omega)
              have O6 := hCz.owns hown5 (fun g hg hh => by have := hge5 g hg; omega)
              have hC6 := hC5.trans (hCz.mono fun j hj => .inr (.inl hj))
              go_simp
              refine hK.out _ (v5.setCell ⟨z, 2, none⟩ (.slice va (zs.length + 1) vcp)) trivial (fun hHeld => ?_)
              clear hK K hHeld Z5 X5 hown5 hC5 hCz z0 z1 z2 z3 f0 f1 f2 f3 zl
              refine wpAnyH_done (by kernel_rfl) ?_ _
              go_wp2
              go_roundw
              case rel =>
                refine ⟨c, zs ++ [(n' : Int)], r', bd, _, by go_num, by omega, by simp; omega, by omega, X6, Z6, ?_, HS.out, hC6⟩
                rw [List.length_append, List.map_append]; exact O6
              case measure => simp [intOf]
            · clear hHeld z0 z1 z2 z3 zl
              go_simp
              refine (NC _ Xr).mono ?_
              rintro e vc ⟨rfl, Xc, hCc⟩
              have hge := owns_ge Ow
              have Zc := hCc.box Zr (by omega)
              have Oc := hCc.owns Ow (fun g hg hh => by have := hge g hg; omega)
              have hCw := hC.trans (hCc.mono fun j hj => .inl hj)
              obtain ⟨zl, z0, z1, z2, z3, _⟩ := Zc.e4
              clear Xr Zr Ow hC hCc NC
              refine hK.out _ _ trivial (fun hHeld => ?_)
              clear hK K
              try (simp only [Act.put, List.setIfInBounds_toArray, List.set_cons_zero, List.set_cons_succ])
              refine wpAnyH_ready (rs := [1, 4]) (by kernel_rfl) (by simp) ?_
              refine AllReadyH.cons (o := { dst := some 38, op := Op.load 23 (Operand.tmp 37), type := 23, pos := "l9_version.go:164", after := #[{ on := 0, ground := Ground.data }], guard := none }) rfl (fun K hK => ?_) (AllReadyH.cons (o := { dst := some 41, op := Op.buildSlice 23 1 #[(0, Operand.tmp 40)], type := 23, pos := "l9_version.go:164", after := #[{ on := 3, ground := Ground.data }], guard := none }) rfl (fun K hK => ?_) AllReadyH.nil)
              · clear hHeld
                go_simp
                refine hK.out _ _ trivial (fun hHeld => ?_)
                clear hK K
                try (simp only [Act.put, List.setIfInBounds_toArray, List.set_cons_zero, List.set_cons_succ])
                refine wpAnyH_ready (rs := [4]) (by kernel_rfl) (by simp) ?_
                refine AllReadyH.cons (o := { dst := some 41, op := Op.buildSlice 23 1 #[(0, Operand.tmp 40)], type := 23, pos := "l9_version.go:164", after := #[{ on := 3, ground := Ground.data }], guard := none }) rfl (fun K hK => ?_) AllReadyH.nil
                clear hHeld
                go_simp
                refine hK.out _ (vc.alloc (.cells #[.int .i64 (n' : Int)] 3)) trivial (fun hHeld => ?_)
                clear hK K
                try (simp only [Act.put, List.setIfInBounds_toArray, List.set_cons_zero, List.set_cons_succ])
                refine wpAnyH_ready (rs := [5]) (by kernel_rfl) (by simp) ?_
                refine AllReadyH.cons (o := { dst := some 42, op := Op.call { callee := Callee.builtin Builtin.append, args := #[Operand.tmp 38, Operand.tmp 41], argTypes := #[23, 23] }, type := 23, pos := "l9_version.go:164", after := #[{ on := 1, ground := Ground.data }, { on := 4, ground := Ground.data }, { on := 3, ground := Ground.chain }], guard := none }) rfl (fun K hK => ?_) AllReadyH.nil
                clear hHeld
                rw [if_pos (by rfl)]
                have hzw := hCw.size
                refine wp_append_own _ _ _ 23 (by rfl) w3.heap.size 3 j0 (.int .i64 0) 1 8 Tryz.underlying23 hj hy0 hys hyb rfl (by decide) (.slice ua zs.length uc) zs.length (zs.map (.int .i64)) (by rfl) (owns_below Oc (below_alloc _ _)) ⟨vc.heap.size, 0, none⟩ 1 1 [.int .i64 (n' : Int)] (by rfl) rfl (one_new vc (n' : Int)) (by intro u hu; simp at hu; subst hu; rfl) (by unfold maxLen; omega) (by omega) (by simp; omega) ?_
                intro v' v5 hown5 hgrow5 _
                obtain ⟨va, vcp, rfl⟩ := owns_shape hown5
                have hC5 : Chg (fun j => j = w.heap.size + 1 ∨ j = z ∨ w3.heap.size ≤ j) w3 v5 := (hCw.trans (Chg.of_below (below_alloc _ _))).trans (chg_grow hgrow5 fun g hg => .inr (.inr (hge g hg)))
                have hG5 := chg_grow (S := fun j => w3.heap.size ≤ j) hgrow5 hge
                have X5 := hG5.box (Xc.alloc _) (by omega)
                have Z5 := hG5.box (Zc.alloc _) (by omega)
                have hge5 := owns_ge hown5
                clear hG5 hgrow5 Oc Xc Zc hCw z0 z1 z2 z3 zl
                refine hK.out _ v5 trivial (fun hHeld => ?_)
                clear hK K
                simp only [Act.put, List.setIfInBounds_toArray, List.set_cons_zero, List.set_cons_succ]
                refine wpAnyH_take (i := 6) (oi := { dst := some 43, op := Op.fieldAddr 26 (Operand.tmp 5) 2, type := 0, pos := "l9_version.go:164", after := #[{ on := 0, ground := Ground.phase }, { on := 1, ground := Ground.phase }, { on := 2, ground := Ground.phase }, { on := 3, ground := Ground.phase }, { on := 4, ground := Ground.phase }, { on := 5, ground := Ground.phase }], guard := none }) (v := .pointer (some ⟨z, 2, none⟩)) rfl (by kernel_rfl) (by kernel_rfl) (by kernel_rfl) (fun _ _ _ h => h) (Or.inl ⟨by rfl, ?_⟩) (by assumption) ?_
                · intro wx hSw
                  clear hSw hHeld; go_simp
                simp only [Act.put, List.setIfInBounds_toArray, List.set_cons_zero, List.set_cons_succ]
                obtain ⟨zl, z0, z1, z2, z3, f0, f1, f2, f3⟩ := Z5.e4
                refine wpAnyH_ready (rs := [7]) (by kernel_rfl) (by simp) ?_
                refine AllReadyH.cons (o := { dst := none, op := Op.store 23 (Operand.tmp 43) (Operand.tmp 42), type := 0, pos := "l9_version.go:164", after := #[{ on := 6, ground := Ground.data }, { on := 5, ground := Ground.data }, { on := 5, ground := Ground.chain }, { on := 0, ground := Ground.phase }, { on := 1, ground := Ground.phase }, { on := 2, ground := Ground.phase }, { on := 3, ground := Ground.phase }, { on := 4, ground := Ground.phase }, { on := 5, ground := Ground.phase }], guard := none }) rfl (fun K hK => ?_) AllReadyH.nil
                clear hHeld
                have Z6 := Z5.set 2 (.slice va (zs.length + 1) vcp) (by simp)
                have hCz : Chg (fun j => j = z) v5 (v5.setCell ⟨z, 2, none⟩ (.slice va (zs.length + 1) vcp)) := Chg.setCell (S := fun j => j = z) (p := ⟨z, 2, none⟩) (Chg.refl _ _) rfl _
                have X6 := hCz.box X5 (by omega)
                have O6 := hCz.owns hown5 (fun g hg hh => by have := hge5 g hg; omega)
                have hC6 := hC5.trans (hCz.mono fun j hj => .inr (.inl hj))
                go_simp
                refine hK.out _ (v5.setCell ⟨z, 2, none⟩ (.slice va (zs.length + 1) vcp)) trivial (fun hHeld => ?_)
                clear hK K hHeld Z5 X5 hown5 hC5 hCz z0 z1 z2 z3 f0 f1 f2 f3 zl
                refine wpAnyH_done (by kernel_rfl) ?_ _
                go_wp2
                go_roundw
                case rel =>
                  refine ⟨c, zs ++ [(n' : Int)], r', bd, _, by go_num, by omega, by simp; omega, by omega, X6, Z6, ?_, HS.out, hC6⟩
                  rw [List.length_append, List.map_append]; exact O6
                case measure => simp [intOf]
              · clear hHeld
                go_simp
                refine hK.out _ (vc.alloc (.cells #[.int .i64 (n' : Int)] 3)) trivial (fun hHeld => ?_)
                clear hK K
                try (simp only [Act.put, List.setIfInBounds_toArray, List.set_cons_zero, List.set_cons_succ])
                obtain ⟨zl, z0, z1, z2, z3, _⟩ := (Zc.alloc (.cells #[.int .i64 (n' : Int)] 3)).e4
                refine wpAnyH_ready (rs := [1]) (by kernel_rfl) (by simp) ?_
                refine AllReadyH.cons (o := { dst := some 38, op := Op.load 23 (Operand.tmp 37), type := 23, pos := "l9_version.go:164", after := #[{ on := 0, ground := Ground.data }], guard := none }) rfl (fun K hK => ?_) AllReadyH.nil
                clear hHeld
                go_simp
                refine hK.out _ _ trivial (fun hHeld => ?_)
                clear hK K
                try (simp only [Act.put, List.setIfInBounds_toArray, List.set_cons_zero, List.set_cons_succ])
                refine wpAnyH_ready (rs := [5]) (by kernel_rfl) (by simp) ?_
                refine AllReadyH.cons (o := { dst := some 42, op := Op.call { callee := Callee.builtin Builtin.append, args := #[Operand.tmp 38, Operand.tmp 41], argTypes := #[23, 23] }, type := 23, pos := "l9_version.go:164", after := #[{ on := 1, ground := Ground.data }, { on := 4, ground := Ground.data }, { on := 3, ground := Ground.chain }], guard := none }) rfl (fun K hK => ?_) AllReadyH.nil
                clear hHeld
                rw [if_pos (by rfl)]
                have hzw := hCw.size
                refine wp_append_own _ _ _ 23 (by rfl) w3.heap.size 3 j0 (.int .i64 0) 1 8 Tryz.underlying23 hj hy0 hys hyb rfl (by decide) (.slice ua zs.length uc) zs.length (zs.map (.int .i64)) (by rfl) (owns_below Oc (below_alloc _ _)) ⟨vc.heap.size, 0, none⟩ 1 1 [.int .i64 (n' : Int)] (by rfl) rfl (one_new vc (n' : Int)) (by intro u hu; simp at hu; subst hu; rfl) (by unfold maxLen; omega) (by omega) (by simp; omega) ?_
                intro v' v5 hown5 hgrow5 _
                obtain ⟨va, vcp, rfl⟩ := owns_shape hown5
                have hC5 : Chg (fun j => j = w.heap.size + 1 ∨ j = z ∨ w3.heap.size ≤ j) w3 v5 := (hCw.trans (Chg.of_below (below_alloc _ _))).trans (chg_grow hgrow5 fun g hg => .inr (.inr (hge g hg)))
                have hG5 := chg_grow (S := fun j => w3.heap.size ≤ j) hgrow5 hge
                have X5 := hG5.box (Xc.alloc _) (by omega)
                have Z5 := hG5.box (Zc.alloc _) (by omega)
                have hge5 := owns_ge hown5
                clear hG5 hgrow5 Oc Xc Zc hCw z0 z1 z2 z3 zl
                refine hK.out _ v5 trivial (fun hHeld => ?_)
                clear hK K
                simp only [Act.put, List.setIfInBounds_toArray, List.set_cons_zero, List.set_cons_succ]
                refine wpAnyH_take (i := 6) (oi := { dst := some 43, op := Op.fieldAddr 26 (Operand.tmp 5) 2, type := 0, pos := "l9_version.go:164", after := #[{ on := 0, ground := Ground.phase }, { on := 1, ground := Ground.phase }, { on := 2, ground := Ground.phase }, { on := 3, ground := Ground.phase }, { on := 4, ground := Ground.phase }, { on := 5, ground := Ground.phase }], guard := none }) (v := .pointer (some ⟨z, 2, none⟩)) rfl (by kernel_rfl) (by kernel_rfl) (by kernel_rfl) (fun _ _ _ h => h) (Or.inl ⟨by rfl, ?_⟩) (by assumption) ?_
                · intro wx hSw
                  clear hSw hHeld; go_simp
                simp only [Act.put, List.setIfInBounds_toArray, List.set_cons_zero, List.set_cons_succ]
                obtain ⟨zl, z0, z1, z2, z3, f0, f1, f2, f3⟩ := Z5.e4
                refine wpAnyH_ready (rs := [7]) (by kernel_rfl) (by simp) ?_
                refine AllReadyH.cons (o := { dst := none, op := Op.store 23 (Operand.tmp 43) (Operand.tmp 42), type := 0, pos := "l9_version.go:164", after := #[{ on := 6, ground := Ground.data }, { on := 5, ground := Ground.data }, { on := 5, ground := Ground.chain }, { on := 0, ground := Ground.phase }, { on := 1, ground := Ground.phase }, { on := 2, ground := Ground.phase }, { on := 3, ground := Ground.phase }, { on := 4, ground := Ground.phase }, { on := 5, ground := Ground.phase }], guard := none }) rfl (fun K hK => ?_) AllReadyH.nil
                clear hHeld
                have Z6 := Z5.set 2 (.slice va (zs.length + 1) vcp) (by simp)
                have hCz : Chg (fun j => j = z) v5 (v5.setCell ⟨z, 2, none⟩ (.slice va (zs.length + 1) vcp)) := Chg.setCell (S := fun j => j = z) (p := ⟨z, 2, none⟩) (Chg.refl _ _) rfl _
                have X6 := hCz.box X5 (by omega)
                have O6 := hCz.owns hown5 (fun g hg hh => by have := hge5 g hg; omega)
                have hC6 := hC5.trans (hCz.mono fun j hj => .inr (.inl hj))
                go_simp
                refine hK.out _ (v5.setCell ⟨z, 2, none⟩ (.slice va (zs.length + 1) vcp)) trivial (fun hHeld => ?_)
                clear hK K hHeld Z5 X5 hown5 hC5 hCz z0 z1 z2 z3 f0 f1 f2 f3 zl
                refine wpAnyH_done (by kernel_rfl) ?_ _
                go_wp2
                go_roundw
                case rel =>
                  refine ⟨c, zs ++ [(n' : Int)], r', bd, _, by go_num, by omega, by simp; omega, by omega, X6, Z6, ?_, HS.out, hC6⟩
                  rw [List.length_append, List.map_append]; exact O6
                case measure => simp [intOf]
          · have HO : Hid (Out1 s n1 n2 false zs r) := in1_many HI.out hl
            clear HI NN
            go_wp2_with fail
            go_meet
            case rel => exact ⟨zs, r, false, _, hz31, hrs, Xr, Zr, Ow, HO.out, hC⟩
        · have HO : Hid (Out1 s n1 n2 true zs r) := in1_bad HI.out
          clear HI NN
          go_wp2_with fail
          go_meet
          case rel => exact ⟨zs, r, true, _, hz31, hrs, Xr, Zr, Ow, HO.out, hC⟩
      · obtain rfl : c = 0 := by omega
        have HO : Hid (Out1 s n1 n2 bad zs r) := in1_none HI.out
        clear HI NN
        go_wp2_with fail
        go_meet
        case rel => exact ⟨zs, r, bad, _, hz31, hrs, Xr, Zr, Ow, HO.out, hC⟩
  case rest =>
    clear X3 Zs H0 hc63
    obtain ⟨zs, r, bad, u, hz31, hrs, Xc, Zc, O1, HO, hC⟩ := hcut
    have hgeO1 := owns_ge O1
    have hw3 := hC.size
    replace R := hC.box R (by omega)
    replace hB := hB.trans (hC.below (B := w.heap.size) hB.size (fun j hj => by omega))
    obtain ⟨ua, uc, rfl⟩ := owns_shape O1
    have N4 := NN r bad _ Xc (by omega)
    have H2 : Hid (In2 s n1 n2 (tN r) (bad || decide (tC r = 0)) zs [] (tR r)) := in2_start HO
    have hq := tR_size r
    have hc2 := tN_lt r
    clear HO hC
    generalize (bad || decide (tC r = 0)) = b4 at *
    generalize tN r = c1 at *
    generalize tR r = r4 at *
    go_wp2_with fail
    refine N4.mono ?_
    rintro e w4 ⟨rfl, X4, hC4⟩
    have Z4 := hC4.box Zc (by omega)
    replace O1 := hC4.owns O1 (fun g hg hh => by have := hgeO1 g hg; omega)
    replace R := hC4.box R (by omega)
    replace hB := hB.trans (hC4.below (B := w.heap.size) hB.size (fun j hj => by omega))
    have hX4 := X4.1
    have hZ4 := Z4.1
    have hR4 := R.1
    have hltO1 := owns_below_lt O1
    clear N4 Xc Zc hC4
    go_upto_block 2 with fail
    go_cut [7] from 9 (fun s7 wc => ∃ (ms : List Mt) (r : ByteArray) (bad : Bool) (u : Value), ms.length ≤ 31 ∧ (∀ x ∈ ms, x.k.size ≤ 1048576 ∧ x.v.size ≤ 1048576) ∧ r.size ≤ 1000 ∧ Box wc (w.heap.size + 1) [.string r, .bool bad] ∧ Box wc z [.int .i64 n1, .int .i64 n2, .slice ua zs.length uc, u] ∧ wc.ownsRow w4.heap.size 71 4 u ms.length (flat4 ms) ∧ Out2 s n1 n2 bad zs ms r ∧ Chg (fun j => j = w.heap.size + 1 ∨ j = z ∨ w4.heap.size ≤ j) w4 wc)
    case first =>
      clear HY HN R hB O1
      go_wp2_with fail
      go_loopw [7] (fun i wr => ∃ (c : Nat) (ms : List Mt) (r : ByteArray) (bad : Bool) (u : Value), i = .int .i64 c ∧ c < 9223372036854775808 ∧ ms.length ≤ 31 ∧ (∀ x ∈ ms, x.k.size ≤ 1048576 ∧ x.v.size ≤ 1048576) ∧ r.size ≤ 1000 ∧ Box wr (w.heap.size + 1) [.string r, .bool bad] ∧ Box wr z [.int .i64 n1, .int .i64 n2, .slice ua zs.length uc, u] ∧ wr.ownsRow w4.heap.size 71 4 u ms.length (flat4 ms) ∧ In2 s n1 n2 c bad zs ms r ∧ Chg (fun j => j = w.heap.size + 1 ∨ j = z ∨ w4.heap.size ≤ j) w4 wr) (fun i _ => (intOf i).toNat)
      case atStart => exact ⟨c1, [], r4, b4, _, rfl, hc2, by simp, fun x hx => by simp at hx, by omega, X4, Z4, World.ownsRow_nil _ _ _ _, H2.out, Chg.refl _ _⟩
      case round =>
        clear X4 Z4 H2
        obtain ⟨c, ms, r, bad, u, rfl, hcl, hm31, hms, hrs2, Xr, Zr, Ow, HI, hC⟩ := hrel
        have HI : Hid (In2 s n1 n2 c bad zs ms r) := HI
        have HMS : Hid (∀ x ∈ ms, x.k.size ≤ 1048576 ∧ x.v.size ≤ 1048576) := hms
        clear hms
        obtain ⟨ma, mc, rfl⟩ := owns_shape Ow
        obtain ⟨xl, x0, x1, _⟩ := Xr.d2
        obtain ⟨zl, z0, z1, z2, z3, _⟩ := Zr.e4
        by_cases hc : 0 < c
        · cases bad
          · by_cases hl : ms.length ≤ 30
            · obtain ⟨c, rfl⟩ : ∃ c', c = c' + 1 := ⟨c - 1, by omega⟩
              have t1 := tR_size r
              have t2 := tR_size (tR r)
              have N5 := NN r false _ Xr (by omega)
              have N6 := fun W h => NN (tR r) (false || decide (tC r = 0)) W h (by omega)
              have T7 := fun W h => TT (tR (tR r)) ((false || decide (tC r = 0)) || decide (tC (tR r) = 0)) W h (by omega)
              have HS : Hid (∀ {r3 r4 t1 t2 : ByteArray} {b3 b4 : Bool}, (∀ (s : ByteArray) more, s.size ≤ 16 → bl (tR (tR r)) = varL s.size ++ bl s ++ more → t1 = s ∧ bl r3 = more ∧ b3 = ((false || decide (tC r = 0)) || decide (tC (tR r) = 0))) → (∀ (s : ByteArray) more, s.size ≤ 16 → bl r3 = varL s.size ++ bl s ++ more → t2 = s ∧ bl r4 = more ∧ b4 = b3) → In2 s n1 n2 c b4 zs (ms ++ [⟨(tN r : Int), (tN (tR r) : Int), t1, t2⟩]) r4) := fun h1 h2 => in2_step HI.out h1 h2
              clear HI NN
              generalize ((false || decide (tC r = 0)) || decide (tC (tR r) = 0)) = bb at *
              generalize (false || decide (tC r = 0)) = ba at *
              generalize tR (tR r) = rb at *
              generalize tN (tR r) = nb at *
              generalize tR r = ra at *
              generalize tN r = na at *
              have hge := owns_ge Ow
              go_wp2_with fail
              clear xl x0 x1 zl z0 z1 z2 z3
              refine N5.mono ?_
              rintro e wa ⟨rfl, Xa, hCa⟩
              replace Zr := hCa.box Zr (by omega)
              replace Ow := hCa.owns Ow (fun g hg hh => by have := hge g hg; omega)
              replace hC := hC.trans (hCa.mono fun j hj => .inl hj)
              have hza := hC.size
              have hXa := Xa.1
              have hZa := Zr.1
              have hlt := owns_below_lt Ow
              obtain ⟨Wa, hWa⟩ : ∃ Wa, Wa = wa.alloc (.cells #[.int .i64 na, .int .i64 0, .string ⟨#[]⟩, .string ⟨#[]⟩] 71) := ⟨_, rfl⟩
              have M : Box Wa wa.heap.size [.int .i64 na, .int .i64 0, .string ⟨#[]⟩, .string ⟨#[]⟩] := by rw [hWa]; exact Box.new wa #[.int .i64 na, .int .i64 0, .string ⟨#[]⟩, .string ⟨#[]⟩] 71
              have hba : Below wa.heap.size wa Wa := by rw [hWa]; exact below_alloc _ _
              replace Xa := Xa.below hba
              replace Zr := Zr.below hba
              replace Ow := owns_below Ow hba
              replace hC := hC.trans (Chg.of_below hba)
              have N6' := N6 _ Xa
              clear N5 N6 Xr hCa hba
              go_wp2_with fail
              rw [← hWa]; clear hWa
              generalize wa.heap.size = mb at *
              refine N6'.mono ?_
              rintro e wb ⟨rfl, Xb, hCb⟩
              replace M := hCb.box M (by omega)
              replace Zr := hCb.box Zr (by omega)
              replace Ow := hCb.owns Ow (fun g hg hh => by have := hge g hg; omega)
              replace hC := hC.trans (hCb.mono fun j hj => .inl hj)
              clear N6' Xa hCb
              obtain ⟨ml, m0, m1, m2, m3, f0, f1, f2, f3⟩ := M.e4
              obtain ⟨Ws, hWs⟩ : ∃ Ws, Ws = wb.setCell ⟨mb, 1, none⟩ (.int .i64 nb) := ⟨_, rfl⟩
              have hCs : Chg (fun k => k = mb) wb Ws := by rw [hWs]; exact Chg.setCell (S := fun k => k = mb) (p := ⟨mb, 1, none⟩) (Chg.refl _ _) rfl _
              have Ms : Box Ws mb [.int .i64 na, .int .i64 nb, .string ⟨#[]⟩, .string ⟨#[]⟩] := by rw [hWs]; exact M.set 1 (.int .i64 nb) (by simp)
              replace Xb := hCs.box Xb (by omega)
              replace Zr := hCs.box Zr (by omega)
              replace Ow := hCs.owns Ow (fun g hg hh => by have := hlt g hg; omega)
              replace hC := hC.trans (hCs.mono fun j hj => .inr (.inr (by omega)))
              clear M hCs
              have M := Ms
              clear Ms
              have T7' := T7 _ Xb
              clear T7
              go_wp2_with fail
              rw [← hWs]; clear hWs m0 m1 m2 m3 f0 f1 f2 f3 ml
              refine T7'.mono ?_
              rintro e wt ⟨tx1, rc, bc, rfl, s1, s2, Xt, H7, hCt⟩
              have H7 : Hid (∀ (s : ByteArray) more, s.size ≤ 16 → bl rb = varL s.size ++ bl s ++ more → tx1 = s ∧ bl rc = more ∧ bc = bb) := H7
              replace M := hCt.box M (by omega)
              replace Zr := hCt.box Zr (by omega)
              replace Ow := hCt.owns Ow (fun g hg hh => by have := hge g hg; omega)
              replace hC := hC.trans (hCt.mono fun j hj => .inl hj)
              clear T7' Xb hCt
              obtain ⟨ml, m0, m1, m2, m3, f0, f1, f2, f3⟩ := M.e4
              obtain ⟨Ws, hWs⟩ : ∃ Ws, Ws = wt.setCell ⟨mb, 2, none⟩ (.string tx1) := ⟨_, rfl⟩
              have hCs : Chg (fun k => k = mb) wt Ws := by rw [hWs]; exact Chg.setCell (S := fun k => k = mb) (p := ⟨mb, 2, none⟩) (Chg.refl _ _) rfl _
              have Ms : Box Ws mb [.int .i64 na, .int .i64 nb, .string tx1, .string ⟨#[]⟩] := by rw [hWs]; exact M.set 2 (.string tx1) (by simp)
              replace Xt := hCs.box Xt (by omega)
              replace Zr := hCs.box Zr (by omega)
              replace Ow := hCs.owns Ow (fun g hg hh => by have := hlt g hg; omega)
              replace hC := hC.trans (hCs.mono fun j hj => .inr (.inr (by omega)))
              clear M hCs
              have M := Ms
              clear Ms
              have T8' := TT rc bc _ Xt (by omega)
              clear TT
              go_wp2_with fail
              rw [← hWs]; clear hWs m0 m1 m2 m3 f0 f1 f2 f3 ml
              refine T8'.mono ?_
              rintro e wv ⟨tx2, rd, bd, rfl, s3, s4, Xv, H8, hCv⟩
              have HS2 : Hid (In2 s n1 n2 c bd zs (ms ++ [⟨(na : Int), (nb : Int), tx1, tx2⟩]) rd) := HS.out H7.out H8
              replace M := hCv.box M (by omega)
              replace Zr := hCv.box Zr (by omega)
              replace Ow := hCv.owns Ow (fun g hg hh => by have := hge g hg; omega)
              replace hC := hC.trans (hCv.mono fun j hj => .inl hj)
              clear T8' Xt hCv HS H7 H8
              have hCs : Chg (fun k => k = mb) wv (wv.setCell ⟨mb, 3, none⟩ (.string tx2)) := Chg.setCell (S := fun k => k = mb) (p := ⟨mb, 3, none⟩) (Chg.refl _ _) rfl _
              have X9 := hCs.box Xv (by omega)
              have Z9 := hCs.box Zr (by omega)
              have O9 := hCs.owns Ow (fun g hg hh => by have := hlt g hg; omega)
              have hC9 := hC.trans (hCs.mono fun j hj => .inr (.inr (by omega)))
              have hz9 := hC9.size
              have M9 := M.set 3 (.string tx2) (by simp)
              obtain ⟨ml, m0, m1, m2, m3, f0, f1, f2, f3⟩ := M.e4
              obtain ⟨zl, z0, z1, z2, z3, _⟩ := Zr.e4
              have HFL : Hid (flat4 (ms ++ [⟨(na : Int), (nb : Int), tx1, tx2⟩]) = flat4 ms ++ [.int .i64 na, .int .i64 nb, .string tx1, .string tx2]) := by show _ = _; rw [flat4_append]; rfl
              have ON := four_new (wv.setCell ⟨mb, 3, none⟩ (.string tx2)) na nb tx1 tx2
              rw [show (wv.setCell ⟨mb, 3, none⟩ (.string tx2)).heap.size = wv.heap.size from by simp] at ON hz9
              clear hCs Xv hC Ow
              go_wp2_with (at_builtin; refine wpList_append_own _ rfl _ _ 24 rfl w4.heap.size 71 i0 (.agg #[.int .i64 0, .int .i64 0, .string ⟨#[]⟩, .string ⟨#[]⟩]) 4 48 Tryz.underlying24 hi hz0 hzs hzb rfl (by decide) _ ms.length (flat4 ms) rfl (owns_below O9 (below_alloc _ _)) ⟨wv.heap.size, 0, none⟩ 1 1 [.int .i64 na, .int .i64 nb, .string tx1, .string tx2] rfl rfl ON (flat4_ones na nb tx1 tx2) (by unfold maxLen; omega) (by omega) (by simp; omega) ?_; intro v' w6 hown6 hgrow6 _; refine Stop.go ?_)
              have hG6 := chg_grow (S := fun j => w4.heap.size ≤ j) hgrow6 hge
              have X6 := hG6.box (X9.alloc _) (by omega)
              have Z6 := hG6.box (Z9.alloc _) (by omega)
              have hC6 := (hC9.trans (Chg.of_below (below_alloc _ _))).trans (chg_grow hgrow6 fun g hg => .inr (.inr (hge g hg)))
              have hge6 := owns_ge hown6
              obtain ⟨va, vc, rfl⟩ := owns_shape hown6
              clear zl z0 z1 z2 z3 m0 m1 m2 m3 f0 f1 f2 f3 ml ON hG6 hgrow6 X9 Z9 hC9 O9 M9 M
              obtain ⟨zl, z0, z1, z2, z3, f0, f1, f2, f3⟩ := Z6.e4
              have Zn := Z6.set 3 (.slice va (ms.length + 1) vc) (by simp)
              have hCz : Chg (fun j => j = z) w6 (w6.setCell ⟨z, 3, none⟩ (.slice va (ms.length + 1) vc)) := Chg.setCell (S := fun j => j = z) (p := ⟨z, 3, none⟩) (Chg.refl _ _) rfl _
              have Xn := hCz.box X6 (by omega)
              have On := hCz.owns hown6 (fun g hg hh => by have := hge6 g hg; omega)
              have hCn := hC6.trans (hCz.mono fun j hj => .inr (.inl hj))
              clear hCz Z6 X6 hown6 hC6
              unfold Stop
              go_wp2
              go_roundw
              case rel =>
                refine ⟨c, ms ++ [⟨(na : Int), (nb : Int), tx1, tx2⟩], rd, bd, _, by go_num, by omega, by simp; omega, ?_, by omega, Xn, Zn, ?_, HS2.out, hCn⟩
                · intro x hx
                  rcases List.mem_append.1 hx with hx | hx
                  · exact HMS.out x hx
                  · rw [List.mem_singleton] at hx; subst hx; dsimp only; omega
                · rw [HFL.out, List.length_append]; exact On
              case measure => simp [intOf]
            · have HO : Hid (Out2 s n1 n2 false zs ms r) := in2_many HI.out hl
              clear HI NN TT
              go_wp2_with fail
              go_meet
              case rel => exact ⟨ms, r, false, _, hm31, HMS.out, hrs2, Xr, Zr, Ow, HO.out, hC⟩
          · have HO : Hid (Out2 s n1 n2 true zs ms r) := in2_bad HI.out
            clear HI NN TT
            go_wp2_with fail
            go_meet
            case rel => exact ⟨ms, r, true, _, hm31, HMS.out, hrs2, Xr, Zr, Ow, HO.out, hC⟩
        · obtain rfl : c = 0 := by omega
          have HO : Hid (Out2 s n1 n2 bad zs ms r) := in2_none HI.out
          clear HI NN TT
          go_wp2_with fail
          go_meet
          case rel => exact ⟨ms, r, bad, _, hm31, HMS.out, hrs2, Xr, Zr, Ow, HO.out, hC⟩
    case rest =>
      clear X4 Z4 H2 NN TT
      obtain ⟨ms, r, bad, u, hm31, hms, hrs2, X5, Z5, O2, HO2, hC5⟩ := hcut
      have HO2 : Hid (Out2 s n1 n2 bad zs ms r) := HO2
      have hgeO2 := owns_ge O2
      replace R := hC5.box R (by omega)
      replace O1 := hC5.owns O1 (fun g hg hh => by have := hltO1 g hg; have := hgeO1 g hg; omega)
      have hz4 := hB.size
      replace hB := hB.trans (hC5.below (B := w.heap.size) hB.size (fun j hj => by omega))
      clear hC5
      replace O1 := owns_mono O1 (base' := w.heap.size) (by omega)
      replace O2 := owns_mono O2 hz4
      obtain ⟨va, vc, rfl⟩ := owns_shape O2
      have HU : Hid (∀ e', VE' s e' → e' = ((n1 : Int), (n2 : Int), zs, ms)) := fun e' h => by
        obtain ⟨e1, e2, _, e4, e5, _⟩ := HO2.out _ _ _ _ h
        obtain ⟨a, b, c, d⟩ := e'
        dsimp only at e1 e2 e4 e5
        rw [e1, e2, e4, e5]
      obtain ⟨xl, x0, x1, _⟩ := X5.d2
      obtain ⟨zl, z0, z1, z2, z3, _⟩ := Z5.e4
      cases bad
      rotate_left
      · have hno := HN.out (fun e h => by have := (HO2.out _ _ _ _ h).2.2.1; cases this)
        obtain ⟨rfl, hE⟩ := hno
        simp only [Prod.mk.injEq] at hE
        obtain ⟨rfl, rfl, rfl, rfl⟩ := hE
        obtain ⟨hr, r0, r1', r2', r3', f0, f1, f2, f3⟩ := R.e4
        have hBE := hB.trans ((put4_chg _ w.heap.size (.int .i64 0) (.int .i64 0) (.slice none 0 0) (.slice none 0 0)).below (B := w.heap.size) hB.size (fun k hk => by omega))
        clear HN HY HU HO2
        go_wp2
        exact bodyPost_ret (v := .tuple #[.agg #[.int .i64 0, .int .i64 0, .slice none 0 0, .slice none 0 0], .bool false]) (by simp [results, Tryz.results38, go_sem, r0, r1', r2', r3']) rfl ⟨_, _, rfl, World.ownsRow_nil _ _ _ _, World.ownsRow_nil _ _ _ _, hBE⟩
      by_cases hre : r = ⟨#[]⟩
      rotate_left
      · have hne : (r.toList == (⟨#[]⟩ : ByteArray).toList) = false := by rw [beq_eq_false_iff_ne]; intro h; exact hre (tl_inj h)
        have hnn : ¬ r.toList = [] := fun h => hre (tl_inj (by rw [h, empty_toList]))
        have hn1 : (r.toList == []) = false := by rw [beq_eq_false_iff_ne]; exact hnn
        have hn2 : r.toList.isEmpty = false := by rw [List.isEmpty_eq_false_iff]; exact hnn
        have hno := HN.out (fun e h => by exact hre (bl_inj ((HO2.out _ _ _ _ h).2.2.2.2.2)))
        obtain ⟨rfl, hE⟩ := hno
        simp only [Prod.mk.injEq] at hE
        obtain ⟨rfl, rfl, rfl, rfl⟩ := hE
        obtain ⟨hr, r0, r1', r2', r3', f0, f1, f2, f3⟩ := R.e4
        have hBE := hB.trans ((put4_chg _ w.heap.size (.int .i64 0) (.int .i64 0) (.slice none 0 0) (.slice none 0 0)).below (B := w.heap.size) hB.size (fun k hk => by omega))
        clear HN HY HU HO2
        go_wp2
        exact bodyPost_ret (v := .tuple #[.agg #[.int .i64 0, .int .i64 0, .slice none 0 0, .slice none 0 0], .bool false]) (by simp [results, Tryz.results38, go_sem, r0, r1', r2', r3']) rfl ⟨_, _, rfl, World.ownsRow_nil _ _ _ _, World.ownsRow_nil _ _ _ _, hBE⟩
      subst hre
      have hee : ((⟨#[]⟩ : ByteArray).toList == (⟨#[]⟩ : ByteArray).toList) = true := by rw [beq_iff_eq]
      have KE := l9Edit_any (n1 : Int) (n2 : Int) (.slice ua zs.length uc) (.slice va ms.length vc) zs ms _ (IL_of_owns O1 rfl) (IR_of_owns O2 rfl) (by omega) (by omega) (fun i h => hms _ (List.getElem_mem h))
      have HGE : Hid (goodE (n1 : Int) (n2 : Int) zs ms = true → VE' s ((n1 : Int), (n2 : Int), zs, ms) ↔ goodE (n1 : Int) (n2 : Int) zs ms = true → tx (edL (n1 : Int) (n2 : Int) zs ms) = s) := by
        constructor
        · intro h hg
          rw [(h hg).2.2.symm, tx_bl]
        · intro h hg
          have h1 := h hg
          have h2 : bl s = edL (n1 : Int) (n2 : Int) zs ms := by rw [← h1, bl_tx]
          exact ⟨hg, by rw [← h2, bl_len]; exact hs, h2⟩
      have HG2 : Hid (VE' s ((n1 : Int), (n2 : Int), zs, ms) → goodE (n1 : Int) (n2 : Int) zs ms = true) := fun h => h.1
      have KB := fun (hg : goodE (n1 : Int) (n2 : Int) zs ms = true) W h1 h2 => by
        obtain ⟨g1, g2, ⟨g3, g4⟩, g5, g6⟩ := goodE_parts hg
        exact l9Bytes_any n1 n2 (.slice ua zs.length uc) (.slice va ms.length vc) zs ms W h1 h2 (by omega) (by omega) g3 g4 g5 g6
      clear hms
      generalize tx (edL (n1 : Int) (n2 : Int) zs ms) = et at *
      generalize goodE (n1 : Int) (n2 : Int) zs ms = g at *
      go_wp2_with fail
      refine KE.mono ?_
      rintro e w6 ⟨rfl, hb6⟩
      replace R := R.below hb6
      replace O1 := owns_below O1 hb6
      replace O2 := owns_below O2 hb6
      replace Z5 := Z5.below hb6
      replace hB := below_then hB hb6
      clear hb6 KE xl x0 x1 zl z0 z1 z2 z3 X5
      obtain ⟨zl, z0, z1, z2, z3, _⟩ := Z5.e4
      cases g
      · clear KB HGE
        have hno := HN.out (fun e h => by have h2 := h; rw [HU.out e h] at h2; have := HG2.out h2; cases this)
        obtain ⟨rfl, hE⟩ := hno
        simp only [Prod.mk.injEq] at hE
        obtain ⟨rfl, rfl, rfl, rfl⟩ := hE
        obtain ⟨hr, r0, r1', r2', r3', f0, f1, f2, f3⟩ := R.e4
        have hBE := hB.trans ((put4_chg _ w.heap.size (.int .i64 0) (.int .i64 0) (.slice none 0 0) (.slice none 0 0)).below (B := w.heap.size) hB.size (fun k hk => by omega))
        clear HN HY HU HO2
        go_wp2
        exact bodyPost_ret (v := .tuple #[.agg #[.int .i64 0, .int .i64 0, .slice none 0 0, .slice none 0 0], .bool false]) (by simp [results, Tryz.results38, go_sem, r0, r1', r2', r3']) rfl ⟨_, _, rfl, World.ownsRow_nil _ _ _ _, World.ownsRow_nil _ _ _ _, hBE⟩
      have KB2 := KB rfl _ (IL_of_owns O1 rfl) (IR_of_owns O2 rfl)
      clear KB
      go_wp2_with fail
      refine KB2.mono ?_
      rintro e w7 ⟨rfl, hb7⟩
      replace R := R.below hb7
      replace O1 := owns_below O1 hb7
      replace O2 := owns_below O2 hb7
      replace Z5 := Z5.below hb7
      replace hB := below_then hB hb7
      clear hb7 KB2 zl z0 z1 z2 z3
      obtain ⟨zl, z0, z1, z2, z3, _⟩ := Z5.e4
      by_cases heq : et = s
      · have hV := HGE.out.2 (fun _ => heq) (by trivial)
        obtain ⟨rfl, hE⟩ := HY.out _ hV HU.out
        simp only [Prod.mk.injEq] at hE
        obtain ⟨rfl, rfl, rfl, rfl⟩ := hE
        obtain ⟨hr, r0, r1', r2', r3', f0, f1, f2, f3⟩ := R.e4
        have hCE := put4_chg w7 w.heap.size (.int .i64 n1) (.int .i64 n2) (.slice ua E3.length uc) (.slice va E4.length vc)
        have OE1 := hCE.owns O1 (fun g hg hh => by have := hgeO1 g hg; omega)
        have OE2 := hCE.owns O2 (fun g hg hh => by have := hgeO2 g hg; omega)
        have hBE := hB.trans (hCE.below (B := w.heap.size) hB.size (fun k hk => by omega))
        clear HN HY HU HO2 HGE HG2 hCE hV
        subst heq
        go_wp2
        exact bodyPost_ret (v := .tuple #[.agg #[.int .i64 n1, .int .i64 n2, .slice ua E3.length uc, .slice va E4.length vc], .bool true]) (by simp [results, Tryz.results38, go_sem, r0, r1', r2', r3']) rfl ⟨_, _, rfl, OE1, OE2, hBE⟩
      · have hne : (et.toList == s.toList) = false := by rw [beq_eq_false_iff_ne]; intro h; exact heq (tl_inj h)
        have hno := HN.out (fun e h => by have h2 := h; rw [HU.out e h] at h2; exact heq (HGE.out.1 (fun _ => h2) (by trivial)))
        obtain ⟨rfl, hE⟩ := hno
        simp only [Prod.mk.injEq] at hE
        obtain ⟨rfl, rfl, rfl, rfl⟩ := hE
        obtain ⟨hr, r0, r1', r2', r3', f0, f1, f2, f3⟩ := R.e4
        have hBE := hB.trans ((put4_chg _ w.heap.size (.int .i64 0) (.int .i64 0) (.slice none 0 0) (.slice none 0 0)).below (B := w.heap.size) hB.size (fun k hk => by omega))
        clear HN HY HU HO2
        go_wp2
        exact bodyPost_ret (v := .tuple #[.agg #[.int .i64 0, .int .i64 0, .slice none 0 0, .slice none 0 0], .bool false]) (by simp [results, Tryz.results38, go_sem, r0, r1', r2', r3']) rfl ⟨_, _, rfl, World.ownsRow_nil _ _ _ _, World.ownsRow_nil _ _ _ _, hBE⟩
end Go.Proofs.YtenbdjlhcadhaaaGreat
