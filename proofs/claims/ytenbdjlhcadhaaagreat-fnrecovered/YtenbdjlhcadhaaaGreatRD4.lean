/-
  ReadEdit: the program's side.
-/
import Derived.Test.YtenbdjlhcadhaaaGreatRD2ToRD3
namespace Go.Proofs.YtenbdjlhcadhaaaGreat
open Go.RowKit
set_option linter.unusedVariables false
set_option maxRecDepth 100000

/-- The text is just this edit's. -/
def VE (s : ByteArray) (nx sq : Int) (dr : List Int) (ad : List Mt) : Prop := goodE nx sq dr ad = true ∧ (edL nx sq dr ad).length ≤ 1000 ∧ bl s = edL nx sq dr ad
theorem ve_iff (s : ByteArray) (nx sq : Int) (dr : List Int) (ad : List Mt) : VE s nx sq dr ad ↔ edB nx sq dr ad = true ∧ edT nx sq dr ad = s := by
  unfold VE
  constructor
  · rintro ⟨h1, h2, h3⟩
    have hb : edB nx sq dr ad = true := by unfold edB; rw [h1]; simp; omega
    refine ⟨hb, ?_⟩
    unfold edT
    rw [if_pos hb]
    apply bl_inj
    rw [bl_tx, h3]
  · rintro ⟨h1, h2⟩
    unfold edT at h2
    rw [if_pos h1] at h2
    unfold edB at h1
    rw [Bool.and_eq_true, decide_eq_true_eq] at h1
    exact ⟨h1.1, by omega, by rw [← h2, bl_tx]⟩
abbrev Ed := Int × Int × List Int × List Mt
def VE' (s : ByteArray) (e : Ed) : Prop := VE s e.1 e.2.1 e.2.2.1 e.2.2.2
open Classical in
noncomputable def rdE (s : ByteArray) : Ed := if h : ∃ e, VE' s e then Classical.choose h else (0, 0, [], [])
open Classical in
noncomputable def rdB (s : ByteArray) : Bool := decide (∃ e, VE' s e)
theorem rd_yes {s : ByteArray} {e : Ed} (h : VE' s e) (hu : ∀ e', VE' s e' → e' = e) : rdB s = true ∧ rdE s = e := by
  have hx : ∃ e, VE' s e := ⟨e, h⟩
  refine ⟨by unfold rdB; exact @decide_eq_true _ (Classical.propDecidable _) hx, ?_⟩
  unfold rdE
  rw [dif_pos hx]
  exact hu _ (Classical.choose_spec hx)
theorem rd_no {s : ByteArray} (h : ∀ e, ¬ VE' s e) : rdB s = false ∧ rdE s = (0, 0, [], []) := by
  have hx : ¬ ∃ e, VE' s e := fun ⟨e, he⟩ => h e he
  refine ⟨by unfold rdB; exact @decide_eq_false _ (Classical.propDecidable _) hx, ?_⟩
  unfold rdE
  rw [dif_neg hx]
theorem rd_good {s : ByteArray} : (rdE s).2.2.1.length ≤ 30 ∧ (rdE s).2.2.2.length ≤ 30 := by
  unfold rdE
  split
  · rename_i h
    obtain ⟨_, _, h3, h4⟩ := goodE_parts (Classical.choose_spec h).1
    exact ⟨h3.1, h4.1⟩
  · simp
/-- What is read of an edit's text is the edit. -/
theorem ve_read {s r1 r2 : ByteArray} {nx sq : Int} {dr zs : List Int} {ad ms : List Mt} (h : VE s nx sq dr ad)
    (h1 : ∀ d0 more, DrOk d0 → bl (tR (tR s)) = varL d0.length ++ drT d0 ++ more → zs = d0 ∧ bl r1 = more)
    (h2 : ∀ l0 more, MtOk l0 → bl r1 = varL l0.length ++ msT l0 ++ more → ms = l0 ∧ bl r2 = more) :
    ((tN s : Nat) : Int) = nx ∧ ((tN (tR s) : Nat) : Int) = sq ∧ zs = dr ∧ ms = ad := by
  obtain ⟨hg, _, hb⟩ := h
  obtain ⟨g1, g2, ⟨g3, g4⟩, g5, g6⟩ := goodE_parts hg
  have e0 : bl s = varL nx.toNat ++ (varL sq.toNat ++ (varL dr.length ++ drT dr ++ (varL ad.length ++ msT ad ++ []))) := by
    rw [hb]; unfold edL; rw [nmL_T, mtL_T]; simp only [List.append_assoc, List.append_nil]
  obtain ⟨a1, a2, _⟩ := tN_var (n := nx.toNat) e0 (by omega)
  obtain ⟨b1, b2, _⟩ := tN_var (n := sq.toNat) a2 (by omega)
  obtain ⟨c1, c2⟩ := h1 dr _ ⟨g3, goodDr_num g4⟩ b2
  obtain ⟨d1, d2⟩ := h2 ad _ (mtOk_of g6 g5) c2
  exact ⟨by rw [a1]; omega, by rw [b1]; omega, c1, d1⟩

set_option maxHeartbeats 8000000 in
theorem implRead_any (s : ByteArray) (w : World) (hs : s.size ≤ 1048576) :
    Calls Tryz.prog 7 #[.string s] w fun e w' => ∃ u1 u2, e = .returned (.tuple #[.agg #[.int .i64 (rdE s).1, .int .i64 (rdE s).2.1, u1, u2], .bool (rdB s)]) ∧ w'.ownsRow w.heap.size 3 1 u1 (rdE s).2.2.1.length ((rdE s).2.2.1.map (.int .i64)) ∧ w'.ownsRow w.heap.size 71 4 u2 (rdE s).2.2.2.length (flat4 (rdE s).2.2.2) ∧ Below w.heap.size w w' := by
  obtain ⟨W0, hW0⟩ : ∃ W0, W0 = (w.alloc (.cells #[.int .i64 0, .int .i64 0, .slice none 0 0, .slice none 0 0] 26)).alloc (.cells #[.string s] 59) := ⟨_, rfl⟩
  have hB : Below w.heap.size w W0 := by rw [hW0]; exact below2 _ _ _
  have R : Box W0 w.heap.size [.int .i64 0, .int .i64 0, .slice none 0 0, .slice none 0 0] := by rw [hW0]; exact (Box.new w #[.int .i64 0, .int .i64 0, .slice none 0 0, .slice none 0 0] 26).alloc _
  have X : Box W0 (w.heap.size + 1) [.string s] := by
    rw [hW0]
    have := Box.new (w.alloc (.cells #[.int .i64 0, .int .i64 0, .slice none 0 0, .slice none 0 0] 26)) #[.string s] 59
    simpa using this
  have q1 := tR_size s
  have q2 := tR_size (tR s)
  have N1 := number_any _ s _ X hs
  have N2 := fun W h => number_any (w.heap.size + 1) (tR s) W h (by omega)
  have NS := fun W h => numbers_any (w.heap.size + 1) (tR (tR s)) W h (by omega)
  have MS := fun r W h h2 => metas_any (w.heap.size + 1) r W h h2
  have HR : Hid (∀ {r1 r2 : ByteArray} {nx sq : Int} {dr zs : List Int} {ad ms : List Mt}, VE s nx sq dr ad → (∀ d0 more, DrOk d0 → bl (tR (tR s)) = varL d0.length ++ drT d0 ++ more → zs = d0 ∧ bl r1 = more) → (∀ l0 more, MtOk l0 → bl r1 = varL l0.length ++ msT l0 ++ more → ms = l0 ∧ bl r2 = more) → ((tN s : Nat) : Int) = nx ∧ ((tN (tR s) : Nat) : Int) = sq ∧ zs = dr ∧ ms = ad) := fun h h1 h2 => ve_read h h1 h2
  have HY : Hid (∀ e, VE' s e → (∀ e', VE' s e' → e' = e) → rdB s = true ∧ rdE s = e) := fun e h hu => rd_yes h hu
  have HN : Hid ((∀ e, ¬ VE' s e) → rdB s = false ∧ rdE s = (0, 0, [], [])) := fun h => rd_no h
  generalize rdB s = BB at *
  generalize rdE s = EE at *
  obtain ⟨E1, E2, E3, E4⟩ := EE
  generalize tR (tR s) = r2 at *
  generalize tN (tR s) = n2 at *
  generalize tR s = r1 at *
  generalize tN s = n1 at *
  go_enter Tryz.func7, Tryz.ntmps7
  go_wp2_with fail
  rw [← hW0]; clear hW0
  refine N1.mono ?_
  rintro e w1 ⟨rfl, X1, hC1⟩
  have N2' := N2 _ X1
  clear N1 N2 X
  go_wp2_with fail
  refine N2'.mono ?_
  rintro e w2 ⟨rfl, X2, hC2⟩
  replace hC1 := hC1.trans hC2
  replace R := hC1.box R (by omega)
  replace hB := hB.trans (hC1.below (B := w.heap.size) hB.size (fun j hj => by omega))
  have NS' := NS _ X2
  clear N2' NS X1 hC2 hC1
  go_wp2_with fail
  refine NS'.mono ?_
  rintro e w3 ⟨u1, zs, r3, rfl, O1, hz30, X3, hs3, HD, hC⟩
  have HD : Hid (∀ d0 more, DrOk d0 → bl r2 = varL d0.length ++ drT d0 ++ more → zs = d0 ∧ bl r3 = more) := HD
  have hRl := R.1
  have hXl := X2.1
  have hz2 := hB.size
  replace R := hC.box R (by omega)
  replace hB := hB.trans (hC.below (B := w.heap.size) hB.size (fun j hj => by omega))
  have hgeO := owns_ge O1
  have hltO := owns_below_lt O1
  have MS' := MS r3 _ X3 (by omega)
  clear NS' MS X2 hC
  go_wp2_with fail
  refine MS'.mono ?_
  rintro e w4 ⟨u2, ms, r4, rfl, O2, hm30, hms, X4, hs4, HM, hC⟩
  have HM : Hid (∀ l0 more, MtOk l0 → bl r3 = varL l0.length ++ msT l0 ++ more → ms = l0 ∧ bl r4 = more) := HM
  have hRl3 := R.1
  have hz3 := hB.size
  replace R := hC.box R (by omega)
  replace O1 := hC.owns O1 (fun g hg hh => by have := hltO g hg; have := hgeO g hg; omega)
  replace hB := hB.trans (hC.below (B := w.heap.size) hB.size (fun j hj => by omega))
  have hgeO2 := owns_ge O2
  replace O1 := owns_mono O1 hz2
  replace O2 := owns_mono O2 hz3
  clear MS' X3 X4 hC
  have HU : Hid (∀ e', VE' s e' → e' = ((n1 : Int), (n2 : Int), zs, ms)) := fun e' h => by
    obtain ⟨e1, e2, e3, e4⟩ := HR.out h HD.out HM.out
    obtain ⟨a, b, c, d⟩ := e'
    dsimp only at e1 e2 e3 e4
    rw [e1, e2, e3, e4]
  clear HR HD HM
  obtain ⟨ua, uc, rfl⟩ := owns_shape O1
  obtain ⟨va, vc, rfl⟩ := owns_shape O2
  obtain ⟨W5, hW5⟩ : ∃ W5, W5 = w4.alloc (.cells #[.int .i64 n1, .int .i64 n2, .slice ua zs.length uc, .slice va ms.length vc] 26) := ⟨_, rfl⟩
  have Z : Box W5 w4.heap.size [.int .i64 n1, .int .i64 n2, .slice ua zs.length uc, .slice va ms.length vc] := by rw [hW5]; exact Box.new w4 #[.int .i64 n1, .int .i64 n2, .slice ua zs.length uc, .slice va ms.length vc] 26
  have hb5 : Below w4.heap.size w4 W5 := by rw [hW5]; exact below_alloc _ _
  replace R := R.below hb5
  replace O1 := owns_below O1 hb5
  replace O2 := owns_below O2 hb5
  replace hB := below_then hB hb5
  have EB := implEditBytes_any (n1 : Int) (n2 : Int) (.slice ua zs.length uc) (.slice va ms.length vc) zs ms W5 (IL_of_owns O1 rfl) (IR_of_owns O2 rfl) (by omega) (by omega) hms
  have HT : Hid (edB (n1 : Int) (n2 : Int) zs ms = true → edT (n1 : Int) (n2 : Int) zs ms = s → VE' s ((n1 : Int), (n2 : Int), zs, ms)) := fun h1 h2 => (ve_iff s _ _ _ _).2 ⟨h1, h2⟩
  have HF : Hid (VE' s ((n1 : Int), (n2 : Int), zs, ms) → edB (n1 : Int) (n2 : Int) zs ms = true ∧ edT (n1 : Int) (n2 : Int) zs ms = s) := fun h => (ve_iff s _ _ _ _).1 h
  generalize edB (n1 : Int) (n2 : Int) zs ms = eb at *
  generalize edT (n1 : Int) (n2 : Int) zs ms = et at *
  clear hb5 hms
  go_wp2_with fail
  rw [← hW5]; clear hW5
  refine EB.mono ?_
  rintro e w6 ⟨rfl, hb6⟩
  replace R := R.below hb6
  replace O1 := owns_below O1 hb6
  replace O2 := owns_below O2 hb6
  replace Z := Z.below hb6
  replace hB := below_then hB hb6
  clear hb6 EB
  obtain ⟨hr, r0, r1', r2', r3', f0, f1, f2, f3⟩ := R.e4
  obtain ⟨zl, z0, z1, z2, z3, _⟩ := Z.e4
  cases eb
  · have hno := HN.out (fun e h => by have h2 := h; rw [HU.out e h] at h2; have := (HF.out h2).1; cases this)
    obtain ⟨rfl, hE⟩ := hno
    simp only [Prod.mk.injEq] at hE
    obtain ⟨rfl, rfl, rfl, rfl⟩ := hE
    have hBE := hB.trans ((put4_chg _ w.heap.size (.int .i64 0) (.int .i64 0) (.slice none 0 0) (.slice none 0 0)).below (B := w.heap.size) hB.size (fun k hk => by omega))
    clear HN HY HU HT HF
    go_wp2
    exact bodyPost_ret (v := .tuple #[.agg #[.int .i64 0, .int .i64 0, .slice none 0 0, .slice none 0 0], .bool false]) (by simp [results, Tryz.results7, go_sem, r0, r1', r2', r3']) rfl ⟨_, _, rfl, World.ownsRow_nil _ _ _ _, World.ownsRow_nil _ _ _ _, hBE⟩
  by_cases heq : et = s
  · subst heq
    obtain ⟨rfl, hE⟩ := HY.out _ (HT.out (by trivial) rfl) HU.out
    simp only [Prod.mk.injEq] at hE
    obtain ⟨rfl, rfl, rfl, rfl⟩ := hE
    have hCE := put4_chg w6 w.heap.size (.int .i64 n1) (.int .i64 n2) (.slice ua E3.length uc) (.slice va E4.length vc)
    have OE1 := hCE.owns O1 (fun g hg hh => by have := hgeO g hg; omega)
    have OE2 := hCE.owns O2 (fun g hg hh => by have := hgeO2 g hg; omega)
    have hBE := hB.trans (hCE.below (B := w.heap.size) hB.size (fun k hk => by omega))
    clear HN HY HU HT HF hCE
    go_wp2
    exact bodyPost_ret (v := .tuple #[.agg #[.int .i64 n1, .int .i64 n2, .slice ua E3.length uc, .slice va E4.length vc], .bool true]) (by simp [results, Tryz.results7, go_sem, r0, r1', r2', r3']) rfl ⟨_, _, rfl, OE1, OE2, hBE⟩
  · have hno := HN.out (fun e h => by have h2 := h; rw [HU.out e h] at h2; exact heq (HF.out h2).2)
    have hne : (et.toList == s.toList) = false := by rw [beq_eq_false_iff_ne]; intro h; exact heq (tl_inj h)
    obtain ⟨rfl, hE⟩ := hno
    simp only [Prod.mk.injEq] at hE
    obtain ⟨rfl, rfl, rfl, rfl⟩ := hE
    have hBE := hB.trans ((put4_chg _ w.heap.size (.int .i64 0) (.int .i64 0) (.slice none 0 0) (.slice none 0 0)).below (B := w.heap.size) hB.size (fun k hk => by omega))
    clear HN HY HU HT HF
    go_wp2
    exact bodyPost_ret (v := .tuple #[.agg #[.int .i64 0, .int .i64 0, .slice none 0 0, .slice none 0 0], .bool false]) (by simp [results, Tryz.results7, go_sem, r0, r1', r2', r3']) rfl ⟨_, _, rfl, World.ownsRow_nil _ _ _ _, World.ownsRow_nil _ _ _ _, hBE⟩
end Go.Proofs.YtenbdjlhcadhaaaGreat
