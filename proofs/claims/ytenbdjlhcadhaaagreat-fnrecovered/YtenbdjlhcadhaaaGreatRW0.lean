/-
  Edits come back from their bytes, one edit for each text; of a text that is cut the versions are those of the whole: plainly.
-/
import Derived.Test.YtenbdjlhcadhaaaGreatRV3
import Derived.Test.YtenbdjlhcadhaaaGreatF4ToD1
import Derived.Test.YtenbdjlhcadhaaaGreatVV
namespace Go.Proofs.YtenbdjlhcadhaaaGreat
open Go.RowKit
set_option linter.unusedVariables false
set_option maxRecDepth 100000

theorem var_inj {a b : Nat} {x y : List UInt8} (h : varL a ++ x = varL b ++ y) (ha : a < 9223372036854775808) (hb : b < 9223372036854775808) : a = b ∧ x = y := by
  have h1 := take_var a x ha
  have h2 := take_var b y hb
  rw [h, h2] at h1
  injection h1 with h3 h4
  subst h3
  exact ⟨rfl, List.append_cancel_left h⟩
theorem drT_inj : ∀ (d d' : List Int) (x y : List UInt8), d.length = d'.length → (∀ i (h : i < d.length), 1 ≤ d[i] ∧ d[i] ≤ 100000) → (∀ i (h : i < d'.length), 1 ≤ d'[i] ∧ d'[i] ≤ 100000) → drT d ++ x = drT d' ++ y → d = d' ∧ x = y
  | [], [], x, y, _, _, _, h => ⟨rfl, h⟩
  | [], _ :: _, _, _, hl, _, _, _ => by simp at hl
  | _ :: _, [], _, _, hl, _, _, _ => by simp at hl
  | a :: d, b :: d', x, y, hl, h1, h2, h => by
    have g1 := h1 0 (by simp)
    have g2 := h2 0 (by simp)
    simp only [List.getElem_cons_zero] at g1 g2
    simp only [drT, List.append_assoc] at h
    obtain ⟨e1, e2⟩ := var_inj h (by omega) (by omega)
    obtain ⟨e3, e4⟩ := drT_inj d d' x y (by simpa using hl) (fun i hi => by have := h1 (i + 1) (by simpa using hi); simpa using this) (fun i hi => by have := h2 (i + 1) (by simpa using hi); simpa using this) e2
    obtain rfl : a = b := by omega
    exact ⟨by rw [e3], e4⟩
theorem txt_inj {k k' : ByteArray} {x y : List UInt8} (h : varL k.size ++ (bl k ++ x) = varL k'.size ++ (bl k' ++ y)) (h1 : k.size ≤ 16) (h2 : k'.size ≤ 16) : k = k' ∧ x = y := by
  obtain ⟨e1, e2⟩ := var_inj h (by omega) (by omega)
  obtain ⟨e3, e4⟩ := List.append_inj e2 (by rw [bl_len, bl_len, e1])
  exact ⟨bl_inj e3, e4⟩
theorem msT_inj : ∀ (d d' : List Mt) (x y : List UInt8), d.length = d'.length → (∀ i (h : i < d.length), (1 ≤ d[i].n ∧ d[i].n ≤ 100000) ∧ (0 ≤ d[i].d ∧ d[i].d ≤ 3) ∧ d[i].k.size ≤ 16 ∧ d[i].v.size ≤ 16) → (∀ i (h : i < d'.length), (1 ≤ d'[i].n ∧ d'[i].n ≤ 100000) ∧ (0 ≤ d'[i].d ∧ d'[i].d ≤ 3) ∧ d'[i].k.size ≤ 16 ∧ d'[i].v.size ≤ 16) → msT d ++ x = msT d' ++ y → d = d' ∧ x = y
  | [], [], x, y, _, _, _, h => ⟨rfl, h⟩
  | [], _ :: _, _, _, hl, _, _, _ => by simp at hl
  | _ :: _, [], _, _, hl, _, _, _ => by simp at hl
  | ⟨an, ad, ak, av⟩ :: d, ⟨bn, bd, bk, bv⟩ :: d', x, y, hl, h1, h2, h => by
    have g1 := h1 0 (by simp)
    have g2 := h2 0 (by simp)
    simp only [List.getElem_cons_zero] at g1 g2
    simp only [msT, mt1, List.append_assoc] at h
    obtain ⟨e1, e2⟩ := var_inj h (by omega) (by omega)
    obtain ⟨e3, e4⟩ := var_inj e2 (by omega) (by omega)
    obtain ⟨e5, e6⟩ := txt_inj e4 g1.2.2.1 g2.2.2.1
    obtain ⟨e7, e8⟩ := txt_inj e6 g1.2.2.2 g2.2.2.2
    obtain ⟨e9, e10⟩ := msT_inj d d' x y (by simpa using hl) (fun i hi => by have := h1 (i + 1) (by simpa using hi); simpa using this) (fun i hi => by have := h2 (i + 1) (by simpa using hi); simpa using this) e8
    obtain rfl : an = bn := by omega
    obtain rfl : ad = bd := by omega
    subst e5 e7 e9
    exact ⟨rfl, e10⟩
/-- One text, one edit. -/
theorem ve_one {s : ByteArray} {nx sq nx' sq' : Int} {dr dr' : List Int} {ad ad' : List Mt} (h : VE s nx sq dr ad) (h' : VE s nx' sq' dr' ad') : nx' = nx ∧ sq' = sq ∧ dr' = dr ∧ ad' = ad := by
  obtain ⟨hg, _, hb⟩ := h
  obtain ⟨hg', _, hb'⟩ := h'
  obtain ⟨g1, g2, ⟨g3, g4⟩, g5, g6⟩ := goodE_parts hg
  obtain ⟨k1, k2, ⟨k3, k4⟩, k5, k6⟩ := goodE_parts hg'
  rw [hb] at hb'
  unfold edL at hb'
  rw [nmL_T, mtL_T, nmL_T, mtL_T] at hb'
  simp only [List.append_assoc] at hb'
  obtain ⟨e1, e2⟩ := var_inj hb' (by omega) (by omega)
  obtain ⟨e3, e4⟩ := var_inj e2 (by omega) (by omega)
  obtain ⟨e5, e6⟩ := var_inj e4 (by omega) (by omega)
  obtain ⟨e7, e8⟩ := drT_inj dr dr' _ _ e5 (goodDr_num g4) (goodDr_num k4) e6
  obtain ⟨e9, e10⟩ := var_inj e8 (by omega) (by omega)
  obtain ⟨e11, _⟩ := msT_inj ad ad' [] [] e9 (mtOk_of g6 g5).2 (mtOk_of k6 k5).2 (by simpa using e10)
  exact ⟨by omega, by omega, e7.symm, e11.symm⟩
/-- An edit comes back from its bytes. -/
theorem rd_ed {nx sq : Int} {dr : List Int} {ad : List Mt} (h : edB nx sq dr ad = true) : rdB (edT nx sq dr ad) = true ∧ rdE (edT nx sq dr ad) = (nx, sq, dr, ad) := by
  have hv : VE (edT nx sq dr ad) nx sq dr ad := (ve_iff _ _ _ _ _).2 ⟨h, rfl⟩
  refine rd_yes (e := (nx, sq, dr, ad)) hv fun e' he' => ?_
  obtain ⟨a, b, c, d⟩ := e'
  obtain ⟨e1, e2, e3, e4⟩ := ve_one hv he'
  dsimp only at e1 e2 e3 e4
  subst e1 e2 e3 e4
  rfl
theorem edT_size (nx sq : Int) (dr : List Int) (ad : List Mt) : (edT nx sq dr ad).size ≤ 1000 := by
  unfold edT
  split
  · rename_i h
    unfold edB at h
    rw [Bool.and_eq_true, decide_eq_true_eq] at h
    rw [← bl_len, bl_tx]
    omega
  · exact Nat.zero_le _
/-- A frame is taken alike where more stands behind. -/
theorem take_more {l more : List UInt8} (h : (take l).2 ≠ 0) (h1 : (take l).1 ≤ 1000) : take (l ++ more) = take l ∧ (take l).2 ≤ l.length := by
  have hb := take_back l h
  have hl : varL (take l).1 ++ l.drop (take l).2 = l := by rw [hb, List.take_append_drop]
  have t1 := take_var (take l).1 (l.drop (take l).2) (by omega)
  rw [hl] at t1
  have t2 := take_var (take l).1 (l.drop (take l).2 ++ more) (by omega)
  rw [← List.append_assoc, hl] at t2
  refine ⟨t2.trans t1.symm, ?_⟩
  have h2 : (take l).2 = (varL (take l).1).length := by
    have := congrArg Prod.snd t1
    exact this
  rw [h2]
  have := congrArg List.length hl
  rw [List.length_append] at this
  omega
theorem ext_more {r' r : ByteArray} {more : List UInt8} (h : bl r = bl r' ++ more) {a b : Nat} (hb : b ≤ r'.size) : r.extract a b = r'.extract a b := by
  apply bl_inj
  rw [bl_ext, bl_ext, h]
  by_cases ha : a ≤ b
  · rw [List.drop_append_of_le_length (by rw [bl_len]; omega), List.take_append_of_le_length (by rw [List.length_drop, bl_len]; omega)]
  · have : b - a = 0 := by omega
    rw [this]; simp
theorem tf_pre {r' r : ByteArray} {more : List UInt8} (h : bl r = bl r' ++ more) (hok : tfOk r' = true) : tfOk r = true ∧ tfT r = tfT r' ∧ tfN r = tfN r' ∧ bl (tfL r) = bl (tfL r') ++ more := by
  have h0 := hok
  unfold tfOk at h0
  rw [Bool.and_eq_true, decide_eq_true_eq, decide_eq_true_eq] at h0
  obtain ⟨⟨f1, f2, f3⟩, hw⟩ := h0
  have e : r.data.toList = r'.data.toList ++ more := h
  have hsz : r.size = r'.size + more.length := by rw [← bl_len r, h, List.length_append, bl_len]
  obtain ⟨tm, tl⟩ := take_more (more := more) f1 f2
  have et : take r.data.toList = take r'.data.toList := by rw [e]; exact tm
  have eb : tfBody r = tfBody r' := by unfold tfBody; rw [et]; exact ext_more h (by omega)
  have es : tfSaid r = tfSaid r' := by unfold tfSaid; rw [et]; exact ext_more h (by omega)
  have ew : tfWord r = tfWord r' := by unfold tfWord; rw [eb]
  have hfit : tfFits r := by unfold tfFits; rw [et]; exact ⟨f1, f2, by omega⟩
  have hok2 : tfOk r = true := by
    unfold tfOk
    rw [decide_eq_true hfit, decide_eq_true (by rw [ew, es]; exact hw)]
    rfl
  have en : tfN r = tfN r' := by unfold tfN; rw [if_pos hok2, if_pos hok, et]
  have hnl := tfN_le r'
  refine ⟨hok2, by unfold tfT; rw [if_pos hok2, if_pos hok, eb], en, ?_⟩
  unfold tfL
  rw [bl_from, bl_from, en, h, List.drop_append_of_le_length (by rw [bl_len]; exact hnl)]

/-- An edit's text applied to a version, plainly. -/
noncomputable def stB (v : St) (x : ByteArray) : Bool := apB v.1 v.2.1 v.2.2 (rdE x).1 (rdE x).2.1 (rdE x).2.2.1 (rdE x).2.2.2
noncomputable def stA (v : St) (x : ByteArray) : St := (apX v.1 v.2.1 v.2.2 (rdE x).1 (rdE x).2.1 (rdE x).2.2.1 (rdE x).2.2.2, apY v.1 v.2.1 v.2.2 (rdE x).1 (rdE x).2.1 (rdE x).2.2.1 (rdE x).2.2.2, apA v.1 v.2.1 v.2.2 (rdE x).1 (rdE x).2.1 (rdE x).2.2.1 (rdE x).2.2.2)
theorem stGo_eq (v : St) (r : ByteArray) : stGo v r = stB v (tfT r) := rfl
theorem stNx_eq (v : St) (r : ByteArray) : stNx v r = stA v (tfT r) := rfl
noncomputable def chn (v : St) (L : List ByteArray) (i : Nat) : St := (L.take i).foldl stA v
theorem chn_succ (v : St) (L : List ByteArray) (i : Nat) (h : i < L.length) : chn v L (i + 1) = stA (chn v L i) L[i] := by
  unfold chn
  rw [List.take_succ_eq_append_getElem h, List.foldl_append]
  rfl
theorem chn_cons (v : St) (x : ByteArray) (L : List ByteArray) (i : Nat) : chn v (x :: L) (i + 1) = chn (stA v x) L i := rfl
theorem rv_ge : ∀ (f : Nat) (r : ByteArray) (v : St) (k : Nat), k ≤ (rv f r v k).2 ∧ (rv f r v k).2 ≤ k + f
  | 0, _, _, k => ⟨Nat.le_refl _, Nat.le_refl _⟩
  | f + 1, r, v, k => by
    cases hg : stGo v r with
    | false => rw [rv_no hg]; exact ⟨Nat.le_refl _, by omega⟩
    | true => rw [rv_go hg]; have := rv_ge f (tfL r) (stNx v r) (k + 1); omega
theorem rv_good : ∀ (f : Nat) (r : ByteArray) (v : St) (k : Nat), goodV v.1 v.2.1 v.2.2 = true → goodV (rv f r v k).1.1 (rv f r v k).1.2.1 (rv f r v k).1.2.2 = true
  | 0, _, _, _, h => h
  | f + 1, r, v, k, h => by
    cases hg : stGo v r with
    | false => rw [rv_no hg]; exact h
    | true => rw [rv_go hg]; exact rv_good f _ _ _ (go_good hg)
/-- What is recovered of a text's front is what was, on the way, of the whole. -/
theorem rv_pre : ∀ (f : Nat) (r' r : ByteArray) (more : List UInt8) (v : St) (k : Nat), bl r = bl r' ++ more →
    (rv f r' v k).2 ≤ (rv f r v k).2 ∧ (rv f r' v k).2 - k ≤ (frs f r).length ∧ (∀ i, i < (rv f r' v k).2 - k → ∃ h : i < (frs f r).length, rdB (frs f r)[i] = true ∧ stB (chn v (frs f r) i) (frs f r)[i] = true) ∧ chn v (frs f r) ((rv f r' v k).2 - k) = (rv f r' v k).1
  | 0, r', r, more, v, k, h => by
    refine ⟨Nat.le_refl _, by simp [rv], fun i hi => ?_, ?_⟩
    · simp [rv] at hi
    · simp [rv, chn]
  | f + 1, r', r, more, v, k, h => by
    cases hg : stGo v r' with
    | false =>
      rw [rv_no hg]
      refine ⟨(rv_ge _ _ _ _).1, by simp, fun i hi => ?_, by simp [chn]⟩
      simp at hi
    | true =>
      obtain ⟨ho, hb⟩ := go_ok hg
      obtain ⟨p1, p2, p3, p4⟩ := tf_pre h ho
      have hg2 : stGo v r = true := by rw [stGo_eq, p2]; exact hg
      have hn : stNx v r = stNx v r' := by rw [stNx_eq, stNx_eq, p2]
      rw [rv_go hg, rv_go hg2, hn]
      have hfr : frs (f + 1) r = tfT r :: frs f (tfL r) := by simp only [frs]; rw [if_pos p1]
      obtain ⟨i1, i2, i3, i4⟩ := rv_pre f (tfL r') (tfL r) more (stNx v r') (k + 1) p4
      have hk := (rv_ge f (tfL r') (stNx v r') (k + 1)).1
      generalize hN : (rv f (tfL r') (stNx v r') (k + 1)).2 = N at *
      obtain ⟨m, rfl⟩ : ∃ m, N = k + 1 + m := ⟨N - (k + 1), by omega⟩
      have e1 : k + 1 + m - (k + 1) = m := by omega
      have e2 : k + 1 + m - k = m + 1 := by omega
      rw [e1] at i2 i3 i4
      refine ⟨i1, ?_, ?_, ?_⟩
      · rw [e2, hfr, List.length_cons]; omega
      · intro i hi
        rw [e2] at hi
        simp only [hfr]
        cases i with
        | zero =>
          refine ⟨by simp, ?_⟩
          simp only [List.getElem_cons_zero]
          refine ⟨by rw [p2]; exact hb, ?_⟩
          have : chn v (tfT r :: frs f (tfL r)) 0 = v := rfl
          rw [this]
          exact hg2
        | succ i =>
          obtain ⟨j1, j2, j3⟩ := i3 i (by omega)
          refine ⟨by simpa using j1, ?_⟩
          simp only [List.getElem_cons_succ]
          refine ⟨j2, ?_⟩
          rw [chn_cons, ← stNx_eq, hn]
          exact j3
      · rw [e2, hfr, chn_cons, ← stNx_eq, hn]
        exact i4
/-- What the law leans on: t', a front of t. -/
structure Rcv (t t' : ByteArray) : Prop where
  le : (rvE t').2 ≤ (rvE t).2
  len : (rvE t').2 ≤ (framesOf t).length
  ok : ∀ i, i < (rvE t').2 → ∃ h : i < (framesOf t).length, rdB (framesOf t)[i] = true ∧ stB (chn (1, 0, []) (framesOf t) i) (framesOf t)[i] = true
  fin : chn (1, 0, []) (framesOf t) (rvE t').2 = (rvE t').1
theorem rcv_of {t t' : ByteArray} {more : List UInt8} (h : bl t = bl t' ++ more) : Rcv t t' := by
  obtain ⟨h1, h2, h3, h4⟩ := rv_pre 60 t' t more (1, 0, []) 0 h
  rw [Nat.sub_zero] at h2 h3 h4
  refine ⟨h1, ?_, ?_, ?_⟩
  · rw [frames_frs]; exact h2
  · intro i hi
    simp only [frames_frs]
    exact h3 i hi
  · rw [frames_frs]; exact h4
theorem chn_good {t t' : ByteArray} (R : Rcv t t') : ∀ i, i ≤ (rvE t').2 → goodV (chn (1, 0, []) (framesOf t) i).1 (chn (1, 0, []) (framesOf t) i).2.1 (chn (1, 0, []) (framesOf t) i).2.2 = true
  | 0, _ => start_good
  | i + 1, hi => by
    obtain ⟨h1, _, h2⟩ := R.ok i (by omega)
    rw [chn_succ _ _ _ h1]
    exact ap_good h2
theorem front (t : ByteArray) (k : Nat) : bl t = bl (t.extract 0 k) ++ (bl t).drop k := by rw [bl_to, List.take_append_drop]
theorem rvE_good (t : ByteArray) : goodV (rvE t).1.1 (rvE t).1.2.1 (rvE t).1.2.2 = true := rv_good 60 t (1, 0, []) 0 start_good
theorem rvE_le (t : ByteArray) : (rvE t).2 ≤ 60 := by have := (rv_ge 60 t (1, 0, []) 0).2; unfold rvE; omega
end Go.Proofs.YtenbdjlhcadhaaaGreat
