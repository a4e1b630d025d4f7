/-
  What the laws of clusters lean on.
  Marks, plainly.
-/
import Derived.Test.YtapfhhmimkkhnaaCG
import Derived.Test.YtapfhhmimkkhnaaCE
namespace Go.Proofs.Ytapfhhmimkkhnaa
open Go.RowKit
set_option linter.unusedVariables false
set_option maxRecDepth 100000

theorem cs_of_sum (N : List Nv) (M : List Mv) (L : List Ld) (h : sm tN N + N.length + sm tM M + M.length + L.length ≤ 1048576) : CS N M L := by
  refine ⟨by omega, by omega, by omega, fun i hi => ?_, fun i hi => ?_, fun i hi j hj => ?_, fun i hi j hj => ?_⟩
  · have := sm_mem tN N i hi; simp only [tN] at this; omega
  · have := sm_mem tM M i hi; simp only [tM] at this; omega
  · have := sm_mem tN N i hi; simp only [tN] at this; have := tot2_mem N[i].n.log j hj; omega
  · have := sm_mem tM M i hi; simp only [tM] at this; have := tot2_mem M[i].q.es j hj; omega
theorem map_at {α β : Type} {f : α → β} {l l' : List α} (h : l'.map f = l.map f) (i : Nat) (hi : i < l'.length) : ∃ hi2 : i < l.length, f l'[i] = f l[i] := by
  have hl : l'.length = l.length := by have := congrArg List.length h; simpa using this
  refine ⟨by omega, ?_⟩
  have := congrArg (fun t => t[i]?) h
  simpa [hi, show i < l.length from by omega] using this
theorem CS.same {N N' : List Nv} {M M' : List Mv} {L : List Ld} (h : CS N M L) (hn : N'.map Nv.n = N.map Nv.n) (hm : M'.map Mv.q = M.map Mv.q) : CS N' M' L := by
  have l1 : N'.length = N.length := by have := congrArg List.length hn; simpa using this
  have l2 : M'.length = M.length := by have := congrArg List.length hm; simpa using this
  refine ⟨by rw [l1]; exact h.n, by rw [l2]; exact h.m, h.l, fun i hi => ?_, fun i hi => ?_, fun i hi j hj => ?_, fun i hi j hj => ?_⟩
  · obtain ⟨h2, e⟩ := map_at hn i hi; rw [e]; exact h.ne i h2
  · obtain ⟨h2, e⟩ := map_at hm i hi; rw [e]; exact h.me i h2
  · obtain ⟨h2, e⟩ := map_at hn i hi; simp only [e] at hj ⊢; exact h.ns i h2 j hj
  · obtain ⟨h2, e⟩ := map_at hm i hi; simp only [e] at hj ⊢; exact h.ms i h2 j hj
theorem run_neq_bool_same (w : World) (b : Bool) : (binOp .neq 4 (.bool b) (.bool b)).run Try.prog w = .ok (.bool false) w := by
  cases b <;> kernel_rfl
end Go.Proofs.Ytapfhhmimkkhnaa

namespace Go.Proofs.Ytapfhhmimkkhnaa
open Go.RowKit Go.Maps
set_option linter.unusedVariables false
set_option maxRecDepth 100000

def mkZ (k : Int) (n : Nat) : List Int := (List.range n).map fun i : Nat => k + (i : Int)
theorem mkZ_length (k : Int) (n : Nat) : (mkZ k n).length = n := by simp [mkZ]
theorem mkI_mkZ (k : Int) (n : Nat) : mkI k n = (mkZ k n).map (.int .i64) := by simp [mkI, mkZ]
/-- What is marked, one behind the other. -/
def mkL {α : Type} (mk : Int → α → α) (u : α → Nat) : Int → List α → List α
  | _, [] => []
  | k, x :: r => mk k x :: mkL mk u (k + u x) r
theorem mkL_length {α : Type} (mk : Int → α → α) (u : α → Nat) (k : Int) (l : List α) : (mkL mk u k l).length = l.length := by
  induction l generalizing k with
  | nil => rfl
  | cons x r ih => simp [mkL, ih]
theorem mkL_at {α : Type} (mk : Int → α → α) (u : α → Nat) (k : Int) (l : List α) (i : Nat) (h : i < l.length) : (mkL mk u k l)[i]'(by rw [mkL_length]; exact h) = mk (k + (sm u (l.take i) : Nat)) l[i] := by
  induction l generalizing k i with
  | nil => simp at h
  | cons x r ih =>
    cases i with
    | zero => simp [mkL, sm]
    | succ i =>
      simp only [mkL, List.getElem_cons_succ, List.take_succ_cons, sm]
      rw [ih (k + u x) i (by simpa using h)]
      congr 1
      omega
def mkP {α : Type} (mk : Int → α → α) (u : α → Nat) (k : Int) (l : List α) (j : Nat) : List α := (mkL mk u k l).take j ++ l.drop j
theorem mkP_zero {α : Type} (mk : Int → α → α) (u : α → Nat) (k : Int) (l : List α) : mkP mk u k l 0 = l := by simp [mkP]
theorem mkP_all {α : Type} (mk : Int → α → α) (u : α → Nat) (k : Int) (l : List α) : mkP mk u k l l.length = mkL mk u k l := by
  unfold mkP
  rw [List.drop_length, List.append_nil]
  exact List.take_of_length_le (by rw [mkL_length]; exact Nat.le_refl _)
theorem mkP_length {α : Type} (mk : Int → α → α) (u : α → Nat) (k : Int) (l : List α) (j : Nat) (h : j ≤ l.length) : (mkP mk u k l j).length = l.length := by simp [mkP, mkL_length]; omega
theorem mkP_at {α : Type} (mk : Int → α → α) (u : α → Nat) (k : Int) (l : List α) (j : Nat) (h : j < l.length) : (mkP mk u k l j)[j]'(by rw [mkP_length _ _ _ _ _ (by omega)]; exact h) = l[j] := by
  have e : ((mkL mk u k l).take j).length = j := by simp [mkL_length]; omega
  simp only [mkP]
  rw [List.getElem_append_right (by omega)]
  simp [e]
theorem mkP_set {α : Type} (mk : Int → α → α) (u : α → Nat) (k : Int) (l : List α) (j : Nat) (h : j < l.length) : (mkP mk u k l j).set j (mk (k + (sm u (l.take j) : Nat)) l[j]) = mkP mk u k l (j + 1) := by
  have e : ((mkL mk u k l).take j).length = j := by simp [mkL_length]; omega
  have hm : j < (mkL mk u k l).length := by rw [mkL_length]; exact h
  unfold mkP
  rw [List.set_append_right _ _ (by omega), e, Nat.sub_self, List.drop_eq_getElem_cons h, List.set_cons_zero, ← mkL_at mk u k l j h, ← List.take_append_getElem hm, List.append_assoc]
  rfl
theorem sm_take_le {α : Type} (u : α → Nat) (l : List α) (j : Nat) : sm u (l.take j) ≤ sm u l := by
  induction l generalizing j with
  | nil => simp [sm]
  | cons x r ih =>
    cases j with
    | zero => simp [sm]
    | succ j => simp only [List.take_succ_cons, sm]; have := ih j; omega
def uN (x : Nv) : Nat := 6 + 2 * x.n.log.length + x.n.vs.length + x.n.mt.length
def uM (x : Mv) : Nat := 8 + 2 * x.q.es.length
def uL (_ : Ld) : Nat := 2
def mkNv (k : Int) (x : Nv) : Nv := ⟨⟨k, k + 1, k + 1 + 1, k + 1 + 1 + 1, k + 1 + 1 + 1 + 1 + 2 * x.n.log.length, k + 1 + 1 + 1 + 1 + 2 * x.n.log.length + 1, mkEs (k + 1 + 1 + 1 + 1) x.n.log.length, mkZ (k + 1 + 1 + 1 + 1 + 2 * x.n.log.length + 1 + 1) x.n.vs.length, mkZ (k + 1 + 1 + 1 + 1 + 2 * x.n.log.length + 1 + 1 + x.n.vs.length) x.n.mt.length⟩, x.la, x.lc, x.va, x.vc, x.ma, x.mc⟩
def mkMv (k : Int) (x : Mv) : Mv := ⟨⟨k, k + 1, k + 1 + 1, k + 1 + 1 + 1, k + 1 + 1 + 1 + 1, k + 1 + 1 + 1 + 1 + 1, k + 1 + 1 + 1 + 1 + 1 + 1 + 2 * x.q.es.length, (k + 1 + 1 + 1 + 1 + 1 + 1 + 2 * x.q.es.length + 1) % 3 == 0, mkEs (k + 1 + 1 + 1 + 1 + 1 + 1) x.q.es.length⟩, x.ea, x.ec⟩
def mkLd (k : Int) (_ : Ld) : Ld := ⟨k, k + 1⟩
theorem rebase {w : World} {base c : Nat} {e : TypeId} {size : Nat} {v : Value} {n : Nat} {xs : List Value} (h : w.ownsRow base e size v n xs) (hb : ∀ g, v.ownBlock = some g → c ≤ g) : w.ownsRow c e size v n xs := by
  refine ⟨h.1, ?_⟩
  rcases h.2 with h0 | ⟨g, cap, cur, hv, hbg, r⟩
  · exact .inl h0
  · exact .inr ⟨g, cap, cur, hv, hb g (by rw [hv]; rfl), r⟩
theorem PN.rebase {w : World} {b c : Nat} {x : Nv} (h : PN w b x) (hb : ∀ g, BN x g → c ≤ g) : PN w c x :=
  ⟨Go.Proofs.Ytapfhhmimkkhnaa.rebase h.l fun g hg => hb g (.inl hg), Go.Proofs.Ytapfhhmimkkhnaa.rebase h.v fun g hg => hb g (.inr (.inl hg)), Go.Proofs.Ytapfhhmimkkhnaa.rebase h.m fun g hg => hb g (.inr (.inr hg)), OwnN.ne h⟩
theorem PM.rebase {w : World} {b c : Nat} {x : Mv} (h : PM w b x) (hb : ∀ g, BM x g → c ≤ g) : PM w c x := Go.Proofs.Ytapfhhmimkkhnaa.rebase h hb
theorem PN.row_ne {w : World} {b b2 e2 s2 n2 : Nat} {v2 : Value} {x : Nv} {ys : List Value} (h : PN w b x) (h2 : w.ownsRow b2 e2 s2 v2 n2 ys) (q1 : 34 ≠ e2) (q2 : 3 ≠ e2) : ∀ b, BN x b → ¬ v2.ownBlock = some b := by
  rintro b (hb | hb | hb)
  · exact owns_type_ne h.l h2 q1 b hb
  · exact owns_type_ne h.v h2 q2 b hb
  · exact owns_type_ne h.m h2 q2 b hb
theorem PM.row_ne {w : World} {b b2 e2 s2 n2 : Nat} {v2 : Value} {x : Mv} {ys : List Value} (h : PM w b x) (h2 : w.ownsRow b2 e2 s2 v2 n2 ys) (q1 : 34 ≠ e2) : ∀ b, BM x b → ¬ v2.ownBlock = some b := fun b hb => owns_type_ne h h2 q1 b hb
theorem Chain.setN {w w' : World} {lo hi g base : Nat} {l : List Nv} (h : Chain PN BN w lo hi l) (j : Nat) (hj : j < l.length) (x' : Nv) (hx : ∀ b, BN x' b → BN l[j] b) (hp : PN w' base x') (hc : Chg (fun b => b = g ∨ BN l[j] b) w w') (hg : ∀ i (hi : i < l.length), ¬ BN l[i] g) : Chain PN BN w' lo hi (l.set j x') := by
  obtain ⟨c, h0, h1, H2⟩ := h
  have h2 := H2
  have mono := chain_le (l := l.length) (c := c) (fun i h => (h2 i h).1)
  refine ⟨c, h0, by simpa using h1, fun i hi' => ?_⟩
  simp only [List.length_set] at hi'
  refine ⟨(h2 i hi').1, ?_, ?_⟩
  · by_cases hij : j = i
    · subst hij
      rw [List.getElem_set_self]
      exact PN.rebase hp fun g hg => ((h2 j hj).2.2 g (hx g hg)).1
    · rw [List.getElem_set_ne hij]
      have q := (h2 i hi').2.1
      refine OwnN.chg q hc (fun b h1 h2 => ?_)
      rcases h2 with rfl | h2
      · exact hg i hi' h1
      · have r1 := (H2 i hi').2.2 b h1
        have r2 := (H2 j hj).2.2 b h2
        by_cases hlt : i < j
        · have := mono (i + 1) j (by omega) (by omega); omega
        · have := mono (j + 1) i (by omega) (by omega); omega
  · by_cases hij : j = i
    · subst hij
      rw [List.getElem_set_self]
      exact fun b hb => (h2 j hj).2.2 b (hx b hb)
    · rw [List.getElem_set_ne hij]
      exact (h2 i hi').2.2
theorem Chain.setM {w w' : World} {lo hi g base : Nat} {l : List Mv} (h : Chain PM BM w lo hi l) (j : Nat) (hj : j < l.length) (x' : Mv) (hx : ∀ b, BM x' b → BM l[j] b) (hp : PM w' base x') (hc : Chg (fun b => b = g ∨ BM l[j] b) w w') (hg : ∀ i (hi : i < l.length), ¬ BM l[i] g) : Chain PM BM w' lo hi (l.set j x') := by
  obtain ⟨c, h0, h1, H2⟩ := h
  have h2 := H2
  have mono := chain_le (l := l.length) (c := c) (fun i h => (h2 i h).1)
  refine ⟨c, h0, by simpa using h1, fun i hi' => ?_⟩
  simp only [List.length_set] at hi'
  refine ⟨(h2 i hi').1, ?_, ?_⟩
  · by_cases hij : j = i
    · subst hij
      rw [List.getElem_set_self]
      exact PM.rebase hp fun g hg => ((h2 j hj).2.2 g (hx g hg)).1
    · rw [List.getElem_set_ne hij]
      have q := (h2 i hi').2.1
      refine hc.owns q (fun b h1 h2 => ?_)
      rcases h2 with rfl | h2
      · exact hg i hi' h1
      · have r1 := (H2 i hi').2.2 b h1
        have r2 := (H2 j hj).2.2 b h2
        by_cases hlt : i < j
        · have := mono (i + 1) j (by omega) (by omega); omega
        · have := mono (j + 1) i (by omega) (by omega); omega
  · by_cases hij : j = i
    · subst hij
      rw [List.getElem_set_self]
      exact fun b hb => (h2 j hj).2.2 b (hx b hb)
    · rw [List.getElem_set_ne hij]
      exact (h2 i hi').2.2
theorem flatN_setP (l : List Nv) (i : Nat) (s : Nv) (h : i < l.length) (e4 : .slice s.la s.n.log.length s.lc = (.slice l[i].la l[i].n.log.length l[i].lc : Value)) (e7 : .slice s.va s.n.vs.length s.vc = (.slice l[i].va l[i].n.vs.length l[i].vc : Value)) (e8 : .slice s.ma s.n.mt.length s.mc = (.slice l[i].ma l[i].n.mt.length l[i].mc : Value)) : ((((((flatN l).set (i * 9) (.int .i64 s.n.id)).set (i * 9 + 1) (.int .i64 s.n.pe)).set (i * 9 + 2) (.int .i64 s.n.te)).set (i * 9 + 3) (.int .i64 s.n.vo)).set (i * 9 + 5) (.int .i64 s.n.co)).set (i * 9 + 6) (.int .i64 s.n.ro) = flatN (l.set i s) := by
  induction l generalizing i with
  | nil => simp at h
  | cons x r ih =>
    cases i with
    | zero =>
      simp only [List.getElem_cons_zero] at e4 e7 e8
      simp [flatN, e4, e7, e8]
    | succ i =>
      have e : ∀ (m : Nat) (v q0 q1 q2 q3 q4 q5 q6 q7 q8 : Value) (L : List Value), (q0 :: q1 :: q2 :: q3 :: q4 :: q5 :: q6 :: q7 :: q8 :: L).set ((i + 1) * 9 + m) v = q0 :: q1 :: q2 :: q3 :: q4 :: q5 :: q6 :: q7 :: q8 :: L.set (i * 9 + m) v := by
        intro m v q0 q1 q2 q3 q4 q5 q6 q7 q8 L
        rw [show (i + 1) * 9 + m = (i * 9 + m) + 1 + 1 + 1 + 1 + 1 + 1 + 1 + 1 + 1 from by omega]
        simp only [List.set_cons_succ]
      have e0 := e 0
      simp only [Nat.add_zero] at e0
      simp only [flatN, List.set_cons_succ]
      rw [e0, e 1, e 2, e 3, e 5, e 6, ih i (by simpa using h) (by simpa using e4) (by simpa using e7) (by simpa using e8)]
theorem flatM_setP (l : List Mv) (i : Nat) (s : Mv) (h : i < l.length) (e6 : .slice s.ea s.q.es.length s.ec = (.slice l[i].ea l[i].q.es.length l[i].ec : Value)) : ((((((((flatM l).set (i * 9) (.int .i64 s.q.ki)).set (i * 9 + 1) (.int .i64 s.q.fr)).set (i * 9 + 2) (.int .i64 s.q.dst)).set (i * 9 + 3) (.int .i64 s.q.te)).set (i * 9 + 4) (.int .i64 s.q.ix)).set (i * 9 + 5) (.int .i64 s.q.be)).set (i * 9 + 7) (.int .i64 s.q.co)).set (i * 9 + 8) (.bool s.q.ye) = flatM (l.set i s) := by
  induction l generalizing i with
  | nil => simp at h
  | cons x r ih =>
    cases i with
    | zero =>
      simp only [List.getElem_cons_zero] at e6
      simp [flatM, e6]
    | succ i =>
      have e : ∀ (m : Nat) (v q0 q1 q2 q3 q4 q5 q6 q7 q8 : Value) (L : List Value), (q0 :: q1 :: q2 :: q3 :: q4 :: q5 :: q6 :: q7 :: q8 :: L).set ((i + 1) * 9 + m) v = q0 :: q1 :: q2 :: q3 :: q4 :: q5 :: q6 :: q7 :: q8 :: L.set (i * 9 + m) v := by
        intro m v q0 q1 q2 q3 q4 q5 q6 q7 q8 L
        rw [show (i + 1) * 9 + m = (i * 9 + m) + 1 + 1 + 1 + 1 + 1 + 1 + 1 + 1 + 1 from by omega]
        simp only [List.set_cons_succ]
      have e0 := e 0
      simp only [Nat.add_zero] at e0
      simp only [flatM, List.set_cons_succ]
      rw [e0, e 1, e 2, e 3, e 4, e 5, e 7, e 8, ih i (by simpa using h) (by simpa using e6)]
end Go.Proofs.Ytapfhhmimkkhnaa
