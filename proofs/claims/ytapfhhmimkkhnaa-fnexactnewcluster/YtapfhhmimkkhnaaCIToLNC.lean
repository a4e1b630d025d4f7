/-
  What the laws of clusters lean on.
  The walk of FnExactNewCluster.
-/
import Derived.Test.YtapfhhmimkkhnaaCG
import Derived.Test.YtapfhhmimkkhnaaCO
namespace Go.Proofs.Ytapfhhmimkkhnaa
open Go.RowKit
set_option linter.unusedVariables false
set_option maxRecDepth 100000

theorem cs_of_sum (N : List Nv) (M : List Mv) (L : List Ld) (h : sm tN N + N.length + sm tM M + M.length + L.length ≤ 1048576) : CS N M L := by
  refine ⟨by omega, by omega, by omega, fun i hi => ?_, fun i hi => ?_, fun i hi j hj => ?_, fun i hi j hj => ?_⟩
  · have := sm_mem tN N i hi; simp only [tN] at this; omega
  · have := sm_mem tM M i hi; simp only [tM] at this; omega
  · have := sm_mem tN N i hi; simp only [tN] at this; have := tot2_mem N[i].n.log j hj; omega
  · have := sm_mem tM M i hi; simp only [tM] at this; have := tot2_mem M[i].q.es j hj; omega
theorem map_at {α β : Type} {f : α → β} {l l' : List α} (h : l'.map f = l.map f) (i : Nat) (hi : i < l'.length) : ∃ hi2 : i < l.length, f l'[i] = f l[i] := by
  have hl : l'.length = l.length := by have := congrArg List.length h; simpa using this
  refine ⟨by omega, ?_⟩
  have := congrArg (fun t => t[i]?) h
  simpa [hi, show i < l.length from by omega] using this
theorem CS.same {N N' : List Nv} {M M' : List Mv} {L : List Ld} (h : CS N M L) (hn : N'.map Nv.n = N.map Nv.n) (hm : M'.map Mv.q = M.map Mv.q) : CS N' M' L := by
  have l1 : N'.length = N.length := by have := congrArg List.length hn; simpa using this
  have l2 : M'.length = M.length := by have := congrArg List.length hm; simpa using this
  refine ⟨by rw [l1]; exact h.n, by rw [l2]; exact h.m, h.l, fun i hi => ?_, fun i hi => ?_, fun i hi j hj => ?_, fun i hi j hj => ?_⟩
  · obtain ⟨h2, e⟩ := map_at hn i hi; rw [e]; exact h.ne i h2
  · obtain ⟨h2, e⟩ := map_at hm i hi; rw [e]; exact h.me i h2
  · obtain ⟨h2, e⟩ := map_at hn i hi; simp only [e] at hj ⊢; exact h.ns i h2 j hj
  · obtain ⟨h2, e⟩ := map_at hm i hi; simp only [e] at hj ⊢; exact h.ms i h2 j hj
theorem run_neq_bool_same (w : World) (b : Bool) : (binOp .neq 4 (.bool b) (.bool b)).run Try.prog w = .ok (.bool false) w := by
  cases b <;> kernel_rfl
end Go.Proofs.Ytapfhhmimkkhnaa

namespace Go.Proofs.Ytapfhhmimkkhnaa
open Go.RowKit
set_option linter.unusedVariables false
set_option maxRecDepth 100000

theorem ncN_at (ok : Bool) (p : Int) (i : Nat) (h : i < (ncN ok p).length) : ∃ k : Int, (ncN ok p)[i] = ⟨newN k p, none, 0, none, 0, none, 0⟩ := by
  unfold ncN at h ⊢
  cases ok
  · simp at h
  · simp only [if_true] at h ⊢
    exact ⟨i, newNs_at p p.toNat i h⟩
theorem ncN_len (p : Int) : (ncN (inB p 1 7) p).length ≤ 7 := by
  unfold ncN
  split
  · rename_i h; simp [inB] at h; rw [newNs_length]; omega
  · simp
theorem ncN_cs (p : Int) : CS (ncN (inB p 1 7) p) [] [] := by
  have hl := ncN_len p
  refine ⟨by omega, by simp, by simp, fun i hi => ?_, fun i hi => by simp at hi, fun i hi j hj => ?_, fun i hi => by simp at hi⟩
  · obtain ⟨k, e⟩ := ncN_at _ p i hi; rw [e]; simp [newN]
  · obtain ⟨k, e⟩ := ncN_at _ p i hi; simp only [e] at hj; simp [newN] at hj
theorem sm_const {α : Type} (u : α → Nat) (c : Nat) (l : List α) (h : ∀ i (h : i < l.length), u l[i] ≤ c) : sm u l ≤ c * l.length := by
  induction l with
  | nil => simp [sm]
  | cons x r ih =>
    have h0 := h 0 (by simp)
    have h1 := ih fun i hi => by have := h (i + 1) (by simpa using hi); simpa using this
    simp only [sm, List.length_cons, List.getElem_cons_zero] at *
    rw [Nat.mul_add]
    omega
theorem ncN_u (p : Int) : uC (ncN (inB p 1 7) p) [] [] ≤ 42 := by
  have hl := ncN_len p
  have := sm_const uN 6 (ncN (inB p 1 7) p) fun i hi => by obtain ⟨k, e⟩ := ncN_at _ p i hi; rw [e]; simp [uN, newN]
  simp only [uC, sm]
  omega
theorem ownC_nc (ok : Bool) (p : Int) {w : World} {lo hi : Nat} {u : Value} (h : w.ownsRow lo 26 9 u (ncN ok p).length (flatN (ncN ok p))) (hl : lo ≤ hi) (hb : ∀ b, u.ownBlock = some b → b < hi) : OwnC w lo hi hi u (.slice none 0 0) (.slice none 0 0) (ncN ok p) [] [] := by
  refine ⟨h, World.ownsRow_nil _ _ _ _, World.ownsRow_nil _ _ _ _, ⟨fun _ => lo, Nat.le_refl _, hl, fun i hi' => ⟨Nat.le_refl _, ?_, ?_⟩⟩, Chain.nil (Nat.le_refl _), hb, fun b hb => by simp [Value.ownBlock] at hb, fun b hb => by simp [Value.ownBlock] at hb⟩
  · obtain ⟨k, e⟩ := ncN_at ok p i hi'
    rw [e]
    exact OwnN.nil _ _
  · obtain ⟨k, e⟩ := ncN_at ok p i hi'
    rw [e]
    rintro b (hb | hb | hb) <;> simp [Value.ownBlock] at hb
set_option maxHeartbeats 16000000 in
theorem lawNewCluster (p : Int) (w : World) :
    Calls Try.prog 5 #[.int .i64 p] w fun e w' => e = .returned (.bool true) ∧ Below w.heap.size w w' := by
  have S := fun W => specNewC_any p W
  have I := fun W => implNewC_any p W
  have RS := ncN_cs p
  have RU := ncN_u p
  have OC := fun {w : World} {lo hi : Nat} {u : Value} => ownC_nc (inB p 1 7) p (w := w) (lo := lo) (hi := hi) (u := u)
  generalize ncN (inB p 1 7) p = R at *
  generalize inB p 1 7 = ok at *
  have NBo := fun W => run_neq_bool_same W ok
  have hB := Below.refl w.heap.size w
  go_enter Try.func5, Try.ntmps5
  go_wp2_with fail
  refine (S _).mono ?_
  rintro e w1 ⟨P1, rfl, UW, hb⟩
  replace hB := below_then hB hb
  have hzw1 := hb.size
  clear hb
  have gU := owns_ge UW
  have lU := owns_below_lt UW
  skip
  obtain ⟨Pa, Pc, h1⟩ := owns_shape UW
  subst h1
  have BX := below_alloc w1 (.cells #[.slice Pa R.length Pc, .slice none 0 0, .slice none 0 0] 60)
  have P := Box.new w1 #[.slice Pa R.length Pc, .slice none 0 0, .slice none 0 0] 60
  replace hB := below_then hB BX
  replace UW := owns_below UW BX
  clear BX
  have hpl := P.1
  simp only [World.size_alloc] at hpl
  clear S
  go_wp2_with fail
  refine (I _).mono ?_
  rintro e w2 ⟨Q1, rfl, VW, hb⟩
  replace hB := below_then hB hb
  replace UW := owns_below UW hb
  replace P := P.below hb
  have hzw2 := hb.size
  clear hb
  simp only [World.size_alloc] at VW hzw2
  have gV := owns_ge VW
  have lV := owns_below_lt VW
  skip
  obtain ⟨Qa, Qc, h1⟩ := owns_shape VW
  subst h1
  have BX := below_alloc w2 (.cells #[.slice Qa R.length Qc, .slice none 0 0, .slice none 0 0] 60)
  have Q := Box.new w2 #[.slice Qa R.length Qc, .slice none 0 0, .slice none 0 0] 60
  replace hB := below_then hB BX
  replace UW := owns_below UW BX
  replace P := P.below BX
  replace VW := owns_below VW BX
  clear BX
  have hql := Q.1
  simp only [World.size_alloc] at hql
  obtain ⟨pl, p0, p1, p2⟩ := P.c3
  obtain ⟨ql, q0, q1, q2⟩ := Q.c3
  go_wp2_with fail
  refine (eqCluster_same _ _ _ _ _ _ R R [] [] [] _ (OC VW (show w1.heap.size + 1 ≤ w2.heap.size from hzw2) lV).cr (OC UW hzw1 lU).cr rfl rfl RS).mono ?_
  rintro e w3 ⟨rfl, hb⟩
  replace hB := below_then hB hb
  replace UW := owns_below UW hb
  replace P := P.below hb
  replace VW := owns_below VW hb
  replace Q := Q.below hb
  clear pl p0 p1 p2 ql q0 q1 q2
  have hz3 := hb.size
  simp only [World.size_alloc] at hz3
  clear hb
  have QO := OC VW (show w1.heap.size + 1 ≤ w2.heap.size from hzw2) lV
  clear VW
  obtain ⟨ql, q0, q1, q2⟩ := Q.c3
  go_wp2_with fail
  refine (markCluster_own _ _ _ R [] [] _ _ _ 1 _ QO RS (by omega) (by omega)).mono ?_
  rintro e w4 ⟨rfl, QM, hc⟩
  clear ql q0 q1 q2
  replace hB := hB.trans (hc.below (B := w.heap.size) (by omega) (fun b h => by omega))
  replace UW := hc.owns UW (fun b hb h => by have := gU b hb; have := lU b hb; omega)
  replace P := hc.box P (fun h => by omega)
  replace Q := hc.box Q (fun h => by omega)
  have hz4 := hc.size
  clear hc QO
  obtain ⟨U, HU⟩ : ∃ U : Nat, Hid (uC R [] [] = U) := ⟨uC R [] [], rfl⟩
  have hUl : U ≤ 42 := by rw [← HU.out]; exact RU
  have hk0 : ¬ (1 : Int) + (U : Nat) < 0 := by omega
  obtain ⟨ql, q0, q1, q2⟩ := Q.c3
  rw [HU.out]
  have KH := heldCluster_any _ _ _ R [] [] 1 _ QM.cr RS (by omega) (by omega)
  rw [HU.out] at KH
  go_wp2_with fail
  refine (KH).mono ?_
  rintro e w5 ⟨rfl, hb⟩
  replace hB := below_then hB hb
  replace UW := owns_below UW hb
  replace P := P.below hb
  replace Q := Q.below hb
  replace QM := QM.below hb
  clear ql q0 q1 q2
  clear hb KH
  go_wp2_with fail
  refine (I _).mono ?_
  rintro e w6 ⟨E1, rfl, YW, hb⟩
  replace hB := below_then hB hb
  replace UW := owns_below UW hb
  replace P := P.below hb
  replace Q := Q.below hb
  replace QM := QM.below hb
  have hzw6 := hb.size
  clear hb
  have gY := owns_ge YW
  have lY := owns_below_lt YW
  skip
  obtain ⟨Ea, Ec, h1⟩ := owns_shape YW
  subst h1
  have BX := below_alloc w6 (.cells #[.slice Ea R.length Ec, .slice none 0 0, .slice none 0 0] 60)
  have E := Box.new w6 #[.slice Ea R.length Ec, .slice none 0 0, .slice none 0 0] 60
  replace hB := below_then hB BX
  replace UW := owns_below UW BX
  replace P := P.below BX
  replace Q := Q.below BX
  replace QM := QM.below BX
  replace YW := owns_below YW BX
  clear BX
  clear I
  obtain ⟨pl, p0, p1, p2⟩ := P.c3
  obtain ⟨ql, q0, q1, q2⟩ := E.c3
  go_wp2_with fail
  refine (eqCluster_same _ _ _ _ _ _ R R [] [] [] _ (OC YW hzw6 lY).cr (OC UW hzw1 lU).cr rfl rfl RS).mono ?_
  rintro e w7 ⟨rfl, hb⟩
  replace hB := below_then hB hb
  replace UW := owns_below UW hb
  replace P := P.below hb
  replace Q := Q.below hb
  replace QM := QM.below hb
  replace YW := owns_below YW hb
  replace E := E.below hb
  clear pl p0 p1 p2 ql q0 q1 q2
  clear hb
  obtain ⟨ql, q0, q1, q2⟩ := Q.c3
  skip
  have KH := heldCluster_any _ _ _ R [] [] 1 _ QM.cr RS (by omega) (by omega)
  rw [HU.out] at KH
  go_wp2_with fail
  refine (KH).mono ?_
  rintro e w8 ⟨rfl, hb⟩
  replace hB := below_then hB hb
  replace UW := owns_below UW hb
  replace P := P.below hb
  replace Q := Q.below hb
  replace QM := QM.below hb
  replace YW := owns_below YW hb
  replace E := E.below hb
  clear ql q0 q1 q2
  clear hb KH
  clear P Q E UW YW QM
  go_wp2
  go_ret
  exact ⟨rfl, hB⟩
end Go.Proofs.Ytapfhhmimkkhnaa
