/-
  What all have committed: entries compared, the plain side, l12Common.
  What the laws of clusters that answer a row lean on.
-/
import Derived.Test.YtapfhhmimkkhnaaCG
import Derived.Test.YtapfhhmimkkhnaaA2ToA3
import Derived.Test.YtapfhhmimkkhnaaC1ToM1
import Derived.Test.YtapfhhmimkkhnaaQA
import Derived.Laws.StructEq
import Derived.Test.YtapfhhmimkkhnaaCIToCJ
import Derived.Test.YtapfhhmimkkhnaaCLToCM
namespace Go.Proofs.Ytapfhhmimkkhnaa
open Go.RowKit Go.Maps
set_option linter.unusedVariables false
set_option maxRecDepth 100000

theorem eqG34 : Try.prog.eqGuardType Try.prog.depth 34 = false := by kernel_rfl
theorem stood34 : Try.prog.stoodInHeld 34 = false := by kernel_rfl
theorem eqFields_nil (d : Nat) (xs ys : Array Value) (P : Program) (w : World) : (Op.eqFields d xs ys []).run P w = .ok true w := rfl
theorem eqFields_cons {d : Nat} {xs ys : Array Value} {f : Field} {fs : List Field} {P : Program} {w : World} {x y : Value} {r : Bool} (hn : f.name ≠ "_") (hx : (Go.part f.type xs f.offset).run P w = .ok x w) (hy : (Go.part f.type ys f.offset).run P w = .ok y w) (he : (Op.equalIn d f.type x y).run P w = .ok r w) :
    (Op.eqFields d xs ys (f :: fs)).run P w = if r = true then (Op.eqFields d xs ys fs).run P w else .ok false w := by
  rw [Op.eqFields, if_pos hn]
  simp only [Sem.run_bind, hx, hy, he, Result.andThen_ok]
  cases r <;> simp
def fT : Field := { name := "Term", type := 3, offset := 0, embedded := false, tag := "", pkgPath := "", byteOffset := 0 }
def fD : Field := { name := "Data", type := 9, offset := 1, embedded := false, tag := "", pkgPath := "", byteOffset := 8 }
theorem fields34 : Try.prog.fieldsOf 34 = #[fT, fD] := by unfold Program.fieldsOf; rw [Try.underlying34]; rfl
theorem part9 (xs : Array Value) (i : Nat) (x : Value) (w : World) (h : xs[i]? = some x) : (Go.part 9 xs i).run Try.prog w = .ok x w := by simp [Go.part, isAgg, run_underlying Try.underlying9, h]
theorem part3 (xs : Array Value) (i : Nat) (x : Value) (w : World) (h : xs[i]? = some x) : (Go.part 3 xs i).run Try.prog w = .ok x w := by simp [Go.part, isAgg, run_underlying Try.underlying3, h]
/-- Two entries are alike. -/
def enEq (a b : En) : Bool := (a.t == b.t) && (a.d.toList == b.d.toList)
theorem enEq_comm (a b : En) : enEq a b = enEq b a := by unfold enEq; rw [BEq.comm, BEq.comm (a := a.d.toList)]
theorem equalEnt (a b : En) (w : World) : (Op.equalIn (9999 + 1) 34 (.agg #[.int .i64 a.t, .string a.d]) (.agg #[.int .i64 b.t, .string b.d])).run Try.prog w = .ok (enEq a b) w := by
  have hu : Try.prog.underlying 34 = some (.struct (Try.prog.fieldsOf 34)) := by rw [fields34]; exact Try.underlying34
  rw [run_equalIn_struct w 9999 34 _ _ hu stood34, fields34]
  have h1 := eqFields_cons (d := 9999) (xs := #[.int .i64 a.t, .string a.d]) (ys := #[.int .i64 b.t, .string b.d]) (f := fT) (fs := [fD]) (x := .int .i64 a.t) (y := .int .i64 b.t) (by decide) (part3 _ 0 _ w rfl) (part3 _ 0 _ w rfl) (run_equalIn_int w 9998 3 .i64 .i64 _ _ Try.underlying3)
  have h2 := eqFields_cons (d := 9999) (xs := #[.int .i64 a.t, .string a.d]) (ys := #[.int .i64 b.t, .string b.d]) (f := fD) (fs := []) (x := .string a.d) (y := .string b.d) (by decide) (part9 _ 1 _ w rfl) (part9 _ 1 _ w rfl) (run_equalIn_string w 9998 9 _ _ Try.underlying9)
  show (Op.eqFields 9999 _ _ [fT, fD]).run Try.prog w = _
  rw [h1, h2, eqFields_nil]
  unfold enEq
  cases (a.t == b.t) <;> cases (a.d.toList == b.d.toList) <;> rfl
theorem eqEntV (a b : En) (w : World) : (binOp .eql 34 (.agg #[.int .i64 a.t, .string a.d]) (.agg #[.int .i64 b.t, .string b.d])).run Try.prog w = .ok (.bool (enEq a b)) w := by
  rw [run_eql_struct]
  show (Sem.run Try.prog (Op.equalIn (9999 + 1) 34 _ _) w).andThen _ = _
  rw [equalEnt]
  rfl
theorem neqEntV (a b : En) (w : World) : (binOp .neq 34 (.agg #[.int .i64 a.t, .string a.d]) (.agg #[.int .i64 b.t, .string b.d])).run Try.prog w = .ok (.bool (!enEq a b)) w := by
  rw [run_neq_struct]
  show (Sem.run Try.prog (Op.equalIn (9999 + 1) 34 _ _) w).andThen _ = _
  rw [equalEnt]
  rfl
/-- Both have an entry there, and it is the same. -/
def eqAt (a b : List En) (j : Nat) : Bool := if h : j < a.length ∧ j < b.length then enEq a[j] b[j] else false
theorem eqAt_lt {a b : List En} {j : Nat} (h1 : j < a.length) (h2 : j < b.length) : eqAt a b j = enEq a[j] b[j] := by unfold eqAt; rw [dif_pos ⟨h1, h2⟩]
theorem eqAt_ge {a b : List En} {j : Nat} (h : ¬ (j < a.length ∧ j < b.length)) : eqAt a b j = false := by unfold eqAt; rw [dif_neg h]
theorem eqAt_take (a b : List En) (m c j : Nat) (hm : m ≤ a.length) (hc : c ≤ b.length) : eqAt (a.take m) (b.take c) j = (decide (j < m) && decide (j < c) && eqAt a b j) := by
  by_cases h1 : j < m
  · by_cases h2 : j < c
    · rw [eqAt_lt (by simp; omega) (by simp; omega), eqAt_lt (by omega) (by omega)]
      simp [h1, h2]
    · rw [eqAt_ge (by simp; omega)]
      simp [h2]
  · rw [eqAt_ge (by simp; omega)]
    simp [h1]
def okN (L0 : List En) (x : Nd) (j : Nat) : Bool := decide ((j : Int) < x.co) && eqAt L0 x.log j
def IsCm (L0 : List En) (N : List Nd) (m : Nat) : Prop := (∀ j, j < m → ∀ i (h : i < N.length), okN L0 N[i] j = true) ∧ ∃ i, ∃ h : i < N.length, okN L0 N[i] m = false
theorem IsCm.one {L0 : List En} {N : List Nd} {m m' : Nat} (h : IsCm L0 N m) (h' : IsCm L0 N m') : m = m' := by
  obtain ⟨i, hi, e⟩ := h.2
  obtain ⟨i', hi', e'⟩ := h'.2
  by_cases h1 : m < m'
  · have := h'.1 m h1 i hi; rw [e] at this; cases this
  · by_cases h2 : m' < m
    · have := h.1 m' h2 i' hi'; rw [e'] at this; cases this
    · omega
open Classical in
/-- How many entries all have committed, the same. -/
noncomputable def cmM (L0 : List En) (N : List Nd) : Nat := if h : ∃ m, IsCm L0 N m then Classical.choose h else 0
theorem cmM_eq {L0 : List En} {N : List Nd} {m : Nat} (h : IsCm L0 N m) : cmM L0 N = m := by
  have he : ∃ m, IsCm L0 N m := ⟨m, h⟩
  unfold cmM
  rw [dif_pos he]
  exact (Classical.choose_spec he).one h
def log0 : List Nd → List En
  | [] => []
  | x :: _ => x.log
noncomputable def cmL (ok : Bool) (N : List Nd) : List En := if ok then (log0 N).take (cmM (log0 N) N) else []
/-- The slices of the nodes' logs are as they should be. -/
def CQ (N : List Nv) : Prop := ∀ i (h : i < N.length), Nn (.slice N[i].la N[i].n.log.length N[i].lc) ∧ N[i].n.log.length ≤ N[i].lc
theorem goodC_co {N : List Nv} {M : List Ms} {L : List Ld} (h : goodC (N.map Nv.n) M L = true) : 1 ≤ N.length ∧ N.length ≤ 7 ∧ ∀ i (hi : i < N.length), 0 ≤ N[i].n.co ∧ N[i].n.co ≤ (N[i].n.log.length : Int) ∧ N[i].n.log.length ≤ 60 := by
  unfold goodC at h
  simp only [List.length_map, Bool.and_eq_true, decide_eq_true_eq] at h
  refine ⟨h.1.1, h.1.2, fun i hi => ?_⟩
  have hn := of_decide_eq_true h.2.1
  have := hn i (by simpa using hi)
  simp only [ndOk, gNd, List.getElem_map, Bool.and_eq_true] at this
  exact ⟨(goodN_co this.1).1, (goodN_co this.1).2, (goodN_bounds this.1).2.2.2.2⟩
theorem below_drewN {B : Nat} {w w' : World} (h : Below B w w') (q : Nat) : Below B w (w'.drewN q) := by
  induction q with
  | zero => exact h
  | succ q ih => exact ih.drew

set_option maxHeartbeats 4000000 in
theorem l12Common_any (a : Option Addr) (cap : Nat) (a' : Option Addr) (cap' : Nat) (l l' : List En) (w : World) (hu : ER w (.slice a l.length cap) l) (hv : ER w (.slice a' l'.length cap') l') (hn : l.length ≤ 1048576) (hn' : l'.length ≤ 1048576) (hcap : l.length ≤ cap) :
    Calls Try.prog 106 #[.slice a l.length cap, .slice a' l'.length cap'] w fun e w' => ∃ m : Nat, e = .returned (.slice a m cap) ∧ m ≤ l.length ∧ (∀ j, j < m → eqAt l l' j = true) ∧ eqAt l l' m = false ∧ Below w.heap.size w w' := by
  obtain ⟨a1, c1, e1, hc⟩ := hu
  obtain ⟨a2, c2, e2, hc'⟩ := hv
  simp only [Value.slice.injEq, true_and] at e1 e2
  obtain ⟨rfl, rfl⟩ := e1
  obtain ⟨rfl, rfl⟩ := e2
  go_enter Try.func106, Try.ntmps106
  go_wp2
  go_loopw [5] (fun i wr => ∃ k : Nat, k ≤ l.length ∧ i = .int .i64 k ∧ (∀ j, j < k → eqAt l l' j = true) ∧ Below w.heap.size w wr) (fun i _ => l.length - (intOf i).toNat)
  case atStart => exact ⟨0, Nat.zero_le _, rfl, fun j h => absurd h (Nat.not_lt_zero j), Below.refl _ _⟩
  case round =>
    obtain ⟨k, hk, rfl, hall, hb⟩ := hrel
    have HS := fun W => sl_to a l.length cap k W (by omega)
    by_cases h1 : k < l.length
    rotate_left
    · have HE : Hid (eqAt l l' k = false) := eqAt_ge (by omega)
      have h1d : decide ((k : Int) < (l.length : Int)) = false := decide_eq_false (by omega)
      have HA : Hid (∀ j, j < k → eqAt l l' j = true) := hall
      clear hc hc' hall
      go_wp2_with fail
      go_quiet (fail)
      go_wp2_with (first | (refine wpList_sliceOp _ rfl 23 _ _ _ _ rfl _ (HS _) ?_; simp only [Act.put, List.setIfInBounds_toArray, List.set_cons_zero, List.set_cons_succ]))
      go_wp2
      go_ret
      exact ⟨k, rfl, hk, HA.out, HE.out, below_drewN hb _⟩
    have h1d : decide ((k : Int) < (l.length : Int)) = true := decide_eq_true (by omega)
    by_cases h2 : k < l'.length
    rotate_left
    · have HE : Hid (eqAt l l' k = false) := eqAt_ge (by omega)
      have h2d : decide ((k : Int) < (l'.length : Int)) = false := decide_eq_false (by omega)
      have HA : Hid (∀ j, j < k → eqAt l l' j = true) := hall
      clear hc hc' hall
      go_wp2_with fail
      go_quiet (fail)
      go_wp2_with (first | (refine wpList_sliceOp _ rfl 23 _ _ _ _ rfl _ (HS _) ?_; simp only [Act.put, List.setIfInBounds_toArray, List.set_cons_zero, List.set_cons_succ]))
      go_wp2
      go_ret
      exact ⟨k, rfl, hk, HA.out, HE.out, below_drewN hb _⟩
    have h2d : decide ((k : Int) < (l'.length : Int)) = true := decide_eq_true (by omega)
    obtain ⟨b, off, rfl, hbl, hcell⟩ := hc (by intro e; simp [e] at h1)
    obtain ⟨b', off', rfl, hbl', hcell'⟩ := hc' (by intro e; simp [e] at h2)
    have hc0 := (hb.cell (p := ⟨b, off + k * 2, none⟩) hbl).trans (hcell k h1).1
    have hc1 := (hb.cell (p := ⟨b, off + k * 2 + 1, none⟩) hbl).trans (hcell k h1).2
    have hd0 := (hb.cell (p := ⟨b', off' + k * 2, none⟩) hbl').trans (hcell' k h2).1
    have hd1 := (hb.cell (p := ⟨b', off' + k * 2 + 1, none⟩) hbl').trans (hcell' k h2).2
    have hz := hb.size
    have hbW : b < wr.heap.size := by omega
    have hbW' : b' < wr.heap.size := by omega
    have EV := fun w => eqEntV l[k] l'[k] w
    have EG := eqG34
    have HQ : Hid (eqAt l l' k = enEq l[k] l'[k]) := eqAt_lt h1 h2
    clear hcell hcell' hc hc'
    generalize l[k] = s at *
    generalize l'[k] = s' at *
    generalize enEq s s' = eb at *
    obtain ⟨st, sd⟩ := s
    obtain ⟨st', sd'⟩ := s'
    dsimp only at hc0 hc1 hd0 hd1 EV
    cases eb with
    | false =>
      have HA : Hid (∀ j, j < k → eqAt l l' j = true) := hall
      clear hall
      go_wp2_with fail
      go_quiet (fail)
      clear EV
      go_wp2_with (first | (refine wpList_sliceOp _ rfl 23 _ _ _ _ rfl _ (HS _) ?_; simp only [Act.put, List.setIfInBounds_toArray, List.set_cons_zero, List.set_cons_succ]))
      go_wp2
      go_ret
      exact ⟨k, rfl, hk, HA.out, HQ.out, below_drewN hb _⟩
    | true =>
      have HA : Hid (∀ j, j < k + 1 → eqAt l l' j = true) := fun j hj => by
        by_cases hjk : j < k
        · exact hall j hjk
        · obtain rfl : j = k := by omega
          exact HQ.out
      clear hall HS
      go_wp2_with fail
      go_quiet (fail)
      go_wp2
      go_roundw
      case rel => exact ⟨k + 1, by omega, by go_num, HA.out, below_drewN hb _⟩
      case measure => simp [intOf]; omega
end Go.Proofs.Ytapfhhmimkkhnaa

namespace Go.Proofs.Ytapfhhmimkkhnaa
open Go.RowKit
set_option linter.unusedVariables false
set_option maxRecDepth 100000

theorem sm_map {α β : Type} (f : α → β) (g : β → Nat) (l : List α) : sm (fun x => g (f x)) l = sm g (l.map f) := by
  induction l with
  | nil => rfl
  | cons x r ih => simp [sm, ih]
theorem sm_le2 {α : Type} (u t : α → Nat) (c d : Nat) (l : List α) (h : ∀ x, u x ≤ c + d * t x) : sm u l ≤ c * l.length + d * sm t l := by
  induction l with
  | nil => simp [sm]
  | cons x r ih =>
    have := h x
    simp only [sm, List.length_cons]
    rw [Nat.mul_add, Nat.mul_add]
    omega
theorem uC_le (N : List Nv) (M : List Mv) (L : List Ld) (h : sm tN N + N.length + sm tM M + M.length + L.length ≤ 1048576) : uC N M L ≤ 16777216 := by
  have h1 := sm_le2 uN tN 6 2 N (fun x => by simp only [uN, tN]; omega)
  have h2 := sm_le2 uM tM 8 2 M (fun x => by simp only [uM, tM]; omega)
  have h3 := sm_le2 uL (fun _ => 0) 2 0 L (fun x => by simp [uL])
  unfold uC
  omega
theorem ms_same {N N' : List Nv} {M M' : List Mv} {L : List Ld} (hn : N'.map Nv.n = N.map Nv.n) (hm : M'.map Mv.q = M.map Mv.q) (h : sm tN N + N.length + sm tM M + M.length + L.length ≤ 1048576) : uC N' M' L ≤ 16777216 := by
  have h0 := uC_le N M L h
  unfold uC at h0 ⊢
  have e1 : ∀ l : List Nv, sm uN l = sm (fun x : Nd => 6 + 2 * x.log.length + x.vs.length + x.mt.length) (l.map Nv.n) := fun l => sm_map Nv.n (fun x : Nd => 6 + 2 * x.log.length + x.vs.length + x.mt.length) l
  have e2 : ∀ l : List Mv, sm uM l = sm (fun x : Ms => 8 + 2 * x.es.length) (l.map Mv.q) := fun l => sm_map Mv.q (fun x : Ms => 8 + 2 * x.es.length) l
  rw [e1 N', e2 M', hn, hm, ← e1 N, ← e2 M]
  exact h0
theorem OwnC.cq {w : World} {lo mid hi : Nat} {vn vm vl : Value} {N : List Nv} {M : List Mv} {L : List Ld} (h : OwnC w lo mid hi vn vm vl N M L) : CQ N := fun i hi => by
  obtain ⟨_, _, q, _⟩ := h.cn.at i hi
  exact ⟨Nn.own (OwnN.l q), (owns_cap (OwnN.l q)).1⟩
theorem cmL_len (ok : Bool) (N : List Nv) (h : ∀ i (h : i < N.length), N[i].n.log.length ≤ 1048576) : (cmL ok (N.map Nv.n)).length ≤ 1048576 := by
  unfold cmL
  cases ok
  · simp
  · have : (log0 (N.map Nv.n)).length ≤ 1048576 := by
      cases N with
      | nil => simp [log0]
      | cons x r => have := h 0 (by simp); simpa [log0] using this
    simp
    omega
end Go.Proofs.Ytapfhhmimkkhnaa
