/-
  The walk of FnExactNewCluster.
  HighestTerm: both sides.
-/
import Derived.Test.YtapfhhmimkkhnaaCO
import Derived.Test.YtapfhhmimkkhnaaCIToCJ
import Derived.Test.YtapfhhmimkkhnaaCG
namespace Go.Proofs.Ytapfhhmimkkhnaa
open Go.RowKit
set_option linter.unusedVariables false
set_option maxRecDepth 100000

theorem ncN_at (ok : Bool) (p : Int) (i : Nat) (h : i < (ncN ok p).length) : ∃ k : Int, (ncN ok p)[i] = ⟨newN k p, none, 0, none, 0, none, 0⟩ := by
  unfold ncN at h ⊢
  cases ok
  · simp at h
  · simp only [if_true] at h ⊢
    exact ⟨i, newNs_at p p.toNat i h⟩
theorem ncN_len (p : Int) : (ncN (inB p 1 7) p).length ≤ 7 := by
  unfold ncN
  split
  · rename_i h; simp [inB] at h; rw [newNs_length]; omega
  · simp
theorem ncN_cs (p : Int) : CS (ncN (inB p 1 7) p) [] [] := by
  have hl := ncN_len p
  refine ⟨by omega, by simp, by simp, fun i hi => ?_, fun i hi => by simp at hi, fun i hi j hj => ?_, fun i hi => by simp at hi⟩
  · obtain ⟨k, e⟩ := ncN_at _ p i hi; rw [e]; simp [newN]
  · obtain ⟨k, e⟩ := ncN_at _ p i hi; simp only [e] at hj; simp [newN] at hj
theorem sm_const {α : Type} (u : α → Nat) (c : Nat) (l : List α) (h : ∀ i (h : i < l.length), u l[i] ≤ c) : sm u l ≤ c * l.length := by
  induction l with
  | nil => simp [sm]
  | cons x r ih =>
    have h0 := h 0 (by simp)
    have h1 := ih fun i hi => by have := h (i + 1) (by simpa using hi); simpa using this
    simp only [sm, List.length_cons, List.getElem_cons_zero] at *
    rw [Nat.mul_add]
    omega
theorem ncN_u (p : Int) : uC (ncN (inB p 1 7) p) [] [] ≤ 42 := by
  have hl := ncN_len p
  have := sm_const uN 6 (ncN (inB p 1 7) p) fun i hi => by obtain ⟨k, e⟩ := ncN_at _ p i hi; rw [e]; simp [uN, newN]
  simp only [uC, sm]
  omega
theorem ownC_nc (ok : Bool) (p : Int) {w : World} {lo hi : Nat} {u : Value} (h : w.ownsRow lo 26 9 u (ncN ok p).length (flatN (ncN ok p))) (hl : lo ≤ hi) (hb : ∀ b, u.ownBlock = some b → b < hi) : OwnC w lo hi hi u (.slice none 0 0) (.slice none 0 0) (ncN ok p) [] [] := by
  refine ⟨h, World.ownsRow_nil _ _ _ _, World.ownsRow_nil _ _ _ _, ⟨fun _ => lo, Nat.le_refl _, hl, fun i hi' => ⟨Nat.le_refl _, ?_, ?_⟩⟩, Chain.nil (Nat.le_refl _), hb, fun b hb => by simp [Value.ownBlock] at hb, fun b hb => by simp [Value.ownBlock] at hb⟩
  · obtain ⟨k, e⟩ := ncN_at ok p i hi'
    rw [e]
    exact OwnN.nil _ _
  · obtain ⟨k, e⟩ := ncN_at ok p i hi'
    rw [e]
    rintro b (hb | hb | hb) <;> simp [Value.ownBlock] at hb
set_option maxHeartbeats 16000000 in
theorem lawNewCluster (p : Int) (w : World) :
    Calls Try.prog 5 #[.int .i64 p] w fun e w' => e = .returned (.bool true) ∧ Below w.heap.size w w' := by
  have S := fun W => specNewC_any p W
  have I := fun W => implNewC_any p W
  have RS := ncN_cs p
  have RU := ncN_u p
  have OC := fun {w : World} {lo hi : Nat} {u : Value} => ownC_nc (inB p 1 7) p (w := w) (lo := lo) (hi := hi) (u := u)
  generalize ncN (inB p 1 7) p = R at *
  generalize inB p 1 7 = ok at *
  have NBo := fun W => run_neq_bool_same W ok
  have hB := Below.refl w.heap.size w
  go_enter Try.func5, Try.ntmps5
  go_wp2_with fail
  refine (S _).mono ?_
  rintro e w1 ⟨P1, rfl, UW, hb⟩
  replace hB := below_then hB hb
  have hzw1 := hb.size
  clear hb
  have gU := owns_ge UW
  have lU := owns_below_lt UW
  skip
  obtain ⟨Pa, Pc, h1⟩ := owns_shape UW
  subst h1
  have BX := below_alloc w1 (.cells #[.slice Pa R.length Pc, .slice none 0 0, .slice none 0 0] 60)
  have P := Box.new w1 #[.slice Pa R.length Pc, .slice none 0 0, .slice none 0 0] 60
  replace hB := below_then hB BX
  replace UW := owns_below UW BX
  clear BX
  have hpl := P.1
  simp only [World.size_alloc] at hpl
  clear S
  go_wp2_with fail
  refine (I _).mono ?_
  rintro e w2 ⟨Q1, rfl, VW, hb⟩
  replace hB := below_then hB hb
  replace UW := owns_below UW hb
  replace P := P.below hb
  have hzw2 := hb.size
  clear hb
  simp only [World.size_alloc] at VW hzw2
  have gV := owns_ge VW
  have lV := owns_below_lt VW
  skip
  obtain ⟨Qa, Qc, h1⟩ := owns_shape VW
  subst h1
  have BX := below_alloc w2 (.cells #[.slice Qa R.length Qc, .slice none 0 0, .slice none 0 0] 60)
  have Q := Box.new w2 #[.slice Qa R.length Qc, .slice none 0 0, .slice none 0 0] 60
  replace hB := below_then hB BX
  replace UW := owns_below UW BX
  replace P := P.below BX
  replace VW := owns_below VW BX
  clear BX
  have hql := Q.1
  simp only [World.size_alloc] at hql
  obtain ⟨pl, p0, p1, p2⟩ := P.c3
  obtain ⟨ql, q0, q1, q2⟩ := Q.c3
  go_wp2_with fail
  refine (eqCluster_same _ _ _ _ _ _ R R [] [] [] _ (OC VW (show w1.heap.size + 1 ≤ w2.heap.size from hzw2) lV).cr (OC UW hzw1 lU).cr rfl rfl RS).mono ?_
  rintro e w3 ⟨rfl, hb⟩
  replace hB := below_then hB hb
  replace UW := owns_below UW hb
  replace P := P.below hb
  replace VW := owns_below VW hb
  replace Q := Q.below hb
  clear pl p0 p1 p2 ql q0 q1 q2
  have hz3 := hb.size
  simp only [World.size_alloc] at hz3
  clear hb
  have QO := OC VW (show w1.heap.size + 1 ≤ w2.heap.size from hzw2) lV
  clear VW
  obtain ⟨ql, q0, q1, q2⟩ := Q.c3
  go_wp2_with fail
  refine (markCluster_own _ _ _ R [] [] _ _ _ 1 _ QO RS (by omega) (by omega)).mono ?_
  rintro e w4 ⟨rfl, QM, hc⟩
  clear ql q0 q1 q2
  replace hB := hB.trans (hc.below (B := w.heap.size) (by omega) (fun b h => by omega))
  replace UW := hc.owns UW (fun b hb h => by have := gU b hb; have := lU b hb; omega)
  replace P := hc.box P (fun h => by omega)
  replace Q := hc.box Q (fun h => by omega)
  have hz4 := hc.size
  clear hc QO
  obtain ⟨U, HU⟩ : ∃ U : Nat, Hid (uC R [] [] = U) := ⟨uC R [] [], rfl⟩
  have hUl : U ≤ 42 := by rw [← HU.out]; exact RU
  have hk0 : ¬ (1 : Int) + (U : Nat) < 0 := by omega
  obtain ⟨ql, q0, q1, q2⟩ := Q.c3
  rw [HU.out]
  have KH := heldCluster_any _ _ _ R [] [] 1 _ QM.cr RS (by omega) (by omega)
  rw [HU.out] at KH
  go_wp2_with fail
  refine (KH).mono ?_
  rintro e w5 ⟨rfl, hb⟩
  replace hB := below_then hB hb
  replace UW := owns_below UW hb
  replace P := P.below hb
  replace Q := Q.below hb
  replace QM := QM.below hb
  clear ql q0 q1 q2
  clear hb KH
  go_wp2_with fail
  refine (I _).mono ?_
  rintro e w6 ⟨E1, rfl, YW, hb⟩
  replace hB := below_then hB hb
  replace UW := owns_below UW hb
  replace P := P.below hb
  replace Q := Q.below hb
  replace QM := QM.below hb
  have hzw6 := hb.size
  clear hb
  have gY := owns_ge YW
  have lY := owns_below_lt YW
  skip
  obtain ⟨Ea, Ec, h1⟩ := owns_shape YW
  subst h1
  have BX := below_alloc w6 (.cells #[.slice Ea R.length Ec, .slice none 0 0, .slice none 0 0] 60)
  have E := Box.new w6 #[.slice Ea R.length Ec, .slice none 0 0, .slice none 0 0] 60
  replace hB := below_then hB BX
  replace UW := owns_below UW BX
  replace P := P.below BX
  replace Q := Q.below BX
  replace QM := QM.below BX
  replace YW := owns_below YW BX
  clear BX
  clear I
  obtain ⟨pl, p0, p1, p2⟩ := P.c3
  obtain ⟨ql, q0, q1, q2⟩ := E.c3
  go_wp2_with fail
  refine (eqCluster_same _ _ _ _ _ _ R R [] [] [] _ (OC YW hzw6 lY).cr (OC UW hzw1 lU).cr rfl rfl RS).mono ?_
  rintro e w7 ⟨rfl, hb⟩
  replace hB := below_then hB hb
  replace UW := owns_below UW hb
  replace P := P.below hb
  replace Q := Q.below hb
  replace QM := QM.below hb
  replace YW := owns_below YW hb
  replace E := E.below hb
  clear pl p0 p1 p2 ql q0 q1 q2
  clear hb
  obtain ⟨ql, q0, q1, q2⟩ := Q.c3
  skip
  have KH := heldCluster_any _ _ _ R [] [] 1 _ QM.cr RS (by omega) (by omega)
  rw [HU.out] at KH
  go_wp2_with fail
  refine (KH).mono ?_
  rintro e w8 ⟨rfl, hb⟩
  replace hB := below_then hB hb
  replace UW := owns_below UW hb
  replace P := P.below hb
  replace Q := Q.below hb
  replace QM := QM.below hb
  replace YW := owns_below YW hb
  replace E := E.below hb
  clear ql q0 q1 q2
  clear hb KH
  clear P Q E UW YW QM
  go_wp2
  go_ret
  exact ⟨rfl, hB⟩
end Go.Proofs.Ytapfhhmimkkhnaa

namespace Go.Proofs.Ytapfhhmimkkhnaa
open Go.RowKit Go.Maps
set_option linter.unusedVariables false
set_option maxRecDepth 100000

/-- The greatest term of the first k. -/
def hiT (N : List Nd) : Nat → Int
  | 0 => 0
  | k + 1 => if hiT N k < (N.getD k Nd.zero).te then (N.getD k Nd.zero).te else hiT N k
def hiR (ok : Bool) (N : List Nd) : Int := if ok then hiT N N.length else 0
theorem hiT_at (N : List Nv) (k : Nat) (h : k < N.length) : (N.map Nv.n).getD k Nd.zero = N[k].n := by simp [List.getD, h]

set_option maxHeartbeats 16000000 in
theorem specHi_any (vn vm vl : Value) (N : List Nv) (M : List Mv) (L : List Ld) (w : World) (h : CR w vn vm vl N M L) (hs : CS N M L) :
    Calls Try.prog 52 #[.agg #[vn, vm, vl]] w fun e w' => e = .returned (.tuple #[.int .i64 (hiR (goodC (N.map Nv.n) (M.map Mv.q) L) (N.map Nv.n)), .bool (goodC (N.map Nv.n) (M.map Mv.q) L)]) ∧ Below w.heap.size w w' := by
  have K := specGoodC_any vn vm vl N M L _ (h.below (below_alloc w (.cells #[vn, vm, vl] 60))) hs
  obtain ⟨⟨na, nc, hcn⟩, ⟨xa, xc, hcm⟩, ya, yc, hcl⟩ := h.shapes
  subst hcn
  subst hcm
  subst hcl
  have hB := below_alloc w (.cells #[.slice na N.length nc, .slice xa M.length xc, .slice ya L.length yc] 60)
  have X := Box.new w #[.slice na N.length nc, .slice xa M.length xc, .slice ya L.length yc] 60
  have HEN := fun k (hk : k < N.length) W (hb : Below w.heap.size w W) => (h.ne k hk).below hb
  have HEM := fun k (hk : k < M.length) W (hb : Below w.heap.size w W) => (h.me k hk).below hb
  obtain ⟨a1, c1, e1, hcN⟩ := h.n
  obtain ⟨a2, c2, e2, hcM⟩ := h.m
  obtain ⟨a3, c3, e3, hcL⟩ := h.l
  simp only [Value.slice.injEq, true_and] at e1 e2 e3
  obtain ⟨rfl, rfl⟩ := e1
  obtain ⟨rfl, rfl⟩ := e2
  obtain ⟨rfl, rfl⟩ := e3
  have hNl := hs.n
  have hMl := hs.m
  have hLl := hs.l
  clear h
  clear hcM hcL HEM HEN hs
  generalize goodC (N.map Nv.n) (M.map Mv.q) L = ok at *
  cases ok with
  | false =>
    clear hcN
    show Calls Try.prog 52 _ w fun e w' => e = .returned (.tuple #[.int .i64 0, .bool false]) ∧ Below w.heap.size w w'
    go_enter Try.func52, Try.ntmps52
    go_wp2_with fail
    refine K.mono ?_
    rintro e w1 ⟨rfl, hb⟩
    replace hB := below_then hB hb
    clear K hb
    go_wp2
    exact bodyPost_ret (v := .tuple #[.int .i64 0, .bool false]) (by simp [results, Try.results52, go_sem]) rfl ⟨rfl, hB⟩
  | true =>
  obtain ⟨R, HR⟩ : ∃ R, Hid (hiR true (N.map Nv.n) = R) := ⟨hiR true (N.map Nv.n), rfl⟩
  rw [HR.out]
  have HE : Hid (hiT (N.map Nv.n) N.length = R) := by show _ = _; rw [← HR.out]; simp [hiR]
  clear HR
  go_enter Try.func52, Try.ntmps52
  go_wp2_with fail
  refine K.mono ?_
  rintro e w1 ⟨rfl, hb⟩
  replace hB := below_then hB hb
  replace X := X.below hb
  clear K hb
  obtain ⟨hxl, x0, x1, x2⟩ := X.c3
  go_wp2
  clear hxl x0 x1 x2 X
  go_loopw [4, 13] (fun t i wr => ∃ k : Nat, k ≤ N.length ∧ i = .int .i64 k ∧ t = .int .i64 (hiT (N.map Nv.n) k) ∧ Below w.heap.size w wr) (fun _ i _ => N.length - (intOf i).toNat)
  case atStart => exact ⟨0, Nat.zero_le _, rfl, rfl, hB⟩
  case round =>
    obtain ⟨k, hk, rfl, rfl, hb⟩ := hrel
    clear hB
    by_cases hlt : k < N.length
    · obtain ⟨b, off, rfl, hbl, hcell⟩ := hcN (by intro e; simp [e] at hlt)
      obtain ⟨z0, z1, z2, z3, z4, z5, z6, z7, z8⟩ := hcell k hlt
      have hc0 := (hb.cell (p := ⟨b, off + k * 9, none⟩) hbl).trans z0
      have hc1 := (hb.cell (p := ⟨b, off + k * 9 + 1, none⟩) hbl).trans z1
      have hc2 := (hb.cell (p := ⟨b, off + k * 9 + 2, none⟩) hbl).trans z2
      have hc3 := (hb.cell (p := ⟨b, off + k * 9 + 3, none⟩) hbl).trans z3
      have hc4 := (hb.cell (p := ⟨b, off + k * 9 + 4, none⟩) hbl).trans z4
      have hc5 := (hb.cell (p := ⟨b, off + k * 9 + 5, none⟩) hbl).trans z5
      have hc6 := (hb.cell (p := ⟨b, off + k * 9 + 6, none⟩) hbl).trans z6
      have hc7 := (hb.cell (p := ⟨b, off + k * 9 + 7, none⟩) hbl).trans z7
      have hc8 := (hb.cell (p := ⟨b, off + k * 9 + 8, none⟩) hbl).trans z8
      have HH : Hid (hiT (N.map Nv.n) (k + 1) = if hiT (N.map Nv.n) k < N[k].n.te then N[k].n.te else hiT (N.map Nv.n) k) := by show _ = _; simp only [hiT]; rw [hiT_at N k hlt]
      clear hcell hcN HE z0 z1 z2 z3 z4 z5 z6 z7 z8
      generalize N[k] = s at *
      generalize hiT (N.map Nv.n) k = z at *
      obtain ⟨⟨id, pe, te, vo, co, ro, log, vs, mt⟩, la, lc, va, vc, ma, mc⟩ := s
      dsimp only at hc0 hc1 hc2 hc3 hc4 hc5 hc6 hc7 hc8 HH
      have hz := hb.size
      have hB0 := hb.alloc hz (.cells #[.int .i64 id, .int .i64 pe, .int .i64 te, .int .i64 vo, .slice la log.length lc, .int .i64 co, .int .i64 ro, .slice va vs.length vc, .slice ma mt.length mc] 26)
      clear hb
      by_cases hlt2 : z < te
      · have HV : Hid (hiT (N.map Nv.n) (k + 1) = te) := by show _ = _; rw [HH.out, if_pos hlt2]
        clear HH
        go_wp2
        go_roundw
        case rel => exact ⟨k + 1, by omega, by go_num, by rw [HV.out], hB0⟩
        case measure => simp [intOf]; omega
      · have HV : Hid (hiT (N.map Nv.n) (k + 1) = z) := by show _ = _; rw [HH.out, if_neg hlt2]
        clear HH
        go_wp2
        go_roundw
        case rel => exact ⟨k + 1, by omega, by go_num, by rw [HV.out], hB0⟩
        case measure => simp [intOf]; omega
    · obtain rfl : k = N.length := by omega
      have HV := HE.out
      clear hcN HE
      rw [HV]
      go_wp2
      exact bodyPost_ret (v := .tuple #[.int .i64 R, .bool true]) (by simp [results, Try.results52, go_sem]) rfl ⟨rfl, hb⟩

set_option maxHeartbeats 16000000 in
theorem implHi_any (vn vm vl : Value) (N : List Nv) (M : List Mv) (L : List Ld) (w : World) (h : CR w vn vm vl N M L) (hs : CS N M L) :
    Calls Try.prog 53 #[.agg #[vn, vm, vl]] w fun e w' => e = .returned (.tuple #[.int .i64 (hiR (goodC (N.map Nv.n) (M.map Mv.q) L) (N.map Nv.n)), .bool (goodC (N.map Nv.n) (M.map Mv.q) L)]) ∧ Below w.heap.size w w' := by
  have K := implGoodC_any vn vm vl N M L _ (h.below (below_alloc w (.cells #[vn, vm, vl] 60))) hs
  obtain ⟨⟨na, nc, hcn⟩, ⟨xa, xc, hcm⟩, ya, yc, hcl⟩ := h.shapes
  subst hcn
  subst hcm
  subst hcl
  have hB := below_alloc w (.cells #[.slice na N.length nc, .slice xa M.length xc, .slice ya L.length yc] 60)
  have X := Box.new w #[.slice na N.length nc, .slice xa M.length xc, .slice ya L.length yc] 60
  have HEN := fun k (hk : k < N.length) W (hb : Below w.heap.size w W) => (h.ne k hk).below hb
  have HEM := fun k (hk : k < M.length) W (hb : Below w.heap.size w W) => (h.me k hk).below hb
  obtain ⟨a1, c1, e1, hcN⟩ := h.n
  obtain ⟨a2, c2, e2, hcM⟩ := h.m
  obtain ⟨a3, c3, e3, hcL⟩ := h.l
  simp only [Value.slice.injEq, true_and] at e1 e2 e3
  obtain ⟨rfl, rfl⟩ := e1
  obtain ⟨rfl, rfl⟩ := e2
  obtain ⟨rfl, rfl⟩ := e3
  have hNl := hs.n
  have hMl := hs.m
  have hLl := hs.l
  clear h
  clear hcM hcL HEM HEN hs
  generalize goodC (N.map Nv.n) (M.map Mv.q) L = ok at *
  cases ok with
  | false =>
    clear hcN
    show Calls Try.prog 53 _ w fun e w' => e = .returned (.tuple #[.int .i64 0, .bool false]) ∧ Below w.heap.size w w'
    go_enter Try.func53, Try.ntmps53
    go_wp2_with fail
    refine K.mono ?_
    rintro e w1 ⟨rfl, hb⟩
    replace hB := below_then hB hb
    clear K hb
    go_wp2
    exact bodyPost_ret (v := .tuple #[.int .i64 0, .bool false]) (by simp [results, Try.results53, go_sem]) rfl ⟨rfl, hB⟩
  | true =>
  obtain ⟨R, HR⟩ : ∃ R, Hid (hiR true (N.map Nv.n) = R) := ⟨hiR true (N.map Nv.n), rfl⟩
  rw [HR.out]
  have HE : Hid (hiT (N.map Nv.n) N.length = R) := by show _ = _; rw [← HR.out]; simp [hiR]
  clear HR
  go_enter Try.func53, Try.ntmps53
  go_wp2_with fail
  refine K.mono ?_
  rintro e w1 ⟨rfl, hb⟩
  replace hB := below_then hB hb
  replace X := X.below hb
  clear K hb
  obtain ⟨hxl, x0, x1, x2⟩ := X.c3
  go_wp2
  clear hxl x0 x1 x2 X
  go_loopw [4, 13] (fun t i wr => ∃ k : Nat, k ≤ N.length ∧ i = .int .i64 k ∧ t = .int .i64 (hiT (N.map Nv.n) k) ∧ Below w.heap.size w wr) (fun _ i _ => N.length - (intOf i).toNat)
  case atStart => exact ⟨0, Nat.zero_le _, rfl, rfl, hB⟩
  case round =>
    obtain ⟨k, hk, rfl, rfl, hb⟩ := hrel
    clear hB
    by_cases hlt : k < N.length
    · obtain ⟨b, off, rfl, hbl, hcell⟩ := hcN (by intro e; simp [e] at hlt)
      obtain ⟨z0, z1, z2, z3, z4, z5, z6, z7, z8⟩ := hcell k hlt
      have hc0 := (hb.cell (p := ⟨b, off + k * 9, none⟩) hbl).trans z0
      have hc1 := (hb.cell (p := ⟨b, off + k * 9 + 1, none⟩) hbl).trans z1
      have hc2 := (hb.cell (p := ⟨b, off + k * 9 + 2, none⟩) hbl).trans z2
      have hc3 := (hb.cell (p := ⟨b, off + k * 9 + 3, none⟩) hbl).trans z3
      have hc4 := (hb.cell (p := ⟨b, off + k * 9 + 4, none⟩) hbl).trans z4
      have hc5 := (hb.cell (p := ⟨b, off + k * 9 + 5, none⟩) hbl).trans z5
      have hc6 := (hb.cell (p := ⟨b, off + k * 9 + 6, none⟩) hbl).trans z6
      have hc7 := (hb.cell (p := ⟨b, off + k * 9 + 7, none⟩) hbl).trans z7
      have hc8 := (hb.cell (p := ⟨b, off + k * 9 + 8, none⟩) hbl).trans z8
      have HH : Hid (hiT (N.map Nv.n) (k + 1) = if hiT (N.map Nv.n) k < N[k].n.te then N[k].n.te else hiT (N.map Nv.n) k) := by show _ = _; simp only [hiT]; rw [hiT_at N k hlt]
      clear hcell hcN HE z0 z1 z2 z3 z4 z5 z6 z7 z8
      generalize N[k] = s at *
      generalize hiT (N.map Nv.n) k = z at *
      obtain ⟨⟨id, pe, te, vo, co, ro, log, vs, mt⟩, la, lc, va, vc, ma, mc⟩ := s
      dsimp only at hc0 hc1 hc2 hc3 hc4 hc5 hc6 hc7 hc8 HH
      have hz := hb.size
      have hB0 := hb.alloc hz (.cells #[.int .i64 id, .int .i64 pe, .int .i64 te, .int .i64 vo, .slice la log.length lc, .int .i64 co, .int .i64 ro, .slice va vs.length vc, .slice ma mt.length mc] 26)
      clear hb
      by_cases hlt2 : z < te
      · have HV : Hid (hiT (N.map Nv.n) (k + 1) = te) := by show _ = _; rw [HH.out, if_pos hlt2]
        clear HH
        go_wp2
        go_roundw
        case rel => exact ⟨k + 1, by omega, by go_num, by rw [HV.out], hB0⟩
        case measure => simp [intOf]; omega
      · have HV : Hid (hiT (N.map Nv.n) (k + 1) = z) := by show _ = _; rw [HH.out, if_neg hlt2]
        clear HH
        go_wp2
        go_roundw
        case rel => exact ⟨k + 1, by omega, by go_num, by rw [HV.out], hB0⟩
        case measure => simp [intOf]; omega
    · obtain rfl : k = N.length := by omega
      have HV := HE.out
      clear hcN HE
      rw [HV]
      go_wp2
      exact bodyPost_ret (v := .tuple #[.int .i64 R, .bool true]) (by simp [results, Try.results53, go_sem]) rfl ⟨rfl, hb⟩
end Go.Proofs.Ytapfhhmimkkhnaa
