/-
  LeadersOf: the specification's side.
-/
import Derived.Test.YtapfhhmimkkhnaaQBToCU
import Derived.Test.YtapfhhmimkkhnaaA2ToA3
import Derived.Deep.Cut
namespace Go.Proofs.Ytapfhhmimkkhnaa
open Go.RowKit Go.Maps
set_option linter.unusedVariables false
set_option maxRecDepth 100000

set_option maxHeartbeats 32000000 in
theorem specLd_any (vn vm vl : Value) (N : List Nv) (M : List Mv) (L : List Ld) (w : World) (h : CR w vn vm vl N M L) (hs : CS N M L) :
    Calls Try.prog 42 #[.agg #[vn, vm, vl]] w fun e w' => ∃ u, e = .returned (.tuple #[u, .bool (goodC (N.map Nv.n) (M.map Mv.q) L)]) ∧ w'.ownsRow w.heap.size 116 2 u (ldR (goodC (N.map Nv.n) (M.map Mv.q) L) (N.map Nv.n)).length (flatL (ldR (goodC (N.map Nv.n) (M.map Mv.q) L) (N.map Nv.n))) ∧ Below w.heap.size w w' := by
  have K := specGoodC_any vn vm vl N M L _ (h.below (below_alloc w (.cells #[vn, vm, vl] 60))) hs
  obtain ⟨⟨na, nc, hcn⟩, ⟨xa, xc, hcm⟩, ya, yc, hcl⟩ := h.shapes
  subst hcn
  subst hcm
  subst hcl
  have hB := below_alloc w (.cells #[.slice na N.length nc, .slice xa M.length xc, .slice ya L.length yc] 60)
  have X := Box.new w #[.slice na N.length nc, .slice xa M.length xc, .slice ya L.length yc] 60
  have HEN := fun k (hk : k < N.length) W (hb : Below w.heap.size w W) => (h.ne k hk).below hb
  have HEM := fun k (hk : k < M.length) W (hb : Below w.heap.size w W) => (h.me k hk).below hb
  obtain ⟨a1, c1, e1, hcN⟩ := h.n
  obtain ⟨a2, c2, e2, hcM⟩ := h.m
  obtain ⟨a3, c3, e3, hcL⟩ := h.l
  simp only [Value.slice.injEq, true_and] at e1 e2 e3
  obtain ⟨rfl, rfl⟩ := e1
  obtain ⟨rfl, rfl⟩ := e2
  obtain ⟨rfl, rfl⟩ := e3
  have hNl := hs.n
  have hMl := hs.m
  have hLl := hs.l
  clear h
  have HG := fun (e : goodC (N.map Nv.n) (M.map Mv.q) L = true) => goodC_ld e
  clear hcM hcL HEM HEN hs
  generalize goodC (N.map Nv.n) (M.map Mv.q) L = ok at *
  cases ok with
  | false =>
    clear hcN HG
    show Calls Try.prog 42 _ w fun e w' => ∃ u, e = .returned (.tuple #[u, .bool false]) ∧ w'.ownsRow w.heap.size 116 2 u 0 (flatL []) ∧ Below w.heap.size w w'
    go_enter Try.func42, Try.ntmps42
    go_wp2_with fail
    refine K.mono ?_
    rintro e w1 ⟨rfl, hb⟩
    replace hB := below_then hB hb
    clear K hb X
    go_wp2
    go_ret2
    exact ⟨_, rfl, World.ownsRow_nil _ _ _ _, hB⟩
  | true =>
  obtain ⟨p1, p7, Hid1, Hte1⟩ := HG rfl
  have HID : Hid _ := Hid1
  have HTE : Hid _ := Hte1
  clear HG Hid1 Hte1
  obtain ⟨R, HR⟩ : ∃ R, Hid (ldR true (N.map Nv.n) = R) := ⟨ldR true (N.map Nv.n), rfl⟩
  rw [HR.out]
  have HRS : Hid (ldS (N.map Nv.n) 1000 = R) := by show _ = _; rw [← HR.out]; simp [ldR]
  clear HR
  have hml : (N.map Nv.n).length = N.length := List.length_map _
  have HAT := fun k (h : k < N.length) => hiT_at N k h
  generalize N.map Nv.n = Nn at *
  go_enter Try.func42, Try.ntmps42
  go_wp2_with fail
  refine K.mono ?_
  rintro e w1 ⟨rfl, hb⟩
  replace hB := below_then hB hb
  replace X := X.below hb
  clear K hb
  have hz1 := hB.size
  obtain ⟨hxl, x0, x1, x2⟩ := X.c3
  obtain ⟨b, off, rfl, hbl, hcell⟩ := hcN (by intro e; simp [e] at p1)
  clear hcN HID HTE
  go_wp2
  clear hxl x0 x1 x2
  go_loopw [4, 5] (fun z i wr => ∃ (t : Nat), t ≤ 1000 ∧ i = .int .i64 ((t : Int) + 1) ∧ wr.ownsRow w1.heap.size 116 2 z (ldS Nn t).length (flatL (ldS Nn t)) ∧ Below w1.heap.size w1 wr) (fun _ i _ => 1001 - (intOf i).toNat)
  case atStart => exact ⟨0, by omega, by simp, World.ownsRow_nil _ _ _ _, Below.refl _ _⟩
  case round =>
    obtain ⟨t, ht, rfl, hown, hb⟩ := hrel
    obtain ⟨za, zc, rfl⟩ := owns_shape hown
    by_cases htl : t < 1000
    rotate_left
    · obtain rfl : t = 1000 := by omega
      rw [HRS.out] at hown ⊢
      replace hown := owns_mono' hown hz1
      have hBe := below_then hB hb
      clear hcell HAT HRS hb hB X
      go_wp2
      go_ret2
      exact ⟨_, rfl, hown, hBe⟩
    have hti : (t : Int) + 1 ≤ 1000 := by omega
    obtain ⟨hxl, x0, x1, x2⟩ := (X.below hb).c3
    have hSl := ldS_len Nn t
    have HSl2 : (ldS Nn t).length ≤ 7000 := by rw [hml] at hSl; have := Nat.mul_le_mul ht p7; omega
    clear hSl
    go_wp2
    clear hxl x0 x1 x2
    go_loopw [4, 18] (fun z i wr => ∃ (k : Nat), k ≤ N.length ∧ i = .int .i64 k ∧ wr.ownsRow w1.heap.size 116 2 z (ldS Nn t ++ ldT Nn ((t + 1 : Nat) : Int) k).length (flatL (ldS Nn t ++ ldT Nn ((t + 1 : Nat) : Int) k)) ∧ Below w1.heap.size w1 wr) (fun _ i _ => N.length - (intOf i).toNat)
    case atStart => exact ⟨0, Nat.zero_le _, rfl, by simpa [ldT] using hown, hb⟩
    case round =>
      obtain ⟨k, hk, rfl, hown2, hbz⟩ := hrel
      clear hb hown
      have hown := hown2
      clear hown2
      obtain ⟨za, zc, rfl⟩ := owns_shape hown
      by_cases hlt : k < N.length
      rotate_left
      · have HE : Hid (ldS Nn t ++ ldT Nn ((t + 1 : Nat) : Int) k = ldS Nn (t + 1)) := by show _ = _; obtain rfl : k = N.length := (by omega); rw [← hml]; rfl
        rw [HE.out] at hown ⊢
        have HO : Hid (wr.ownsRow w1.heap.size 116 2 (.slice za (ldS Nn (t + 1)).length zc) (ldS Nn (t + 1)).length (flatL (ldS Nn (t + 1)))) := hown
        have hkn : ¬ (k : Int) < (N.length : Int) := by omega
        clear hcell HAT HRS hown HE HSl2
        go_wp2
        go_roundw
        case rel => exact ⟨t + 1, by omega, by go_num, HO.out, hbz⟩
        case measure => simp [intOf]; omega
      have hBr := below_then hB hbz
      obtain ⟨z0, z1, z2, z3, z4, z5, z6, z7, z8⟩ := hcell k hlt
      have hc0 := (hBr.cell (p := ⟨b, off + k * 9, none⟩) hbl).trans z0
      have hc1 := (hBr.cell (p := ⟨b, off + k * 9 + 1, none⟩) hbl).trans z1
      have hc2 := (hBr.cell (p := ⟨b, off + k * 9 + 2, none⟩) hbl).trans z2
      have hc3 := (hBr.cell (p := ⟨b, off + k * 9 + 3, none⟩) hbl).trans z3
      have hc4 := (hBr.cell (p := ⟨b, off + k * 9 + 4, none⟩) hbl).trans z4
      have hc5 := (hBr.cell (p := ⟨b, off + k * 9 + 5, none⟩) hbl).trans z5
      have hc6 := (hBr.cell (p := ⟨b, off + k * 9 + 6, none⟩) hbl).trans z6
      have hc7 := (hBr.cell (p := ⟨b, off + k * 9 + 7, none⟩) hbl).trans z7
      have hc8 := (hBr.cell (p := ⟨b, off + k * 9 + 8, none⟩) hbl).trans z8
      clear hBr z0 z1 z2 z3 z4 z5 z6 z7 z8
      have HST : Hid (ldT Nn ((t + 1 : Nat) : Int) (k + 1) = ldT Nn ((t + 1 : Nat) : Int) k ++ (if N[k].n.ro = 2 ∧ N[k].n.te = ((t + 1 : Nat) : Int) then [ldOf N[k].n] else [])) := by show _ = _; simp only [ldT]; rw [HAT k hlt]
      have hTl := ldT_len Nn ((t + 1 : Nat) : Int) k
      have hLl2 : (ldS Nn t ++ ldT Nn ((t + 1 : Nat) : Int) k).length ≤ 7007 := by rw [List.length_append]; omega
      have HREL : Hid (ldS Nn t ++ ldT Nn ((t + 1 : Nat) : Int) (k + 1) = (ldS Nn t ++ ldT Nn ((t + 1 : Nat) : Int) k) ++ (if N[k].n.ro = 2 ∧ N[k].n.te = ((t + 1 : Nat) : Int) then [ldOf N[k].n] else [])) := by show _ = _; rw [HST.out, ← List.append_assoc]
      clear HST hTl HAT HRS hcell HSl2
      generalize N[k] = s at *
      generalize ldS Nn t ++ ldT Nn ((t + 1 : Nat) : Int) k = TL at *
      generalize HT2 : ldS Nn t ++ ldT Nn ((t + 1 : Nat) : Int) (k + 1) = T2 at *
      have HT2h : Hid (ldS Nn t ++ ldT Nn ((t + 1 : Nat) : Int) (k + 1) = T2) := HT2
      clear HT2
      obtain ⟨⟨id, pe, te, vo, co, ro, log, vs, mt⟩, la, lc, va, vc, ma, mc⟩ := s
      dsimp only [ldOf] at hc0 hc1 hc2 hc3 hc4 hc5 hc6 hc7 hc8 HREL
      have BA := below_alloc wr (.cells #[.int .i64 id, .int .i64 pe, .int .i64 te, .int .i64 vo, .slice la log.length lc, .int .i64 co, .int .i64 ro, .slice va vs.length vc, .slice ma mt.length mc] 26)
      have X0 := Box.new wr #[.int .i64 id, .int .i64 pe, .int .i64 te, .int .i64 vo, .slice la log.length lc, .int .i64 co, .int .i64 ro, .slice va vs.length vc, .slice ma mt.length mc] 26
      replace hown := owns_below hown BA
      replace hbz := below_then hbz BA
      clear BA
      obtain ⟨W1, hW1⟩ : ∃ W1, W1 = wr.alloc (.cells #[.int .i64 id, .int .i64 pe, .int .i64 te, .int .i64 vo, .slice la log.length lc, .int .i64 co, .int .i64 ro, .slice va vs.length vc, .slice ma mt.length mc] 26) := ⟨_, rfl⟩
      rw [← hW1] at X0 hown hbz
      by_cases hr : ro = 2
      rotate_left
      · have HV : Hid (T2 = TL) := by show _ = _; rw [HREL.out, if_neg (fun h => hr h.1), List.append_nil]
        have hrb : (ro == 2) = false := by simp [hr]
        clear HREL X0
        have HO : Hid (W1.ownsRow w1.heap.size 116 2 (.slice za TL.length zc) TL.length (flatL TL)) := hown
        clear hown
        rw [hW1] at HO hbz
        clear hW1
        go_wp2
        go_roundw
        case rel => exact ⟨k + 1, by omega, by go_num, by rw [HT2h.out, HV.out]; exact HO.out, hbz⟩
        case measure => simp [intOf]; omega
      subst hr
      by_cases hte : te = (t : Int) + 1
      rotate_left
      · have HV : Hid (T2 = TL) := by show _ = _; rw [HREL.out, if_neg (fun h => hte (by have := h.2; simpa using this)), List.append_nil]
        have hteb : (te == (t : Int) + 1) = false := by simp [hte]
        clear HREL X0
        have HO : Hid (W1.ownsRow w1.heap.size 116 2 (.slice za TL.length zc) TL.length (flatL TL)) := hown
        clear hown
        rw [hW1] at HO hbz
        clear hW1
        go_wp2
        go_roundw
        case rel => exact ⟨k + 1, by omega, by go_num, by rw [HT2h.out, HV.out]; exact HO.out, hbz⟩
        case measure => simp [intOf]; omega
      have HV : Hid (T2 = TL ++ [⟨te, id⟩]) := by show _ = _; rw [HREL.out, if_pos ⟨rfl, by simpa using hte⟩]
      subst hte
      clear HREL
      obtain ⟨hx0, v0, v1, v2, v3, v4, v5, v6, v7, v8⟩ := X0.e9
      go_upto_region 11 with fail
      rw [← hW1]
      clear hW1 X0
      have BA := below_alloc W1 (.cells #[.int .i64 ((t : Int) + 1), .int .i64 id] 116)
      have NB := Box.new W1 #[.int .i64 ((t : Int) + 1), .int .i64 id] 116
      have o2 := owns_below hown BA
      have hz2 := hbz.size
      replace hbz := below_then hbz BA
      clear BA hown
      go_wp2_with (at_builtin; refine wpList_append_ld _ rfl _ _ rfl rfl w1.heap.size _ TL.length TL rfl o2 W1.heap.size ⟨((t : Int) + 1), id⟩ rfl NB (by omega) (by simp; omega) ?_; intro v' w' hown hgr; refine StopA.go ?_)
      replace hbz := hbz.grown hgr (by simp; omega) (fun q hq => owns_ge o2 q hq)
      clear hgr o2 NB v0 v1 v2 v3 v4 v5 v6 v7 v8 hx0
      obtain ⟨va', vc', rfl⟩ := owns_shape hown
      unfold StopA
      have HO : Hid (w'.ownsRow w1.heap.size 116 2 (.slice va' (TL.length + 1) vc') (TL.length + 1) (flatL (TL ++ [⟨(t : Int) + 1, id⟩]))) := hown
      clear hown
      go_wp2
      go_roundw
      case rel => exact ⟨k + 1, by omega, by go_num, by rw [HT2h.out, HV.out, List.length_append]; exact HO.out, hbz⟩
      case measure => simp [intOf]; omega
end Go.Proofs.Ytapfhhmimkkhnaa
