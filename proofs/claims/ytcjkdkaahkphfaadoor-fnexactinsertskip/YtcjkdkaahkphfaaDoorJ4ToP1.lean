/-
  The first that is not less: impl.seek, spec.l4First on a good list.
  impl.has.
-/
import Derived.Test.YtcjkdkaahkphfaaDoorJ3
import Derived.Test.YtcjkdkaahkphfaaDoorH1ToO1
namespace Go.Proofs.YtcjkdkaahkphfaaDoor
open Go.RowKit
set_option linter.unusedVariables false
set_option maxRecDepth 100000

/-- The number of the first that is not less, or -1. -/
def skN (hs : List Int) (ts : List Tw) (t : Tw) : Int := NX hs ts (SkS hs ts t 5).1 0

set_option maxHeartbeats 4000000 in
theorem linksFrom_fix (x y : Value) (hs : List Int) (ts : List Tw) (a : Int) (lv : Nat) (w : World) (hx : IL w x hs) (hy : TW w y ts) (h5 : hs.length = 5) (hl : lv < 5) (hn : ts.length ≤ 60) (ha : a = -1 ∨ okAt ts lv a) :
    ∃ b off n c, lv < n ∧ b < w.heap.size ∧ w.cell? ⟨b, off + lv, none⟩ = some (.int .i64 (NX hs ts a lv)) ∧ ∀ w', Below w.heap.size w w' →
      Calls Tryd.prog 55 #[.agg #[x, y], .int .i64 a] w' fun e w'' => e = .returned (.slice (some ⟨b, off, none⟩) n c) ∧ Below w'.heap.size w' w'' := by
  rcases ha with rfl | ⟨a0, a1, a2⟩
  · rw [NX_head]
    obtain ⟨ax, cx, rfl, hcx⟩ := hx
    obtain ⟨bx, ox, rfl, hbx, hcell⟩ := hcx (by intro e; simp [e] at h5)
    have c0 := hcell lv (by omega)
    rw [show hs[lv] = hs.getD lv 0 from by simp [List.getD, h5, hl]] at c0
    clear hcell hcx
    rw [h5]
    refine ⟨bx, ox, 5, cx, hl, hbx, c0, fun w' hb => ?_⟩
    go_enter Tryd.func55, Tryd.ntmps55
    go_wp2
    go_ret
    exact ⟨rfl, below_alloc _ _⟩
  · obtain ⟨i, rfl⟩ := Int.eq_ofNat_of_zero_le a0
    rw [NX_at]
    have hit : i < ts.length := by omega
    obtain ⟨b, off, cap, u, rfl, hbl, ⟨z0, z1, z2, z3, z4⟩, hu⟩ := hy.cells i hit
    have HNX : Hid (nx ts (i : Int) lv = (tw ts (i : Int)).next.getD lv 0) := rfl
    generalize nx ts (i : Int) lv = nn at *
    generalize tw ts (i : Int) = s at *
    obtain ⟨sk, sn, sd, sv, sx⟩ := s
    dsimp only at z0 z1 z2 z3 hu a2 HNX
    obtain ⟨a', cap', rfl, hcu⟩ := hu
    obtain ⟨bu, ou, rfl, hbu, hcu⟩ := hcu (by intro e; simp [e] at a2)
    have cu := hcu lv a2
    rw [show sx[lv] = nn from by rw [HNX.out]; simp [List.getD, a2]] at cu
    refine ⟨bu, ou, sx.length, cap', a2, hbu, cu, fun w' hb => ?_⟩
    have hB := below_then hb (below_alloc w' (.cells #[x, .slice (some ⟨b, off, none⟩) ts.length cap] 56))
    replace z0 := (hB.cell (p := ⟨b, off + i * 5, none⟩) hbl).trans z0
    replace z1 := (hB.cell (p := ⟨b, off + i * 5 + 1, none⟩) hbl).trans z1
    replace z2 := (hB.cell (p := ⟨b, off + i * 5 + 2, none⟩) hbl).trans z2
    replace z3 := (hB.cell (p := ⟨b, off + i * 5 + 3, none⟩) hbl).trans z3
    replace z4 := (hB.cell (p := ⟨b, off + i * 5 + 4, none⟩) hbl).trans z4
    have hmt := method_links sk sv sn sd (.slice (some ⟨bu, ou, none⟩) sx.length cap')
    have hne : ((i : Int) == -1) = false := by simp
    clear hcu HNX
    go_enter Tryd.func55, Tryd.ntmps55
    go_wp2_with fail
    refine (links_any sk sv sn sd (.slice (some ⟨bu, ou, none⟩) sx.length cap') _).mono ?_
    rintro e w1 ⟨rfl, hb1⟩
    have hB1 := below_then (below_alloc _ _) hb1
    clear hb1 hmt z0 z1 z2 z3 z4
    go_wp2
    go_ret
    exact ⟨rfl, hB1⟩

set_option maxHeartbeats 4000000 in
theorem seek_any (x : Value) (ay : Option Addr) (cy : Nat) (hs : List Int) (ts : List Tw) (t : Tw) (ta : Option Addr) (tn tc : Nat) (w : World) (hx : IL w x hs) (hy : TW w (.slice ay ts.length cy) ts) (G : GoodI hs ts) :
    Calls Tryd.prog 51 #[.agg #[x, .slice ay ts.length cy], .agg #[.string t.key, .int .i64 t.seq, .int .i64 t.kind, .string t.val, .slice ta tn tc]] w fun e w' => e = .returned (.tuple #[.int .i64 (skN hs ts t), .int .i64 (SkS hs ts t 5).2]) ∧ Below w.heap.size w w' := by
  have KL := fun w hx hy => lastLess_any x ay cy hs ts t (.slice ta tn tc) w hx hy G
  have hok := SkS_ok G t 5 (by omega) 0 (by omega)
  obtain ⟨bl, ol, nl, cl, hnl, hbl, cu, KF⟩ := linksFrom_fix x (.slice ay ts.length cy) hs ts _ 0 w hx hy G.1 (by omega) G.2.1 hok
  have H0 := lastL_first hs ts t
  have HN : Hid (skN hs ts t = NX hs ts (SkS hs ts t 5).1 0) := rfl
  rw [← HN.out] at cu
  generalize skN hs ts t = N at *
  generalize lastL hs ts t 5 = LL at *
  generalize (SkS hs ts t 5).2 = M at *
  generalize (SkS hs ts t 5).1 = A at *
  generalize t.key = tk at *
  generalize t.seq = ts' at *
  generalize t.kind = td at *
  generalize t.val = tv at *
  obtain ⟨ax, cx, hxe, _⟩ := id hx
  subst hxe
  go_enter Tryd.func51, Tryd.ntmps51
  go_wp2_with fail
  refine (KL _ (hx.below (below2 _ _ _)) (hy.below (below2 _ _ _))).mono ?_
  rintro e w1 ⟨⟨g, rfl, o1, _⟩, hb1⟩
  have hB1 := below_then (below2 _ _ _) hb1
  have X1 := ((Box.new w #[.slice ax hs.length cx, .slice ay ts.length cy] 56).alloc (.cells #[.string tk, .int .i64 ts', .int .i64 td, .string tv, .slice ta tn tc] 49)).below hb1
  have d0 : w1.cell? ⟨g, 0, none⟩ = some (.int .i64 A) := by
    rw [o1.cellAt 0 (by omega), List.getElem?_map, H0]; rfl
  have hgl := owns_lt3 o1
  clear hb1 KL o1
  go_wp2_with fail
  have hne : Nonempty (WC w1.heap.size w1) := ⟨⟨_, Below.refl _ _⟩⟩
  have px := fun x : WC w1.heap.size w1 => (X1.below x.ok).2.1 0 _ rfl
  have py := fun x : WC w1.heap.size w1 => (X1.below x.ok).2.1 1 _ rfl
  have pd := fun x : WC w1.heap.size w1 => (x.ok.cell (p := ⟨g, 0, none⟩) hgl).trans d0
  have pc := fun x : WC w1.heap.size w1 => ((below_then hB1 x.ok).cell (p := ⟨bl, ol + 0, none⟩) hbl).trans cu
  have KW := fun x : WC w1.heap.size w1 => KF x.w (below_then hB1 x.ok)
  simp only [Nat.add_zero] at pc
  have hnli : (0 : Int) < nl := by omega
  clear cu KF d0
  refine wp_region_calm (B := w1.heap.size) (W := w1) (by kernel_rfl) (by kernel_rfl) (Below.refl _ _) ?_
  repeat (go_big_quiet_step (first | (go_at_call 55; exact calm_of_below (Nat.le_refl _) (KW _))))
  refine wpQuiet_nil ?_
  intro _ hw'
  obtain ⟨x, hxx⟩ := hw'
  subst hxx
  have hB8 := below_then hB1 x.ok
  clear px py pd pc KW hne X1 hB1
  generalize x.w = w8 at *
  clear x
  go_wp2
  refine bodyPost_ret (v := .tuple #[.int .i64 N, .int .i64 M]) ?_ rfl ⟨rfl, hB8⟩
  simp [results, Tryd.results51, go_sem]
end Go.Proofs.YtcjkdkaahkphfaaDoor

namespace Go.Proofs.YtcjkdkaahkphfaaDoor
open Go.RowKit
set_option linter.unusedVariables false
set_option maxRecDepth 100000

def hsB (hs : List Int) (ts : List Tw) (t : Tw) : Bool := decide (skN hs ts t ≠ -1) && decide (cT (tw ts (skN hs ts t)) t = 0)

set_option maxHeartbeats 8000000 in
theorem has_any (x : Value) (ay : Option Addr) (cy : Nat) (hs : List Int) (ts : List Tw) (t : Tw) (ta : Option Addr) (tn tc : Nat) (w : World) (hx : IL w x hs) (hy : TW w (.slice ay ts.length cy) ts) (G : GoodI hs ts) :
    Calls Tryd.prog 26 #[.agg #[x, .slice ay ts.length cy], .agg #[.string t.key, .int .i64 t.seq, .int .i64 t.kind, .string t.val, .slice ta tn tc]] w fun e w' => e = .returned (.bool (hsB hs ts t)) ∧ Below w.heap.size w w' := by
  have KS := fun w hx hy => seek_any x ay cy hs ts t ta tn tc w hx hy G
  have hok := good_step G (show 0 < 5 by omega) (SkS_ok G t 5 (by omega) 0 (by omega))
  have HN : Hid (skN hs ts t = NX hs ts (SkS hs ts t 5).1 0) := rfl
  have HB : Hid (hsB hs ts t = (decide (skN hs ts t ≠ -1) && decide (cT (tw ts (skN hs ts t)) t = 0))) := rfl
  have HCT : Hid (∀ o : Tw, cT o t = cIt o.key t.key o.seq t.seq) := fun o => rfl
  have KC := fun (o : Tw) (ou : Value) w => compare_any o.key o.val t.key t.val o.seq o.kind t.seq t.kind ou (.slice ta tn tc) w
  have hok2 : skN hs ts t = -1 ∨ okAt ts 0 (skN hs ts t) := by
    rw [HN.out]
    rcases hok with h | h
    · exact .inl h
    · exact .inr h.1
  clear hok
  generalize hsB hs ts t = R at *
  generalize (SkS hs ts t 5).2 = M at *
  obtain ⟨ax, cx, hxe, _⟩ := id hx
  subst hxe
  have hb0 := below2 w (.cells #[.slice ax hs.length cx, .slice ay ts.length cy] 56) (.cells #[.string t.key, .int .i64 t.seq, .int .i64 t.kind, .string t.val, .slice ta tn tc] 49)
  have X0 := (Box.new w #[.slice ax hs.length cx, .slice ay ts.length cy] 56).alloc (.cells #[.string t.key, .int .i64 t.seq, .int .i64 t.kind, .string t.val, .slice ta tn tc] 49)
  have Y0 := Box.new (w.alloc (.cells #[.slice ax hs.length cx, .slice ay ts.length cy] 56)) #[.string t.key, .int .i64 t.seq, .int .i64 t.kind, .string t.val, .slice ta tn tc] 49
  simp only [World.size_alloc] at Y0
  go_enter Tryd.func26, Tryd.ntmps26
  go_wp2_with fail
  refine (KS _ (hx.below hb0) (hy.below hb0)).mono ?_
  rintro e w1 ⟨rfl, hb1⟩
  have hB1 := below_then hb0 hb1
  have X1 := X0.below hb1
  have Y1 := Y0.below hb1
  clear hb1 hb0 X0 Y0 KS
  rcases hok2 with hN | hok
  · have HR : Hid (R = false) := by show _ = _; rw [HB.out, hN]; rfl
    rw [hN]
    have hne : Nonempty (WC w1.heap.size w1) := ⟨⟨_, Below.refl _ _⟩⟩
    clear HB HN HCT KC hN
    go_wp2_with fail
    refine wp_region_calm (B := w1.heap.size) (W := w1) (by kernel_rfl) (by kernel_rfl) (Below.refl _ _) ?_
    repeat (go_big_quiet_step (fail))
    refine wpQuiet_nil ?_
    intro _ hw'
    obtain ⟨x, hxx⟩ := hw'
    subst hxx
    have hB8 := below_then hB1 x.ok
    clear hne X1 Y1 hB1
    generalize x.w = w8 at *
    clear x
    go_wp2
    go_ret
    exact ⟨by rw [HR.out]; rfl, hB8⟩
  · obtain ⟨h0, h1, _⟩ := hok
    obtain ⟨i, hi⟩ := Int.eq_ofNat_of_zero_le h0
    rw [hi] at h1 ⊢
    have hit : i < ts.length := by omega
    have HR : Hid (R = decide (cT (tw ts (i : Int)) t = 0)) := by
      show _ = _
      rw [HB.out, hi, decide_eq_true (show ((i : Nat) : Int) ≠ -1 by omega)]; rfl
    obtain ⟨b, off, cap, u, hv, hbl, ⟨z0, z1, z2, z3, z4⟩, hu⟩ := (hy.below hB1).cells i hit
    simp only [Value.slice.injEq, true_and] at hv
    obtain ⟨rfl, rfl⟩ := hv
    obtain ⟨ua, uc, rfl, hdrop⟩ := hu
    clear hdrop
    have hct := HCT.out (tw ts (i : Int))
    have KCi := fun w => KC (tw ts (i : Int)) (.slice ua (tw ts (i : Int)).next.length uc) w
    have hmc := method_compare2 (tw ts (i : Int)).key (tw ts (i : Int)).val (tw ts (i : Int)).seq (tw ts (i : Int)).kind (.slice ua (tw ts (i : Int)).next.length uc)
    rw [hct] at HR
    have hin : ((i : Int) ≠ -1) := by omega
    have hind : ((i : Int) != -1) = true := by rw [bne_iff_ne]; exact hin
    clear HB HN HCT KC hi h0 hct
    generalize tw ts (i : Int) = o at *
    obtain ⟨rk, rn, rd, rv, rx⟩ := o
    dsimp only at z0 z1 z2 z3 z4 KCi hmc HR
    generalize t.key = tk at *
    generalize t.seq = tq at *
    generalize t.kind = td at *
    generalize t.val = tv at *
    generalize cIt rk tk rn tq = C at *
    generalize rx.length = rl at *
    have hne : Nonempty (WC w1.heap.size w1) := ⟨⟨_, Below.refl _ _⟩⟩
    have px := fun x : WC w1.heap.size w1 => (X1.below x.ok).2.1 0 _ rfl
    have py := fun x : WC w1.heap.size w1 => (X1.below x.ok).2.1 1 _ rfl
    have p0 := fun x : WC w1.heap.size w1 => (Y1.below x.ok).2.1 0 _ rfl
    have p1 := fun x : WC w1.heap.size w1 => (Y1.below x.ok).2.1 1 _ rfl
    have p2 := fun x : WC w1.heap.size w1 => (Y1.below x.ok).2.1 2 _ rfl
    have p3 := fun x : WC w1.heap.size w1 => (Y1.below x.ok).2.1 3 _ rfl
    have p4 := fun x : WC w1.heap.size w1 => (Y1.below x.ok).2.1 4 _ rfl
    have q0 := fun x : WC w1.heap.size w1 => (x.ok.cell (p := ⟨b, off + i * 5, none⟩) hbl).trans z0
    have q1 := fun x : WC w1.heap.size w1 => (x.ok.cell (p := ⟨b, off + i * 5 + 1, none⟩) hbl).trans z1
    have q2 := fun x : WC w1.heap.size w1 => (x.ok.cell (p := ⟨b, off + i * 5 + 2, none⟩) hbl).trans z2
    have q3 := fun x : WC w1.heap.size w1 => (x.ok.cell (p := ⟨b, off + i * 5 + 3, none⟩) hbl).trans z3
    have q4 := fun x : WC w1.heap.size w1 => (x.ok.cell (p := ⟨b, off + i * 5 + 4, none⟩) hbl).trans z4
    clear z0 z1 z2 z3 z4
    have hcd : (C == 0) = decide (C = 0) := by rw [Bool.eq_iff_iff]; simp
    go_wp2_with fail
    refine wp_region_calm (B := w1.heap.size) (W := w1) (by kernel_rfl) (by kernel_rfl) (Below.refl _ _) ?_
    repeat (go_big_quiet_step (first | (go_at_call 94; exact calm_of_below (Nat.le_refl _) (KCi _))))
    refine wpQuiet_nil ?_
    intro _ hw'
    obtain ⟨x, hxx⟩ := hw'
    subst hxx
    have hB8 := below_then hB1 x.ok
    clear px py p0 p1 p2 p3 p4 q0 q1 q2 q3 q4 hne X1 Y1 hB1 hmc KCi
    generalize x.w = w8 at *
    clear x
    go_wp2
    go_ret
    exact ⟨by rw [HR.out]; first | rfl | (simp [hcd]), hB8⟩
end Go.Proofs.YtcjkdkaahkphfaaDoor
