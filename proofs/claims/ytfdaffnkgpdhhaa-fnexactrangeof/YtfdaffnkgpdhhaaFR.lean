/-
  A table's filter and range: spec.FilterIn, spec.RangeOf; eqFilter.
-/
import Derived.Test.YtfdaffnkgpdhhaaIm
namespace Go.Proofs.Ytfdaffnkgpdhhaa
open Go.RowKit
set_option linter.unusedVariables false
set_option maxRecDepth 100000

theorem eqFilter_same (n m : Int) (s : ByteArray) (w : World) :
    Calls Try.prog 13 #[.agg #[.int .i64 n, .string s, .int .i64 m], .agg #[.int .i64 n, .string s, .int .i64 m]] w fun e w' => e = .returned (.bool true) ∧ Below w.heap.size w w' := by
  go_enter Try.func13, Try.ntmps13
  go_wp2
  go_ret
  exact ⟨rfl, below2 _ _ _⟩
set_option maxHeartbeats 1000000 in
theorem specFilterIn_any (s : ByteArray) (w : World) (hs : s.size ≤ 1048576) : Calls Try.prog 11 #[.string s] w (FlT s w) := by
  have K := fun w => l7Read_any s w hs
  have Z0 := Box.new w #[.int .i64 0, .string ⟨#[]⟩, .int .i64 0] 31
  have hb0 := below_alloc w (.cells #[.int .i64 0, .string ⟨#[]⟩, .int .i64 0] 31)
  go_enter Try.func11, Try.ntmps11
  go_wp2_with fail
  refine (K _).mono ?_
  clear K
  rintro e w1 ⟨l, ok, v, hres, rfl, ho, hb1⟩
  have HR : Hid (TbRes (bl s) l ok) := hres
  have hB1 := below_then hb0 hb1
  have Z1 := Z0.below hb1
  have hir := IR_of_owns ho rfl
  clear Z0 hb0 hb1
  cases ok with
  | false =>
    have HF : Hid (fOf l false = (0, ⟨#[]⟩, 0)) := rfl
    obtain ⟨a, c, rfl⟩ := slice_form ho
    obtain ⟨⟨j0, j1, j2⟩, zq, z0, z1, z2⟩ := Z1.f3
    obtain ⟨⟨t0, t1, t2⟩, hBB⟩ := put3_ok hB1 (by omega) Z1 (.int .i64 0) (.string ⟨#[]⟩) (.int .i64 0)
    clear hres hB1 ho hir
    go_wp2
    change bodyPost _ _ _ _ _ (put3 w1 w.heap.size (.int .i64 0) (.string ⟨#[]⟩) (.int .i64 0))
    generalize put3 w1 w.heap.size (.int .i64 0) (.string ⟨#[]⟩) (.int .i64 0) = W' at *
    exact bodyPost_ret (v := .tuple #[.agg #[.int .i64 0, .string ⟨#[]⟩, .int .i64 0], .bool false]) (by simp [results, Try.results11, go_sem, t0, t1, t2]) rfl ⟨l, false, HR.out, by rw [HF.out], hBB⟩
  | true =>
    have hok := hres.okT
    have hp := okT_parts hok
    obtain ⟨fm, hfm, hfg, hfs⟩ := filF_run hok
    have HF : Hid (fOf l true = (4, fbT l, fm)) := by show _ = _; unfold fOf; rw [if_pos rfl, hfm]
    have KK := fun w h => l7Keys_any v l w h (by omega)
    have KF := fun v w h => specFil_good 4 v (kuL l l.length) w h (by have := kuL_len l l.length; omega) (by decide)
    rw [hfm] at KF
    dsimp only at KF
    obtain ⟨a, c, rfl⟩ := slice_form ho
    generalize fbT l = FB at *
    clear hres ho hfm hfg
    go_wp2_with fail
    refine (KK _ hir).mono ?_
    rintro e w2 ⟨kv, rfl, hsl, hb2⟩
    have hB2 := below_then hB1 hb2
    have Z2 := Z1.below hb2
    clear KK hB1 Z1 hir hb2
    go_wp2_with fail
    refine (KF _ _ hsl).mono ?_
    rintro e w3 ⟨rfl, hb3⟩
    have hB3 := below_then hB2 hb3
    have Z3 := Z2.below hb3
    clear KF hB2 Z2 hb3 hsl
    obtain ⟨⟨j0, j1, j2⟩, zq, z0, z1, z2⟩ := Z3.f3
    obtain ⟨⟨t0, t1, t2⟩, hBB⟩ := put3_ok hB3 (by omega) Z3 (.int .i64 4) (.string FB) (.int .i64 fm)
    go_wp2
    change bodyPost _ _ _ _ _ (put3 w3 w.heap.size (.int .i64 4) (.string FB) (.int .i64 fm))
    generalize put3 w3 w.heap.size (.int .i64 4) (.string FB) (.int .i64 fm) = W' at *
    exact bodyPost_ret (v := .tuple #[.agg #[.int .i64 4, .string FB, .int .i64 fm], .bool true]) (by simp [results, Try.results11, go_sem, t0, t1, t2]) rfl ⟨l, true, HR.out, by rw [HF.out], hBB⟩
set_option maxHeartbeats 2000000 in
theorem specRange_any (s : ByteArray) (w : World) (hs : s.size ≤ 1048576) : Calls Try.prog 14 #[.string s] w (RgT s w) := by
  have K := fun w => l7Read_any s w hs
  go_enter Try.func14, Try.ntmps14
  go_wp2_with fail
  refine (K _).mono ?_
  clear K
  rintro e w1 ⟨l, ok, v, hres, rfl, ho, hb1⟩
  have HR : Hid (TbRes (bl s) l ok) := hres
  cases ok with
  | false =>
    have hl : l = [] := by rcases hres with ⟨h, _⟩ | ⟨_, h, _⟩; cases h; exact h
    subst hl
    obtain ⟨a, c, rfl⟩ := slice_form ho
    clear hres ho
    go_wp2
    go_ret3
    exact ⟨[], false, HR.out, rfl, hb1⟩
  | true =>
    have hp := okT_parts hres.okT
    have hir := IR_of_owns ho rfl
    obtain ⟨la, lc, rfl⟩ := slice_form ho
    obtain ⟨a', c', he, hc⟩ := hir
    injection he with e1 e2 e3
    subst e1
    subst e3
    obtain ⟨b, off, rfl, hbl, hcell⟩ := hc (by intro e; rw [e] at hp; simp at hp)
    have hgd : ∀ i (h : i < l.length), l.getD i default = l[i] := fun i h => by rw [List.getD_eq_getElem?_getD, List.getElem?_eq_getElem h]; rfl
    have c0 := (hcell 0 (by omega)).1
    have c1 := (hcell (l.length - 1) (by omega)).1
    have E0 : r0 l = l[0].k := by unfold r0; rw [hgd 0 (by omega)]
    have E1 : r1 l = l[l.length - 1].k := by unfold r1; rw [hgd _ (by omega)]
    rw [← E0] at c0
    rw [← E1] at c1
    simp only [Nat.zero_mul, Nat.add_zero] at c0
    have hix : ((l.length : Int) - 1).toNat = l.length - 1 := by omega
    have hl1 := hp.2.1
    have hl2 := hp.2.2
    clear E0 E1 hgd hcell hc hres ho hp
    go_wp2_with fail
    go_quiet (fail)
    have hB2 := below_dn hb1 nq
    go_wp2
    go_ret3
    exact ⟨l, true, HR.out, rfl, hB2⟩
end Go.Proofs.Ytfdaffnkgpdhhaa
