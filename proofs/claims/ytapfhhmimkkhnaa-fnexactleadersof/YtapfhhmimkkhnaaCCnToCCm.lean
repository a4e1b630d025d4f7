/-
  A cluster made of the law's own: toRaftNodeS.
  A cluster made of the law's own: toRaftMsgS.
-/
import Derived.Test.YtapfhhmimkkhnaaCC
import Derived.Test.YtapfhhmimkkhnaaQ4ToQ6
namespace Go.Proofs.Ytapfhhmimkkhnaa
open Go.RowKit Go.Maps
set_option linter.unusedVariables false
set_option maxRecDepth 100000

theorem Try.info26 : (Try.prog.info? 26).map (fun i => (i.zero, i.size, i.bytes)) = some (some (.agg #[.int .i64 0, .int .i64 0, .int .i64 0, .int .i64 0, .slice none 0 0, .int .i64 0, .int .i64 0, .slice none 0 0, .slice none 0 0]), 9, 120) := by kernel_rfl
set_option maxHeartbeats 4000000 in
theorem toNodeS_any (v : Value) (l : List Nv) (w : World) (hv : NW w v l) (he : ∀ i (h : i < l.length), NE w l[i]) (hs : ∀ i (h : i < l.length), l[i].n.log.length ≤ 1048576 ∧ l[i].n.vs.length ≤ 1048576 ∧ l[i].n.mt.length ≤ 1048576) (hn : l.length ≤ 1048576) :
    Calls Try.prog 97 #[v] w fun e w' => ∃ l', e = .returned (.slice (some ⟨w.heap.size, 0, none⟩) l.length l.length) ∧ l'.map Nv.n = l.map Nv.n ∧ w'.ownsRow w.heap.size 26 9 (.slice (some ⟨w.heap.size, 0, none⟩) l.length l.length) l.length (flatN l') ∧ Chain PN BN w' (w.heap.size + 1) w'.heap.size l' ∧ Below w.heap.size w w' := by
  obtain ⟨a, cap, rfl, hc⟩ := hv
  obtain ⟨i0, hi, hz0, hz1, hz2⟩ := info_parts Try.info26
  go_enter Try.func97, Try.ntmps97
  go_wp2_with (at_make; refine wpList_make_full _ rfl _ _ 57 rfl w.heap.size 26 i0 _ 9 Try.underlying57 hi hz0 hz1 .i64 .i64 _ _ l.length rfl rfl rfl rfl (by rw [hz2]; omega) (by unfold maxLen; omega) (Nat.le_refl _) ?_; intro w0 hown0 hgr0)
  rw [flatN_zeros] at hown0
  have hb0 : Below w.heap.size w w0 := (Below.refl _ _).grown hgr0 (Nat.le_refl _) (by simp)
  have hlt0 : w.heap.size < w0.heap.size := (owns_lt hown0).2
  clear hgr0 hi hz0 hz1 hz2
  go_loopw [4] (fun i wr => ∃ (k : Nat) (l' : List Nv), k ≤ l.length ∧ i = .int .i64 k ∧ l'.length = k ∧ l'.map Nv.n = (l.take k).map Nv.n ∧ wr.ownsRow w.heap.size 26 9 (.slice (some ⟨w.heap.size, 0, none⟩) l.length l.length) l.length (flatN (l' ++ List.replicate (l.length - k) Nv.zero)) ∧ Chain PN BN wr (w.heap.size + 1) wr.heap.size l' ∧ Below w.heap.size w wr ∧ w.heap.size < wr.heap.size) (fun i _ => l.length - (intOf i).toNat)
  case atStart => exact ⟨0, [], Nat.zero_le _, rfl, rfl, by simp, by simpa using hown0, Chain.nil hlt0, hb0, hlt0⟩
  case round =>
    obtain ⟨k, l', hk, rfl, hl', hm', hown, hch, hb, hlt1⟩ := hrel
    clear hown0 hb0 hlt0
    by_cases hlt : k < l.length
    · obtain ⟨b, off, rfl, hbl, hcell⟩ := hc (by intro e; simp [e] at hlt)
      obtain ⟨z0, z1, z2, z3, z4, z5, z6, z7, z8⟩ := hcell k hlt
      have hc0 := (hb.cell (p := ⟨b, off + k * 9, none⟩) hbl).trans z0
      have hc1 := (hb.cell (p := ⟨b, off + k * 9 + 1, none⟩) hbl).trans z1
      have hc2 := (hb.cell (p := ⟨b, off + k * 9 + 2, none⟩) hbl).trans z2
      have hc3 := (hb.cell (p := ⟨b, off + k * 9 + 3, none⟩) hbl).trans z3
      have hc4 := (hb.cell (p := ⟨b, off + k * 9 + 4, none⟩) hbl).trans z4
      have hc5 := (hb.cell (p := ⟨b, off + k * 9 + 5, none⟩) hbl).trans z5
      have hc6 := (hb.cell (p := ⟨b, off + k * 9 + 6, none⟩) hbl).trans z6
      have hc7 := (hb.cell (p := ⟨b, off + k * 9 + 7, none⟩) hbl).trans z7
      have hc8 := (hb.cell (p := ⟨b, off + k * 9 + 8, none⟩) hbl).trans z8
      have hE := (he k hlt).below hb
      have hss := hs k hlt
      have HM : Hid ((l.take (k + 1)).map Nv.n = (l.take k).map Nv.n ++ [l[k].n]) := by show _ = _; rw [← List.take_append_getElem hlt, List.map_append]; rfl
      have HL : Hid (l'.length = k) := hl'
      have HM2 : Hid (l'.map Nv.n = (l.take k).map Nv.n) := hm'
      clear hcell hc he hs hl' hm' z0 z1 z2 z3 z4 z5 z6 z7 z8
      have hz := hb.size
      generalize l[k] = s at *
      obtain ⟨⟨id, pe, te, vo, co, ro, log, vs, mt⟩, la, lc, va, vc, ma, mc⟩ := s
      have KS := toNode_any id pe te vo co ro _ _ _ log vs mt wr hE.1 hE.2.1 hE.2.2 hss.1 hss.2.1 hss.2.2
      clear hE hss
      dsimp only at *
      go_wp2_with fail
      refine KS.mono ?_
      rintro e w1 ⟨g1, g2, g3, rfl, O1, hb1⟩
      have hown1 := owns_below hown hb1
      obtain ⟨⟨u0, d0⟩, f0⟩ := owns9_at hown1 k hlt 0 (by omega)
      obtain ⟨⟨u1, d1⟩, f1⟩ := owns9_at hown1 k hlt 1 (by omega)
      obtain ⟨⟨u2, d2⟩, f2⟩ := owns9_at hown1 k hlt 2 (by omega)
      obtain ⟨⟨u3, d3⟩, f3⟩ := owns9_at hown1 k hlt 3 (by omega)
      obtain ⟨⟨u4, d4⟩, f4⟩ := owns9_at hown1 k hlt 4 (by omega)
      obtain ⟨⟨u5, d5⟩, f5⟩ := owns9_at hown1 k hlt 5 (by omega)
      obtain ⟨⟨u6, d6⟩, f6⟩ := owns9_at hown1 k hlt 6 (by omega)
      obtain ⟨⟨u7, d7⟩, f7⟩ := owns9_at hown1 k hlt 7 (by omega)
      obtain ⟨⟨u8, d8⟩, f8⟩ := owns9_at hown1 k hlt 8 (by omega)
      rw [Nat.add_zero] at d0 f0
      have hz1 := hb1.size
      have hb2 : Below w.heap.size w w1 := hb.trans (hb1.mono hz)
      have HO : Hid _ := (((((((((hown1.stored (k * 9) (.int .i64 id)).1.stored (k * 9 + 1) (.int .i64 pe)).1.stored (k * 9 + 2) (.int .i64 te)).1.stored (k * 9 + 3) (.int .i64 vo)).1.stored (k * 9 + 4) (.slice (some ⟨g1, 0, none⟩) log.length log.length)).1.stored (k * 9 + 5) (.int .i64 co)).1.stored (k * 9 + 6) (.int .i64 ro)).1.stored (k * 9 + 7) (.slice (some ⟨g2, 0, none⟩) vs.length vs.length)).1.stored (k * 9 + 8) (.slice (some ⟨g3, 0, none⟩) mt.length mt.length)).1
      have HC : Hid (Chain PN BN w1 (w.heap.size + 1) w1.heap.size (l' ++ [⟨⟨id, pe, te, vo, co, ro, log, vs, mt⟩, some ⟨g1, 0, none⟩, log.length, some ⟨g2, 0, none⟩, vs.length, some ⟨g3, 0, none⟩, mt.length⟩])) := Chain.push (hch.belowN hb1) O1 (PN.in (x := ⟨⟨id, pe, te, vo, co, ro, log, vs, mt⟩, some ⟨g1, 0, none⟩, log.length, some ⟨g2, 0, none⟩, vs.length, some ⟨g3, 0, none⟩, mt.length⟩) O1) hz1
      have hlt2 : w.heap.size < w1.heap.size := by omega
      clear hown hown1 hb hb1 KS hch O1
      go_wp2
      go_roundw
      case rel =>
        refine ⟨k + 1, l' ++ [⟨⟨id, pe, te, vo, co, ro, log, vs, mt⟩, some ⟨g1, 0, none⟩, log.length, some ⟨g2, 0, none⟩, vs.length, some ⟨g3, 0, none⟩, mt.length⟩], by omega, by go_num, by rw [List.length_append, HL.out]; rfl, by rw [HM.out, List.map_append, HM2.out]; rfl, ?_, ?_, ?_, ?_⟩
        · have e1 := HO.out
          have e2 := put_next l' Nv.zero ⟨⟨id, pe, te, vo, co, ro, log, vs, mt⟩, some ⟨g1, 0, none⟩, log.length, some ⟨g2, 0, none⟩, vs.length, some ⟨g3, 0, none⟩, mt.length⟩ l.length (by rw [HL.out]; exact hlt)
          rw [List.length_append, HL.out] at e2
          rw [flatN_set _ k ⟨⟨id, pe, te, vo, co, ro, log, vs, mt⟩, some ⟨g1, 0, none⟩, log.length, some ⟨g2, 0, none⟩, vs.length, some ⟨g3, 0, none⟩, mt.length⟩, e2] at e1
          exact e1
        · refine Chain.hi (hi := w1.heap.size) ?_ (by simp)
          refine Chain.chgN (w := w1) (S := fun b => b = w.heap.size) HC.out ?_ (fun b hb => .inl (by omega))
          iterate 9 (refine Chg.setCell (S := fun k => k = w.heap.size) ?_ rfl _)
          exact Chg.refl _ _
        · iterate 9 (refine Below.setCell ?_ (by simp) _)
          exact hb2
        · simp; omega
      case measure => simp [intOf]; omega
    · clear hc he hs
      go_wp2
      go_ret
      have : k = l.length := by omega
      subst this
      rw [Nat.sub_self, List.replicate_zero, List.append_nil] at hown
      rw [List.take_length] at hm'
      exact ⟨l', rfl, hm', hown, hch, hb⟩
end Go.Proofs.Ytapfhhmimkkhnaa

namespace Go.Proofs.Ytapfhhmimkkhnaa
open Go.RowKit Go.Maps
set_option linter.unusedVariables false
set_option maxRecDepth 100000

set_option maxHeartbeats 4000000 in
theorem toMsgS_any (v : Value) (l : List Mv) (w : World) (hv : MW w v l) (he : ∀ i (h : i < l.length), ME w l[i]) (hs : ∀ i (h : i < l.length), l[i].q.es.length ≤ 1048576) (hn : l.length ≤ 1048576) :
    Calls Try.prog 98 #[v] w fun e w' => ∃ l', e = .returned (.slice (some ⟨w.heap.size, 0, none⟩) l.length l.length) ∧ l'.map Mv.q = l.map Mv.q ∧ w'.ownsRow w.heap.size 38 9 (.slice (some ⟨w.heap.size, 0, none⟩) l.length l.length) l.length (flatM l') ∧ Chain PM BM w' (w.heap.size + 1) w'.heap.size l' ∧ Below w.heap.size w w' := by
  obtain ⟨a, cap, rfl, hc⟩ := hv
  obtain ⟨i0, hi, hz0, hz1, hz2⟩ := info_parts Try.info38
  go_enter Try.func98, Try.ntmps98
  go_wp2_with (at_make; refine wpList_make_full _ rfl _ _ 42 rfl w.heap.size 38 i0 _ 9 Try.underlying42 hi hz0 hz1 .i64 .i64 _ _ l.length rfl rfl rfl rfl (by rw [hz2]; omega) (by unfold maxLen; omega) (Nat.le_refl _) ?_; intro w0 hown0 hgr0)
  rw [flatM_zeros] at hown0
  have hb0 : Below w.heap.size w w0 := (Below.refl _ _).grown hgr0 (Nat.le_refl _) (by simp)
  have hlt0 : w.heap.size < w0.heap.size := (owns_lt hown0).2
  clear hgr0 hi hz0 hz1 hz2
  go_loopw [4] (fun i wr => ∃ (k : Nat) (l' : List Mv), k ≤ l.length ∧ i = .int .i64 k ∧ l'.length = k ∧ l'.map Mv.q = (l.take k).map Mv.q ∧ wr.ownsRow w.heap.size 38 9 (.slice (some ⟨w.heap.size, 0, none⟩) l.length l.length) l.length (flatM (l' ++ List.replicate (l.length - k) Mv.zero)) ∧ Chain PM BM wr (w.heap.size + 1) wr.heap.size l' ∧ Below w.heap.size w wr ∧ w.heap.size < wr.heap.size) (fun i _ => l.length - (intOf i).toNat)
  case atStart => exact ⟨0, [], Nat.zero_le _, rfl, rfl, by simp, by simpa using hown0, Chain.nil hlt0, hb0, hlt0⟩
  case round =>
    obtain ⟨k, l', hk, rfl, hl', hm', hown, hch, hb, hlt1⟩ := hrel
    clear hown0 hb0 hlt0
    by_cases hlt : k < l.length
    · obtain ⟨b, off, rfl, hbl, hcell⟩ := hc (by intro e; simp [e] at hlt)
      obtain ⟨z0, z1, z2, z3, z4, z5, z6, z7, z8⟩ := hcell k hlt
      have hc0 := (hb.cell (p := ⟨b, off + k * 9, none⟩) hbl).trans z0
      have hc1 := (hb.cell (p := ⟨b, off + k * 9 + 1, none⟩) hbl).trans z1
      have hc2 := (hb.cell (p := ⟨b, off + k * 9 + 2, none⟩) hbl).trans z2
      have hc3 := (hb.cell (p := ⟨b, off + k * 9 + 3, none⟩) hbl).trans z3
      have hc4 := (hb.cell (p := ⟨b, off + k * 9 + 4, none⟩) hbl).trans z4
      have hc5 := (hb.cell (p := ⟨b, off + k * 9 + 5, none⟩) hbl).trans z5
      have hc6 := (hb.cell (p := ⟨b, off + k * 9 + 6, none⟩) hbl).trans z6
      have hc7 := (hb.cell (p := ⟨b, off + k * 9 + 7, none⟩) hbl).trans z7
      have hc8 := (hb.cell (p := ⟨b, off + k * 9 + 8, none⟩) hbl).trans z8
      have hE := (he k hlt).below hb
      have hss := hs k hlt
      have HM : Hid ((l.take (k + 1)).map Mv.q = (l.take k).map Mv.q ++ [l[k].q]) := by show _ = _; rw [← List.take_append_getElem hlt, List.map_append]; rfl
      have HL : Hid (l'.length = k) := hl'
      have HM2 : Hid (l'.map Mv.q = (l.take k).map Mv.q) := hm'
      clear hcell hc he hs hl' hm' z0 z1 z2 z3 z4 z5 z6 z7 z8
      have hz := hb.size
      generalize l[k] = s at *
      obtain ⟨⟨ki, fr, dst, te, ix, be, co, ye, es⟩, ea, ec⟩ := s
      have KS := toMsg_any ki fr dst te ix be co ye _ es wr hE hss
      clear hE hss
      dsimp only at *
      go_wp2_with fail
      refine KS.mono ?_
      rintro e w1 ⟨g1, rfl, O1, hb1⟩
      have hown1 := owns_below hown hb1
      obtain ⟨⟨u0, d0⟩, f0⟩ := owns9_at hown1 k hlt 0 (by omega)
      obtain ⟨⟨u1, d1⟩, f1⟩ := owns9_at hown1 k hlt 1 (by omega)
      obtain ⟨⟨u2, d2⟩, f2⟩ := owns9_at hown1 k hlt 2 (by omega)
      obtain ⟨⟨u3, d3⟩, f3⟩ := owns9_at hown1 k hlt 3 (by omega)
      obtain ⟨⟨u4, d4⟩, f4⟩ := owns9_at hown1 k hlt 4 (by omega)
      obtain ⟨⟨u5, d5⟩, f5⟩ := owns9_at hown1 k hlt 5 (by omega)
      obtain ⟨⟨u6, d6⟩, f6⟩ := owns9_at hown1 k hlt 6 (by omega)
      obtain ⟨⟨u7, d7⟩, f7⟩ := owns9_at hown1 k hlt 7 (by omega)
      obtain ⟨⟨u8, d8⟩, f8⟩ := owns9_at hown1 k hlt 8 (by omega)
      rw [Nat.add_zero] at d0 f0
      have hz1 := hb1.size
      have hb2 : Below w.heap.size w w1 := hb.trans (hb1.mono hz)
      have HO : Hid _ := (((((((((hown1.stored (k * 9) (.int .i64 ki)).1.stored (k * 9 + 1) (.int .i64 fr)).1.stored (k * 9 + 2) (.int .i64 dst)).1.stored (k * 9 + 3) (.int .i64 te)).1.stored (k * 9 + 4) (.int .i64 ix)).1.stored (k * 9 + 5) (.int .i64 be)).1.stored (k * 9 + 6) (.slice (some ⟨g1, 0, none⟩) es.length es.length)).1.stored (k * 9 + 7) (.int .i64 co)).1.stored (k * 9 + 8) (.bool ye)).1
      have HC : Hid (Chain PM BM w1 (w.heap.size + 1) w1.heap.size (l' ++ [⟨⟨ki, fr, dst, te, ix, be, co, ye, es⟩, some ⟨g1, 0, none⟩, es.length⟩])) := Chain.push (hch.belowM hb1) O1 (PM.in (x := ⟨⟨ki, fr, dst, te, ix, be, co, ye, es⟩, some ⟨g1, 0, none⟩, es.length⟩) O1) hz1
      have hlt2 : w.heap.size < w1.heap.size := by omega
      clear hown hown1 hb hb1 KS hch O1
      go_wp2
      go_roundw
      case rel =>
        refine ⟨k + 1, l' ++ [⟨⟨ki, fr, dst, te, ix, be, co, ye, es⟩, some ⟨g1, 0, none⟩, es.length⟩], by omega, by go_num, by rw [List.length_append, HL.out]; rfl, by rw [HM.out, List.map_append, HM2.out]; rfl, ?_, ?_, ?_, ?_⟩
        · have e1 := HO.out
          have e2 := put_next l' Mv.zero ⟨⟨ki, fr, dst, te, ix, be, co, ye, es⟩, some ⟨g1, 0, none⟩, es.length⟩ l.length (by rw [HL.out]; exact hlt)
          rw [List.length_append, HL.out] at e2
          rw [flatM_set _ k ⟨⟨ki, fr, dst, te, ix, be, co, ye, es⟩, some ⟨g1, 0, none⟩, es.length⟩, e2] at e1
          exact e1
        · refine Chain.hi (hi := w1.heap.size) ?_ (by simp)
          refine Chain.chgM (w := w1) (S := fun b => b = w.heap.size) HC.out ?_ (fun b hb => .inl (by omega))
          iterate 9 (refine Chg.setCell (S := fun k => k = w.heap.size) ?_ rfl _)
          exact Chg.refl _ _
        · iterate 9 (refine Below.setCell ?_ (by simp) _)
          exact hb2
        · simp; omega
      case measure => simp [intOf]; omega
    · clear hc he hs
      go_wp2
      go_ret
      have : k = l.length := by omega
      subst this
      rw [Nat.sub_self, List.replicate_zero, List.append_nil] at hown
      rw [List.take_length] at hm'
      exact ⟨l', rfl, hm', hown, hch, hb⟩
end Go.Proofs.Ytapfhhmimkkhnaa
