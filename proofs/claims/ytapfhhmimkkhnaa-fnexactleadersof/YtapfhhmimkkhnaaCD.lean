/-
  Clusters that are the same: eqRaftNodeS, eqRaftMsgS, eqLeadS, eqCluster.
-/
import Derived.Test.YtapfhhmimkkhnaaCC
namespace Go.Proofs.Ytapfhhmimkkhnaa
open Go.RowKit Go.Maps
set_option linter.unusedVariables false
set_option maxRecDepth 100000

theorem eqLead_same (t n : Int) (w : World) : Calls Try.prog 105 #[.agg #[.int .i64 t, .int .i64 n], .agg #[.int .i64 t, .int .i64 n]] w fun e w' => e = .returned (.bool true) ∧ Below w.heap.size w w' := by
  go_enter Try.func105, Try.ntmps105
  go_wp2
  go_ret
  exact ⟨rfl, below2 _ _ _⟩

set_option maxHeartbeats 8000000 in
theorem eqNodeS_same (u v : Value) (l l' : List Nv) (w : World) (hu : NW w u l) (hv : NW w v l') (he : ∀ i (h : i < l.length), NE w l[i]) (he' : ∀ i (h : i < l'.length), NE w l'[i]) (hm : l.map Nv.n = l'.map Nv.n) (hn : l.length ≤ 1048576) (hs : ∀ i (h : i < l.length), l[i].n.log.length ≤ 1048576 ∧ l[i].n.vs.length ≤ 1048576 ∧ l[i].n.mt.length ≤ 1048576) :
    Calls Try.prog 90 #[u, v] w fun e w' => e = .returned (.bool true) ∧ Below w.heap.size w w' := by
  have hll : l'.length = l.length := by have := congrArg List.length hm; simpa using this.symm
  obtain ⟨a, cap, rfl, hc⟩ := hu
  obtain ⟨a', cap', rfl, hc'⟩ := hv
  rw [hll]
  go_enter Try.func90, Try.ntmps90
  go_wp2
  go_loopw [5] (fun i wr => ∃ k : Nat, k ≤ l.length ∧ i = .int .i64 k ∧ Below w.heap.size w wr) (fun i _ => l.length - (intOf i).toNat)
  case atStart => exact ⟨0, Nat.zero_le _, rfl, Below.refl _ _⟩
  case round =>
    obtain ⟨k, hk, rfl, hb⟩ := hrel
    by_cases hlt : k < l.length
    · have hlt' : k < l'.length := by omega
      obtain ⟨b, off, rfl, hbl, hcell⟩ := hc (by intro e; simp [e] at hlt)
      obtain ⟨b', off', rfl, hbl', hcell'⟩ := hc' (by intro e; simp [e] at hlt')
      obtain ⟨z0, z1, z2, z3, z4, z5, z6, z7, z8⟩ := hcell k hlt
      obtain ⟨y0, y1, y2, y3, y4, y5, y6, y7, y8⟩ := hcell' k hlt'
      have hc0 := (hb.cell (p := ⟨b, off + k * 9, none⟩) hbl).trans z0
      have hd0 := (hb.cell (p := ⟨b', off' + k * 9, none⟩) hbl').trans y0
      have hc1 := (hb.cell (p := ⟨b, off + k * 9 + 1, none⟩) hbl).trans z1
      have hd1 := (hb.cell (p := ⟨b', off' + k * 9 + 1, none⟩) hbl').trans y1
      have hc2 := (hb.cell (p := ⟨b, off + k * 9 + 2, none⟩) hbl).trans z2
      have hd2 := (hb.cell (p := ⟨b', off' + k * 9 + 2, none⟩) hbl').trans y2
      have hc3 := (hb.cell (p := ⟨b, off + k * 9 + 3, none⟩) hbl).trans z3
      have hd3 := (hb.cell (p := ⟨b', off' + k * 9 + 3, none⟩) hbl').trans y3
      have hc4 := (hb.cell (p := ⟨b, off + k * 9 + 4, none⟩) hbl).trans z4
      have hd4 := (hb.cell (p := ⟨b', off' + k * 9 + 4, none⟩) hbl').trans y4
      have hc5 := (hb.cell (p := ⟨b, off + k * 9 + 5, none⟩) hbl).trans z5
      have hd5 := (hb.cell (p := ⟨b', off' + k * 9 + 5, none⟩) hbl').trans y5
      have hc6 := (hb.cell (p := ⟨b, off + k * 9 + 6, none⟩) hbl).trans z6
      have hd6 := (hb.cell (p := ⟨b', off' + k * 9 + 6, none⟩) hbl').trans y6
      have hc7 := (hb.cell (p := ⟨b, off + k * 9 + 7, none⟩) hbl).trans z7
      have hd7 := (hb.cell (p := ⟨b', off' + k * 9 + 7, none⟩) hbl').trans y7
      have hc8 := (hb.cell (p := ⟨b, off + k * 9 + 8, none⟩) hbl).trans z8
      have hd8 := (hb.cell (p := ⟨b', off' + k * 9 + 8, none⟩) hbl').trans y8
      have hE := (he k hlt).below hb
      have hE' := (he' k hlt').below hb
      have hss := hs k hlt
      have hq : l[k].n = l'[k].n := by have := congrArg (fun t => t[k]?) hm; simpa [hlt, hlt'] using this
      clear hcell hc hcell' hc' z0 y0 z1 y1 z2 y2 z3 y3 z4 y4 z5 y5 z6 y6 z7 y7 z8 y8 he he' hs hm hll
      generalize l[k] = s at *
      generalize l'[k] = s' at *
      obtain ⟨⟨id, pe, te, vo, co, ro, log, vs, mt⟩, la, lc, va, vc, ma, mc⟩ := s
      obtain ⟨n2, la', lc', va', vc', ma', mc'⟩ := s'
      dsimp only at *
      subst hq
      have hz := hb.size
      have KE := fun W (h : Below wr.heap.size wr W) => eqNode_same id pe te vo co ro _ _ _ _ _ _ log vs mt W (hE.1.below h) (hE.2.1.below h) (hE.2.2.below h) (hE'.1.below h) (hE'.2.1.below h) (hE'.2.2.below h) hss.1 hss.2.1 hss.2.2
      clear hE hE' hss
      try dsimp only at *
      clear hlt'
      go_wp2_with fail
      go_region_held3 (fun w' => (w'.cell? ⟨b, off + k * 9, none⟩ = some (.int .i64 id) ∧ w'.cell? ⟨b, off + k * 9 + 1, none⟩ = some (.int .i64 pe) ∧ w'.cell? ⟨b, off + k * 9 + 2, none⟩ = some (.int .i64 te) ∧ w'.cell? ⟨b, off + k * 9 + 3, none⟩ = some (.int .i64 vo) ∧ w'.cell? ⟨b, off + k * 9 + 4, none⟩ = some (.slice la log.length lc) ∧ w'.cell? ⟨b, off + k * 9 + 5, none⟩ = some (.int .i64 co) ∧ w'.cell? ⟨b, off + k * 9 + 6, none⟩ = some (.int .i64 ro) ∧ w'.cell? ⟨b, off + k * 9 + 7, none⟩ = some (.slice va vs.length vc) ∧ w'.cell? ⟨b, off + k * 9 + 8, none⟩ = some (.slice ma mt.length mc)) ∧ w'.cell? ⟨b', off' + k * 9, none⟩ = some (.int .i64 id) ∧ w'.cell? ⟨b', off' + k * 9 + 1, none⟩ = some (.int .i64 pe) ∧ w'.cell? ⟨b', off' + k * 9 + 2, none⟩ = some (.int .i64 te) ∧ w'.cell? ⟨b', off' + k * 9 + 3, none⟩ = some (.int .i64 vo) ∧ w'.cell? ⟨b', off' + k * 9 + 4, none⟩ = some (.slice la' log.length lc') ∧ w'.cell? ⟨b', off' + k * 9 + 5, none⟩ = some (.int .i64 co) ∧ w'.cell? ⟨b', off' + k * 9 + 6, none⟩ = some (.int .i64 ro) ∧ w'.cell? ⟨b', off' + k * 9 + 7, none⟩ = some (.slice va' vs.length vc') ∧ w'.cell? ⟨b', off' + k * 9 + 8, none⟩ = some (.slice ma' mt.length mc')) (go_keep)
        (first | (go_at_call 27; refine (KE _ (Below.refl _ _).drew).mono ?_; rintro e w1 ⟨rfl, hb1'⟩; have hb1 := below_undrew hb1'; have hbl2 : b < wr.heap.size := (by omega); have hbl3 : b' < wr.heap.size := (by omega); replace hc0 := (hb1.cell (p := ⟨b, off + k * 9, none⟩) hbl2).trans hc0; replace hc1 := (hb1.cell (p := ⟨b, off + k * 9 + 1, none⟩) hbl2).trans hc1; replace hc2 := (hb1.cell (p := ⟨b, off + k * 9 + 2, none⟩) hbl2).trans hc2; replace hc3 := (hb1.cell (p := ⟨b, off + k * 9 + 3, none⟩) hbl2).trans hc3; replace hc4 := (hb1.cell (p := ⟨b, off + k * 9 + 4, none⟩) hbl2).trans hc4; replace hc5 := (hb1.cell (p := ⟨b, off + k * 9 + 5, none⟩) hbl2).trans hc5; replace hc6 := (hb1.cell (p := ⟨b, off + k * 9 + 6, none⟩) hbl2).trans hc6; replace hc7 := (hb1.cell (p := ⟨b, off + k * 9 + 7, none⟩) hbl2).trans hc7; replace hc8 := (hb1.cell (p := ⟨b, off + k * 9 + 8, none⟩) hbl2).trans hc8; replace hd0 := (hb1.cell (p := ⟨b', off' + k * 9, none⟩) hbl3).trans hd0; replace hd1 := (hb1.cell (p := ⟨b', off' + k * 9 + 1, none⟩) hbl3).trans hd1; replace hd2 := (hb1.cell (p := ⟨b', off' + k * 9 + 2, none⟩) hbl3).trans hd2; replace hd3 := (hb1.cell (p := ⟨b', off' + k * 9 + 3, none⟩) hbl3).trans hd3; replace hd4 := (hb1.cell (p := ⟨b', off' + k * 9 + 4, none⟩) hbl3).trans hd4; replace hd5 := (hb1.cell (p := ⟨b', off' + k * 9 + 5, none⟩) hbl3).trans hd5; replace hd6 := (hb1.cell (p := ⟨b', off' + k * 9 + 6, none⟩) hbl3).trans hd6; replace hd7 := (hb1.cell (p := ⟨b', off' + k * 9 + 7, none⟩) hbl3).trans hd7; replace hd8 := (hb1.cell (p := ⟨b', off' + k * 9 + 8, none⟩) hbl3).trans hd8))
      go_wp2
      go_roundw
      case rel => exact ⟨k + 1, by omega, by go_num, hb.trans (hb1.mono hz)⟩
      case measure => simp [intOf]; omega
    · clear hc hc' he he' hs hm hll
      go_wp2
      go_ret
      exact ⟨rfl, hb⟩

set_option maxHeartbeats 8000000 in
theorem eqMsgsS_same (u v : Value) (l l' : List Mv) (w : World) (hu : MW w u l) (hv : MW w v l') (he : ∀ i (h : i < l.length), ME w l[i]) (he' : ∀ i (h : i < l'.length), ME w l'[i]) (hm : l.map Mv.q = l'.map Mv.q) (hn : l.length ≤ 1048576) (hs : ∀ i (h : i < l.length), l[i].q.es.length ≤ 1048576) :
    Calls Try.prog 28 #[u, v] w fun e w' => e = .returned (.bool true) ∧ Below w.heap.size w w' := by
  have hll : l'.length = l.length := by have := congrArg List.length hm; simpa using this.symm
  obtain ⟨a, cap, rfl, hc⟩ := hu
  obtain ⟨a', cap', rfl, hc'⟩ := hv
  rw [hll]
  go_enter Try.func28, Try.ntmps28
  go_wp2
  go_loopw [5] (fun i wr => ∃ k : Nat, k ≤ l.length ∧ i = .int .i64 k ∧ Below w.heap.size w wr) (fun i _ => l.length - (intOf i).toNat)
  case atStart => exact ⟨0, Nat.zero_le _, rfl, Below.refl _ _⟩
  case round =>
    obtain ⟨k, hk, rfl, hb⟩ := hrel
    by_cases hlt : k < l.length
    · have hlt' : k < l'.length := by omega
      obtain ⟨b, off, rfl, hbl, hcell⟩ := hc (by intro e; simp [e] at hlt)
      obtain ⟨b', off', rfl, hbl', hcell'⟩ := hc' (by intro e; simp [e] at hlt')
      obtain ⟨z0, z1, z2, z3, z4, z5, z6, z7, z8⟩ := hcell k hlt
      obtain ⟨y0, y1, y2, y3, y4, y5, y6, y7, y8⟩ := hcell' k hlt'
      have hc0 := (hb.cell (p := ⟨b, off + k * 9, none⟩) hbl).trans z0
      have hd0 := (hb.cell (p := ⟨b', off' + k * 9, none⟩) hbl').trans y0
      have hc1 := (hb.cell (p := ⟨b, off + k * 9 + 1, none⟩) hbl).trans z1
      have hd1 := (hb.cell (p := ⟨b', off' + k * 9 + 1, none⟩) hbl').trans y1
      have hc2 := (hb.cell (p := ⟨b, off + k * 9 + 2, none⟩) hbl).trans z2
      have hd2 := (hb.cell (p := ⟨b', off' + k * 9 + 2, none⟩) hbl').trans y2
      have hc3 := (hb.cell (p := ⟨b, off + k * 9 + 3, none⟩) hbl).trans z3
      have hd3 := (hb.cell (p := ⟨b', off' + k * 9 + 3, none⟩) hbl').trans y3
      have hc4 := (hb.cell (p := ⟨b, off + k * 9 + 4, none⟩) hbl).trans z4
      have hd4 := (hb.cell (p := ⟨b', off' + k * 9 + 4, none⟩) hbl').trans y4
      have hc5 := (hb.cell (p := ⟨b, off + k * 9 + 5, none⟩) hbl).trans z5
      have hd5 := (hb.cell (p := ⟨b', off' + k * 9 + 5, none⟩) hbl').trans y5
      have hc6 := (hb.cell (p := ⟨b, off + k * 9 + 6, none⟩) hbl).trans z6
      have hd6 := (hb.cell (p := ⟨b', off' + k * 9 + 6, none⟩) hbl').trans y6
      have hc7 := (hb.cell (p := ⟨b, off + k * 9 + 7, none⟩) hbl).trans z7
      have hd7 := (hb.cell (p := ⟨b', off' + k * 9 + 7, none⟩) hbl').trans y7
      have hc8 := (hb.cell (p := ⟨b, off + k * 9 + 8, none⟩) hbl).trans z8
      have hd8 := (hb.cell (p := ⟨b', off' + k * 9 + 8, none⟩) hbl').trans y8
      have hE := (he k hlt).below hb
      have hE' := (he' k hlt').below hb
      have hss := hs k hlt
      have hq : l[k].q = l'[k].q := by have := congrArg (fun t => t[k]?) hm; simpa [hlt, hlt'] using this
      clear hcell hc hcell' hc' z0 y0 z1 y1 z2 y2 z3 y3 z4 y4 z5 y5 z6 y6 z7 y7 z8 y8 he he' hs hm hll
      generalize l[k] = s at *
      generalize l'[k] = s' at *
      obtain ⟨⟨ki, fr, dst, te, ix, be, co, ye, es⟩, ea, ec⟩ := s
      obtain ⟨q2, ea', ec'⟩ := s'
      dsimp only at *
      subst hq
      have hz := hb.size
      have KE := fun W (h : Below wr.heap.size wr W) => eqMsg_same ki fr dst te ix be co ye _ _ es W (ER.below hE h) (ER.below hE' h) hss
      clear hE hE' hss
      try dsimp only at *
      clear hlt'
      go_wp2_with fail
      go_region_held3 (fun w' => (w'.cell? ⟨b, off + k * 9, none⟩ = some (.int .i64 ki) ∧ w'.cell? ⟨b, off + k * 9 + 1, none⟩ = some (.int .i64 fr) ∧ w'.cell? ⟨b, off + k * 9 + 2, none⟩ = some (.int .i64 dst) ∧ w'.cell? ⟨b, off + k * 9 + 3, none⟩ = some (.int .i64 te) ∧ w'.cell? ⟨b, off + k * 9 + 4, none⟩ = some (.int .i64 ix) ∧ w'.cell? ⟨b, off + k * 9 + 5, none⟩ = some (.int .i64 be) ∧ w'.cell? ⟨b, off + k * 9 + 6, none⟩ = some (.slice ea es.length ec) ∧ w'.cell? ⟨b, off + k * 9 + 7, none⟩ = some (.int .i64 co) ∧ w'.cell? ⟨b, off + k * 9 + 8, none⟩ = some (.bool ye)) ∧ w'.cell? ⟨b', off' + k * 9, none⟩ = some (.int .i64 ki) ∧ w'.cell? ⟨b', off' + k * 9 + 1, none⟩ = some (.int .i64 fr) ∧ w'.cell? ⟨b', off' + k * 9 + 2, none⟩ = some (.int .i64 dst) ∧ w'.cell? ⟨b', off' + k * 9 + 3, none⟩ = some (.int .i64 te) ∧ w'.cell? ⟨b', off' + k * 9 + 4, none⟩ = some (.int .i64 ix) ∧ w'.cell? ⟨b', off' + k * 9 + 5, none⟩ = some (.int .i64 be) ∧ w'.cell? ⟨b', off' + k * 9 + 6, none⟩ = some (.slice ea' es.length ec') ∧ w'.cell? ⟨b', off' + k * 9 + 7, none⟩ = some (.int .i64 co) ∧ w'.cell? ⟨b', off' + k * 9 + 8, none⟩ = some (.bool ye)) (go_keep)
        (first | (go_at_call 84; refine (KE _ (Below.refl _ _).drew).mono ?_; rintro e w1 ⟨rfl, hb1'⟩; have hb1 := below_undrew hb1'; have hbl2 : b < wr.heap.size := (by omega); have hbl3 : b' < wr.heap.size := (by omega); replace hc0 := (hb1.cell (p := ⟨b, off + k * 9, none⟩) hbl2).trans hc0; replace hc1 := (hb1.cell (p := ⟨b, off + k * 9 + 1, none⟩) hbl2).trans hc1; replace hc2 := (hb1.cell (p := ⟨b, off + k * 9 + 2, none⟩) hbl2).trans hc2; replace hc3 := (hb1.cell (p := ⟨b, off + k * 9 + 3, none⟩) hbl2).trans hc3; replace hc4 := (hb1.cell (p := ⟨b, off + k * 9 + 4, none⟩) hbl2).trans hc4; replace hc5 := (hb1.cell (p := ⟨b, off + k * 9 + 5, none⟩) hbl2).trans hc5; replace hc6 := (hb1.cell (p := ⟨b, off + k * 9 + 6, none⟩) hbl2).trans hc6; replace hc7 := (hb1.cell (p := ⟨b, off + k * 9 + 7, none⟩) hbl2).trans hc7; replace hc8 := (hb1.cell (p := ⟨b, off + k * 9 + 8, none⟩) hbl2).trans hc8; replace hd0 := (hb1.cell (p := ⟨b', off' + k * 9, none⟩) hbl3).trans hd0; replace hd1 := (hb1.cell (p := ⟨b', off' + k * 9 + 1, none⟩) hbl3).trans hd1; replace hd2 := (hb1.cell (p := ⟨b', off' + k * 9 + 2, none⟩) hbl3).trans hd2; replace hd3 := (hb1.cell (p := ⟨b', off' + k * 9 + 3, none⟩) hbl3).trans hd3; replace hd4 := (hb1.cell (p := ⟨b', off' + k * 9 + 4, none⟩) hbl3).trans hd4; replace hd5 := (hb1.cell (p := ⟨b', off' + k * 9 + 5, none⟩) hbl3).trans hd5; replace hd6 := (hb1.cell (p := ⟨b', off' + k * 9 + 6, none⟩) hbl3).trans hd6; replace hd7 := (hb1.cell (p := ⟨b', off' + k * 9 + 7, none⟩) hbl3).trans hd7; replace hd8 := (hb1.cell (p := ⟨b', off' + k * 9 + 8, none⟩) hbl3).trans hd8))
      go_wp2
      go_roundw
      case rel => exact ⟨k + 1, by omega, by go_num, hb.trans (hb1.mono hz)⟩
      case measure => simp [intOf]; omega
    · clear hc hc' he he' hs hm hll
      go_wp2
      go_ret
      exact ⟨rfl, hb⟩

set_option maxHeartbeats 8000000 in
theorem eqLeadS_same (u v : Value) (l : List Ld) (w : World) (hu : LW w u l) (hv : LW w v l) (hn : l.length ≤ 1048576) :
    Calls Try.prog 44 #[u, v] w fun e w' => e = .returned (.bool true) ∧ Below w.heap.size w w' := by
  obtain ⟨a, cap, rfl, hc⟩ := hu
  obtain ⟨a', cap', rfl, hc'⟩ := hv

  go_enter Try.func44, Try.ntmps44
  go_wp2
  go_loopw [5] (fun i wr => ∃ k : Nat, k ≤ l.length ∧ i = .int .i64 k ∧ Below w.heap.size w wr) (fun i _ => l.length - (intOf i).toNat)
  case atStart => exact ⟨0, Nat.zero_le _, rfl, Below.refl _ _⟩
  case round =>
    obtain ⟨k, hk, rfl, hb⟩ := hrel
    by_cases hlt : k < l.length
    · have hlt' := hlt
      obtain ⟨b, off, rfl, hbl, hcell⟩ := hc (by intro e; simp [e] at hlt)
      obtain ⟨b', off', rfl, hbl', hcell'⟩ := hc' (by intro e; simp [e] at hlt')
      obtain ⟨z0, z1⟩ := hcell k hlt
      obtain ⟨y0, y1⟩ := hcell' k hlt'
      have hc0 := (hb.cell (p := ⟨b, off + k * 2, none⟩) hbl).trans z0
      have hd0 := (hb.cell (p := ⟨b', off' + k * 2, none⟩) hbl').trans y0
      have hc1 := (hb.cell (p := ⟨b, off + k * 2 + 1, none⟩) hbl).trans z1
      have hd1 := (hb.cell (p := ⟨b', off' + k * 2 + 1, none⟩) hbl').trans y1

      clear hcell hc hcell' hc' z0 y0 z1 y1
      generalize l[k] = s at *

      obtain ⟨t, n⟩ := s

      dsimp only at *

      have hz := hb.size
      have KE := fun W (h : Below wr.heap.size wr W) => eqLead_same t n W

      try dsimp only at *
      clear hlt'
      go_wp2_with fail
      go_region_held3 (fun w' => (w'.cell? ⟨b, off + k * 2, none⟩ = some (.int .i64 t) ∧ w'.cell? ⟨b, off + k * 2 + 1, none⟩ = some (.int .i64 n)) ∧ w'.cell? ⟨b', off' + k * 2, none⟩ = some (.int .i64 t) ∧ w'.cell? ⟨b', off' + k * 2 + 1, none⟩ = some (.int .i64 n)) (go_keep)
        (first | (go_at_call 105; refine (KE _ (Below.refl _ _).drew).mono ?_; rintro e w1 ⟨rfl, hb1'⟩; have hb1 := below_undrew hb1'; have hbl2 : b < wr.heap.size := (by omega); have hbl3 : b' < wr.heap.size := (by omega); replace hc0 := (hb1.cell (p := ⟨b, off + k * 2, none⟩) hbl2).trans hc0; replace hc1 := (hb1.cell (p := ⟨b, off + k * 2 + 1, none⟩) hbl2).trans hc1; replace hd0 := (hb1.cell (p := ⟨b', off' + k * 2, none⟩) hbl3).trans hd0; replace hd1 := (hb1.cell (p := ⟨b', off' + k * 2 + 1, none⟩) hbl3).trans hd1))
      go_wp2
      go_roundw
      case rel => exact ⟨k + 1, by omega, by go_num, hb.trans (hb1.mono hz)⟩
      case measure => simp [intOf]; omega
    · clear hc hc'
      go_wp2
      go_ret
      exact ⟨rfl, hb⟩

/-- What is small enough. -/
structure CS (N : List Nv) (M : List Mv) (L : List Ld) : Prop where
  n : N.length ≤ 1048576
  m : M.length ≤ 1048576
  l : L.length ≤ 1048576
  ne : ∀ i (h : i < N.length), N[i].n.log.length ≤ 1048576 ∧ N[i].n.vs.length ≤ 1048576 ∧ N[i].n.mt.length ≤ 1048576
  me : ∀ i (h : i < M.length), M[i].q.es.length ≤ 1048576
  ns : ∀ i (h : i < N.length) j (h2 : j < N[i].n.log.length), N[i].n.log[j].d.size ≤ 1048576
  ms : ∀ i (h : i < M.length) j (h2 : j < M[i].q.es.length), M[i].q.es[j].d.size ≤ 1048576

set_option maxHeartbeats 8000000 in
theorem eqCluster_same (un um ul vn vm vl : Value) (N N' : List Nv) (M M' : List Mv) (L : List Ld) (w : World) (h : CR w un um ul N M L) (h' : CR w vn vm vl N' M' L) (hn : N.map Nv.n = N'.map Nv.n) (hm : M.map Mv.q = M'.map Mv.q) (hs : CS N M L) :
    Calls Try.prog 35 #[.agg #[un, um, ul], .agg #[vn, vm, vl]] w fun e w' => e = .returned (.bool true) ∧ Below w.heap.size w w' := by
  obtain ⟨W0, hW0⟩ : ∃ W0, W0 = (w.alloc (.cells #[un, um, ul] 60)).alloc (.cells #[vn, vm, vl] 60) := ⟨_, rfl⟩
  have hB : Below w.heap.size w W0 := by rw [hW0]; exact below2 _ _ _
  have X : Box W0 w.heap.size [un, um, ul] := by rw [hW0]; exact (Box.new w #[un, um, ul] 60).alloc _
  have Y : Box W0 (w.heap.size + 1) [vn, vm, vl] := by
    rw [hW0]
    have := Box.new (w.alloc (.cells #[un, um, ul] 60)) #[vn, vm, vl] 60
    simpa using this
  have K1 := eqNodeS_same un vn N N' W0 (h.below hB).n (h'.below hB).n (h.below hB).ne (h'.below hB).ne hn hs.n hs.ne
  have K2 := fun W (hb : Below w.heap.size w W) => eqMsgsS_same um vm M M' W (h.below hb).m (h'.below hb).m (h.below hb).me (h'.below hb).me hm hs.m hs.me
  have K3 := fun W (hb : Below w.heap.size w W) => eqLeadS_same ul vl L W (h.below hb).l (h'.below hb).l hs.l
  obtain ⟨⟨na, nc, rfl⟩, ⟨ma, mc, rfl⟩, la, lc, rfl⟩ := h.shapes
  obtain ⟨⟨na', nc', rfl⟩, ⟨ma', mc', rfl⟩, la', lc', rfl⟩ := h'.shapes
  clear h h' hn hm hs
  go_enter Try.func35, Try.ntmps35
  go_wp2_with fail
  rw [← hW0]; clear hW0
  refine K1.mono ?_
  rintro e w1 ⟨rfl, hb⟩
  replace hB := below_then hB hb
  replace X := X.below hb
  replace Y := Y.below hb
  clear hb K1
  obtain ⟨hxl, x0, x1, x2⟩ := X.c3
  obtain ⟨hyl, y0, y1, y2⟩ := Y.c3
  go_wp2_with fail
  refine (K2 _ hB).mono ?_
  rintro e w2 ⟨rfl, hb⟩
  replace hB := below_then hB hb
  replace X := X.below hb
  replace Y := Y.below hb
  clear hb K2 hxl x0 x1 x2 hyl y0 y1 y2
  obtain ⟨hxl, x0, x1, x2⟩ := X.c3
  obtain ⟨hyl, y0, y1, y2⟩ := Y.c3
  go_wp2_with fail
  refine (K3 _ hB).mono ?_
  rintro e w3 ⟨rfl, hb⟩
  replace hB := below_then hB hb
  clear hb K3 hxl x0 x1 x2 hyl y0 y1 y2 X Y
  go_wp2
  go_ret
  exact ⟨rfl, hB⟩
end Go.Proofs.Ytapfhhmimkkhnaa
