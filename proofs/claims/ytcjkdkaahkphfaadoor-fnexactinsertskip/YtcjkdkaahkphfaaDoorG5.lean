/-
  eqItem, eqTower, eqTowerS, eqSkip of the same.
-/
import Derived.Test.YtcjkdkaahkphfaaDoorG4
namespace Go.Proofs.YtcjkdkaahkphfaaDoor
open Go.RowKit
set_option linter.unusedVariables false
set_option maxRecDepth 100000

theorem below_undrew {w w' : World} (h : Below w.drew.heap.size w.drew w') : Below w.heap.size w w' := (Below.refl _ _).drew.trans h
theorem eqItem_same (k v : ByteArray) (n d : Int) (w : World) :
    Calls Tryd.prog 64 #[.agg #[.string k, .int .i64 n, .int .i64 d, .string v], .agg #[.string k, .int .i64 n, .int .i64 d, .string v]] w fun e w' => e = .returned (.bool true) ∧ Below w.heap.size w w' := by
  go_enter Tryd.func64, Tryd.ntmps64
  go_wp2
  go_ret
  exact ⟨rfl, below2 _ _ _⟩
set_option maxHeartbeats 1000000 in
theorem eqTower_same (k v : ByteArray) (n d : Int) (nt : List Int) (u u' : Value) (w : World) (hu : IL w u nt) (hu' : IL w u' nt) (hn : nt.length ≤ 1048576) :
    Calls Tryd.prog 56 #[.agg #[.string k, .int .i64 n, .int .i64 d, .string v, u], .agg #[.string k, .int .i64 n, .int .i64 d, .string v, u']] w fun e w' => e = .returned (.bool true) ∧ Below w.heap.size w w' := by
  go_enter Tryd.func56, Tryd.ntmps56
  go_wp2_with fail
  refine (eqItem_same k v n d _).mono ?_
  rintro e w1 ⟨rfl, hb1⟩
  have hB1 := below_then (below2 _ _ _) hb1
  have X1 := ((Box.new w #[.string k, .int .i64 n, .int .i64 d, .string v, u] 49).alloc (.cells #[.string k, .int .i64 n, .int .i64 d, .string v, u'] 49)).below hb1
  have Y1 := (Box.new (w.alloc (.cells #[.string k, .int .i64 n, .int .i64 d, .string v, u] 49)) #[.string k, .int .i64 n, .int .i64 d, .string v, u'] 49).below hb1
  simp only [World.size_alloc] at Y1
  clear hb1
  obtain ⟨_, p0, p1, p2, p3, p4⟩ := X1.c5
  obtain ⟨_, q0, q1, q2, q3, q4⟩ := Y1.c5
  go_wp2_with fail
  refine (eqIntS_same u u' nt _ (hu.below hB1) (hu'.below hB1) hn).mono ?_
  rintro e w2 ⟨rfl, hb2⟩
  have hB2 := below_then hB1 hb2
  clear hb2 X1 Y1 p0 p1 p2 p3 p4 q0 q1 q2 q3 q4
  go_wp2
  go_ret
  exact ⟨rfl, hB2⟩

set_option maxHeartbeats 2000000 in
theorem eqTowerS_same (u v : Value) (l : List Tw) (w : World) (hu : TW w u l) (hv : TW w v l) (hn : l.length ≤ 1048576) (hf : ∀ i (h : i < l.length), l[i].next.length ≤ 1048576) :
    Calls Tryd.prog 30 #[u, v] w fun e w' => e = .returned (.bool true) ∧ Below w.heap.size w w' := by
  obtain ⟨a, cap, rfl, hc⟩ := hu
  obtain ⟨a', cap', rfl, hc'⟩ := hv
  go_enter Tryd.func30, Tryd.ntmps30
  go_wp2
  go_loopw [5] (fun i wr => ∃ k : Nat, k ≤ l.length ∧ i = .int .i64 k ∧ Below w.heap.size w wr) (fun i _ => l.length - (intOf i).toNat)
  case atStart => exact ⟨0, Nat.zero_le _, rfl, Below.refl _ _⟩
  case round =>
    obtain ⟨k, hk, rfl, hb⟩ := hrel
    by_cases hlt : k < l.length
    · obtain ⟨b, off, rfl, hbl, hcell⟩ := hc (by intro e; simp [e] at hlt)
      obtain ⟨b', off', rfl, hbl', hcell'⟩ := hc' (by intro e; simp [e] at hlt)
      obtain ⟨x, ⟨z0, z1, z2, z3, z4⟩, hx⟩ := hcell k hlt
      obtain ⟨y, ⟨t0, t1, t2, t3, t4⟩, hy⟩ := hcell' k hlt
      have hfk := hf k hlt
      have hc0 := (hb.cell (p := ⟨b, off + k * 5, none⟩) hbl).trans z0
      have hc1 := (hb.cell (p := ⟨b, off + k * 5 + 1, none⟩) hbl).trans z1
      have hc2 := (hb.cell (p := ⟨b, off + k * 5 + 2, none⟩) hbl).trans z2
      have hc3 := (hb.cell (p := ⟨b, off + k * 5 + 3, none⟩) hbl).trans z3
      have hc4 := (hb.cell (p := ⟨b, off + k * 5 + 4, none⟩) hbl).trans z4
      have hd0 := (hb.cell (p := ⟨b', off' + k * 5, none⟩) hbl').trans t0
      have hd1 := (hb.cell (p := ⟨b', off' + k * 5 + 1, none⟩) hbl').trans t1
      have hd2 := (hb.cell (p := ⟨b', off' + k * 5 + 2, none⟩) hbl').trans t2
      have hd3 := (hb.cell (p := ⟨b', off' + k * 5 + 3, none⟩) hbl').trans t3
      have hd4 := (hb.cell (p := ⟨b', off' + k * 5 + 4, none⟩) hbl').trans t4
      have hx1 := hx.below hb
      have hy1 := hy.below hb
      clear hcell hc hcell' hc' z0 z1 z2 z3 z4 t0 t1 t2 t3 t4 hx hy hf
      have hz := hb.size
      generalize l[k] = s at *
      obtain ⟨sk, sn, sd, sv, sx⟩ := s
      dsimp only at hc0 hc1 hc2 hc3 hd0 hd1 hd2 hd3 hfk hx1 hy1
      go_wp2_with fail
      go_region_held3 (fun w' => (w'.cell? ⟨b, off + k * 5, none⟩ = some (.string sk) ∧ w'.cell? ⟨b, off + k * 5 + 1, none⟩ = some (.int .i64 sn) ∧ w'.cell? ⟨b, off + k * 5 + 2, none⟩ = some (.int .i64 sd) ∧ w'.cell? ⟨b, off + k * 5 + 3, none⟩ = some (.string sv) ∧ w'.cell? ⟨b, off + k * 5 + 4, none⟩ = some x) ∧ w'.cell? ⟨b', off' + k * 5, none⟩ = some (.string sk) ∧ w'.cell? ⟨b', off' + k * 5 + 1, none⟩ = some (.int .i64 sn) ∧ w'.cell? ⟨b', off' + k * 5 + 2, none⟩ = some (.int .i64 sd) ∧ w'.cell? ⟨b', off' + k * 5 + 3, none⟩ = some (.string sv) ∧ w'.cell? ⟨b', off' + k * 5 + 4, none⟩ = some y) (go_keep)
        (first | (go_at_call 56; refine (eqTower_same sk sv sn sd sx x y _ (hx1.below (Below.refl _ _).drew) (hy1.below (Below.refl _ _).drew) hfk).mono ?_; rintro e w1 ⟨rfl, hb1'⟩; have hb1 := below_undrew hb1'; have hbl2 : b < wr.heap.size := (by omega); have hbl3 : b' < wr.heap.size := (by omega); replace hc0 := (hb1.cell (p := ⟨b, off + k * 5, none⟩) hbl2).trans hc0; replace hc1 := (hb1.cell (p := ⟨b, off + k * 5 + 1, none⟩) hbl2).trans hc1; replace hc2 := (hb1.cell (p := ⟨b, off + k * 5 + 2, none⟩) hbl2).trans hc2; replace hc3 := (hb1.cell (p := ⟨b, off + k * 5 + 3, none⟩) hbl2).trans hc3; replace hc4 := (hb1.cell (p := ⟨b, off + k * 5 + 4, none⟩) hbl2).trans hc4; replace hd0 := (hb1.cell (p := ⟨b', off' + k * 5, none⟩) hbl3).trans hd0; replace hd1 := (hb1.cell (p := ⟨b', off' + k * 5 + 1, none⟩) hbl3).trans hd1; replace hd2 := (hb1.cell (p := ⟨b', off' + k * 5 + 2, none⟩) hbl3).trans hd2; replace hd3 := (hb1.cell (p := ⟨b', off' + k * 5 + 3, none⟩) hbl3).trans hd3; replace hd4 := (hb1.cell (p := ⟨b', off' + k * 5 + 4, none⟩) hbl3).trans hd4))
      go_wp2
      go_roundw
      case rel => exact ⟨k + 1, by omega, by go_num, hb.trans (hb1.mono hz)⟩
      case measure => simp [intOf]; omega
    · clear hc hc'
      go_wp2
      go_ret
      exact ⟨rfl, hb⟩

set_option maxHeartbeats 1000000 in
theorem eqSkip_same (x y x' y' : Value) (hs : List Int) (ts : List Tw) (w : World) (hx : IL w x hs) (hy : TW w y ts) (hx' : IL w x' hs) (hy' : TW w y' ts) (hn : hs.length ≤ 1048576) (hm : ts.length ≤ 1048576) (hf : ∀ i (h : i < ts.length), ts[i].next.length ≤ 1048576) :
    Calls Tryd.prog 10 #[.agg #[x, y], .agg #[x', y']] w fun e w' => e = .returned (.bool true) ∧ Below w.heap.size w w' := by
  go_enter Tryd.func10, Tryd.ntmps10
  go_wp2_with fail
  refine (eqIntS_same x x' hs _ (hx.below (below2 _ _ _)) (hx'.below (below2 _ _ _)) hn).mono ?_
  rintro e w1 ⟨rfl, hb1⟩
  have hB1 := below_then (below2 _ _ _) hb1
  have X1 := ((Box.new w #[x, y] 32).alloc (.cells #[x', y'] 32)).below hb1
  have Y1 := (Box.new (w.alloc (.cells #[x, y] 32)) #[x', y'] 32).below hb1
  simp only [World.size_alloc] at Y1
  clear hb1
  obtain ⟨_, p0, p1⟩ := X1.c2
  obtain ⟨_, q0, q1⟩ := Y1.c2
  go_wp2_with fail
  refine (eqTowerS_same y y' ts _ (hy.below hB1) (hy'.below hB1) hm hf).mono ?_
  rintro e w2 ⟨rfl, hb2⟩
  have hB2 := below_then hB1 hb2
  clear hb2 X1 Y1 p0 p1 q0 q1
  go_wp2
  go_ret
  exact ⟨rfl, hB2⟩
end Go.Proofs.YtcjkdkaahkphfaaDoor
