/-
  toTower: a new row of links.
-/
import Derived.Test.YtcjkdkaahkphfaaDoorG2
namespace Go.Proofs.YtcjkdkaahkphfaaDoor
open Go.RowKit
set_option linter.unusedVariables false
set_option maxRecDepth 100000

theorem toIntS_ex (v : Value) (zs : List Int) (w : World) (hv : IL w v zs) (hn : zs.length ≤ 1048576) :
    Calls Tryd.prog 21 #[v] w fun e w' => ∃ g, w.heap.size ≤ g ∧ e = .returned (.slice (some ⟨g, 0, none⟩) zs.length zs.length) ∧ w'.ownsRow g 3 1 (.slice (some ⟨g, 0, none⟩) zs.length zs.length) zs.length (zs.map (.int .i64)) ∧ Below w.heap.size w w' :=
  (toIntS_any v zs w hv hn).mono fun e w' ⟨he, ho, hb⟩ => ⟨_, Nat.le_refl _, he, ho, hb⟩

set_option maxHeartbeats 2000000 in
theorem toTower_any (k : ByteArray) (n d : Int) (v : ByteArray) (nt : List Int) (u : Value) (w : World) (hu : IL w u nt) (hn : nt.length ≤ 1048576) :
    Calls Tryd.prog 43 #[.agg #[.string k, .int .i64 n, .int .i64 d, .string v, u]] w fun e w' => (∃ g, w.heap.size ≤ g ∧ e = .returned (.agg #[.string k, .int .i64 n, .int .i64 d, .string v, .slice (some ⟨g, 0, none⟩) nt.length nt.length]) ∧ w'.ownsRow g 3 1 (.slice (some ⟨g, 0, none⟩) nt.length nt.length) nt.length (nt.map (.int .i64))) ∧ Below w.heap.size w w' := by
  go_enter Tryd.func43, Tryd.ntmps43
  go_wp2_with fail
  refine (toItem_any k v n d _).mono ?_
  rintro e w1 ⟨rfl, hb1⟩
  have hB1 := below_then (below3 _ _ _ _) hb1
  have X1 := (((Box.new w #[.string k, .int .i64 n, .int .i64 d, .string v, u] 64).alloc (.cells #[.string ⟨#[]⟩, .int .i64 0, .int .i64 0, .string ⟨#[]⟩, .slice none 0 0] 49)).alloc (.cells #[.string ⟨#[]⟩, .int .i64 0, .int .i64 0, .string ⟨#[]⟩, .slice none 0 0] 49)).below hb1
  have Y1 := ((Box.new (w.alloc (.cells #[.string k, .int .i64 n, .int .i64 d, .string v, u] 64)) #[.string ⟨#[]⟩, .int .i64 0, .int .i64 0, .string ⟨#[]⟩, .slice none 0 0] 49).alloc (.cells #[.string ⟨#[]⟩, .int .i64 0, .int .i64 0, .string ⟨#[]⟩, .slice none 0 0] 49)).below hb1
  have Z1 := (Box.new ((w.alloc (.cells #[.string k, .int .i64 n, .int .i64 d, .string v, u] 64)).alloc (.cells #[.string ⟨#[]⟩, .int .i64 0, .int .i64 0, .string ⟨#[]⟩, .slice none 0 0] 49)) #[.string ⟨#[]⟩, .int .i64 0, .int .i64 0, .string ⟨#[]⟩, .slice none 0 0] 49).below hb1
  simp only [World.size_alloc] at Y1 Z1
  clear hb1
  obtain ⟨_, p0, p1, p2, p3, p4⟩ := X1.c5
  obtain ⟨_, q0, q1, q2, q3, q4⟩ := Z1.c5
  have qf := Z1.2.2
  have hsz1 : w.heap.size + 1 + 1 < w1.heap.size := Z1.1
  go_wp2_with fail
  obtain ⟨w2, hw2⟩ : ∃ w2, w2 = (((w1.setCell ⟨w.heap.size + 1 + 1, 0, none⟩ (.string k)).setCell ⟨w.heap.size + 1 + 1, 1, none⟩ (.int .i64 n)).setCell ⟨w.heap.size + 1 + 1, 2, none⟩ (.int .i64 d)).setCell ⟨w.heap.size + 1 + 1, 3, none⟩ (.string v) := ⟨_, rfl⟩
  have hS1 : Below w.heap.size w w2 := by rw [hw2]; exact (((hB1.setCell (by simp; omega) _).setCell (by simp; omega) _).setCell (by simp; omega) _).setCell (by simp; omega) _
  have X2 : Box w2 w.heap.size [.string k, .int .i64 n, .int .i64 d, .string v, u] := by
    rw [hw2]; exact (((X1.setOther _ _ (by simp; omega)).setOther _ _ (by simp; omega)).setOther _ _ (by simp; omega)).setOther _ _ (by simp; omega)
  have Y2 : Box w2 (w.heap.size + 1) [.string ⟨#[]⟩, .int .i64 0, .int .i64 0, .string ⟨#[]⟩, .slice none 0 0] := by
    rw [hw2]; exact (((Y1.setOther _ _ (by simp)).setOther _ _ (by simp)).setOther _ _ (by simp)).setOther _ _ (by simp)
  have Z2 : Box w2 (w.heap.size + 1 + 1) [.string k, .int .i64 n, .int .i64 d, .string v, .slice none 0 0] := by
    rw [hw2]; exact (((Z1.set 0 (.string k) (by simp)).set 1 (.int .i64 n) (by simp)).set 2 (.int .i64 d) (by simp)).set 3 (.string v) (by simp)
  rw [← hw2]
  clear hw2 X1 Y1 Z1 p0 p1 p2 p3 p4 q0 q1 q2 q3 q4 qf hB1 hsz1
  refine (toIntS_ex u nt w2 (hu.below hS1) hn).mono ?_
  rintro e w3 ⟨g, hg, rfl, hown, hb3⟩
  have hB3 := below_then hS1 hb3
  have Y3 := Y2.below hb3
  have Z3 := Z2.below hb3
  have hgt : w.heap.size + 1 + 1 < g := Nat.lt_of_lt_of_le Z2.1 hg
  clear hb3 X2 Y2 Z2 hS1 hu
  obtain ⟨_, q0, q1, q2, q3, q4⟩ := Z3.c5
  have qf := Z3.2.2
  obtain ⟨_, y0, y1, y2, y3, y4⟩ := Y3.c5
  have yf := Y3.2.2
  go_wp2
  refine bodyPost_ret (v := .agg #[.string k, .int .i64 n, .int .i64 d, .string v, .slice (some ⟨g, 0, none⟩) nt.length nt.length]) ?_ rfl ⟨⟨g, by omega, rfl, ?_⟩, ?_⟩
  · have F := (((((Y3.setOther ⟨w.heap.size + 1 + 1, 4, none⟩ (.slice (some ⟨g, 0, none⟩) nt.length nt.length) (by simp)).set 0 (.string k) (by simp)).set 1 (.int .i64 n) (by simp)).set 2 (.int .i64 d) (by simp)).set 3 (.string v) (by simp)).set 4 (.slice (some ⟨g, 0, none⟩) nt.length nt.length) (by simp)
    simp only [List.set_cons_zero, List.set_cons_succ] at F
    obtain ⟨_, t0, t1, t2, t3, t4⟩ := F.c5
    simp [results, Tryd.results43, go_sem, t0, t1, t2, t3, t4]
  · iterate 6 (refine ownsRow_setCell_below ?_ (by simp; omega) _)
    exact hown
  · iterate 6 (refine Below.setCell ?_ (by simp; try omega) _)
    exact hB3
end Go.Proofs.YtcjkdkaahkphfaaDoor
