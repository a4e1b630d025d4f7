/-
  toDisk: three new rows.
-/
import Derived.Test.YtoiajjlbajdknaaG3
namespace Go.Proofs.Ytoiajjlbajdknaa
open Go.RowKit

set_option maxHeartbeats 1000000 in
/-- toDisk makes new rows. -/
theorem toDisk_any (u1 u2 u3 : Value) (bl lv sf : List (ByteArray × Int)) (r : Int) (w : World) (hu1 : PL w u1 bl) (hu2 : PL w u2 lv) (hu3 : PL w u3 sf)
    (hn1 : bl.length ≤ 1048576) (hn2 : lv.length ≤ 1048576) (hn3 : sf.length ≤ 1048576) :
    Calls Try.prog 18 #[.agg #[u1, u2, u3, .int .i64 r]] w fun e w' => (∃ g1 g2 g3 : Nat, g1 < g2 ∧ g2 < g3 ∧ w.heap.size < g1 ∧ e = .returned (.agg #[.slice (some ⟨g1, 0, none⟩) bl.length bl.length, .slice (some ⟨g2, 0, none⟩) lv.length lv.length, .slice (some ⟨g3, 0, none⟩) sf.length sf.length, .int .i64 r]) ∧
      w'.ownsRow g1 77 2 (.slice (some ⟨g1, 0, none⟩) bl.length bl.length) bl.length (flat bl) ∧ w'.ownsRow g2 93 2 (.slice (some ⟨g2, 0, none⟩) lv.length lv.length) lv.length (flat lv) ∧ w'.ownsRow g3 93 2 (.slice (some ⟨g3, 0, none⟩) sf.length sf.length) sf.length (flat sf)) ∧ Below w.heap.size w w' := by
  go_enter Try.func18, Try.ntmps18
  go_wp2_with fail
  refine (toBlobS_ex _ bl _ (((hu1.alloc _).alloc _).alloc _) hn1).mono ?_
  rintro e w1 ⟨g1, hg1, rfl, hown1, hb1⟩
  simp only [World.size_alloc] at hg1
  have hB1 := below_then (below3 _ _ _ _) hb1
  have X1 := (((Box.new w #[u1, u2, u3, .int .i64 r] 34).alloc (.cells #[.slice none 0 0, .slice none 0 0, .slice none 0 0, .int .i64 0] 25)).alloc (.cells #[.slice none 0 0, .slice none 0 0, .slice none 0 0, .int .i64 0] 25)).below hb1
  have Y1 := ((Box.new (w.alloc (.cells #[u1, u2, u3, .int .i64 r] 34)) #[.slice none 0 0, .slice none 0 0, .slice none 0 0, .int .i64 0] 25).alloc (.cells #[.slice none 0 0, .slice none 0 0, .slice none 0 0, .int .i64 0] 25)).below hb1
  have Z1 := (Box.new ((w.alloc (.cells #[u1, u2, u3, .int .i64 r] 34)).alloc (.cells #[.slice none 0 0, .slice none 0 0, .slice none 0 0, .int .i64 0] 25)) #[.slice none 0 0, .slice none 0 0, .slice none 0 0, .int .i64 0] 25).below hb1
  simp only [World.size_alloc] at Y1 Z1
  clear hb1
  obtain ⟨_, p0, p1, p2, p3⟩ := X1.c4
  obtain ⟨_, q0, q1, q2, q3⟩ := Z1.c4
  have qf := Z1.2.2
  go_wp2_with fail
  have hS1 : Below w.heap.size w (w1.setCell ⟨w.heap.size + 1 + 1, 0, none⟩ (.slice (some ⟨g1, 0, none⟩) bl.length bl.length)) := hB1.setCell (by simp; omega) _
  refine (toNameS_ex _ lv _ (hu2.below hS1) hn2).mono ?_
  rintro e w2 ⟨g2, hg2, rfl, hown2, hb2⟩
  simp only [World.size_setCell] at hg2
  have hB2 := below_then hS1 hb2
  have X2 := (X1.setOther ⟨w.heap.size + 1 + 1, 0, none⟩ (.slice (some ⟨g1, 0, none⟩) bl.length bl.length) (by simp; omega)).below hb2
  have Y2 := (Y1.setOther ⟨w.heap.size + 1 + 1, 0, none⟩ (.slice (some ⟨g1, 0, none⟩) bl.length bl.length) (by simp)).below hb2
  have Z2 := (Z1.set 0 (.slice (some ⟨g1, 0, none⟩) bl.length bl.length) (by simp)).below hb2
  simp only [List.set_cons_zero] at Z2
  have ho1 := owns_below (ownsRow_setCell_below hown1 (a := ⟨w.heap.size + 1 + 1, 0, none⟩) (by simp; omega) (.slice (some ⟨g1, 0, none⟩) bl.length bl.length)) hb2
  have hlt1 := (owns_lt hown1).2
  clear p0 p1 p2 p3 q0 q1 q2 q3 qf X1 Y1 Z1 hb2 hown1
  obtain ⟨_, p0, p1, p2, p3⟩ := X2.c4
  obtain ⟨_, q0, q1, q2, q3⟩ := Z2.c4
  have qf := Z2.2.2
  go_wp2_with fail
  have hS2 : Below w.heap.size w (w2.setCell ⟨w.heap.size + 1 + 1, 1, none⟩ (.slice (some ⟨g2, 0, none⟩) lv.length lv.length)) := hB2.setCell (by simp; omega) _
  refine (toNameS_ex _ sf _ (hu3.below hS2) hn3).mono ?_
  rintro e w3 ⟨g3, hg3, rfl, hown3, hb3⟩
  simp only [World.size_setCell] at hg3
  have hB3 := below_then hS2 hb3
  have X3 := (X2.setOther ⟨w.heap.size + 1 + 1, 1, none⟩ (.slice (some ⟨g2, 0, none⟩) lv.length lv.length) (by simp; omega)).below hb3
  have Y3 := (Y2.setOther ⟨w.heap.size + 1 + 1, 1, none⟩ (.slice (some ⟨g2, 0, none⟩) lv.length lv.length) (by simp)).below hb3
  have Z3 := (Z2.set 1 (.slice (some ⟨g2, 0, none⟩) lv.length lv.length) (by simp)).below hb3
  simp only [List.set_cons_zero, List.set_cons_succ] at Z3
  have ho1' := owns_below (ownsRow_setCell_below ho1 (a := ⟨w.heap.size + 1 + 1, 1, none⟩) (by simp; omega) (.slice (some ⟨g2, 0, none⟩) lv.length lv.length)) hb3
  have ho2' := owns_below (ownsRow_setCell_below hown2 (a := ⟨w.heap.size + 1 + 1, 1, none⟩) (by simp; omega) (.slice (some ⟨g2, 0, none⟩) lv.length lv.length)) hb3
  have hlt2 := (owns_lt hown2).2
  clear p0 p1 p2 p3 q0 q1 q2 q3 qf X2 Y2 Z2 hb3 hown2 ho1
  obtain ⟨_, p0, p1, p2, p3⟩ := X3.c4
  obtain ⟨_, q0, q1, q2, q3⟩ := Z3.c4
  have qf := Z3.2.2
  obtain ⟨_, y0, y1, y2, y3⟩ := Y3.c4
  have yf := Y3.2.2
  go_wp2
  refine bodyPost_ret (v := .agg #[(.slice (some ⟨g1, 0, none⟩) bl.length bl.length), (.slice (some ⟨g2, 0, none⟩) lv.length lv.length), (.slice (some ⟨g3, 0, none⟩) sf.length sf.length), .int .i64 r]) ?_ rfl ⟨⟨g1, g2, g3, by omega, by omega, by omega, rfl, ?_, ?_, ?_⟩, ?_⟩
  · have F := ((((((Y3.setOther ⟨w.heap.size + 1 + 1, 2, none⟩ (.slice (some ⟨g3, 0, none⟩) sf.length sf.length) (by simp)).setOther ⟨w.heap.size + 1 + 1, 3, none⟩ (.int .i64 r) (by simp)).set 0 (.slice (some ⟨g1, 0, none⟩) bl.length bl.length) (by simp)).set 1 (.slice (some ⟨g2, 0, none⟩) lv.length lv.length) (by simp)).set 2 (.slice (some ⟨g3, 0, none⟩) sf.length sf.length) (by simp)).set 3 (.int .i64 r) (by simp))
    simp only [List.set_cons_zero, List.set_cons_succ] at F
    obtain ⟨_, t0, t1, t2, t3⟩ := F.c4
    simp [results, Try.results18, go_sem, t0, t1, t2, t3]
  · iterate 6 (refine ownsRow_setCell_below ?_ (by simp; omega) _)
    exact ho1'
  · iterate 6 (refine ownsRow_setCell_below ?_ (by simp; omega) _)
    exact ho2'
  · iterate 6 (refine ownsRow_setCell_below ?_ (by simp; omega) _)
    exact hown3
  · iterate 6 (refine Below.setCell ?_ (by simp; try omega) _)
    exact hB3
end Go.Proofs.Ytoiajjlbajdknaa
