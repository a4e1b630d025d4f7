/-
  spec: l4First on a good list.
-/
import Derived.Test.YtdaldkcildbcmaaDoorW1ToX1
namespace Go.Proofs.YtdaldkcildbcmaaDoor
open Go.RowKit
set_option linter.unusedVariables false
set_option maxRecDepth 100000

set_option maxHeartbeats 4000000 in
theorem l4First_any (x : Value) (ay : Option Addr) (cy : Nat) (hs : List Int) (ts : List Tw) (t : Tw) (w : World) (hx : IL w x hs) (hy : TW w (.slice ay ts.length cy) ts) (G : GoodI hs ts) :
    Calls Tryd.prog 44 #[.agg #[x, .slice ay ts.length cy], .agg #[.string t.key, .int .i64 t.seq, .int .i64 t.kind, .string t.val]] w fun e w' => e = .returned (.tuple #[.int .i64 (skN hs ts t), .int .i64 (SkS hs ts t 5).2]) ∧ Below w.heap.size w w' := by
  have KL := fun w hx hy => l4Before_any x ay cy hs ts t w hx hy G
  have hok := SkS_ok G t 5 (by omega) 0 (by omega)
  have KF := fun w hx hy => l4Next_any x (.slice ay ts.length cy) hs ts _ 0 w hx hy G.1 (by omega) G.2.1 hok
  have H0 := lastL_first hs ts t
  have HN : Hid (skN hs ts t = NX hs ts (SkS hs ts t 5).1 0) := rfl
  rw [← HN.out] at KF
  generalize skN hs ts t = N at *
  generalize lastL hs ts t 5 = LL at *
  generalize (SkS hs ts t 5).2 = M at *
  generalize (SkS hs ts t 5).1 = A at *
  generalize t.key = tk at *
  generalize t.seq = ts' at *
  generalize t.kind = td at *
  generalize t.val = tv at *
  obtain ⟨ax, cx, hxe, _⟩ := id hx
  subst hxe
  go_enter Tryd.func44, Tryd.ntmps44
  go_wp2_with fail
  refine (KL _ (hx.below (below2 _ _ _)) (hy.below (below2 _ _ _))).mono ?_
  rintro e w1 ⟨⟨g, rfl, o1, _⟩, hb1⟩
  have hB1 := below_then (below2 _ _ _) hb1
  have X1 := ((Box.new w #[.slice ax hs.length cx, .slice ay ts.length cy] 26).alloc (.cells #[.string tk, .int .i64 ts', .int .i64 td, .string tv] 28)).below hb1
  have d0 : w1.cell? ⟨g, 0, none⟩ = some (.int .i64 A) := by
    rw [o1.cellAt 0 (by omega), List.getElem?_map, H0]; rfl
  have hgl := owns_lt3 o1
  clear hb1 KL o1
  go_wp2_with fail
  have hne : Nonempty (WC w1.heap.size w1) := ⟨⟨_, Below.refl _ _⟩⟩
  have px := fun x : WC w1.heap.size w1 => (X1.below x.ok).2.1 0 _ rfl
  have py := fun x : WC w1.heap.size w1 => (X1.below x.ok).2.1 1 _ rfl
  have pd := fun x : WC w1.heap.size w1 => (x.ok.cell (p := ⟨g, 0, none⟩) hgl).trans d0
  have KW := fun x : WC w1.heap.size w1 => KF x.w (hx.below (below_then hB1 x.ok)) (hy.below (below_then hB1 x.ok))
  clear KF d0
  refine wp_region_calm (B := w1.heap.size) (W := w1) (by kernel_rfl) (by kernel_rfl) (Below.refl _ _) ?_
  repeat (go_big_quiet_step (first | (go_at_call 64; exact calm_of_below (Nat.le_refl _) (KW _))))
  refine wpQuiet_nil ?_
  intro _ hw'
  obtain ⟨x, hxx⟩ := hw'
  subst hxx
  have hB8 := below_then hB1 x.ok
  clear px py pd KW hne X1 hB1
  generalize x.w = w8 at *
  clear x
  go_wp2
  refine bodyPost_ret (v := .tuple #[.int .i64 N, .int .i64 M]) ?_ rfl ⟨rfl, hB8⟩
  simp [results, Tryd.results44, go_sem]
end Go.Proofs.YtdaldkcildbcmaaDoor
