/-
  spec.l1Do whatever the step.
  spec.DoDisk.
-/
import Derived.Test.YtbgemebpfcbloaaZ5a
import Derived.Test.YtbgemebpfcbloaaZ5b
import Derived.Test.YtbgemebpfcbloaaZ5c
import Derived.Test.YtbgemebpfcbloaaZ8
import Derived.Test.YtbgemebpfcbloaaZ9
import Derived.Test.YtbgemebpfcbloaaZ10
import Derived.Test.YtbgemebpfcbloaaZ11
import Derived.Test.YtbgemebpfcbloaaZ12
import Derived.Test.YtbgemebpfcbloaaZ13
import Derived.Deep.RegionHeld3
import Derived.MapKept
namespace Go.Proofs.Ytbgemebpfcbloaa
open Go.RowKit Go.Maps
set_option linter.unusedVariables false
set_option maxRecDepth 100000

theorem l1Do_any (g1 c1 g2 c2 g3 c3 : Nat) (bl lv sf : List (ByteArray × Int)) (r k : Int) (base : Nat) (nm ot da : ByteArray) (kp : Int) (w : World) (hM : MadeS base w g1 c1 g2 c2 g3 c3 bl lv sf) (hbase : base ≤ w.heap.size) (hg : goodD bl lv sf r = true) (hnm : nm.size ≤ 1048576) (hot : ot.size ≤ 1048576) (hda : da.size ≤ 1048576) :
    Calls Try.prog 56 #[.agg #[.slice (some ⟨g1, 0, none⟩) bl.length c1, .slice (some ⟨g2, 0, none⟩) lv.length c2, .slice (some ⟨g3, 0, none⟩) sf.length c3, .int .i64 r], .agg #[.int .i64 k, .string nm, .string ot, .string da, .int .i64 kp]] w fun e w' => (∃ a1 n1 d1 a2 n2 d2 a3 n3 d3, e = .returned (.tuple #[.agg #[.slice a1 n1 d1, .slice a2 n2 d2, .slice a3 n3 d3, .int .i64 r], .int .i64 (refuse k nm ot da kp bl lv sf r)]) ∧
      (refuse k nm ot da kp bl lv sf r = 0 → Made base w' (.slice a1 n1 d1) (.slice a2 n2 d2) (.slice a3 n3 d3) (nB k nm da kp bl lv) (nL k nm ot bl lv sf) (nS k lv sf))) ∧ Chg (fun b => b = g1 ∨ w.heap.size ≤ b) w w' := by
  cases hS : goodS k nm ot da kp with
  | false =>
    have hc : refuse k nm ot da kp bl lv sf r = 1 := by simp [refuse, hS]
    rw [hc]
    have key : Calls Try.prog 56 #[.agg #[.slice (some ⟨g1, 0, none⟩) bl.length c1, .slice (some ⟨g2, 0, none⟩) lv.length c2, .slice (some ⟨g3, 0, none⟩) sf.length c3, .int .i64 r], .agg #[.int .i64 k, .string nm, .string ot, .string da, .int .i64 kp]] w fun e w' => e = .returned (.tuple #[.agg #[.slice (some ⟨g1, 0, none⟩) bl.length c1, .slice (some ⟨g2, 0, none⟩) lv.length c2, .slice (some ⟨g3, 0, none⟩) sf.length c3, .int .i64 r], .int .i64 1]) ∧ Below w.heap.size w w' := by
      rcases kinds k with rfl | rfl | rfl | rfl | rfl | rfl | rfl | rfl | ⟨k1, k2, k3, k4, k5, k6, k7, k8⟩
      · exact bad_1 g1 c1 g2 c2 g3 c3 bl lv sf r nm ot da kp w hnm hot hda hS
      · exact bad_2 g1 c1 g2 c2 g3 c3 bl lv sf r nm ot da kp w hnm hot hda hS
      · exact bad_3 g1 c1 g2 c2 g3 c3 bl lv sf r nm ot da kp w hnm hot hda hS
      · exact bad_4 g1 c1 g2 c2 g3 c3 bl lv sf r nm ot da kp w hnm hot hda hS
      · exact bad_5 g1 c1 g2 c2 g3 c3 bl lv sf r nm ot da kp w hnm hot hda hS
      · exact bad_6 g1 c1 g2 c2 g3 c3 bl lv sf r nm ot da kp w hnm hot hda hS
      · exact bad_7 g1 c1 g2 c2 g3 c3 bl lv sf r nm ot da kp w hnm hot hda hS
      · exact bad_8 g1 c1 g2 c2 g3 c3 bl lv sf r nm ot da kp w hnm hot hda hS
      · exact bad_x g1 c1 g2 c2 g3 c3 bl lv sf r k nm ot da kp w hnm hot hda k1 k2 k3 k4 k5 k6 k7 k8
    exact key.mono fun e w' ⟨he, hb⟩ => ⟨⟨_, _, _, _, _, _, _, _, _, he, fun h => by cases h⟩, Chg.of_below hb⟩
  | true =>
    rcases kinds k with rfl | rfl | rfl | rfl | rfl | rfl | rfl | rfl | ⟨k1, k2, k3, k4, k5, k6, k7, k8⟩
    · exact dg_1 g1 c1 g2 c2 g3 c3 bl lv sf r base nm ot da kp w hM hbase hg hnm hot hda hS
    · exact dg_2 g1 c1 g2 c2 g3 c3 bl lv sf r base nm ot da kp w hM hbase hg hnm hot hda hS
    · exact dg_3 g1 c1 g2 c2 g3 c3 bl lv sf r base nm ot da kp w hM hbase hg hnm hot hda hS
    · exact dg_4 g1 c1 g2 c2 g3 c3 bl lv sf r base nm ot da kp w hM hbase hg hnm hot hda hS
    · exact dg_5 g1 c1 g2 c2 g3 c3 bl lv sf r base nm ot da kp w hM hbase hg hnm hot hda hS
    · exact dg_6 g1 c1 g2 c2 g3 c3 bl lv sf r base nm ot da kp w hM hbase hg hnm hot hda hS
    · exact dg_7 g1 c1 g2 c2 g3 c3 bl lv sf r base nm ot da kp w hM hbase hg hnm hot hda hS
    · exact dg_8 g1 c1 g2 c2 g3 c3 bl lv sf r base nm ot da kp w hM hbase hg hnm hot hda hS
    · exfalso
      simp [goodS, kindOk, k1, k2, k3, k4, k5, k6, k7, k8] at hS
end Go.Proofs.Ytbgemebpfcbloaa

namespace Go.Proofs.Ytbgemebpfcbloaa
open Go.RowKit Go.Maps
set_option linter.unusedVariables false
set_option maxRecDepth 100000


theorem alloc_at (w : World) (o : Obj) : (w.alloc o).heap[w.heap.size]? = some o := (MapKept.heap_alloc w o).1
/-- What a call leaves of the old blocks but one. -/
structure Kept (g : Nat) (w w' : World) : Prop where
  size : w.heap.size ≤ w'.heap.size
  box : ∀ b vs, b < w.heap.size → b ≠ g → Box w b vs → Box w' b vs
  block : ∀ b, b < w.heap.size → b ≠ g → w'.heap[b]? = w.heap[b]?
theorem Chg.kept {g : Nat} {w w' : World} (h : Chg (fun b => b = g ∨ w.heap.size ≤ b) w w') : Kept g w w' :=
  ⟨h.size, fun b vs hb hn hx => h.box hx (by intro e; rcases e with e | e <;> omega), fun b hb hn => h.block b hb (by intro e; rcases e with e | e <;> omega)⟩
theorem l1Do_k (g1 c1 g2 c2 g3 c3 : Nat) (bl lv sf : List (ByteArray × Int)) (r k : Int) (base : Nat) (nm ot da : ByteArray) (kp : Int) (w : World) (hM : MadeS base w g1 c1 g2 c2 g3 c3 bl lv sf) (hbase : base ≤ w.heap.size) (hg : goodD bl lv sf r = true) (hnm : nm.size ≤ 1048576) (hot : ot.size ≤ 1048576) (hda : da.size ≤ 1048576) :
    Calls Try.prog 56 #[.agg #[.slice (some ⟨g1, 0, none⟩) bl.length c1, .slice (some ⟨g2, 0, none⟩) lv.length c2, .slice (some ⟨g3, 0, none⟩) sf.length c3, .int .i64 r], .agg #[.int .i64 k, .string nm, .string ot, .string da, .int .i64 kp]] w fun e w' => (∃ a1 n1 d1 a2 n2 d2 a3 n3 d3, e = .returned (.tuple #[.agg #[.slice a1 n1 d1, .slice a2 n2 d2, .slice a3 n3 d3, .int .i64 r], .int .i64 (refuse k nm ot da kp bl lv sf r)]) ∧ (refuse k nm ot da kp bl lv sf r = 0 → Made base w' (.slice a1 n1 d1) (.slice a2 n2 d2) (.slice a3 n3 d3) (nB k nm da kp bl lv) (nL k nm ot bl lv sf) (nS k lv sf))) ∧ Kept g1 w w' ∧ Below base w w' :=
  (l1Do_any g1 c1 g2 c2 g3 c3 bl lv sf r k base nm ot da kp w hM hbase hg hnm hot hda).mono fun e w' ⟨h, hc⟩ => ⟨h, Chg.kept hc, hc.below hbase (by have := (owns_lt hM.1).1; intro b e; rcases e with e | e <;> omega)⟩
theorem l1Do_al (g1 c1 g2 c2 g3 c3 : Nat) (bl lv sf : List (ByteArray × Int)) (r k : Int) (base : Nat) (nm ot da : ByteArray) (kp : Int) (w : World) (hM : MadeS base w g1 c1 g2 c2 g3 c3 bl lv sf) (hbase : base ≤ w.heap.size) (hg : goodD bl lv sf r = true) (hnm : nm.size ≤ 1048576) (hot : ot.size ≤ 1048576) (hda : da.size ≤ 1048576) :
    Calls Try.prog 56 #[.agg #[.slice (some ⟨g1, 0, none⟩) bl.length c1, .slice (some ⟨g2, 0, none⟩) lv.length c2, .slice (some ⟨g3, 0, none⟩) sf.length c3, .int .i64 r], .agg #[.int .i64 k, .string nm, .string ot, .string da, .int .i64 kp]] (w.alloc (.cells #[.slice none 0 0, .slice none 0 0, .slice none 0 0, .int .i64 0] 26)) fun e w' => (∃ a1 n1 d1 a2 n2 d2 a3 n3 d3, e = .returned (.tuple #[.agg #[.slice a1 n1 d1, .slice a2 n2 d2, .slice a3 n3 d3, .int .i64 r], .int .i64 (refuse k nm ot da kp bl lv sf r)]) ∧ (refuse k nm ot da kp bl lv sf r = 0 → Made base w' (.slice a1 n1 d1) (.slice a2 n2 d2) (.slice a3 n3 d3) (nB k nm da kp bl lv) (nL k nm ot bl lv sf) (nS k lv sf))) ∧ Kept g1 w w' ∧ Box w' w.heap.size [.slice none 0 0, .slice none 0 0, .slice none 0 0, .int .i64 0] ∧ w'.heap[w.heap.size]? = some (.cells #[.slice none 0 0, .slice none 0 0, .slice none 0 0, .int .i64 0] 26 (0, 0)) ∧ Below base w w' := by
  have q := owns_lt hM.1
  refine (l1Do_k g1 c1 g2 c2 g3 c3 bl lv sf r k base nm ot da kp (w.alloc (.cells #[.slice none 0 0, .slice none 0 0, .slice none 0 0, .int .i64 0] 26)) (Made.below hM (below_alloc _ _)) (by simp; omega) hg hnm hot hda).mono ?_
  rintro e w' ⟨h, hk, hb⟩
  refine ⟨h, ⟨by have := hk.size; simp at this; omega, fun b vs h1 h2 hx => hk.box b vs (by simp; omega) h2 (hx.alloc _), fun b h1 h2 => (hk.block b (by simp; omega) h2).trans ((below_alloc w (.cells #[.slice none 0 0, .slice none 0 0, .slice none 0 0, .int .i64 0] 26)).block b h1)⟩, hk.box _ _ (by simp) (by omega) (Box.new w _ _), (hk.block _ (by simp) (by omega)).trans (alloc_at _ _), ?_⟩
  exact ((below_alloc w (.cells #[.slice none 0 0, .slice none 0 0, .slice none 0 0, .int .i64 0] 26)).mono hbase).trans hb
theorem l1Own_al (v1 v2 v3 : Value) (bl lv sf : List (ByteArray × Int)) (r : Int) (w : World) (h1 : PZ w v1 bl) (h2 : PZ w v2 lv) (h3 : PZ w v3 sf) (hn1 : bl.length ≤ 1048576) (hn2 : lv.length ≤ 1048576) (hn3 : sf.length ≤ 1048576) :
    Calls Try.prog 57 #[.agg #[v1, v2, v3, .int .i64 r]] (w.alloc (.cells #[.slice none 0 0, .slice none 0 0, .slice none 0 0, .int .i64 0] 26)) fun e w' => (∃ g1 c1 g2 c2 g3 c3, e = .returned (.agg #[.slice (some ⟨g1, 0, none⟩) bl.length c1, .slice (some ⟨g2, 0, none⟩) lv.length c2, .slice (some ⟨g3, 0, none⟩) sf.length c3, .int .i64 r]) ∧ MadeS w.heap.size w' g1 c1 g2 c2 g3 c3 bl lv sf ∧ g1 ≠ w.heap.size) ∧ Box w' w.heap.size [.slice none 0 0, .slice none 0 0, .slice none 0 0, .int .i64 0] ∧ w'.heap[w.heap.size]? = some (.cells #[.slice none 0 0, .slice none 0 0, .slice none 0 0, .int .i64 0] 26 (0, 0)) ∧ Below w.heap.size w w' := by
  refine (l1Own_any v1 v2 v3 bl lv sf r (w.alloc (.cells #[.slice none 0 0, .slice none 0 0, .slice none 0 0, .int .i64 0] 26)) (h1.below (below_alloc _ _)) (h2.below (below_alloc _ _)) (h3.below (below_alloc _ _)) hn1 hn2 hn3).mono ?_
  rintro e w' ⟨⟨g1, c1, g2, c2, g3, c3, he, hM⟩, hb⟩
  have q := (owns_lt hM.1).1
  exact ⟨⟨g1, c1, g2, c2, g3, c3, he, Made.wk hM (by simp), by simp at q; omega⟩, (Box.new w _ _).below hb, (hb.block _ (by simp)).trans (alloc_at _ _), below_then (below_alloc _ _) hb⟩
theorem made_put {b : Nat} {w : World} {x1 x2 x3 : Value} {bl lv sf : List (ByteArray × Int)} {base : Nat} (hM : Made base w x1 x2 x3 bl lv sf) (hT : w.heap[b]? = some (.cells #[.slice none 0 0, .slice none 0 0, .slice none 0 0, .int .i64 0] 26 (0, 0))) (y1 y2 y3 y4 : Value) : Made base (put4 w b y1 y2 y3 y4) x1 x2 x3 bl lv sf := by
  have hC := put4_chg w b y1 y2 y3 y4
  have key : ∀ (v : Value) (t n : Nat) (xs : List Value), w.ownsRow base t 2 v n xs → t ≠ 26 → ∀ g, v.ownBlock = some g → ¬ g = b := by
    intro v t n xs ho ht g hg e
    rcases ho.2 with ⟨rfl, h0⟩ | ⟨g', cap, cur, rfl, _, hh, _⟩
    · cases hg
    · simp only [Value.ownBlock, Option.some.injEq] at hg
      subst hg; subst e
      rw [hT] at hh
      simp only [Option.some.injEq, Obj.cells.injEq] at hh
      exact ht hh.2.1.symm
  exact ⟨hC.owns hM.1 (key _ _ _ _ hM.1 (by decide)), hC.owns hM.2.1 (key _ _ _ _ hM.2.1 (by decide)), hC.owns hM.2.2.1 (key _ _ _ _ hM.2.2.1 (by decide)), hM.2.2.2⟩
end Go.Proofs.Ytbgemebpfcbloaa
