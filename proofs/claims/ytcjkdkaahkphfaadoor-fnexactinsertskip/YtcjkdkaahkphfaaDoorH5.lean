/-
  The walk of the law FnExactGoodSkip.
-/
import Derived.Test.YtcjkdkaahkphfaaDoorH4
namespace Go.Proofs.YtcjkdkaahkphfaaDoor
open Go.RowKit
set_option linter.unusedVariables false
set_option maxRecDepth 100000

theorem toSkip_il (x y : Value) (hs : List Int) (ts : List Tw) (w : World) (hx : IL w x hs) (hy : TW w y ts) (hn : hs.length ≤ 1048576) (hm : ts.length ≤ 1048576) (hf : ∀ i (h : i < ts.length), ts[i].next.length ≤ 1048576) :
    Calls Tryd.prog 7 #[.agg #[x, y]] w fun e w' => (∃ (g1 g2 : Nat), e = .returned (.agg #[.slice (some ⟨g1, 0, none⟩) hs.length hs.length, .slice (some ⟨g2, 0, none⟩) ts.length ts.length]) ∧
      IL w' (.slice (some ⟨g1, 0, none⟩) hs.length hs.length) hs ∧ TW w' (.slice (some ⟨g2, 0, none⟩) ts.length ts.length) ts) ∧ Below w.heap.size w w' :=
  (toSkip_any x y hs ts w hx hy hn hm hf).mono fun e w' ⟨⟨g1, g2, gs, _, _, hg, he, o1, o2, hL⟩, hb⟩ => ⟨⟨g1, g2, he, IL_of_owns o1 rfl, TW_of_rows o2 hL hg⟩, hb⟩
theorem fits_of_tot {ts : List Tw} (h : totT ts ≤ 1048576) (i : Nat) (hi : i < ts.length) : ts[i].next.length ≤ 1048576 ∧ ts[i].key.size ≤ 1048576 ∧ ts[i].val.size ≤ 1048576 := by
  have := totT_mem ts i hi
  unfold Tw.big at this
  omega

end Go.Proofs.YtcjkdkaahkphfaaDoor
