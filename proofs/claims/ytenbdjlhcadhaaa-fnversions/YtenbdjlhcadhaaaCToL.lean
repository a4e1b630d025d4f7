/-
  A region that draws its order and holds calls that only make new memory and answer one value, whatever the world: one walk, in the order of the text (the library's theorem on quiet regions, at the class 'as it was below block B').
  A scope in which the run jumps back to one label, the way to the label and the way behind it walked once each.
-/
import Derived.Test.YtenbdjlhcadhaaaB
import Derived.Deep.QuietTactic
import Derived.BigQuiet
import Derived.ScopeJumps
import Derived.Tactics
namespace Go.Proofs.Ytenbdjlhcadhaaa
open Go.RowKit

/-- A world that is as W was below block B. -/
structure WC (B : Nat) (W : World) where
  w : World
  ok : Below B W w

theorem wp_region_calm {P : Program} {B : Nat} {W : World} {id : Nat} {Q : Exit → Act → World → Prop} {a : Act} {w : World} {l : List Oper} (hm : P.follows .mixedOrders = true) (hB : Region.lexB .any l.toArray = true) (hw : Below B W w)
    (h : wpQuiet P l.toArray (fun w' => ∃ n : WC B W, w' = n.w) (fun a' => ∀ w', (∃ n : WC B W, w' = n.w) → Q .normal a' w') l a) : (Code.region id l.toArray true).wp P Q a w :=
  wp_region_quiet (C := fun w' => ∃ n : WC B W, w' = n.w) hm hB ⟨⟨w.drew, hw.drew⟩, rfl⟩ (by simpa using h)

/-- A call that answers v and leaves what is below B. -/
theorem calm_of {P : Program} {B : Nat} {W : World} {f : FuncId} {args : Array Value} {x : WC B W} {v : Value}
    (h : Calls P f args x.w fun e w'' => e = .returned v ∧ Below B W w'') : Calls P f args x.w fun e w'' => e = .returned v ∧ ∃ m : WC B W, w'' = m.w :=
  h.mono fun _ w'' ⟨he, hb⟩ => ⟨he, ⟨w'', hb⟩, rfl⟩
/-- .. out of a contract that leaves all that was there. -/
theorem calm_of_below {P : Program} {B : Nat} {W : World} {f : FuncId} {args : Array Value} {x : WC B W} {v : Value} (hB : B ≤ W.heap.size)
    (h : Calls P f args x.w fun e w'' => e = .returned v ∧ Below x.w.heap.size x.w w'') : Calls P f args x.w fun e w'' => e = .returned v ∧ ∃ m : WC B W, w'' = m.w :=
  calm_of (h.mono fun _ _ ⟨he, hb⟩ => ⟨he, x.ok.trans (hb.mono (Nat.le_trans hB x.ok.size))⟩)
theorem calm_of_same {P : Program} {B : Nat} {W : World} {f : FuncId} {args : Array Value} {x : WC B W} {v : Value}
    (h : Calls P f args x.w fun e w'' => e = .returned v ∧ w'' = x.w) : Calls P f args x.w fun e w'' => e = .returned v ∧ ∃ m : WC B W, w'' = m.w :=
  h.mono fun _ _ ⟨he, hb⟩ => ⟨he, x, hb⟩
end Go.Proofs.Ytenbdjlhcadhaaa

namespace Go.Proofs.Ytenbdjlhcadhaaa

theorem jump_mono {l : Nat} {J J' : Act → World → Prop} {Q : Exit → Act → World → Prop} (h : ∀ a w, J a w → J' a w) : ∀ e a w, Exit.jump l J Q e a w → Exit.jump l J' Q e a w
  | .goto _, a, w, ⟨e, hJ⟩ => ⟨e, h a w hJ⟩
  | .normal, _, _, h => h
  | .exit _, _, _, h => h
  | .ret, _, _, h => h
  | .panic _, _, _, h => h
  | .outgrown, _, _, h => h
theorem wp_scope_jumps2 {P : Program} {a : Act} {w : World} {Q : Exit → Act → World → Prop} {c X : Code} (l : Nat) (J : Act → World → Prop) (μ : Act → World → Nat) (hf : findLabel c l = some (Code.skip.seq X))
    (pass : ∀ a w, J a w → X.wp P (Exit.jump l (fun a' w' => J a' w' ∧ μ a' w' < μ a w) Q) a w)
    (first : (∀ a w, J a w → X.wp P (Exit.jump l J Q) a w) → c.wp P (Exit.jump l J Q) a w) : (Code.scope c).wp P Q a w :=
  wp_scope_jumps l J μ hf (first fun a w h => Code.wp_mono (jump_mono fun _ _ h => h.1) (pass a w h)) (fun a w h => wp_seq (wp_skip (pass a w h)))
end Go.Proofs.Ytenbdjlhcadhaaa
