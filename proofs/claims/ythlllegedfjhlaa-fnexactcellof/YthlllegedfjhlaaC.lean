/-
  A region that draws its order and holds calls that only make new memory and answer one value, whatever the world: one walk, in the order of the text (the library's theorem on quiet regions, at the class 'as it was below block B').
-/
import Derived.Test.YthlllegedfjhlaaB
import Derived.Deep.QuietTactic
import Derived.BigQuiet
namespace Go.Proofs.Ythlllegedfjhlaa
open Go.RowKit

/-- A world that is as W was below block B. -/
structure WC (B : Nat) (W : World) where
  w : World
  ok : Below B W w

theorem wp_region_calm {P : Program} {B : Nat} {W : World} {id : Nat} {Q : Exit → Act → World → Prop} {a : Act} {w : World} {l : List Oper} (hm : P.follows .mixedOrders = true) (hB : Region.lexB .any l.toArray = true) (hw : Below B W w)
    (h : wpQuiet P l.toArray (fun w' => ∃ n : WC B W, w' = n.w) (fun a' => ∀ w', (∃ n : WC B W, w' = n.w) → Q .normal a' w') l a) : (Code.region id l.toArray true).wp P Q a w :=
  wp_region_quiet (C := fun w' => ∃ n : WC B W, w' = n.w) hm hB ⟨⟨w.drew, hw.drew⟩, rfl⟩ (by simpa using h)

/-- A call that answers v and leaves what is below B. -/
theorem calm_of {P : Program} {B : Nat} {W : World} {f : FuncId} {args : Array Value} {x : WC B W} {v : Value}
    (h : Calls P f args x.w fun e w'' => e = .returned v ∧ Below B W w'') : Calls P f args x.w fun e w'' => e = .returned v ∧ ∃ m : WC B W, w'' = m.w :=
  h.mono fun _ w'' ⟨he, hb⟩ => ⟨he, ⟨w'', hb⟩, rfl⟩
/-- .. out of a contract that leaves all that was there. -/
theorem calm_of_below {P : Program} {B : Nat} {W : World} {f : FuncId} {args : Array Value} {x : WC B W} {v : Value} (hB : B ≤ W.heap.size)
    (h : Calls P f args x.w fun e w'' => e = .returned v ∧ Below x.w.heap.size x.w w'') : Calls P f args x.w fun e w'' => e = .returned v ∧ ∃ m : WC B W, w'' = m.w :=
  calm_of (h.mono fun _ _ ⟨he, hb⟩ => ⟨he, x.ok.trans (hb.mono (Nat.le_trans hB x.ok.size))⟩)
theorem calm_of_same {P : Program} {B : Nat} {W : World} {f : FuncId} {args : Array Value} {x : WC B W} {v : Value}
    (h : Calls P f args x.w fun e w'' => e = .returned v ∧ w'' = x.w) : Calls P f args x.w fun e w'' => e = .returned v ∧ ∃ m : WC B W, w'' = m.w :=
  h.mono fun _ _ ⟨he, hb⟩ => ⟨he, x, hb⟩
end Go.Proofs.Ythlllegedfjhlaa
