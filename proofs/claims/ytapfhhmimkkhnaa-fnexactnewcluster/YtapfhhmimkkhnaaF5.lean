/-
  Messages marked and held; messageTo; AppendFor: the program's side.
-/
import Derived.Test.YtapfhhmimkkhnaaC1ToI1
import Derived.Test.YtapfhhmimkkhnaaM1
import Derived.Test.YtapfhhmimkkhnaaU1
import Derived.Test.YtapfhhmimkkhnaaG1
namespace Go.Proofs.Ytapfhhmimkkhnaa
open Go.RowKit Go.Maps
set_option linter.unusedVariables false
set_option maxRecDepth 100000

/-- A message. -/
structure Ms where
  ki : Int
  fr : Int
  dst : Int
  te : Int
  ix : Int
  be : Int
  co : Int
  ye : Bool
  es : List En
def Ms.zero : Ms := ⟨0, 0, 0, 0, 0, 0, 0, false, []⟩

theorem messageTo_any (id pe te vo co ro peer kind : Int) (vl vv vm : Value) (w : World) :
    Calls Try.prog 65 #[.agg #[.int .i64 id, .int .i64 pe, .int .i64 te, .int .i64 vo, vl, .int .i64 co, .int .i64 ro, vv, vm], .int .i64 peer, .int .i64 kind] w fun e w' => e = .returned (.agg #[.int .i64 kind, .int .i64 id, .int .i64 peer, .int .i64 te, .int .i64 0, .int .i64 0, .slice none 0 0, .int .i64 0, .bool false]) ∧ Below w.heap.size w w' := by
  go_enter Try.func65, Try.ntmps65
  go_wp2
  exact bodyPost_ret (v := .agg #[.int .i64 kind, .int .i64 id, .int .i64 peer, .int .i64 te, .int .i64 0, .int .i64 0, .slice none 0 0, .int .i64 0, .bool false]) (by simp [results, Try.results65, go_sem]) rfl ⟨rfl, below2 _ _ _⟩

def afOk (g : Bool) (id pe ro peer many : Int) : Bool := g && (decide (ro = 2) && (isP peer pe && (!decide (peer = id) && (decide (0 ≤ many) && decide (many ≤ 60)))))
def afE (log : List En) (at_ many : Nat) : List En := (log.drop at_).take (min many (log.length - at_))
def afM (ok : Bool) (id te co peer many : Int) (log : List En) (mt : List Int) : Ms :=
  if ok then ⟨3, id, peer, te, mt.getD peer.toNat 0, tmAt log (mt.getD peer.toNat 0).toNat, co, false, afE log (mt.getD peer.toNat 0).toNat many.toNat⟩ else Ms.zero
theorem goodN_mt {id pe te vo co : Int} {log : List En} {vs mt : List Int} (h : goodN id pe te vo co 2 log vs mt = true) (i : Nat) (hi : i < mt.length) : 0 ≤ mt[i] ∧ mt[i] ≤ (log.length : Int) := by
  rw [goodN_spec, goodRo_2] at h
  simp only [goodMt, Bool.and_eq_true] at h
  have hg := h.2.2.2.2.2.2.2.2.2.1
  unfold gM at hg
  rw [List.all_eq_true] at hg
  have := hg mt[i] (List.getElem_mem hi)
  simpa using this
end Go.Proofs.Ytapfhhmimkkhnaa
