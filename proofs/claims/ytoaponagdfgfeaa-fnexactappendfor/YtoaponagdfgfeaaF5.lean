/-
  Messages marked and held; messageTo; AppendFor: the program's side.
-/
import Derived.Test.YtoaponagdfgfeaaI1
import Derived.Test.YtoaponagdfgfeaaM1
import Derived.Test.YtoaponagdfgfeaaU1
import Derived.Test.YtoaponagdfgfeaaG1
namespace Go.Proofs.Ytoaponagdfgfeaa
open Go.RowKit Go.Maps
set_option linter.unusedVariables false
set_option maxRecDepth 100000

/-- A message. -/
structure Ms where
  ki : Int
  fr : Int
  dst : Int
  te : Int
  ix : Int
  be : Int
  co : Int
  ye : Bool
  es : List En
def Ms.zero : Ms := ⟨0, 0, 0, 0, 0, 0, 0, false, []⟩

set_option maxHeartbeats 2000000 in
theorem markMsg_own (ki fr dst te ix be co : Int) (ye : Bool) (ve : Value) (base : Nat) (es : List En) (k : Int) (w : World) (ho : w.ownsRow base 51 2 ve es.length (flat2 es)) (ne : es.length ≤ 1048576) (h1 : 1 ≤ k) (h2 : k ≤ 40000000) :
    Calls Try.prog 52 #[.agg #[.int .i64 ki, .int .i64 fr, .int .i64 dst, .int .i64 te, .int .i64 ix, .int .i64 be, ve, .int .i64 co, .bool ye], .int .i64 k] w fun e w' => e = .returned (.int .i64 (k + 2 * es.length)) ∧ w'.ownsRow base 51 2 ve es.length (flat2 (mkEs k es.length)) ∧ Chg (fun b => ve.ownBlock = some b ∨ w.heap.size ≤ b) w w' := by
  have hB := below_alloc w (.cells #[.int .i64 ki, .int .i64 fr, .int .i64 dst, .int .i64 te, .int .i64 ix, .int .i64 be, ve, .int .i64 co, .bool ye] 28)
  have K1 := markEntryS_own ve base es k _ (owns_below ho hB) ne h1 (by omega)
  obtain ⟨la, lc, rfl⟩ := owns_shape ho
  have hC : Chg (fun b => (Value.slice la es.length lc).ownBlock = some b ∨ w.heap.size ≤ b) w _ := Chg.of_below hB
  clear ho
  go_enter Try.func52, Try.ntmps52
  go_wp2_with fail
  refine K1.mono ?_
  rintro e w1 ⟨rfl, o1, hc⟩
  replace hC := hC.trans (hc.mono fun b hb => .inl hb)
  clear K1 hc
  go_wp2
  go_ret
  exact ⟨rfl, o1, hC⟩
set_option maxHeartbeats 2000000 in
theorem heldMsg_own (ki fr dst te ix be co : Int) (ye : Bool) (ve : Value) (base n : Nat) (k : Int) (w : World) (ho : w.ownsRow base 51 2 ve n (flat2 (mkEs k n))) (nl : n ≤ 1048576) (h1 : 1 ≤ k) (h2 : k ≤ 40000000) :
    Calls Try.prog 53 #[.agg #[.int .i64 ki, .int .i64 fr, .int .i64 dst, .int .i64 te, .int .i64 ix, .int .i64 be, ve, .int .i64 co, .bool ye], .int .i64 k] w fun e w' => e = .returned (.int .i64 (k + 2 * n)) ∧ Below w.heap.size w w' := by
  have hB := below_alloc w (.cells #[.int .i64 ki, .int .i64 fr, .int .i64 dst, .int .i64 te, .int .i64 ix, .int .i64 be, ve, .int .i64 co, .bool ye] 28)
  have K1 := heldEntryS_at ve n k _ (ER_of_owns (owns_below ho hB) (mkEs_length _ _).symm) nl h1 (by omega)
  obtain ⟨la, lc, rfl⟩ := owns_shape ho
  clear ho
  have q1 : ¬ k + 2 * (n : Int) < 0 := by omega
  go_enter Try.func53, Try.ntmps53
  go_wp2_with fail
  refine K1.mono ?_
  rintro e w1 ⟨rfl, hb⟩
  replace hB := below_then hB hb
  clear K1 hb
  go_wp2
  go_ret
  exact ⟨rfl, hB⟩
theorem messageTo_any (id pe te vo co ro peer kind : Int) (vl vv vm : Value) (w : World) :
    Calls Try.prog 89 #[.agg #[.int .i64 id, .int .i64 pe, .int .i64 te, .int .i64 vo, vl, .int .i64 co, .int .i64 ro, vv, vm], .int .i64 peer, .int .i64 kind] w fun e w' => e = .returned (.agg #[.int .i64 kind, .int .i64 id, .int .i64 peer, .int .i64 te, .int .i64 0, .int .i64 0, .slice none 0 0, .int .i64 0, .bool false]) ∧ Below w.heap.size w w' := by
  go_enter Try.func89, Try.ntmps89
  go_wp2
  exact bodyPost_ret (v := .agg #[.int .i64 kind, .int .i64 id, .int .i64 peer, .int .i64 te, .int .i64 0, .int .i64 0, .slice none 0 0, .int .i64 0, .bool false]) (by simp [results, Try.results89, go_sem]) rfl ⟨rfl, below2 _ _ _⟩

def afOk (g : Bool) (id pe ro peer many : Int) : Bool := g && (decide (ro = 2) && (isP peer pe && (!decide (peer = id) && (decide (0 ≤ many) && decide (many ≤ 60)))))
def afE (log : List En) (at_ many : Nat) : List En := (log.drop at_).take (min many (log.length - at_))
def afM (ok : Bool) (id te co peer many : Int) (log : List En) (mt : List Int) : Ms :=
  if ok then ⟨3, id, peer, te, mt.getD peer.toNat 0, tmAt log (mt.getD peer.toNat 0).toNat, co, false, afE log (mt.getD peer.toNat 0).toNat many.toNat⟩ else Ms.zero
theorem goodN_mt {id pe te vo co : Int} {log : List En} {vs mt : List Int} (h : goodN id pe te vo co 2 log vs mt = true) (i : Nat) (hi : i < mt.length) : 0 ≤ mt[i] ∧ mt[i] ≤ (log.length : Int) := by
  rw [goodN_spec, goodRo_2] at h
  simp only [goodMt, Bool.and_eq_true] at h
  have hg := h.2.2.2.2.2.2.2.2.2.1
  unfold gM at hg
  rw [List.all_eq_true] at hg
  have := hg mt[i] (List.getElem_mem hi)
  simpa using this
end Go.Proofs.Ytoaponagdfgfeaa
