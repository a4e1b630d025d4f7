/-
  impl.TimeoutNode: where it refuses; votedBy in one.
-/
import Derived.Test.YtapfhhmimkkhnaaQ7ToQ8
namespace Go.Proofs.Ytapfhhmimkkhnaa
open Go.RowKit Go.Maps
set_option linter.unusedVariables false
set_option maxRecDepth 100000

def tmOk (g : Bool) (ro te : Int) : Bool := g && (decide (ro ≠ 2) && decide (te < 1000))
/-- Who asks, once it asked. -/
def tmN (id pe te co : Int) (log : List En) : Nd := if pe < 2 then ⟨id, pe, te + 1, id, co, 2, log, [], [(log.length : Int)]⟩ else ⟨id, pe, te + 1, id, co, 1, log, [id], []⟩
theorem tmOk_cases (g : Bool) (ro te : Int) : (tmOk g ro te = true ∧ g = true ∧ ¬ ro = 2 ∧ te < 1000) ∨ (tmOk g ro te = false ∧ (g = false ∨ (g = true ∧ (ro = 2 ∨ (¬ ro = 2 ∧ 1000 ≤ te))))) := by
  unfold tmOk
  cases g
  · exact .inr ⟨rfl, .inl rfl⟩
  · by_cases h1 : ro = 2
    · exact .inr ⟨by simp [h1], .inr ⟨rfl, .inl h1⟩⟩
    · by_cases h2 : te < 1000
      · exact .inl ⟨by simp [h1, h2], rfl, h1, h2⟩
      · exact .inr ⟨by simp [h2], .inr ⟨rfl, .inr ⟨h1, by omega⟩⟩⟩

theorem votedBy_all (id pe te vo co : Int) (la : Option Addr) (lc : Nat) (log : List En) (w : World) (h0 : 0 ≤ id) (h1 : id < pe) :
    Calls Try.prog 81 #[.agg #[.int .i64 id, .int .i64 pe, .int .i64 te, .int .i64 vo, .slice la log.length lc, .int .i64 co, .int .i64 1, .slice none 0 0, .slice none 0 0], .int .i64 id] w fun e w' => ∃ uv um, e = .returned (.agg #[.int .i64 id, .int .i64 pe, .int .i64 te, .int .i64 vo, .slice la log.length lc, .int .i64 co, .int .i64 (tmN id pe te co log).ro, uv, um]) ∧ w'.ownsRow w.heap.size 3 1 uv (tmN id pe te co log).vs.length ((tmN id pe te co log).vs.map (.int .i64)) ∧ w'.ownsRow w.heap.size 3 1 um (tmN id pe te co log).mt.length ((tmN id pe te co log).mt.map (.int .i64)) ∧ (∀ g, uv.ownBlock = some g → um.ownBlock ≠ some g) ∧ Below w.heap.size w w' := by
  by_cases h : pe < 2
  · obtain rfl : pe = 1 := by omega
    obtain rfl : id = 0 := by omega
    refine (votedBy_one te vo co 1 la log.length lc w).mono ?_
    rintro e w' ⟨u, rfl, ho, hb⟩
    exact ⟨_, _, rfl, World.ownsRow_nil _ _ _ _, ho, fun g hg => by simp [Value.ownBlock] at hg, hb⟩
  · refine (votedBy_more id pe te vo co 1 la log.length lc w (by omega)).mono ?_
    rintro e w' ⟨u, rfl, ho, hb⟩
    simp only [tmN, h, if_false]
    exact ⟨_, _, rfl, ho, World.ownsRow_nil _ _ _ _, fun g _ hg => by simp [Value.ownBlock] at hg, hb⟩

set_option maxHeartbeats 8000000 in
theorem implTime_no (id pe te vo co ro : Int) (vl vv vm : Value) (log : List En) (vs mt : List Int) (base : Nat) (w : World) (ho : OwnN w base vl vv vm log vs mt) (nl : log.length ≤ 1048576) (nv : vs.length ≤ 1048576) (nm : mt.length ≤ 1048576) (ns : ∀ i (h : i < log.length), log[i].d.size ≤ 1048576) (he : tmOk (goodN id pe te vo co ro log vs mt) ro te = false) :
    Calls Try.prog 26 #[.agg #[.int .i64 id, .int .i64 pe, .int .i64 te, .int .i64 vo, vl, .int .i64 co, .int .i64 ro, vv, vm]] w fun e w' => ∃ ul uv um, e = .returned (.tuple #[.agg #[.int .i64 0, .int .i64 0, .int .i64 0, .int .i64 0, ul, .int .i64 0, .int .i64 0, uv, um], .slice none 0 0, .bool false]) ∧ OwnN w' w.heap.size ul uv um [] [] [] ∧ Below w.heap.size w w' := by
  obtain ⟨W0, hW0⟩ : ∃ W0, W0 = (w.alloc (.cells #[.int .i64 id, .int .i64 pe, .int .i64 te, .int .i64 vo, vl, .int .i64 co, .int .i64 ro, vv, vm] 26)).alloc (.cells #[.int .i64 0, .int .i64 0, .int .i64 0, .int .i64 0, .slice none 0 0, .int .i64 0, .int .i64 0, .slice none 0 0, .slice none 0 0] 26) := ⟨_, rfl⟩
  have hB : Below w.heap.size w W0 := by rw [hW0]; exact below2 _ _ _
  have hz00 : w.heap.size + 1 + 1 ≤ W0.heap.size := by rw [hW0]; simp
  have X : Box W0 w.heap.size [.int .i64 id, .int .i64 pe, .int .i64 te, .int .i64 vo, vl, .int .i64 co, .int .i64 ro, vv, vm] := by rw [hW0]; exact (Box.new w #[.int .i64 id, .int .i64 pe, .int .i64 te, .int .i64 vo, vl, .int .i64 co, .int .i64 ro, vv, vm] 26).alloc _
  have Y : Box W0 (w.heap.size + 1) [.int .i64 0, .int .i64 0, .int .i64 0, .int .i64 0, .slice none 0 0, .int .i64 0, .int .i64 0, .slice none 0 0, .slice none 0 0] := by
    rw [hW0]
    have := Box.new (w.alloc (.cells #[.int .i64 id, .int .i64 pe, .int .i64 te, .int .i64 vo, vl, .int .i64 co, .int .i64 ro, vv, vm] 26)) #[.int .i64 0, .int .i64 0, .int .i64 0, .int .i64 0, .slice none 0 0, .int .i64 0, .int .i64 0, .slice none 0 0, .slice none 0 0] 26
    simpa using this
  have ho0 := ho.below hB
  have K := implGoodN_any id pe te vo co ro vl vv vm log vs mt _ ho0.er ho0.iv ho0.im nl nv nm ns
  generalize goodN id pe te vo co ro log vs mt = g at *
  obtain ⟨⟨la, lc, rfl⟩, ⟨va, vc, rfl⟩, ma, mc, rfl⟩ := ho.shapes
  clear ns ho0 ho
  rcases tmOk_cases g ro te with ⟨h, _⟩ | ⟨_, hcs⟩
  · rw [he] at h; cases h
  clear he
  go_enter Try.func26, Try.ntmps26
  go_wp2_with fail
  rw [← hW0]; clear hW0
  refine K.mono ?_
  rintro e w1 ⟨rfl, hb⟩
  replace hB := below_then hB hb
  replace Y := Y.below hb
  replace X := X.below hb
  clear K hb
  have hC := put9_chg w1 (w.heap.size + 1) (.int .i64 0) (.int .i64 0) (.int .i64 0) (.int .i64 0) (.slice none 0 0) (.int .i64 0) (.int .i64 0) (.slice none 0 0) (.slice none 0 0)
  have Z := put9_box Y (.int .i64 0) (.int .i64 0) (.int .i64 0) (.int .i64 0) (.slice none 0 0) (.int .i64 0) (.int .i64 0) (.slice none 0 0) (.slice none 0 0)
  have hBE := hB.trans (hC.below (B := w.heap.size) hB.size (fun k hk => by have hk : k = w.heap.size + 1 := hk; omega))
  have O := OwnN.nil (put9 w1 (w.heap.size + 1) (.int .i64 0) (.int .i64 0) (.int .i64 0) (.int .i64 0) (.slice none 0 0) (.int .i64 0) (.int .i64 0) (.slice none 0 0) (.slice none 0 0)) w.heap.size
  obtain ⟨hxl, x0, x1, x2, x3, x4, x5, x6, x7, x8⟩ := X.e9
  obtain ⟨hyl, y0, y1, y2, y3, y4, y5, y6, y7, y8⟩ := Y.e9
  obtain ⟨f0, f1, f2, f3, f4, f5, f6, f7, f8⟩ := Y.f9
  obtain ⟨hzl, t0, t1, t2, t3, t4, t5, t6, t7, t8⟩ := Z.e9
  clear Z hC hB Y X
  unfold put9 at *
  rcases hcs with rfl | ⟨rfl, hcs⟩
  · go_wp2
    exact bodyPost_ret (v := .tuple #[.agg #[.int .i64 0, .int .i64 0, .int .i64 0, .int .i64 0, .slice none 0 0, .int .i64 0, .int .i64 0, .slice none 0 0, .slice none 0 0], .slice none 0 0, .bool false]) (by simp [results, Try.results26, go_sem, t0, t1, t2, t3, t4, t5, t6, t7, t8]) rfl ⟨_, _, _, rfl, O, hBE⟩
  rcases hcs with rfl | ⟨h1, h2⟩
  · go_wp2
    exact bodyPost_ret (v := .tuple #[.agg #[.int .i64 0, .int .i64 0, .int .i64 0, .int .i64 0, .slice none 0 0, .int .i64 0, .int .i64 0, .slice none 0 0, .slice none 0 0], .slice none 0 0, .bool false]) (by simp [results, Try.results26, go_sem, t0, t1, t2, t3, t4, t5, t6, t7, t8]) rfl ⟨_, _, _, rfl, O, hBE⟩
  · have h1b : (ro == 2) = false := by simp [h1]
    go_wp2
    exact bodyPost_ret (v := .tuple #[.agg #[.int .i64 0, .int .i64 0, .int .i64 0, .int .i64 0, .slice none 0 0, .int .i64 0, .int .i64 0, .slice none 0 0, .slice none 0 0], .slice none 0 0, .bool false]) (by simp [results, Try.results26, go_sem, t0, t1, t2, t3, t4, t5, t6, t7, t8]) rfl ⟨_, _, _, rfl, O, hBE⟩
end Go.Proofs.Ytapfhhmimkkhnaa
