/-
  spec.TimeoutNode: where it refuses; l11Lead.
-/
import Derived.Test.YtapfhhmimkkhnaaQA
import Derived.Test.YtapfhhmimkkhnaaKC3
namespace Go.Proofs.Ytapfhhmimkkhnaa
open Go.RowKit Go.Maps
set_option linter.unusedVariables false
set_option maxRecDepth 100000

theorem goodN_te {id pe te vo co ro : Int} {log : List En} {vs mt : List Int} (h : goodN id pe te vo co ro log vs mt = true) : te ≤ 1000 := by
  rw [goodN_spec] at h
  simp [inB] at h
  omega

set_option maxHeartbeats 8000000 in
theorem specTime_no (id pe te vo co ro : Int) (vl vv vm : Value) (log : List En) (vs mt : List Int) (base : Nat) (w : World) (ho : OwnN w base vl vv vm log vs mt) (nl : log.length ≤ 1048576) (nv : vs.length ≤ 1048576) (nm : mt.length ≤ 1048576) (ns : ∀ i (h : i < log.length), log[i].d.size ≤ 1048576) (he : tmOk (goodN id pe te vo co ro log vs mt) ro te = false) :
    Calls Try.prog 24 #[.agg #[.int .i64 id, .int .i64 pe, .int .i64 te, .int .i64 vo, vl, .int .i64 co, .int .i64 ro, vv, vm]] w fun e w' => ∃ ul uv um, e = .returned (.tuple #[.agg #[.int .i64 0, .int .i64 0, .int .i64 0, .int .i64 0, ul, .int .i64 0, .int .i64 0, uv, um], .slice none 0 0, .bool false]) ∧ OwnN w' w.heap.size ul uv um [] [] [] ∧ Below w.heap.size w w' := by
  obtain ⟨W0, hW0⟩ : ∃ W0, W0 = (w.alloc (.cells #[.int .i64 id, .int .i64 pe, .int .i64 te, .int .i64 vo, vl, .int .i64 co, .int .i64 ro, vv, vm] 26)).alloc (.cells #[.int .i64 0, .int .i64 0, .int .i64 0, .int .i64 0, .slice none 0 0, .int .i64 0, .int .i64 0, .slice none 0 0, .slice none 0 0] 26) := ⟨_, rfl⟩
  have hB : Below w.heap.size w W0 := by rw [hW0]; exact below2 _ _ _
  have hz00 : w.heap.size + 1 + 1 ≤ W0.heap.size := by rw [hW0]; simp
  have X : Box W0 w.heap.size [.int .i64 id, .int .i64 pe, .int .i64 te, .int .i64 vo, vl, .int .i64 co, .int .i64 ro, vv, vm] := by rw [hW0]; exact (Box.new w #[.int .i64 id, .int .i64 pe, .int .i64 te, .int .i64 vo, vl, .int .i64 co, .int .i64 ro, vv, vm] 26).alloc _
  have Y : Box W0 (w.heap.size + 1) [.int .i64 0, .int .i64 0, .int .i64 0, .int .i64 0, .slice none 0 0, .int .i64 0, .int .i64 0, .slice none 0 0, .slice none 0 0] := by
    rw [hW0]
    have := Box.new (w.alloc (.cells #[.int .i64 id, .int .i64 pe, .int .i64 te, .int .i64 vo, vl, .int .i64 co, .int .i64 ro, vv, vm] 26)) #[.int .i64 0, .int .i64 0, .int .i64 0, .int .i64 0, .slice none 0 0, .int .i64 0, .int .i64 0, .slice none 0 0, .slice none 0 0] 26
    simpa using this
  have ho0 := ho.below hB
  have K := specGoodN_any id pe te vo co ro vl vv vm log vs mt _ ho0.er ho0.iv ho0.im nl nv nm ns
  have HG : goodN id pe te vo co ro log vs mt = true → te ≤ 1000 := goodN_te
  generalize goodN id pe te vo co ro log vs mt = g at *
  obtain ⟨⟨la, lc, rfl⟩, ⟨va, vc, rfl⟩, ma, mc, rfl⟩ := ho.shapes
  clear ns ho0 ho
  rcases tmOk_cases g ro te with ⟨h, _⟩ | ⟨_, hcs⟩
  · rw [he] at h; cases h
  clear he
  go_enter Try.func24, Try.ntmps24
  go_wp2_with fail
  rw [← hW0]; clear hW0
  refine K.mono ?_
  rintro e w1 ⟨rfl, hb⟩
  replace hB := below_then hB hb
  replace Y := Y.below hb
  replace X := X.below hb
  clear K hb
  have hC := put9_chg w1 (w.heap.size + 1) (.int .i64 0) (.int .i64 0) (.int .i64 0) (.int .i64 0) (.slice none 0 0) (.int .i64 0) (.int .i64 0) (.slice none 0 0) (.slice none 0 0)
  have Z := put9_box Y (.int .i64 0) (.int .i64 0) (.int .i64 0) (.int .i64 0) (.slice none 0 0) (.int .i64 0) (.int .i64 0) (.slice none 0 0) (.slice none 0 0)
  have hBE := hB.trans (hC.below (B := w.heap.size) hB.size (fun k hk => by have hk : k = w.heap.size + 1 := hk; omega))
  have O := OwnN.nil (put9 w1 (w.heap.size + 1) (.int .i64 0) (.int .i64 0) (.int .i64 0) (.int .i64 0) (.slice none 0 0) (.int .i64 0) (.int .i64 0) (.slice none 0 0) (.slice none 0 0)) w.heap.size
  obtain ⟨hxl, x0, x1, x2, x3, x4, x5, x6, x7, x8⟩ := X.e9
  obtain ⟨hyl, y0, y1, y2, y3, y4, y5, y6, y7, y8⟩ := Y.e9
  obtain ⟨f0, f1, f2, f3, f4, f5, f6, f7, f8⟩ := Y.f9
  obtain ⟨hzl, t0, t1, t2, t3, t4, t5, t6, t7, t8⟩ := Z.e9
  clear Z hC hB Y X
  unfold put9 at *
  rcases hcs with rfl | ⟨rfl, hcs⟩
  · go_wp2
    exact bodyPost_ret (v := .tuple #[.agg #[.int .i64 0, .int .i64 0, .int .i64 0, .int .i64 0, .slice none 0 0, .int .i64 0, .int .i64 0, .slice none 0 0, .slice none 0 0], .slice none 0 0, .bool false]) (by simp [results, Try.results24, go_sem, t0, t1, t2, t3, t4, t5, t6, t7, t8]) rfl ⟨_, _, _, rfl, O, hBE⟩
  rcases hcs with rfl | ⟨h1, h2⟩
  · go_wp2
    exact bodyPost_ret (v := .tuple #[.agg #[.int .i64 0, .int .i64 0, .int .i64 0, .int .i64 0, .slice none 0 0, .int .i64 0, .int .i64 0, .slice none 0 0, .slice none 0 0], .slice none 0 0, .bool false]) (by simp [results, Try.results24, go_sem, t0, t1, t2, t3, t4, t5, t6, t7, t8]) rfl ⟨_, _, _, rfl, O, hBE⟩
  · obtain rfl : te = 1000 := by have := HG rfl; omega
    have h1b : (ro == 2) = false := by simp [h1]
    go_wp2
    exact bodyPost_ret (v := .tuple #[.agg #[.int .i64 0, .int .i64 0, .int .i64 0, .int .i64 0, .slice none 0 0, .int .i64 0, .int .i64 0, .slice none 0 0, .slice none 0 0], .slice none 0 0, .bool false]) (by simp [results, Try.results24, go_sem, t0, t1, t2, t3, t4, t5, t6, t7, t8]) rfl ⟨_, _, _, rfl, O, hBE⟩
end Go.Proofs.Ytapfhhmimkkhnaa
