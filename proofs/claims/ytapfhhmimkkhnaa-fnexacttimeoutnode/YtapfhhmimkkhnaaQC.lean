/-
  l11Lead of one alone.
-/
import Derived.Test.YtapfhhmimkkhnaaQB
namespace Go.Proofs.Ytapfhhmimkkhnaa
open Go.RowKit Go.Maps
set_option linter.unusedVariables false
set_option maxRecDepth 100000

set_option maxHeartbeats 8000000 in
theorem l11Lead_one (te vo co ro : Int) (la : Option Addr) (lc : Nat) (log : List En) (va : Option Addr) (vn vc : Nat) (ma : Option Addr) (mn mc : Nat) (w : World) (hl : ER w (.slice la log.length lc) log) (nl : log.length ≤ 1048576) (hc0 : 0 ≤ co) :
    Calls Try.prog 77 #[.agg #[.int .i64 0, .int .i64 1, .int .i64 te, .int .i64 vo, .slice la log.length lc, .int .i64 co, .int .i64 ro, .slice va vn vc, .slice ma mn mc]] w fun e w' => ∃ u, e = .returned (.agg #[.int .i64 0, .int .i64 1, .int .i64 te, .int .i64 vo, .slice la log.length lc, .int .i64 (comTo te 1 co log [(log.length : Int)] log.length), .int .i64 2, .slice none 0 0, u]) ∧ w'.ownsRow w.heap.size 3 1 u 1 ([(log.length : Int)].map (.int .i64)) ∧ Below w.heap.size w w' := by
  have MK := mk1_run
  obtain ⟨W0, hW0⟩ : ∃ W0, W0 = (w.alloc (.cells #[.int .i64 0, .int .i64 1, .int .i64 te, .int .i64 vo, .slice la log.length lc, .int .i64 co, .int .i64 2, .slice none 0 0, .slice (some ⟨w.heap.size + 1 + 1, 0, none⟩) 1 1] 26)).alloc (.cells #[.int .i64 0, .int .i64 0, .int .i64 0, .int .i64 0, .slice none 0 0, .int .i64 0, .int .i64 0, .slice none 0 0, .slice none 0 0] 26) := ⟨_, rfl⟩
  have hs : W0.heap.size = w.heap.size + 1 + 1 := by rw [hW0]; simp
  have hB : Below w.heap.size w W0 := by rw [hW0]; exact below2 _ _ _
  have Y : Box W0 (w.heap.size + 1) [.int .i64 0, .int .i64 0, .int .i64 0, .int .i64 0, .slice none 0 0, .int .i64 0, .int .i64 0, .slice none 0 0, .slice none 0 0] := by
    rw [hW0]
    have := Box.new (w.alloc (.cells #[.int .i64 0, .int .i64 1, .int .i64 te, .int .i64 vo, .slice la log.length lc, .int .i64 co, .int .i64 2, .slice none 0 0, .slice (some ⟨w.heap.size + 1 + 1, 0, none⟩) 1 1] 26)) #[.int .i64 0, .int .i64 0, .int .i64 0, .int .i64 0, .slice none 0 0, .int .i64 0, .int .i64 0, .slice none 0 0, .slice none 0 0] 26
    simpa using this
  have XX : Box W0 w.heap.size [.int .i64 0, .int .i64 1, .int .i64 te, .int .i64 vo, .slice la log.length lc, .int .i64 co, .int .i64 2, .slice none 0 0, .slice (some ⟨w.heap.size + 1 + 1, 0, none⟩) 1 1] := by rw [hW0]; exact (Box.new w #[.int .i64 0, .int .i64 1, .int .i64 te, .int .i64 vo, .slice la log.length lc, .int .i64 co, .int .i64 2, .slice none 0 0, .slice (some ⟨w.heap.size + 1 + 1, 0, none⟩) 1 1] 26).alloc _
  have BA := below_alloc W0 (.cells #[.int .i64 (log.length : Int)] 3)
  have V := Box.new W0 #[.int .i64 (log.length : Int)] 3
  have ho := World.ownsRow_lit (base := w.heap.size) (size := 1) (e := 3) W0 #[.int .i64 (log.length : Int)] 1 (by omega) (by simp [maxLen]) (by simp)
  rw [hs] at ho V
  have gu := owns_ge ho
  have hIL := IL_one V
  have hN : IL (W0.alloc (.cells #[.int .i64 (log.length : Int)] 3)) (.slice none 0 0) [] := ⟨_, _, rfl, fun h => absurd rfl h⟩
  have KC := l11Commit_any 0 1 te vo co _ _ _ log [] [(log.length : Int)] _ ((hl.below hB).below BA) hN hIL nl (by simp) hc0
  replace Y := Y.below BA
  replace XX := XX.below BA
  replace hB := below_then hB BA
  clear BA V hIL hN
  generalize comTo te 1 co log [(log.length : Int)] log.length = cm at *
  go_enter Try.func77, Try.ntmps77
  go_wp2_with fail
  rw [← hW0]
  refine KC.mono ?_
  rintro e w1 ⟨rfl, hb⟩
  replace hB := below_then hB hb
  replace Y := Y.below hb
  replace ho := owns_below ho hb
  have hgu : w.heap.size + 1 + 1 ≠ w.heap.size + 1 := by omega
  clear KC hb hW0 XX MK
  have hC := put9_chg w1 (w.heap.size + 1) (.int .i64 0) (.int .i64 1) (.int .i64 te) (.int .i64 vo) (.slice la log.length lc) (.int .i64 cm) (.int .i64 2) (.slice none 0 0) (.slice (some ⟨w.heap.size + 1 + 1, 0, none⟩) 1 1)
  have Z := put9_box Y (.int .i64 0) (.int .i64 1) (.int .i64 te) (.int .i64 vo) (.slice la log.length lc) (.int .i64 cm) (.int .i64 2) (.slice none 0 0) (.slice (some ⟨w.heap.size + 1 + 1, 0, none⟩) 1 1)
  have hBE := hB.trans (hC.below (B := w.heap.size) hB.size (fun k hk => by have hk : k = w.heap.size + 1 := hk; omega))
  have oE := hC.owns ho (fun b hb hh => by have hh : b = w.heap.size + 1 := hh; have hb : w.heap.size + 1 + 1 = b := (by simpa [Value.ownBlock] using hb); omega)
  obtain ⟨ql, q0, q1, q2, q3, q4, q5, q6, q7, q8⟩ := Y.e9
  obtain ⟨h0, h1, h2, h3, h4, h5, h6, h7, h8⟩ := Y.f9
  clear hC ho hB Y gu
  obtain ⟨hzl, t0, t1, t2, t3, t4, t5, t6, t7, t8⟩ := Z.e9
  clear Z
  unfold put9 at *
  go_wp2
  exact bodyPost_ret (v := .agg #[.int .i64 0, .int .i64 1, .int .i64 te, .int .i64 vo, .slice la log.length lc, .int .i64 cm, .int .i64 2, .slice none 0 0, .slice (some ⟨w.heap.size + 1 + 1, 0, none⟩) 1 1]) (by simp [results, Try.results77, go_sem, t0, t1, t2, t3, t4, t5, t6, t7, t8]) rfl ⟨_, rfl, oE, hBE⟩
end Go.Proofs.Ytapfhhmimkkhnaa
