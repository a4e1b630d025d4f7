/-
  ReadEdit: the specification's side.
-/
import Derived.Test.YtenbdjlhcadhaaaGreatRD6
namespace Go.Proofs.YtenbdjlhcadhaaaGreat
open Go.RowKit
set_option linter.unusedVariables false
set_option maxRecDepth 100000

set_option maxHeartbeats 4000000 in
theorem specRead_any (s : ByteArray) (w : World) (hs : s.size ≤ 1048576) :
    Calls Tryz.prog 17 #[.string s] w fun e w' => ∃ u1 u2, e = .returned (.tuple #[.agg #[.int .i64 (rdE s).1, .int .i64 (rdE s).2.1, u1, u2], .bool (rdB s)]) ∧ w'.ownsRow w.heap.size 3 1 u1 (rdE s).2.2.1.length ((rdE s).2.2.1.map (.int .i64)) ∧ w'.ownsRow w.heap.size 71 4 u2 (rdE s).2.2.2.length (flat4 (rdE s).2.2.2) ∧ Below w.heap.size w w' := by
  have hB := below_alloc w (.cells #[.int .i64 0, .int .i64 0, .slice none 0 0, .slice none 0 0] 26)
  have R := Box.new w #[.int .i64 0, .int .i64 0, .slice none 0 0, .slice none 0 0] 26
  have K := fun (h : s.size ≤ 1000) W => l9Read_any s W h
  have HN : Hid (¬ s.size ≤ 1000 → rdB s = false ∧ rdE s = (0, 0, [], [])) := fun h => rd_no fun e hv => by
    have h1 := hv.2.1
    rw [← hv.2.2, bl_len] at h1
    exact h h1
  generalize rdB s = BB at *
  generalize rdE s = EE at *
  obtain ⟨E1, E2, E3, E4⟩ := EE
  by_cases hl : s.size ≤ 1000
  · have K2 := K hl
    clear K HN
    dsimp only at K2
    obtain ⟨W1, hW1⟩ : ∃ W1, W1 = w.alloc (.cells #[.int .i64 0, .int .i64 0, .slice none 0 0, .slice none 0 0] 26) := ⟨_, rfl⟩
    rw [← hW1] at hB
    replace R : Box W1 w.heap.size [.int .i64 0, .int .i64 0, .slice none 0 0, .slice none 0 0] := by rw [hW1]; exact R
    go_enter Tryz.func17, Tryz.ntmps17
    go_wp2_with fail
    rw [← hW1]; clear hW1
    refine (K2 _).mono ?_
    rintro e w2 ⟨u1, u2, rfl, O1, O2, hb2⟩
    have hz1 := hB.size
    have hr1 := R.1
    have hge1 := owns_ge O1
    have hge2 := owns_ge O2
    replace hB := below_then hB hb2
    replace R := R.below hb2
    clear hb2 K2
    obtain ⟨ua, uc, rfl⟩ := owns_shape O1
    obtain ⟨va, vc, rfl⟩ := owns_shape O2
    obtain ⟨hr, r0, r1', r2', r3', f0, f1, f2, f3⟩ := R.e4
    have hCE := put4_chg w2 w.heap.size (.int .i64 E1) (.int .i64 E2) (.slice ua E3.length uc) (.slice va E4.length vc)
    have OE1 := hCE.owns (owns_mono O1 hz1) (fun g hg hh => by have := hge1 g hg; omega)
    have OE2 := hCE.owns (owns_mono O2 hz1) (fun g hg hh => by have := hge2 g hg; omega)
    have hBE := hB.trans (hCE.below (B := w.heap.size) hB.size (fun k hk => by omega))
    clear hCE
    go_wp2
    exact bodyPost_ret (v := .tuple #[.agg #[.int .i64 E1, .int .i64 E2, .slice ua E3.length uc, .slice va E4.length vc], .bool BB]) (by simp [results, Tryz.results17, go_sem, r0, r1', r2', r3']) rfl ⟨_, _, rfl, OE1, OE2, hBE⟩
  · obtain ⟨rfl, hE⟩ := HN.out hl
    simp only [Prod.mk.injEq] at hE
    obtain ⟨rfl, rfl, rfl, rfl⟩ := hE
    clear K HN
    go_enter Tryz.func17, Tryz.ntmps17
    go_wp2
    exact bodyPost_ret (v := .tuple #[.agg #[.int .i64 0, .int .i64 0, .slice none 0 0, .slice none 0 0], .bool false]) (by simp [results, Tryz.results17, go_sem]) rfl ⟨_, _, rfl, World.ownsRow_nil _ _ _ _, World.ownsRow_nil _ _ _ _, hB⟩
end Go.Proofs.YtenbdjlhcadhaaaGreat
