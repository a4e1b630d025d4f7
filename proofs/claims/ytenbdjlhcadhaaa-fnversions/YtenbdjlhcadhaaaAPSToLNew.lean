/-
  ApplyEdit: the specification's side.
  NewVersion, both, and the walk of FnExactNewVersion.
-/
import Derived.Test.YtenbdjlhcadhaaaAP5
import Derived.Test.YtenbdjlhcadhaaaA9
namespace Go.Proofs.Ytenbdjlhcadhaaa
open Go.RowKit Go.Maps
set_option linter.unusedVariables false
set_option maxRecDepth 100000

set_option maxHeartbeats 8000000 in
theorem specApply_any (nx sq nx2 sq2 : Int) (va vq vb : Value) (l : List Mt) (dr : List Int) (ad : List Mt) (w : World) (HA : IX w va l) (hvq : IL w vq dr) (hvb : IR w vb ad) (hna : l.length ≤ 1048576) (hnd : dr.length ≤ 1048576) (hnb : ad.length ≤ 1048576) (hsa : ∀ i (h : i < l.length), l[i].k.size ≤ 1048576 ∧ l[i].v.size ≤ 1048576) (hsb : ∀ i (h : i < ad.length), ad[i].k.size ≤ 1048576 ∧ ad[i].v.size ≤ 1048576) :
    Calls Try.prog 17 #[.agg #[.int .i64 nx, .int .i64 sq, va], .agg #[.int .i64 nx2, .int .i64 sq2, vq, vb]] w fun e w' => ∃ u, e = .returned (.tuple #[.agg #[.int .i64 (apX nx sq l nx2 sq2 dr ad), .int .i64 (apY nx sq l nx2 sq2 dr ad), u], .bool (apB nx sq l nx2 sq2 dr ad)]) ∧ w'.ownsRow w.heap.size 82 4 u (apA nx sq l nx2 sq2 dr ad).length (flat4 (apA nx sq l nx2 sq2 dr ad)) ∧ Below w.heap.size w w' := by
  obtain ⟨W0, hW0⟩ : ∃ W0, W0 = ((w.alloc (.cells #[.int .i64 nx, .int .i64 sq, va] 25)).alloc (.cells #[.int .i64 nx2, .int .i64 sq2, vq, vb] 30)).alloc (.cells #[.int .i64 0, .int .i64 0, .slice none 0 0] 25) := ⟨_, rfl⟩
  have hB : Below w.heap.size w W0 := by rw [hW0]; exact below3 _ _ _ _
  have X : Box W0 w.heap.size [.int .i64 nx, .int .i64 sq, va] := by rw [hW0]; exact ((Box.new w #[.int .i64 nx, .int .i64 sq, va] 25).alloc _).alloc _
  have Y : Box W0 (w.heap.size + 1) [.int .i64 nx2, .int .i64 sq2, vq, vb] := by
    rw [hW0]
    have := (Box.new (w.alloc (.cells #[.int .i64 nx, .int .i64 sq, va] 25)) #[.int .i64 nx2, .int .i64 sq2, vq, vb] 30).alloc (.cells #[.int .i64 0, .int .i64 0, .slice none 0 0] 25)
    simpa using this
  have R : Box W0 (w.heap.size + 1 + 1) [.int .i64 0, .int .i64 0, .slice none 0 0] := by
    rw [hW0]
    have := Box.new ((w.alloc (.cells #[.int .i64 nx, .int .i64 sq, va] 25)).alloc (.cells #[.int .i64 nx2, .int .i64 sq2, vq, vb] 30)) #[.int .i64 0, .int .i64 0, .slice none 0 0] 25
    simpa using this
  have KA := specGoodV_any nx sq va l _ (HA.below hB) hna hsa
  have HN : Hid (goodV nx sq l = false → apB nx sq l nx2 sq2 dr ad = false ∧ apX nx sq l nx2 sq2 dr ad = 0 ∧ apY nx sq l nx2 sq2 dr ad = 0 ∧ apA nx sq l nx2 sq2 dr ad = []) := fun h => by
    have hb : apB nx sq l nx2 sq2 dr ad = false := by unfold apB; rw [h]; simp
    exact ⟨hb, by unfold apX; rw [hb]; rfl, by unfold apY; rw [hb]; rfl, by unfold apA; rw [hb]; rfl⟩
  have KB : Hid (∀ W, Below w.heap.size w W → goodV nx sq l = true → Calls Try.prog 58 #[.agg #[.int .i64 nx, .int .i64 sq, va], .agg #[.int .i64 nx2, .int .i64 sq2, vq, vb]] W fun e w' => ∃ u, e = .returned (.tuple #[.agg #[.int .i64 (apX nx sq l nx2 sq2 dr ad), .int .i64 (apY nx sq l nx2 sq2 dr ad), u], .bool (apB nx sq l nx2 sq2 dr ad)]) ∧ w'.ownsRow W.heap.size 82 4 u (apA nx sq l nx2 sq2 dr ad).length (flat4 (apA nx sq l nx2 sq2 dr ad)) ∧ Below W.heap.size W w') := fun W hW hg => l9Apply_any nx sq nx2 sq2 va vq vb l dr ad W (HA.below hW) (hvq.below hW) (hvb.below hW) hna hnd hnb hsa hsb hg
  generalize apB nx sq l nx2 sq2 dr ad = BB at *
  generalize apX nx sq l nx2 sq2 dr ad = RX at *
  generalize apY nx sq l nx2 sq2 dr ad = RY at *
  generalize apA nx sq l nx2 sq2 dr ad = RA at *
  generalize goodV nx sq l = g1 at *
  have hva := HA.1
  obtain ⟨a, ca, hve, _⟩ := id hva
  obtain ⟨a2, cq, hve2, _⟩ := id hvq
  obtain ⟨a3, cb, hve3, _⟩ := id hvb
  subst hve hve2 hve3
  clear hsa hsb HA
  obtain ⟨hp, p0, p1, p2, _⟩ := X.c3
  go_enter Try.func17, Try.ntmps17
  go_wp2_with fail
  rw [← hW0]; clear hW0
  refine KA.mono ?_
  rintro e w1 ⟨rfl, hb1⟩
  replace hB := below_then hB hb1
  replace X := X.below hb1
  replace Y := Y.below hb1
  replace R := R.below hb1
  clear hb1 KA hp p0 p1 p2
  cases g1
  · obtain ⟨rfl, rfl, rfl, rfl⟩ := HN.out (by trivial)
    obtain ⟨hr, r0, r1, r2, f0, f1, f2⟩ := R.c3
    have hBE := hB.trans ((put3_chg _ (w.heap.size + 1 + 1) (.int .i64 0) (.int .i64 0) (.slice none 0 0)).below (B := w.heap.size) hB.size (fun k hk => by omega))
    clear HN KB
    go_wp2
    exact bodyPost_ret (v := .tuple #[.agg #[.int .i64 0, .int .i64 0, .slice none 0 0], .bool false]) (by simp [results, Try.results17, go_sem, r0, r1, r2]) rfl ⟨_, rfl, World.ownsRow_nil _ _ _ _, hBE⟩
  have K2 := KB.out _ hB (by trivial)
  obtain ⟨hp, p0, p1, p2, _⟩ := X.c3
  obtain ⟨hq, q0, q1, q2, q3, _⟩ := Y.e4
  clear KB HN
  go_wp2_with fail
  refine K2.mono ?_
  rintro e w2 ⟨u, rfl, O, hb2⟩
  have hz1 := hB.size
  have hr1 := R.1
  have hgeO := owns_ge O
  replace hB := below_then hB hb2
  replace R := R.below hb2
  clear hb2 K2 hp p0 p1 p2 hq q0 q1 q2 q3 X Y
  obtain ⟨ua, uc, rfl⟩ := owns_shape O
  obtain ⟨hr, r0, r1, r2, f0, f1, f2⟩ := R.c3
  have hCE := put3_chg w2 (w.heap.size + 1 + 1) (.int .i64 RX) (.int .i64 RY) (.slice ua RA.length uc)
  have OE := hCE.owns (owns_mono O hz1) (fun g hg hh => by have := hgeO g hg; omega)
  have hBE := hB.trans (hCE.below (B := w.heap.size) hB.size (fun k hk => by omega))
  clear hCE
  go_wp2
  exact bodyPost_ret (v := .tuple #[.agg #[.int .i64 RX, .int .i64 RY, .slice ua RA.length uc], .bool BB]) (by simp [results, Try.results17, go_sem, r0, r1, r2]) rfl ⟨_, rfl, OE, hBE⟩
end Go.Proofs.Ytenbdjlhcadhaaa

namespace Go.Proofs.Ytenbdjlhcadhaaa
open Go.RowKit
set_option linter.unusedVariables false
set_option maxRecDepth 100000

theorem specNew_any (w : World) : Calls Try.prog 25 #[] w fun e w' => e = .returned (.agg #[.int .i64 1, .int .i64 0, .slice none 0 0]) ∧ Below w.heap.size w w' := by
  go_enter Try.func25, Try.ntmps25
  go_wp2
  exact bodyPost_ret (v := .agg #[.int .i64 1, .int .i64 0, .slice none 0 0]) (by simp [results, Try.results25, go_sem]) rfl ⟨rfl, below_alloc _ _⟩
theorem implNew_any (w : World) : Calls Try.prog 26 #[] w fun e w' => e = .returned (.agg #[.int .i64 1, .int .i64 0, .slice none 0 0]) ∧ Below w.heap.size w w' := by
  go_enter Try.func26, Try.ntmps26
  go_wp2
  exact bodyPost_ret (v := .agg #[.int .i64 1, .int .i64 0, .slice none 0 0]) (by simp [results, Try.results26, go_sem]) rfl ⟨rfl, below_alloc _ _⟩
theorem heldVersion_nil (x y k : Int) (w : World) (h1 : 1 ≤ k) (h2 : k ≤ 50000000) : Calls Try.prog 29 #[.agg #[.int .i64 x, .int .i64 y, .slice none 0 0], .int .i64 k] w fun e w' => e = .returned (.int .i64 k) ∧ Below w.heap.size w w' := by
  have K := heldVersion_at x y (.slice none 0 0) 0 k w (IR_nil w) (by omega) h1 h2
  refine K.mono ?_
  rintro e w' ⟨rfl, hb⟩
  exact ⟨by simp, hb⟩

set_option maxHeartbeats 2000000 in
theorem lawNewVersion (w : World) : Calls Try.prog 4 #[] w fun e w' => e = .returned (.bool true) ∧ Below w.heap.size w w' := by
  go_enter Try.func4, Try.ntmps4
  go_wp2_with fail
  refine (specNew_any _).mono ?_
  rintro e w1 ⟨rfl, hB⟩
  have BX := below_alloc w1 (.cells #[.int .i64 1, .int .i64 0, .slice none 0 0] 25)
  have X := Box.new w1 #[.int .i64 1, .int .i64 0, .slice none 0 0] 25
  replace hB := below_then hB BX
  clear BX
  go_wp2_with fail
  refine (implNew_any _).mono ?_
  rintro e w2 ⟨rfl, hb2⟩
  replace hB := below_then hB hb2
  replace X := X.below hb2
  clear hb2
  have BX := below_alloc w2 (.cells #[.int .i64 1, .int .i64 0, .slice none 0 0] 25)
  have Y := Box.new w2 #[.int .i64 1, .int .i64 0, .slice none 0 0] 25
  replace hB := below_then hB BX
  replace X := X.below BX
  clear BX
  have pl := Y.1
  have p0 := Y.2.1 0 _ rfl
  have p1 := Y.2.1 1 _ rfl
  have p2 := Y.2.1 2 _ rfl
  have ql := X.1
  have q0 := X.2.1 0 _ rfl
  have q1 := X.2.1 1 _ rfl
  have q2 := X.2.1 2 _ rfl
  go_wp2_with fail
  refine (eqVersion_same _ _ _ _ [] _ (IR_nil _) (IR_nil _) (by simp)).mono ?_
  rintro e w3 ⟨rfl, hb⟩
  replace hB := below_then hB hb
  replace X := X.below hb
  replace Y := Y.below hb
  clear pl p0 p1 p2 ql q0 q1 q2 hb
  have ql := Y.1
  have q0 := Y.2.1 0 _ rfl
  have q1 := Y.2.1 1 _ rfl
  have q2 := Y.2.1 2 _ rfl
  go_wp2_with fail
  refine (markVersion_nil _ _ 1 _ (by omega) (by omega)).mono ?_
  rintro e w4 ⟨rfl, hb⟩
  replace hB := below_then hB hb
  replace X := X.below hb
  replace Y := Y.below hb
  clear ql q0 q1 q2 hb
  have ql := Y.1
  have q0 := Y.2.1 0 _ rfl
  have q1 := Y.2.1 1 _ rfl
  have q2 := Y.2.1 2 _ rfl
  go_wp2_with fail
  refine (heldVersion_nil _ _ 1 _ (by omega) (by omega)).mono ?_
  rintro e w5 ⟨rfl, hb⟩
  replace hB := below_then hB hb
  replace X := X.below hb
  replace Y := Y.below hb
  clear ql q0 q1 q2 hb
  go_wp2_with fail
  refine (implNew_any _).mono ?_
  rintro e w6 ⟨rfl, hb⟩
  replace hB := below_then hB hb
  replace X := X.below hb
  replace Y := Y.below hb
  clear hb
  have BX := below_alloc w6 (.cells #[.int .i64 1, .int .i64 0, .slice none 0 0] 25)
  have Z := Box.new w6 #[.int .i64 1, .int .i64 0, .slice none 0 0] 25
  replace hB := below_then hB BX
  replace X := X.below BX
  replace Y := Y.below BX
  clear BX
  have pl := Z.1
  have p0 := Z.2.1 0 _ rfl
  have p1 := Z.2.1 1 _ rfl
  have p2 := Z.2.1 2 _ rfl
  have ql := X.1
  have q0 := X.2.1 0 _ rfl
  have q1 := X.2.1 1 _ rfl
  have q2 := X.2.1 2 _ rfl
  go_wp2_with fail
  refine (eqVersion_same _ _ _ _ [] _ (IR_nil _) (IR_nil _) (by simp)).mono ?_
  rintro e w7 ⟨rfl, hb⟩
  replace hB := below_then hB hb
  replace X := X.below hb
  replace Y := Y.below hb
  replace Z := Z.below hb
  clear pl p0 p1 p2 ql q0 q1 q2 hb
  have ql := Y.1
  have q0 := Y.2.1 0 _ rfl
  have q1 := Y.2.1 1 _ rfl
  have q2 := Y.2.1 2 _ rfl
  go_wp2_with fail
  refine (heldVersion_nil _ _ 1 _ (by omega) (by omega)).mono ?_
  rintro e w8 ⟨rfl, hb⟩
  replace hB := below_then hB hb
  replace X := X.below hb
  replace Y := Y.below hb
  replace Z := Z.below hb
  clear ql q0 q1 q2 hb
  go_wp2
  go_ret
  exact ⟨rfl, hB⟩
end Go.Proofs.Ytenbdjlhcadhaaa
