/-
  ApplyEdit: the specification's side.
  Versions recovered: plainly, and by the program.
  NewVersion, both, and the walk of FnExactNewVersion.
-/
import Derived.Test.YtenbdjlhcadhaaaGreatAP5
import Derived.Test.YtenbdjlhcadhaaaGreatRV0ToH1
import Derived.Test.YtenbdjlhcadhaaaGreatRD7
import Derived.Test.YtenbdjlhcadhaaaGreatQ1ToC9
namespace Go.Proofs.YtenbdjlhcadhaaaGreat
open Go.RowKit Go.Maps
set_option linter.unusedVariables false
set_option maxRecDepth 100000

set_option maxHeartbeats 8000000 in
theorem specApply_any (nx sq nx2 sq2 : Int) (va vq vb : Value) (l : List Mt) (dr : List Int) (ad : List Mt) (w : World) (HA : IX w va l) (hvq : IL w vq dr) (hvb : IR w vb ad) (hna : l.length ≤ 1048576) (hnd : dr.length ≤ 1048576) (hnb : ad.length ≤ 1048576) (hsa : ∀ i (h : i < l.length), l[i].k.size ≤ 1048576 ∧ l[i].v.size ≤ 1048576) (hsb : ∀ i (h : i < ad.length), ad[i].k.size ≤ 1048576 ∧ ad[i].v.size ≤ 1048576) :
    Calls Tryz.prog 32 #[.agg #[.int .i64 nx, .int .i64 sq, va], .agg #[.int .i64 nx2, .int .i64 sq2, vq, vb]] w fun e w' => ∃ u, e = .returned (.tuple #[.agg #[.int .i64 (apX nx sq l nx2 sq2 dr ad), .int .i64 (apY nx sq l nx2 sq2 dr ad), u], .bool (apB nx sq l nx2 sq2 dr ad)]) ∧ w'.ownsRow w.heap.size 71 4 u (apA nx sq l nx2 sq2 dr ad).length (flat4 (apA nx sq l nx2 sq2 dr ad)) ∧ Below w.heap.size w w' := by
  obtain ⟨W0, hW0⟩ : ∃ W0, W0 = ((w.alloc (.cells #[.int .i64 nx, .int .i64 sq, va] 35)).alloc (.cells #[.int .i64 nx2, .int .i64 sq2, vq, vb] 26)).alloc (.cells #[.int .i64 0, .int .i64 0, .slice none 0 0] 35) := ⟨_, rfl⟩
  have hB : Below w.heap.size w W0 := by rw [hW0]; exact below3 _ _ _ _
  have X : Box W0 w.heap.size [.int .i64 nx, .int .i64 sq, va] := by rw [hW0]; exact ((Box.new w #[.int .i64 nx, .int .i64 sq, va] 35).alloc _).alloc _
  have Y : Box W0 (w.heap.size + 1) [.int .i64 nx2, .int .i64 sq2, vq, vb] := by
    rw [hW0]
    have := (Box.new (w.alloc (.cells #[.int .i64 nx, .int .i64 sq, va] 35)) #[.int .i64 nx2, .int .i64 sq2, vq, vb] 26).alloc (.cells #[.int .i64 0, .int .i64 0, .slice none 0 0] 35)
    simpa using this
  have R : Box W0 (w.heap.size + 1 + 1) [.int .i64 0, .int .i64 0, .slice none 0 0] := by
    rw [hW0]
    have := Box.new ((w.alloc (.cells #[.int .i64 nx, .int .i64 sq, va] 35)).alloc (.cells #[.int .i64 nx2, .int .i64 sq2, vq, vb] 26)) #[.int .i64 0, .int .i64 0, .slice none 0 0] 35
    simpa using this
  have KA := specGoodV_any nx sq va l _ (HA.below hB) hna hsa
  have HN : Hid (goodV nx sq l = false → apB nx sq l nx2 sq2 dr ad = false ∧ apX nx sq l nx2 sq2 dr ad = 0 ∧ apY nx sq l nx2 sq2 dr ad = 0 ∧ apA nx sq l nx2 sq2 dr ad = []) := fun h => by
    have hb : apB nx sq l nx2 sq2 dr ad = false := by unfold apB; rw [h]; simp
    exact ⟨hb, by unfold apX; rw [hb]; rfl, by unfold apY; rw [hb]; rfl, by unfold apA; rw [hb]; rfl⟩
  have KB : Hid (∀ W, Below w.heap.size w W → goodV nx sq l = true → Calls Tryz.prog 39 #[.agg #[.int .i64 nx, .int .i64 sq, va], .agg #[.int .i64 nx2, .int .i64 sq2, vq, vb]] W fun e w' => ∃ u, e = .returned (.tuple #[.agg #[.int .i64 (apX nx sq l nx2 sq2 dr ad), .int .i64 (apY nx sq l nx2 sq2 dr ad), u], .bool (apB nx sq l nx2 sq2 dr ad)]) ∧ w'.ownsRow W.heap.size 71 4 u (apA nx sq l nx2 sq2 dr ad).length (flat4 (apA nx sq l nx2 sq2 dr ad)) ∧ Below W.heap.size W w') := fun W hW hg => l9Apply_any nx sq nx2 sq2 va vq vb l dr ad W (HA.below hW) (hvq.below hW) (hvb.below hW) hna hnd hnb hsa hsb hg
  generalize apB nx sq l nx2 sq2 dr ad = BB at *
  generalize apX nx sq l nx2 sq2 dr ad = RX at *
  generalize apY nx sq l nx2 sq2 dr ad = RY at *
  generalize apA nx sq l nx2 sq2 dr ad = RA at *
  generalize goodV nx sq l = g1 at *
  have hva := HA.1
  obtain ⟨a, ca, hve, _⟩ := id hva
  obtain ⟨a2, cq, hve2, _⟩ := id hvq
  obtain ⟨a3, cb, hve3, _⟩ := id hvb
  subst hve hve2 hve3
  clear hsa hsb HA
  obtain ⟨hp, p0, p1, p2, _⟩ := X.c3
  go_enter Tryz.func32, Tryz.ntmps32
  go_wp2_with fail
  rw [← hW0]; clear hW0
  refine KA.mono ?_
  rintro e w1 ⟨rfl, hb1⟩
  replace hB := below_then hB hb1
  replace X := X.below hb1
  replace Y := Y.below hb1
  replace R := R.below hb1
  clear hb1 KA hp p0 p1 p2
  cases g1
  · obtain ⟨rfl, rfl, rfl, rfl⟩ := HN.out (by trivial)
    obtain ⟨hr, r0, r1, r2, f0, f1, f2⟩ := R.c3
    have hBE := hB.trans ((put3_chg _ (w.heap.size + 1 + 1) (.int .i64 0) (.int .i64 0) (.slice none 0 0)).below (B := w.heap.size) hB.size (fun k hk => by omega))
    clear HN KB
    go_wp2
    exact bodyPost_ret (v := .tuple #[.agg #[.int .i64 0, .int .i64 0, .slice none 0 0], .bool false]) (by simp [results, Tryz.results32, go_sem, r0, r1, r2]) rfl ⟨_, rfl, World.ownsRow_nil _ _ _ _, hBE⟩
  have K2 := KB.out _ hB (by trivial)
  obtain ⟨hp, p0, p1, p2, _⟩ := X.c3
  obtain ⟨hq, q0, q1, q2, q3, _⟩ := Y.e4
  clear KB HN
  go_wp2_with fail
  refine K2.mono ?_
  rintro e w2 ⟨u, rfl, O, hb2⟩
  have hz1 := hB.size
  have hr1 := R.1
  have hgeO := owns_ge O
  replace hB := below_then hB hb2
  replace R := R.below hb2
  clear hb2 K2 hp p0 p1 p2 hq q0 q1 q2 q3 X Y
  obtain ⟨ua, uc, rfl⟩ := owns_shape O
  obtain ⟨hr, r0, r1, r2, f0, f1, f2⟩ := R.c3
  have hCE := put3_chg w2 (w.heap.size + 1 + 1) (.int .i64 RX) (.int .i64 RY) (.slice ua RA.length uc)
  have OE := hCE.owns (owns_mono O hz1) (fun g hg hh => by have := hgeO g hg; omega)
  have hBE := hB.trans (hCE.below (B := w.heap.size) hB.size (fun k hk => by omega))
  clear hCE
  go_wp2
  exact bodyPost_ret (v := .tuple #[.agg #[.int .i64 RX, .int .i64 RY, .slice ua RA.length uc], .bool BB]) (by simp [results, Tryz.results32, go_sem, r0, r1, r2]) rfl ⟨_, rfl, OE, hBE⟩
end Go.Proofs.YtenbdjlhcadhaaaGreat

namespace Go.Proofs.YtenbdjlhcadhaaaGreat
open Go.RowKit
set_option linter.unusedVariables false
set_option maxRecDepth 100000

abbrev St := Int × Int × List Mt
noncomputable def stGo (v : St) (r : ByteArray) : Bool := apB v.1 v.2.1 v.2.2 (rdE (tfT r)).1 (rdE (tfT r)).2.1 (rdE (tfT r)).2.2.1 (rdE (tfT r)).2.2.2
noncomputable def stNx (v : St) (r : ByteArray) : St := (apX v.1 v.2.1 v.2.2 (rdE (tfT r)).1 (rdE (tfT r)).2.1 (rdE (tfT r)).2.2.1 (rdE (tfT r)).2.2.2, apY v.1 v.2.1 v.2.2 (rdE (tfT r)).1 (rdE (tfT r)).2.1 (rdE (tfT r)).2.2.1 (rdE (tfT r)).2.2.2, apA v.1 v.2.1 v.2.2 (rdE (tfT r)).1 (rdE (tfT r)).2.1 (rdE (tfT r)).2.2.1 (rdE (tfT r)).2.2.2)
def tfL (r : ByteArray) : ByteArray := r.extract (tfN r) r.size
noncomputable def rv : Nat → ByteArray → St → Nat → St × Nat
  | 0, _, v, k => (v, k)
  | f + 1, r, v, k => if stGo v r then rv f (tfL r) (stNx v r) (k + 1) else (v, k)
noncomputable def rvE (s : ByteArray) : St × Nat := rv 60 s (1, 0, []) 0
theorem tfL_size (r : ByteArray) : (tfL r).size ≤ r.size := by unfold tfL; rw [ByteArray.size_extract]; omega
theorem rd_zero {s : ByteArray} (h : rdB s = false) : rdE s = (0, 0, [], []) := by
  have hx : ¬ ∃ e, VE' s e := fun hx => by
    unfold rdB at h
    rw [@decide_eq_true _ (Classical.propDecidable _) hx] at h
    cases h
  unfold rdE
  rw [dif_neg hx]
theorem rd_none : rdB ⟨#[]⟩ = false := by
  refine (rd_no fun e h => ?_).1
  have h1 := h.2.2
  have h2 : (edL e.1 e.2.1 e.2.2.1 e.2.2.2).length = 0 := by rw [← h1]; rfl
  unfold edL at h2
  simp only [List.length_append] at h2
  have := varL_pos e.1.toNat
  omega
theorem go_ok {v : St} {r : ByteArray} (h : stGo v r = true) : tfOk r = true ∧ rdB (tfT r) = true := by
  have hb : rdB (tfT r) = true := by
    cases hb : rdB (tfT r) with
    | true => rfl
    | false =>
      unfold stGo at h
      rw [rd_zero hb] at h
      unfold apB at h
      have hg : goodE 0 0 [] [] = false := by decide
      simp [hg] at h
  refine ⟨?_, hb⟩
  cases ho : tfOk r with
  | true => rfl
  | false =>
    have : tfT r = ⟨#[]⟩ := by unfold tfT; rw [ho]; rfl
    rw [this, rd_none] at hb
    cases hb
theorem go_good {v : St} {r : ByteArray} (h : stGo v r = true) : goodV (stNx v r).1 (stNx v r).2.1 (stNx v r).2.2 = true := by
  have h0 := h
  unfold stGo apB at h
  simp only [Bool.and_eq_true] at h
  unfold stNx apX apY apA
  unfold stGo at h0
  dsimp only
  rw [if_pos h0, if_pos h0, if_pos h0]
  exact h.2
theorem start_good : goodV 1 0 [] = true := by decide
theorem good_sizes {nx sq : Int} {l : List Mt} (h : goodV nx sq l = true) : l.length ≤ 30 ∧ ∀ i (h : i < l.length), l[i].k.size ≤ 1048576 ∧ l[i].v.size ≤ 1048576 :=
  ⟨goodV_len h, fun i hi => by have := okMt_key (goodMs_ok (goodV_ms h) hi); omega⟩
theorem rd_sizes (s : ByteArray) : (rdE s).2.2.1.length ≤ 30 ∧ (rdE s).2.2.2.length ≤ 30 ∧ ∀ i (h : i < (rdE s).2.2.2.length), (rdE s).2.2.2[i].k.size ≤ 1048576 ∧ (rdE s).2.2.2[i].v.size ≤ 1048576 := by
  unfold rdE
  split
  · rename_i h
    obtain ⟨_, _, h3, h4⟩ := goodE_parts (Classical.choose_spec h).1
    exact ⟨h3.1, h4.1, fun i hi => by have := okMt_key (goodMs_ok h4.2 hi); omega⟩
  · exact ⟨by simp, by simp, fun i hi => by simp at hi⟩
theorem rv_go {f : Nat} {r : ByteArray} {v : St} {k : Nat} (h : stGo v r = true) : rv (f + 1) r v k = rv f (tfL r) (stNx v r) (k + 1) := by simp [rv, h]
theorem rv_no {f : Nat} {r : ByteArray} {v : St} {k : Nat} (h : stGo v r = false) : rv f r v k = (v, k) := by
  cases f with
  | zero => rfl
  | succ f => simp [rv, h]
end Go.Proofs.YtenbdjlhcadhaaaGreat

namespace Go.Proofs.YtenbdjlhcadhaaaGreat
open Go.RowKit
set_option linter.unusedVariables false
set_option maxRecDepth 100000

theorem specNew_any (w : World) : Calls Tryz.prog 30 #[] w fun e w' => e = .returned (.agg #[.int .i64 1, .int .i64 0, .slice none 0 0]) ∧ Below w.heap.size w w' := by
  go_enter Tryz.func30, Tryz.ntmps30
  go_wp2
  exact bodyPost_ret (v := .agg #[.int .i64 1, .int .i64 0, .slice none 0 0]) (by simp [results, Tryz.results30, go_sem]) rfl ⟨rfl, below_alloc _ _⟩
theorem implNew_any (w : World) : Calls Tryz.prog 15 #[] w fun e w' => e = .returned (.agg #[.int .i64 1, .int .i64 0, .slice none 0 0]) ∧ Below w.heap.size w w' := by
  go_enter Tryz.func15, Tryz.ntmps15
  go_wp2
  exact bodyPost_ret (v := .agg #[.int .i64 1, .int .i64 0, .slice none 0 0]) (by simp [results, Tryz.results15, go_sem]) rfl ⟨rfl, below_alloc _ _⟩
end Go.Proofs.YtenbdjlhcadhaaaGreat
