/-
  spec.TimeoutNode of one alone.
-/
import Derived.Test.YtapfhhmimkkhnaaQD
namespace Go.Proofs.Ytapfhhmimkkhnaa
open Go.RowKit Go.Maps
set_option linter.unusedVariables false
set_option maxRecDepth 100000

set_option maxHeartbeats 16000000 in
theorem specTime_one (te vo co ro : Int) (vl vv vm : Value) (log : List En) (vs mt : List Int) (base : Nat) (w : World) (ho : OwnN w base vl vv vm log vs mt) (nl : log.length ≤ 1048576) (nv : vs.length ≤ 1048576) (nm : mt.length ≤ 1048576) (ns : ∀ i (h : i < log.length), log[i].d.size ≤ 1048576) (he : tmOk (goodN 0 1 te vo co ro log vs mt) ro te = true) :
    Calls Try.prog 24 #[.agg #[.int .i64 0, .int .i64 1, .int .i64 te, .int .i64 vo, vl, .int .i64 co, .int .i64 ro, vv, vm]] w fun e w' => ∃ ul um, e = .returned (.tuple #[.agg #[.int .i64 0, .int .i64 1, .int .i64 (te + 1), .int .i64 0, ul, .int .i64 co, .int .i64 2, .slice none 0 0, um], .slice none 0 0, .bool true]) ∧ OwnN w' w.heap.size ul (.slice none 0 0) um log [] [(log.length : Int)] ∧ Below w.heap.size w w' := by
  obtain ⟨W0, hW0⟩ : ∃ W0, W0 = (w.alloc (.cells #[.int .i64 0, .int .i64 1, .int .i64 te, .int .i64 vo, vl, .int .i64 co, .int .i64 ro, vv, vm] 26)).alloc (.cells #[.int .i64 0, .int .i64 0, .int .i64 0, .int .i64 0, .slice none 0 0, .int .i64 0, .int .i64 0, .slice none 0 0, .slice none 0 0] 26) := ⟨_, rfl⟩
  have hB : Below w.heap.size w W0 := by rw [hW0]; exact below2 _ _ _
  have hz00 : w.heap.size + 1 + 1 ≤ W0.heap.size := by rw [hW0]; simp
  have X : Box W0 w.heap.size [.int .i64 0, .int .i64 1, .int .i64 te, .int .i64 vo, vl, .int .i64 co, .int .i64 ro, vv, vm] := by rw [hW0]; exact (Box.new w #[.int .i64 0, .int .i64 1, .int .i64 te, .int .i64 vo, vl, .int .i64 co, .int .i64 ro, vv, vm] 26).alloc _
  have Y : Box W0 (w.heap.size + 1) [.int .i64 0, .int .i64 0, .int .i64 0, .int .i64 0, .slice none 0 0, .int .i64 0, .int .i64 0, .slice none 0 0, .slice none 0 0] := by
    rw [hW0]
    have := Box.new (w.alloc (.cells #[.int .i64 0, .int .i64 1, .int .i64 te, .int .i64 vo, vl, .int .i64 co, .int .i64 ro, vv, vm] 26)) #[.int .i64 0, .int .i64 0, .int .i64 0, .int .i64 0, .slice none 0 0, .int .i64 0, .int .i64 0, .slice none 0 0, .slice none 0 0] 26
    simpa using this
  have ho0 := ho.below hB
  have K := specGoodN_any 0 1 te vo co ro vl vv vm log vs mt _ ho0.er ho0.iv ho0.im nl nv nm ns
  have K2 := fun W (h : Below w.heap.size w W) => l11Own_any 0 1 te vo co ro vl vv vm log vs mt W (ho.below h).er (ho.below h).iv (ho.below h).im ho.nns.1 ho.nns.2.1 ho.nns.2.2 nl nv nm
  have HG : goodN 0 1 te vo co ro log vs mt = true → 0 ≤ te ∧ log.length ≤ 60 := fun h => (goodN_bounds h).2.2.2
  have HC : goodN 0 1 te vo co ro log vs mt = true → 0 ≤ co := fun h => (goodN_co h).1
  have HM : goodN 0 1 te vo co ro log vs mt = true → comTo (te + 1) 1 co log [(log.length : Int)] log.length = co := fun h => goodN_newCom h _ _
  generalize goodN 0 1 te vo co ro log vs mt = g at *
  obtain ⟨⟨la, lc, rfl⟩, ⟨va, vc, rfl⟩, ma, mc, rfl⟩ := ho.shapes
  clear ns ho0 ho
  rcases tmOk_cases g ro te with ⟨_, rfl, h1, h2⟩ | ⟨h, _⟩
  rotate_left
  · rw [he] at h; cases h
  obtain ⟨i3, i4⟩ := HG rfl
  have hc0 := HC rfl
  have HCM : Hid (comTo (te + 1) 1 co log [(log.length : Int)] log.length = co) := HM rfl
  clear he HG HC HM
  go_enter Try.func24, Try.ntmps24
  go_wp2_with fail
  rw [← hW0]; clear hW0
  refine K.mono ?_
  rintro e w1 ⟨rfl, hb⟩
  replace hB := below_then hB hb
  replace Y := Y.below hb
  replace X := X.below hb
  have hz1 := hb.size
  clear K hb
  obtain ⟨hxl, x0, x1, x2, x3, x4, x5, x6, x7, x8⟩ := X.e9
  have h1b : (ro == 2) = false := by simp [h1]
  have h2b : (te == 1000) = false := by simp; omega
  go_wp2_with fail
  refine (K2 _ hB).mono ?_
  rintro e w2 ⟨u1, u2, u3, rfl, O, hb⟩
  replace hB := below_then hB hb
  replace Y := Y.below hb
  replace X := X.below hb
  have hz2 := hb.size
  clear K2 hb hxl x0 x1 x2 x3 x4 x5 x6 x7 x8
  have gl := owns_ge O.l
  obtain ⟨⟨ua, uc, rfl⟩, ⟨pa, pc, rfl⟩, qa, qc, rfl⟩ := O.shapes
  have ol := O.l
  clear O
  obtain ⟨hxl, x0, x1, x2, x3, x4, x5, x6, x7, x8⟩ := X.e9
  obtain ⟨e0, e1, e2, e3, e4, e5, e6, e7, e8⟩ := X.f9
  go_upto_region 4 with fail
  obtain ⟨W3, hW3⟩ : ∃ W, W = put9 w2 w.heap.size (.int .i64 0) (.int .i64 1) (.int .i64 te) (.int .i64 vo) (.slice ua log.length uc) (.int .i64 co) (.int .i64 ro) (.slice pa vs.length pc) (.slice qa mt.length qc) := ⟨_, rfl⟩
  have hC : Chg (· = w.heap.size) w2 W3 := by rw [hW3]; exact put9_chg _ _ _ _ _ _ _ _ _ _ _
  replace X : Box W3 w.heap.size [.int .i64 0, .int .i64 1, .int .i64 te, .int .i64 vo, .slice ua log.length uc, .int .i64 co, .int .i64 ro, .slice pa vs.length pc, .slice qa mt.length qc] := by rw [hW3]; exact put9_box X _ _ _ _ _ _ _ _ _
  replace Y := hC.box Y (by omega)
  replace ol := hC.owns ol (fun b hb hh => by have := gl b hb; have hh : b = w.heap.size := hh; omega)
  replace hB := hB.trans (hC.below (B := w.heap.size) hB.size (fun k hk => by have hk : k = w.heap.size := hk; omega))
  have hz4 : w2.heap.size ≤ W3.heap.size := hC.size
  unfold put9 at hW3
  rw [← hW3]
  clear hW3 hC hxl x0 x1 x2 x3 x4 x5 x6 x7 x8 e0 e1 e2 e3 e4 e5 e6 e7 e8
  obtain ⟨hxl, x0, x1, x2, x3, x4, x5, x6, x7, x8⟩ := X.e9
  obtain ⟨e0, e1, e2, e3, e4, e5, e6, e7, e8⟩ := X.f9
  go_upto_region 7 with fail
  obtain ⟨W4, hW4⟩ : ∃ W, W = ((W3.setCell ⟨w.heap.size, 2, none⟩ (.int .i64 (te + 1))).setCell ⟨w.heap.size, 3, none⟩ (.int .i64 0)).setCell ⟨w.heap.size, 6, none⟩ (.int .i64 1) := ⟨_, rfl⟩
  have hC : Chg (fun k => k = w.heap.size) W3 W4 := by rw [hW4]; exact Chg.setCell (S := fun k => k = w.heap.size) (Chg.setCell (S := fun k => k = w.heap.size) (Chg.setCell (S := fun k => k = w.heap.size) (Chg.refl _ _) rfl _) rfl _) rfl _
  replace X : Box W4 w.heap.size [.int .i64 0, .int .i64 1, .int .i64 (te + 1), .int .i64 0, .slice ua log.length uc, .int .i64 co, .int .i64 1, .slice pa vs.length pc, .slice qa mt.length qc] := by rw [hW4]; exact ((X.set 2 _ (by simp)).set 3 _ (by simp)).set 6 _ (by simp)
  replace Y := hC.box Y (by omega)
  replace ol := hC.owns ol (fun b hb hh => by have := gl b hb; have hh : b = w.heap.size := hh; omega)
  replace hB := hB.trans (hC.below (B := w.heap.size) hB.size (fun k hk => by have hk : k = w.heap.size := hk; omega))
  have hz5 : W3.heap.size ≤ W4.heap.size := hC.size
  rw [← hW4]
  clear hW4 hC hxl x0 x1 x2 x3 x4 x5 x6 x7 x8 e0 e1 e2 e3 e4 e5 e6 e7 e8
  obtain ⟨hxl, x0, x1, x2, x3, x4, x5, x6, x7, x8⟩ := X.e9
  have e7 := X.2.2 7
  go_upto_region 8 with fail
  obtain ⟨W6, hW6⟩ : ∃ W, W = W4.setCell ⟨w.heap.size, 7, none⟩ (.slice (some ⟨W4.heap.size, 0, none⟩) 1 1) := ⟨_, rfl⟩
  have hC : Chg (fun k => k = w.heap.size) W4 W6 := by rw [hW6]; exact Chg.setCell (S := fun k => k = w.heap.size) (Chg.refl _ _) rfl _
  replace X : Box W6 w.heap.size [.int .i64 0, .int .i64 1, .int .i64 (te + 1), .int .i64 0, .slice ua log.length uc, .int .i64 co, .int .i64 1, .slice (some ⟨W4.heap.size, 0, none⟩) 1 1, .slice qa mt.length qc] := by rw [hW6]; exact X.set 7 _ (by simp)
  replace Y := hC.box Y (by omega)
  replace ol := hC.owns ol (fun b hb hh => by have := gl b hb; have hh : b = w.heap.size := hh; omega)
  replace hB := hB.trans (hC.below (B := w.heap.size) hB.size (fun k hk => by have hk : k = w.heap.size := hk; omega))
  have hz6 := hC.size
  rw [← hW6]
  clear hW6
  have BA := below_alloc W6 (.cells #[.int .i64 0] 3)
  replace X := X.below BA
  replace Y := Y.below BA
  replace ol := owns_below ol BA
  replace hB := below_then hB BA
  have hz7 := BA.size
  obtain ⟨W5, hW5⟩ : ∃ W, W = W6.alloc (.cells #[.int .i64 0] 3) := ⟨_, rfl⟩
  rw [← hW5] at X Y ol hB hz7 ⊢
  clear hW5 hC BA hxl x0 x1 x2 x3 x4 x5 x6 x7 x8 e7
  obtain ⟨hxl, x0, x1, x2, x3, x4, x5, x6, x7, x8⟩ := X.e9
  have OL : OwnN W5 w1.heap.size (.slice ua log.length uc) (.slice none 0 0) (.slice none 0 0) log [] [] := ⟨ol, World.ownsRow_nil _ _ _ _, World.ownsRow_nil _ _ _ _, fun g hg => by simp [Value.ownBlock] at hg⟩
  have hER := OL.er
  clear OL
  go_wp2_with fail
  refine (l11Lead_one (te + 1) 0 co 1 ua uc log _ _ _ _ _ _ _ hER nl hc0).mono ?_
  rintro e w6 ⟨u, rfl, om, hb⟩
  rw [HCM.out]
  replace hB := below_then hB hb
  replace Y := Y.below hb
  replace ol := owns_below ol hb
  have gm := owns_ge om
  clear hb X hxl x0 x1 x2 x3 x4 x5 x6 x7 x8 hER HCM
  obtain ⟨ya, yc, rfl⟩ := owns_shape om
  have hC := put9_chg w6 (w.heap.size + 1) (.int .i64 0) (.int .i64 1) (.int .i64 (te + 1)) (.int .i64 0) (.slice ua log.length uc) (.int .i64 co) (.int .i64 2) (.slice none 0 0) (.slice ya 1 yc)
  have Z := put9_box Y (.int .i64 0) (.int .i64 1) (.int .i64 (te + 1)) (.int .i64 0) (.slice ua log.length uc) (.int .i64 co) (.int .i64 2) (.slice none 0 0) (.slice ya 1 yc)
  have O8 : OwnN _ w.heap.size (.slice ua log.length uc) (.slice none 0 0) (.slice ya 1 yc) log [] [(log.length : Int)] := ⟨owns_mono' (hC.owns ol (fun b hb hh => by have := gl b hb; have hh : b = w.heap.size + 1 := hh; omega)) (by omega), World.ownsRow_nil _ _ _ _, owns_mono' (hC.owns om (fun b hb hh => by have := gm b hb; have hh : b = w.heap.size + 1 := hh; omega)) (by omega), fun g hg => by simp [Value.ownBlock] at hg⟩
  have hBE := hB.trans (hC.below (B := w.heap.size) hB.size (fun k hk => by have hk : k = w.heap.size + 1 := hk; omega))
  obtain ⟨ql, q0, q1, q2, q3, q4, q5, q6, q7, q8⟩ := Y.e9
  obtain ⟨k0, k1, k2, k3, k4, k5, k6, k7, k8⟩ := Y.f9
  clear hC ol om hB Y gl gm
  obtain ⟨hzl, t0, t1, t2, t3, t4, t5, t6, t7, t8⟩ := Z.e9
  clear Z
  unfold put9 at *
  go_wp2
  exact bodyPost_ret (v := .tuple #[.agg #[.int .i64 0, .int .i64 1, .int .i64 (te + 1), .int .i64 0, .slice ua log.length uc, .int .i64 co, .int .i64 2, .slice none 0 0, .slice ya 1 yc], .slice none 0 0, .bool true]) (by simp [results, Try.results24, go_sem, t0, t1, t2, t3, t4, t5, t6, t7, t8]) rfl ⟨_, _, rfl, O8, hBE⟩
end Go.Proofs.Ytapfhhmimkkhnaa
