/-
  A cluster made of the law's own: toCluster.
-/
import Derived.Test.YtapfhhmimkkhnaaCCnToCCm
import Derived.Test.YtapfhhmimkkhnaaCD
namespace Go.Proofs.Ytapfhhmimkkhnaa
open Go.RowKit Go.Maps
set_option linter.unusedVariables false
set_option maxRecDepth 100000

/-- A cluster of one's own, all of it between lo and hi. -/
structure OwnC (w : World) (lo mid hi : Nat) (vn vm vl : Value) (N : List Nv) (M : List Mv) (L : List Ld) : Prop where
  n : w.ownsRow lo 26 9 vn N.length (flatN N)
  m : w.ownsRow lo 38 9 vm M.length (flatM M)
  l : w.ownsRow lo 116 2 vl L.length (flatL L)
  cn : Chain PN BN w lo mid N
  cm : Chain PM BM w mid hi M
  bn : ∀ b, vn.ownBlock = some b → b < hi
  bm : ∀ b, vm.ownBlock = some b → b < hi
  bl : ∀ b, vl.ownBlock = some b → b < hi
theorem OwnC.below {w w' : World} {lo mid hi : Nat} {vn vm vl : Value} {N : List Nv} {M : List Mv} {L : List Ld} (h : OwnC w lo mid hi vn vm vl N M L) (hb : Below w.heap.size w w') : OwnC w' lo mid hi vn vm vl N M L :=
  ⟨owns_below h.n hb, owns_below h.m hb, owns_below h.l hb, h.cn.belowN hb, h.cm.belowM hb, h.bn, h.bm, h.bl⟩
theorem OwnC.chg {w w' : World} {S : Nat → Prop} {lo mid hi : Nat} {vn vm vl : Value} {N : List Nv} {M : List Mv} {L : List Ld} (h : OwnC w lo mid hi vn vm vl N M L) (hc : Chg S w w') (hs : ∀ b, S b → b < lo ∨ hi ≤ b) : OwnC w' lo mid hi vn vm vl N M L := by
  have e1 := h.cn.ends
  have e2 := h.cm.ends
  refine ⟨hc.owns h.n fun b hb hh => ?_, hc.owns h.m fun b hb hh => ?_, hc.owns h.l fun b hb hh => ?_, h.cn.chgN hc fun b hb => ?_, h.cm.chgM hc fun b hb => ?_, h.bn, h.bm, h.bl⟩
  · have := owns_ge h.n b hb; have := h.bn b hb; have := hs b hh; omega
  · have := owns_ge h.m b hb; have := h.bm b hb; have := hs b hh; omega
  · have := owns_ge h.l b hb; have := h.bl b hb; have := hs b hh; omega
  · have := hs b hb; omega
  · have := hs b hb; omega
theorem OwnC.cr {w : World} {lo mid hi : Nat} {vn vm vl : Value} {N : List Nv} {M : List Mv} {L : List Ld} (h : OwnC w lo mid hi vn vm vl N M L) : CR w vn vm vl N M L :=
  ⟨NW_of_owns h.n rfl, MW_of_owns h.m rfl, LW_of_owns h.l rfl, fun i hi' => by obtain ⟨_, _, q, _⟩ := h.cn.at i hi'; exact PN.ne q, fun i hi' => by obtain ⟨_, _, q, _⟩ := h.cm.at i hi'; exact PM.me q⟩
theorem OwnC.lohi {w : World} {lo mid hi : Nat} {vn vm vl : Value} {N : List Nv} {M : List Mv} {L : List Ld} (h : OwnC w lo mid hi vn vm vl N M L) : lo ≤ mid ∧ mid ≤ hi := ⟨h.cn.ends, h.cm.ends⟩
theorem OwnC.shapes {w : World} {lo mid hi : Nat} {vn vm vl : Value} {N : List Nv} {M : List Mv} {L : List Ld} (h : OwnC w lo mid hi vn vm vl N M L) : (∃ a c, vn = .slice a N.length c) ∧ (∃ a c, vm = .slice a M.length c) ∧ ∃ a c, vl = .slice a L.length c := h.cr.shapes
def put3 (w : World) (b : Nat) (v0 v1 v2 : Value) : World := ((w.setCell ⟨b, 0, none⟩ v0).setCell ⟨b, 1, none⟩ v1).setCell ⟨b, 2, none⟩ v2
theorem put3_chg (w : World) (b : Nat) (v0 v1 v2 : Value) : Chg (· = b) w (put3 w b v0 v1 v2) :=
  Chg.setCell (S := (· = b)) (Chg.setCell (S := (· = b)) (Chg.setCell (S := (· = b)) (Chg.refl _ _) rfl _) rfl _) rfl _
theorem put3_box {w : World} {b : Nat} {u0 u1 u2 : Value} (h : Box w b [u0, u1, u2]) (v0 v1 v2 : Value) : Box (put3 w b v0 v1 v2) b [v0, v1, v2] :=
  ((h.set 0 v0 (by simp)).set 1 v1 (by simp)).set 2 v2 (by simp)

set_option maxHeartbeats 8000000 in
theorem toCluster_any (vn vm vl : Value) (N : List Nv) (M : List Mv) (L : List Ld) (w : World) (h : CR w vn vm vl N M L) (hs : CS N M L) :
    Calls Try.prog 40 #[.agg #[vn, vm, vl]] w fun e w' => ∃ un um ul N' M' mid, e = .returned (.agg #[un, um, ul]) ∧ N'.map Nv.n = N.map Nv.n ∧ M'.map Mv.q = M.map Mv.q ∧ OwnC w' w.heap.size mid w'.heap.size un um ul N' M' L ∧ Below w.heap.size w w' := by
  obtain ⟨W0, hW0⟩ : ∃ W0, W0 = ((w.alloc (.cells #[vn, vm, vl] 70)).alloc (.cells #[.slice none 0 0, .slice none 0 0, .slice none 0 0] 60)).alloc (.cells #[.slice none 0 0, .slice none 0 0, .slice none 0 0] 60) := ⟨_, rfl⟩
  have hB : Below w.heap.size w W0 := by rw [hW0]; exact below3 _ _ _ _
  have K1 := toNodeS_any vn N _ (h.below hB).n (h.below hB).ne hs.ne hs.n
  have K2 := fun W (hb : Below w.heap.size w W) => toMsgS_any vm M W (h.below hb).m (h.below hb).me hs.me hs.m
  have K3 := fun W (hb : Below w.heap.size w W) => toLeadS_any vl L W (h.below hb).l hs.l
  obtain ⟨⟨na, nc, rfl⟩, ⟨ma, mc, rfl⟩, la, lc, rfl⟩ := h.shapes
  have X0 : Box W0 w.heap.size [.slice na N.length nc, .slice ma M.length mc, .slice la L.length lc] := by
    rw [hW0]
    exact ((Box.new w #[.slice na N.length nc, .slice ma M.length mc, .slice la L.length lc] 70).alloc _).alloc _
  have X1 : Box W0 (w.heap.size + 1) [.slice none 0 0, .slice none 0 0, .slice none 0 0] := by
    rw [hW0]
    have := (Box.new (w.alloc (.cells #[.slice na N.length nc, .slice ma M.length mc, .slice la L.length lc] 70)) #[.slice none 0 0, .slice none 0 0, .slice none 0 0] 60).alloc (.cells #[.slice none 0 0, .slice none 0 0, .slice none 0 0] 60)
    simpa using this
  have X2 : Box W0 (w.heap.size + 1 + 1) [.slice none 0 0, .slice none 0 0, .slice none 0 0] := by
    rw [hW0]
    have := Box.new ((w.alloc (.cells #[.slice na N.length nc, .slice ma M.length mc, .slice la L.length lc] 70)).alloc (.cells #[.slice none 0 0, .slice none 0 0, .slice none 0 0] 60)) #[.slice none 0 0, .slice none 0 0, .slice none 0 0] 60
    simpa using this
  have hz0 : w.heap.size + 1 + 1 + 1 ≤ W0.heap.size := by rw [hW0]; simp
  have hzq : W0.heap.size = w.heap.size + 1 + 1 + 1 := by rw [hW0]; simp
  rw [hzq] at K1
  clear h hs
  go_enter Try.func40, Try.ntmps40
  go_wp2_with fail
  rw [← hW0]; clear hW0
  refine K1.mono ?_
  rintro e w1 ⟨N', rfl, hn', o1, c1, hb⟩
  rw [← hzq] at hb
  clear hzq
  have hz1 := hb.size
  replace X0 := X0.below hb
  replace X1 := X1.below hb
  replace X2 := X2.below hb
  replace hB := below_then hB hb
  clear K1 hb
  have HNL : Hid (N'.length = N.length) := by show _ = _; have := congrArg List.length hn'; simpa using this
  have HN : Hid (N'.map Nv.n = N.map Nv.n) := hn'
  have g1 := owns_ge o1
  have l1 := owns_below_lt o1
  obtain ⟨S1, hS1⟩ : ∃ S1, S1 = Value.slice (some ⟨w.heap.size + 1 + 1 + 1, 0, none⟩) N.length N.length := ⟨_, rfl⟩
  rw [← hS1] at o1 g1 l1
  clear hn'
  obtain ⟨hxl, x0, x1, x2⟩ := X0.c3
  obtain ⟨hyl, y0, y1, y2⟩ := X2.c3
  obtain ⟨f0, f1, f2⟩ := X2.f3
  go_upto_region 3 with fail
  rw [← hS1]
  obtain ⟨W1, hW1⟩ : ∃ W, W = w1.setCell ⟨w.heap.size + 1 + 1, 0, none⟩ S1 := ⟨_, rfl⟩
  have hC : Chg (fun k => k = w.heap.size + 1 + 1) w1 W1 := by rw [hW1]; exact Chg.setCell (S := fun k => k = w.heap.size + 1 + 1) (Chg.refl _ _) rfl _
  replace X0 := hC.box X0 (by omega)
  replace X1 := hC.box X1 (by omega)
  replace X2 : Box W1 (w.heap.size + 1 + 1) [S1, .slice none 0 0, .slice none 0 0] := by rw [hW1]; exact X2.set 0 _ (by simp)
  replace o1 := hC.owns o1 (fun b hb hh => by have := g1 b hb; omega)
  replace c1 := c1.chgN hC (fun b hb => .inl (by omega))
  replace hB := hB.trans (hC.below (B := w.heap.size) hB.size (fun k hk => by omega))
  have hz2 := hC.size
  rw [← hW1]
  clear hW1 hC hxl x0 x1 x2 hyl y0 y1 y2 f0 f1 f2
  obtain ⟨hxl, x0, x1, x2⟩ := X0.c3
  obtain ⟨sa, sc, hS1b⟩ := owns_shape o1
  clear hS1
  subst hS1b
  go_wp2_with fail
  refine (K2 _ hB).mono ?_
  rintro e w2 ⟨M', rfl, hm', o2, c2, hb⟩
  have hz3 := hb.size
  replace X0 := X0.below hb
  replace X1 := X1.below hb
  replace X2 := X2.below hb
  replace hB := below_then hB hb
  replace o1 := owns_below o1 hb
  replace c1 := c1.belowN hb
  clear K2 hb hxl x0 x1 x2
  have HML : Hid (M'.length = M.length) := by show _ = _; have := congrArg List.length hm'; simpa using this
  have HM : Hid (M'.map Mv.q = M.map Mv.q) := hm'
  have g2 := owns_ge o2
  have l2 := owns_below_lt o2
  obtain ⟨S2, hS2⟩ : ∃ S2, S2 = Value.slice (some ⟨W1.heap.size, 0, none⟩) M.length M.length := ⟨_, rfl⟩
  rw [← hS2] at o2 g2 l2
  clear hm'
  obtain ⟨hxl, x0, x1, x2⟩ := X0.c3
  obtain ⟨hyl, y0, y1, y2⟩ := X2.c3
  obtain ⟨f0, f1, f2⟩ := X2.f3
  go_upto_region 4 with fail
  rw [← hS2]
  obtain ⟨W2, hW2⟩ : ∃ W, W = w2.setCell ⟨w.heap.size + 1 + 1, 1, none⟩ S2 := ⟨_, rfl⟩
  have hC : Chg (fun k => k = w.heap.size + 1 + 1) w2 W2 := by rw [hW2]; exact Chg.setCell (S := fun k => k = w.heap.size + 1 + 1) (Chg.refl _ _) rfl _
  replace X0 := hC.box X0 (by omega)
  replace X1 := hC.box X1 (by omega)
  replace X2 : Box W2 (w.heap.size + 1 + 1) [.slice sa N.length sc, S2, .slice none 0 0] := by rw [hW2]; exact X2.set 1 _ (by simp)
  replace o1 := hC.owns o1 (fun b hb hh => by have := g1 b hb; omega)
  replace c1 := c1.chgN hC (fun b hb => .inl (by omega))
  replace o2 := hC.owns o2 (fun b hb hh => by have := g2 b hb; omega)
  replace c2 := c2.chgM hC (fun b hb => .inl (by omega))
  replace hB := hB.trans (hC.below (B := w.heap.size) hB.size (fun k hk => by omega))
  have hz4 := hC.size
  rw [← hW2]
  clear hW2 hC hxl x0 x1 x2 hyl y0 y1 y2 f0 f1 f2
  obtain ⟨hxl, x0, x1, x2⟩ := X0.c3
  obtain ⟨ta, tc, hS2b⟩ := owns_shape o2
  clear hS2
  subst hS2b
  go_wp2_with fail
  refine (K3 _ hB).mono ?_
  rintro e w3 ⟨L', rfl, hl', o3, hb⟩
  subst hl'
  have hz5 := hb.size
  replace X1 := X1.below hb
  replace X2 := X2.below hb
  replace hB := below_then hB hb
  replace o1 := owns_below o1 hb
  replace c1 := c1.belowN hb
  replace o2 := owns_below o2 hb
  replace c2 := c2.belowM hb
  clear K3 hb hxl x0 x1 x2 X0
  have g3 := owns_ge o3
  have l3 := owns_below_lt o3
  obtain ⟨S3, hS3⟩ : ∃ S3, S3 = Value.slice (some ⟨W2.heap.size, 0, none⟩) L'.length L'.length := ⟨_, rfl⟩
  rw [← hS3] at o3 g3 l3
  obtain ⟨hyl, y0, y1, y2⟩ := X2.c3
  obtain ⟨f0, f1, f2⟩ := X2.f3
  go_upto_region 5 with fail
  rw [← hS3]
  obtain ⟨W3, hW3⟩ : ∃ W, W = w3.setCell ⟨w.heap.size + 1 + 1, 2, none⟩ S3 := ⟨_, rfl⟩
  have hC : Chg (fun k => k = w.heap.size + 1 + 1) w3 W3 := by rw [hW3]; exact Chg.setCell (S := fun k => k = w.heap.size + 1 + 1) (Chg.refl _ _) rfl _
  replace X1 := hC.box X1 (by omega)
  replace X2 : Box W3 (w.heap.size + 1 + 1) [.slice sa N.length sc, .slice ta M.length tc, S3] := by rw [hW3]; exact X2.set 2 _ (by simp)
  replace o1 := hC.owns o1 (fun b hb hh => by have := g1 b hb; omega)
  replace c1 := c1.chgN hC (fun b hb => .inl (by omega))
  replace o2 := hC.owns o2 (fun b hb hh => by have := g2 b hb; omega)
  replace c2 := c2.chgM hC (fun b hb => .inl (by omega))
  replace o3 := hC.owns o3 (fun b hb hh => by have := g3 b hb; omega)
  replace hB := hB.trans (hC.below (B := w.heap.size) hB.size (fun k hk => by omega))
  have hz6 := hC.size
  rw [← hW3]
  clear hW3 hC hyl y0 y1 y2 f0 f1 f2
  obtain ⟨ra, rc, hS3b⟩ := owns_shape o3
  clear hS3
  subst hS3b
  have hC := put3_chg W3 (w.heap.size + 1) (.slice sa N.length sc) (.slice ta M.length tc) (.slice ra L'.length rc)
  have Z := put3_box X1 (.slice sa N.length sc) (.slice ta M.length tc) (.slice ra L'.length rc)
  have hBE := hB.trans (hC.below (B := w.heap.size) hB.size (fun k hk => by have hk : k = w.heap.size + 1 := hk; omega))
  have hz7 := hC.size
  have O : OwnC (put3 W3 (w.heap.size + 1) (.slice sa N.length sc) (.slice ta M.length tc) (.slice ra L'.length rc)) w.heap.size w1.heap.size (put3 W3 (w.heap.size + 1) (.slice sa N.length sc) (.slice ta M.length tc) (.slice ra L'.length rc)).heap.size (.slice sa N.length sc) (.slice ta M.length tc) (.slice ra L'.length rc) N' M' L' := by
    refine ⟨?_, ?_, ?_, ?_, ?_, ?_, ?_, ?_⟩
    · rw [HNL.out]; exact hC.owns (owns_mono' o1 (by omega)) (fun b hb hh => by have := g1 b hb; have hh : b = w.heap.size + 1 := hh; omega)
    · rw [HML.out]; exact hC.owns (owns_mono' o2 (by omega)) (fun b hb hh => by have := g2 b hb; have hh : b = w.heap.size + 1 := hh; omega)
    · exact hC.owns (owns_mono' o3 (by omega)) (fun b hb hh => by have := g3 b hb; have hh : b = w.heap.size + 1 := hh; omega)
    · exact (c1.chgN hC (fun b hb => .inl (by have hb : b = w.heap.size + 1 := hb; omega))).lo (by omega)
    · exact ((c2.chgM hC (fun b hb => .inl (by have hb : b = w.heap.size + 1 := hb; omega))).lo (by omega)).hi (by omega)
    · intro b hb; have := l1 b hb; omega
    · intro b hb; have := l2 b hb; omega
    · intro b hb; have := l3 b hb; omega
  obtain ⟨hyl, y0, y1, y2⟩ := X1.c3
  obtain ⟨f0, f1, f2⟩ := X1.f3
  obtain ⟨hxl, x0, x1, x2⟩ := X2.c3
  clear hC o1 o2 o3 c1 c2 hB X1 X2 g1 g2 g3 l1 l2 l3
  obtain ⟨hzl, t0, t1, t2⟩ := Z.c3
  clear Z
  unfold put3 at *
  go_wp2
  exact bodyPost_ret (v := .agg #[.slice sa N.length sc, .slice ta M.length tc, .slice ra L'.length rc]) (by simp [results, Try.results40, go_sem, t0, t1, t2]) rfl ⟨_, _, _, N', M', _, rfl, HN.out, HM.out, O, hBE⟩
end Go.Proofs.Ytapfhhmimkkhnaa
