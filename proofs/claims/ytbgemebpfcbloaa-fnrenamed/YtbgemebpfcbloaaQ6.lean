/-
  impl.changeDisk at any step that is not refused; impl.DoDisk.
-/
import Derived.Test.YtbgemebpfcbloaaQ5
namespace Go.Proofs.Ytbgemebpfcbloaa
open Go.RowKit Go.Maps
set_option linter.unusedVariables false
set_option maxRecDepth 100000

/-- What a step that is not refused leaves. -/
def nB (k : Int) (nm da : ByteArray) (kp : Int) (bl lv : List (ByteArray × Int)) : List (ByteArray × Int) :=
  if k == 1 then bl ++ [(⟨#[]⟩, 0)] else if k == 2 then bl.set (cbOf nm lv) ((bl.getD (cbOf nm lv) default).1 ++ da, (bl.getD (cbOf nm lv) default).2) else
  if k == 3 then bl.set (cbOf nm lv) ((bl.getD (cbOf nm lv) default).1, (bl.getD (cbOf nm lv) default).1.size) else if k == 8 then bl.map (crB kp.toNat) else bl
def nL (k : Int) (nm ot : ByteArray) (bl lv sf : List (ByteArray × Int)) : List (ByteArray × Int) :=
  if k == 1 then putL lv nm bl.length else if k == 4 then putL (woutL lv nm) ot (cbOf nm lv) else if k == 5 then putL lv ot (cbOf nm lv) else if k == 6 then woutL lv nm else if k == 8 then sf else lv
def nS (k : Int) (lv sf : List (ByteArray × Int)) : List (ByteArray × Int) := if k == 7 then lv else sf

theorem refuse_zero {k : Int} {nm ot da : ByteArray} {kp : Int} {bl lv sf : List (ByteArray × Int)} {r : Int} (h : refuse k nm ot da kp bl lv sf r = 0) :
    goodS k nm ot da kp = true ∧ lacks k (lkp nm none lv).isSome = false ∧ taken k (lkp nm none lv).isSome (lkp ot none lv).isSome = false ∧ overB k nm da bl lv sf r = false := by
  unfold refuse at h
  cases h1 : goodS k nm ot da kp with
  | false => rw [h1] at h; simp at h
  | true =>
    cases h2 : lacks k (lkp nm none lv).isSome with
    | true => rw [h1, h2] at h; simp at h
    | false =>
      cases h3 : taken k (lkp nm none lv).isSome (lkp ot none lv).isSome with
      | true => rw [h1, h2, h3] at h; simp at h
      | false =>
        cases h4 : overB k nm da bl lv sf r with
        | true => rw [h1, h2, h3, h4] at h; simp at h
        | false => exact ⟨rfl, rfl, rfl, rfl⟩
theorem named_blob {k : Int} {nm : ByteArray} {bl lv sf : List (ByteArray × Int)} {r : Int} (hg : goodD bl lv sf r = true) (hn : named k = true) (hl : lacks k (lkp nm none lv).isSome = false) : lkp nm none lv = some (cbOf nm lv : Int) ∧ cbOf nm lv < bl.length ∧ anyK lv (cbOf nm lv) = true := by
  cases hv : lkp nm none lv with
  | none => rw [hv] at hl; simp [lacks, hn] at hl
  | some c =>
    obtain ⟨b, rfl, hb, ha⟩ := blob_of hg hv
    have e : cbOf nm lv = b := by simp [cbOf, hv]
    rw [e]; exact ⟨rfl, hb, ha⟩

theorem change_any (u1 u2 u3 : Value) (bl lv sf : List (ByteArray × Int)) (r : Int) (b base : Nat) (k : Int) (nm ot da : ByteArray) (kp : Int) (w : World) (hM : Made base w u1 u2 u3 bl lv sf) (hbase : base ≤ w.heap.size) (hbb : base ≤ b)
    (hg : goodD bl lv sf r = true) (hm : w.ownsMap Try.prog 9 (plainElem Try.prog 3) b lv.length (mapD lv)) (hnm : nm.size ≤ 1048576) (hot : ot.size ≤ 1048576) (hda : da.size ≤ 1048576) (h0 : refuse k nm ot da kp bl lv sf r = 0) :
    Calls Try.prog 55 #[.agg #[u1, u2, u3, .int .i64 r], .map (some b), .agg #[.int .i64 k, .string nm, .string ot, .string da, .int .i64 kp]] w fun e w' => (∃ x1 x2 x3, e = .returned (.agg #[x1, x2, x3, .int .i64 r]) ∧ Made base w' x1 x2 x3 (nB k nm da kp bl lv) (nL k nm ot bl lv sf) (nS k lv sf)) ∧ Below base w w' := by
  obtain ⟨z1, z2, z3, z4⟩ := refuse_zero h0
  rcases kinds k with rfl | rfl | rfl | rfl | rfl | rfl | rfl | rfl | ⟨k1, k2, k3, k4, k5, k6, k7, k8⟩
  · exact change_1 u1 u2 u3 bl lv sf r b base nm ot da kp w hM hbase hbb hg hm hnm hot hda
  · obtain ⟨hv, hc, _⟩ := named_blob hg rfl z2
    have := change_2 u1 u2 u3 bl lv sf r b base nm ot da kp w hM hbase hbb hg hm hnm hot hda _ hv hc
    rw [show nB 2 nm da kp bl lv = bl.set (cbOf nm lv) (bl[cbOf nm lv].1 ++ da, bl[cbOf nm lv].2) from by show bl.set (cbOf nm lv) ((bl.getD (cbOf nm lv) default).1 ++ da, (bl.getD (cbOf nm lv) default).2) = _; rw [getD_lt _ _ hc]]
    exact this
  · obtain ⟨hv, hc, _⟩ := named_blob hg rfl z2
    have := change_3 u1 u2 u3 bl lv sf r b base nm ot da kp w hM hbase hbb hg hm hnm hot hda _ hv hc
    rw [show nB 3 nm da kp bl lv = bl.set (cbOf nm lv) (bl[cbOf nm lv].1, bl[cbOf nm lv].1.size) from by show bl.set (cbOf nm lv) ((bl.getD (cbOf nm lv) default).1, (bl.getD (cbOf nm lv) default).1.size) = _; rw [getD_lt _ _ hc]]
    exact this
  · obtain ⟨hv, hc, _⟩ := named_blob hg rfl z2
    exact change_4 u1 u2 u3 bl lv sf r b base nm ot da kp w hM hbase hbb hg hm hnm hot hda _ hv hc
  · obtain ⟨hv, hc, _⟩ := named_blob hg rfl z2
    exact change_5 u1 u2 u3 bl lv sf r b base nm ot da kp w hM hbase hbb hg hm hnm hot hda _ hv hc
  · exact change_6 u1 u2 u3 bl lv sf r b base nm ot da kp w hM hbase hbb hg hm hnm hot hda
  · exact change_7 u1 u2 u3 bl lv sf r b base nm ot da kp w hM hbase hbb hg hm hnm hot hda
  · have hk : 0 ≤ kp ∧ kp ≤ 4000 := by
      simp only [goodS, kindOk, Bool.and_eq_true] at z1
      have := z1.2
      simp at this
      exact this
    exact change_8 u1 u2 u3 bl lv sf r b base nm ot da kp w hM hbase hbb hg hm hnm hot hda kp.toNat (by omega) (by omega)
  · simp [goodS, kindOk, k1, k2, k3, k4, k5, k6, k7, k8] at z1

/-- What DoDisk answers. -/
def doC (k : Int) (nm ot da : ByteArray) (kp : Int) (bl lv sf : List (ByteArray × Int)) (r : Int) : Int := if goodD bl lv sf r then refuse k nm ot da kp bl lv sf r else 1
def doB (k : Int) (nm ot da : ByteArray) (kp : Int) (bl lv sf : List (ByteArray × Int)) (r : Int) : List (ByteArray × Int) := if goodD bl lv sf r then (if refuse k nm ot da kp bl lv sf r = 0 then nB k nm da kp bl lv else bl) else []
def doL (k : Int) (nm ot da : ByteArray) (kp : Int) (bl lv sf : List (ByteArray × Int)) (r : Int) : List (ByteArray × Int) := if goodD bl lv sf r then (if refuse k nm ot da kp bl lv sf r = 0 then nL k nm ot bl lv sf else lv) else []
def doS (k : Int) (nm ot da : ByteArray) (kp : Int) (bl lv sf : List (ByteArray × Int)) (r : Int) : List (ByteArray × Int) := if goodD bl lv sf r then (if refuse k nm ot da kp bl lv sf r = 0 then nS k lv sf else sf) else []
def doR (bl lv sf : List (ByteArray × Int)) (r : Int) : Int := if goodD bl lv sf r then r else 0

theorem made_nil (base : Nat) (w : World) : Made base w (.slice none 0 0) (.slice none 0 0) (.slice none 0 0) [] [] [] :=
  ⟨World.ownsRow_nil _ _ _ _, World.ownsRow_nil _ _ _ _, World.ownsRow_nil _ _ _ _, fun b h => by simp [Value.ownBlock] at h, fun b h => by simp [Value.ownBlock] at h, fun b h => by simp [Value.ownBlock] at h⟩
theorem Made.chg {S : Nat → Prop} {base : Nat} {w w' : World} {x1 x2 x3 : Value} {bl lv sf : List (ByteArray × Int)} (h : Made base w x1 x2 x3 bl lv sf) (hc : Chg S w w') (hs : ∀ g, base ≤ g → ¬ S g) : Made base w' x1 x2 x3 bl lv sf :=
  ⟨hc.owns h.1 (fun g hg => hs g (owns_ge h.1 g hg)), hc.owns h.2.1 (fun g hg => hs g (owns_ge h.2.1 g hg)), hc.owns h.2.2.1 (fun g hg => hs g (owns_ge h.2.2.1 g hg)), h.2.2.2⟩
theorem Made.wk {base base' : Nat} {w : World} {x1 x2 x3 : Value} {bl lv sf : List (ByteArray × Int)} (h : Made base w x1 x2 x3 bl lv sf) (hb : base' ≤ base) : Made base' w x1 x2 x3 bl lv sf :=
  ⟨owns_wk h.1 hb, owns_wk h.2.1 hb, owns_wk h.2.2.1 hb, h.2.2.2⟩
theorem Made.below {base : Nat} {w w' : World} {x1 x2 x3 : Value} {bl lv sf : List (ByteArray × Int)} (h : Made base w x1 x2 x3 bl lv sf) (hb : Below w.heap.size w w') : Made base w' x1 x2 x3 bl lv sf :=
  ⟨owns_below h.1 hb, owns_below h.2.1 hb, owns_below h.2.2.1 hb, h.2.2.2⟩
theorem Made.shape {base : Nat} {w : World} {x1 x2 x3 : Value} {bl lv sf : List (ByteArray × Int)} (h : Made base w x1 x2 x3 bl lv sf) : ∃ a1 c1 a2 c2 a3 c3, x1 = .slice a1 bl.length c1 ∧ x2 = .slice a2 lv.length c2 ∧ x3 = .slice a3 sf.length c3 := by
  obtain ⟨a1, c1, h1⟩ := owns_shape h.1
  obtain ⟨a2, c2, h2⟩ := owns_shape h.2.1
  obtain ⟨a3, c3, h3⟩ := owns_shape h.2.2.1
  exact ⟨a1, c1, a2, c2, a3, c3, h1, h2, h3⟩
/-- The world with a struct of four cells stored. -/
def put4 (w : World) (b : Nat) (x1 x2 x3 x4 : Value) : World := (((w.setCell ⟨b, 0, none⟩ x1).setCell ⟨b, 1, none⟩ x2).setCell ⟨b, 2, none⟩ x3).setCell ⟨b, 3, none⟩ x4
theorem put4_chg (w : World) (b : Nat) (x1 x2 x3 x4 : Value) : Chg (· = b) w (put4 w b x1 x2 x3 x4) :=
  ((((Chg.refl (· = b) w).setCell (p := ⟨b, 0, none⟩) rfl _).setCell (p := ⟨b, 1, none⟩) rfl _).setCell (p := ⟨b, 2, none⟩) rfl _).setCell (p := ⟨b, 3, none⟩) rfl _
theorem put4_box {w : World} {b : Nat} {y1 y2 y3 y4 : Value} (h : Box w b [y1, y2, y3, y4]) (x1 x2 x3 x4 : Value) : Box (put4 w b x1 x2 x3 x4) b [x1, x2, x3, x4] :=
  (((h.set 0 x1 (by simp)).set 1 x2 (by simp)).set 2 x3 (by simp)).set 3 x4 (by simp)

theorem Box.belowAt {w w' : World} {b B : Nat} {vs : List Value} (h : Box w b vs) (hb : Below B w w') (hlt : b < B) : Box w' b vs :=
  ⟨Nat.lt_of_lt_of_le h.1 hb.size, fun j v hv => (hb.cell (p := ⟨b, j, none⟩) hlt).trans (h.2.1 j v hv), fun j => (hb.frozen (p := ⟨b, j, none⟩) hlt).trans (h.2.2 j)⟩
theorem small_of_good {bl lv sf : List (ByteArray × Int)} {r : Int} (h : goodD bl lv sf r = true) : (∀ i (hi : i < lv.length), lv[i].1.size ≤ 1048576) ∧ (∀ i (hi : i < lv.length), 0 ≤ lv[i].2 ∧ lv[i].2 ≤ 1048576) := by
  obtain ⟨g1, g2, g3, g4, g5, g6⟩ := (goodD_iff _ _ _ _).1 h
  have k3 := (okNs_iff _ _).1 g3
  refine ⟨fun i hi => ?_, fun i hi => ?_⟩
  · have := (k3.2.1 lv[i] (List.getElem_mem _)).1
    simp only [okN, Bool.and_eq_true, decide_eq_true_eq] at this; omega
  · have := (k3.2.1 lv[i] (List.getElem_mem _)).2; omega

set_option maxHeartbeats 2000000 in
theorem implDo_any (v1 v2 v3 : Value) (bl lv sf : List (ByteArray × Int)) (r : Int) (k : Int) (nm ot da : ByteArray) (kp : Int) (w : World) (h1 : PX w v1 bl) (h2 : PX w v2 lv) (h3 : PX w v3 sf)
    (hn1 : tot bl + bl.length ≤ 1048576) (hn2 : tot lv + lv.length ≤ 1048576) (hn3 : tot sf + sf.length ≤ 1048576) (hs1 : ∀ i (h : i < bl.length), bl[i].1.size ≤ 1048576) (hs2 : ∀ i (h : i < lv.length), lv[i].1.size ≤ 1048576) (hs3 : ∀ i (h : i < sf.length), sf[i].1.size ≤ 1048576)
    (hnm : nm.size ≤ 1048576) (hot : ot.size ≤ 1048576) (hda : da.size ≤ 1048576) :
    Calls Try.prog 11 #[.agg #[v1, v2, v3, .int .i64 r], .agg #[.int .i64 k, .string nm, .string ot, .string da, .int .i64 kp]] w fun e w' => (∃ x1 x2 x3, e = .returned (.tuple #[.agg #[x1, x2, x3, .int .i64 (doR bl lv sf r)], .int .i64 (doC k nm ot da kp bl lv sf r)]) ∧
      Made w.heap.size w' x1 x2 x3 (doB k nm ot da kp bl lv sf r) (doL k nm ot da kp bl lv sf r) (doS k nm ot da kp bl lv sf r)) ∧ Below w.heap.size w w' := by
  have hs1' := h1.2
  obtain ⟨a1, c1, rfl⟩ : ∃ a c, v1 = .slice a bl.length c := by rcases h1.2 with ⟨c, h⟩ | ⟨b, off, c, h⟩ <;> exact ⟨_, _, h⟩
  obtain ⟨a2, c2, rfl⟩ : ∃ a c, v2 = .slice a lv.length c := by rcases h2.2 with ⟨c, h⟩ | ⟨b, off, c, h⟩ <;> exact ⟨_, _, h⟩
  obtain ⟨a3, c3, rfl⟩ : ∃ a c, v3 = .slice a sf.length c := by rcases h3.2 with ⟨c, h⟩ | ⟨b, off, c, h⟩ <;> exact ⟨_, _, h⟩
  obtain ⟨W0, hW0⟩ : ∃ W0, W0 = ((w.alloc (.cells #[.slice a1 bl.length c1, .slice a2 lv.length c2, .slice a3 sf.length c3, .int .i64 r] 26)).alloc (.cells #[.int .i64 k, .string nm, .string ot, .string da, .int .i64 kp] 28)).alloc (.cells #[.slice none 0 0, .slice none 0 0, .slice none 0 0, .int .i64 0] 26) := ⟨_, rfl⟩
  have hB0 : Below w.heap.size w W0 := by rw [hW0]; exact below3 _ _ _ _
  have X0 : Box W0 w.heap.size [.slice a1 bl.length c1, .slice a2 lv.length c2, .slice a3 sf.length c3, .int .i64 r] := by rw [hW0]; exact ((Box.new w _ _).alloc _).alloc _
  have Y0 : Box W0 (w.heap.size + 1) [.int .i64 k, .string nm, .string ot, .string da, .int .i64 kp] := by
    rw [hW0]
    have := (Box.new (w.alloc (.cells #[.slice a1 bl.length c1, .slice a2 lv.length c2, .slice a3 sf.length c3, .int .i64 r] 26)) #[.int .i64 k, .string nm, .string ot, .string da, .int .i64 kp] 28).alloc (.cells #[.slice none 0 0, .slice none 0 0, .slice none 0 0, .int .i64 0] 26)
    simpa using this
  have Z0 : Box W0 (w.heap.size + 1 + 1) [.slice none 0 0, .slice none 0 0, .slice none 0 0, .int .i64 0] := by
    rw [hW0]
    have := Box.new ((w.alloc (.cells #[.slice a1 bl.length c1, .slice a2 lv.length c2, .slice a3 sf.length c3, .int .i64 r] 26)).alloc (.cells #[.int .i64 k, .string nm, .string ot, .string da, .int .i64 kp] 28)) #[.slice none 0 0, .slice none 0 0, .slice none 0 0, .int .i64 0] 26
    simpa using this
  have hzW : w.heap.size + 2 < W0.heap.size := by rw [hW0]; simp
  have KG := implGood_any _ _ _ bl lv sf r W0 (h1.1.below hB0) (h2.1.below hB0) (h3.1.below hB0) hn1 hn2 hn3 hs1 hs2 hs3
  obtain ⟨_, x0, x1, x2, x3⟩ := X0.c4
  cases hg : goodD bl lv sf r with
  | false =>
    rw [hg] at KG
    rw [show doR bl lv sf r = 0 from by simp [doR, hg], show doC k nm ot da kp bl lv sf r = 1 from by simp [doC, hg], show doB k nm ot da kp bl lv sf r = [] from by simp [doB, hg], show doL k nm ot da kp bl lv sf r = [] from by simp [doL, hg], show doS k nm ot da kp bl lv sf r = [] from by simp [doS, hg]]
    clear h1 h2 h3
    go_enter Try.func11, Try.ntmps11
    go_wp2_with fail
    rw [← hW0]
    clear hW0
    refine KG.mono ?_
    rintro e w1 ⟨rfl, hb1⟩
    have Z1 := Z0.below hb1
    have hB1 := below_then hB0 hb1
    obtain ⟨_, z0, z1, z2, z3⟩ := Z1.c4
    have e0 := Z1.2.2 0
    have e1 := Z1.2.2 1
    have e2 := Z1.2.2 2
    have e3 := Z1.2.2 3
    have hE := put4_box Z1 (.slice none 0 0) (.slice none 0 0) (.slice none 0 0) (.int .i64 0)
    have hC := put4_chg w1 (w.heap.size + 1 + 1) (.slice none 0 0) (.slice none 0 0) (.slice none 0 0) (.int .i64 0)
    have hz1 := hB1.size
    have hB2 := hB1.trans (hC.below hz1 (fun b h => by omega))
    clear hb1 X0 Y0 Z0 x0 x1 x2 x3
    go_wp2
    change bodyPost _ _ _ _ _ (put4 w1 (w.heap.size + 1 + 1) (.slice none 0 0) (.slice none 0 0) (.slice none 0 0) (.int .i64 0))
    generalize put4 w1 (w.heap.size + 1 + 1) (.slice none 0 0) (.slice none 0 0) (.slice none 0 0) (.int .i64 0) = W at *
    obtain ⟨_, t0, t1, t2, t3⟩ := hE.c4
    exact bodyPost_ret (v := .tuple #[.agg #[.slice none 0 0, .slice none 0 0, .slice none 0 0, .int .i64 0], .int .i64 1]) (by simp [results, Try.results11, go_sem, t0, t1, t2, t3]) rfl ⟨⟨_, _, _, rfl, made_nil _ _⟩, hB2⟩
  | true =>
    rw [hg] at KG
    obtain ⟨s2, r2⟩ := small_of_good hg
    rw [show doR bl lv sf r = r from by simp [doR, hg], show doC k nm ot da kp bl lv sf r = refuse k nm ot da kp bl lv sf r from by simp [doC, hg]]
    go_enter Try.func11, Try.ntmps11
    go_wp2_with fail
    rw [← hW0]
    clear hW0
    refine KG.mono ?_
    rintro e w1 ⟨rfl, hb1⟩
    have X1 := X0.below hb1
    have Y1 := Y0.below hb1
    have Z1 := Z0.below hb1
    have hB1 := below_then hB0 hb1
    have zz1 := hb1.size
    clear hb1 KG X0 Y0 Z0 x0 x1 x2 x3 hB0
    obtain ⟨_, x0, x1, x2, x3⟩ := X1.c4
    go_wp2_with fail
    refine (meaningOf_any _ lv w1 (h2.1.below hB1) (by omega) s2 r2).mono ?_
    rintro e w2 ⟨rfl, hm2, hb2⟩
    have X2 := X1.below hb2
    have Y2 := Y1.below hb2
    have Z2 := Z1.below hb2
    have hB2 := below_then hB1 hb2
    have zz2 := hb2.size
    have bm : w1.heap.size < w2.heap.size := hm2.lt
    clear hb2 X1 Y1 Z1 hB1 x0 x1 x2 x3
    obtain ⟨_, x0, x1, x2, x3⟩ := X2.c4
    obtain ⟨_, y0, y1, y2, y3, y4⟩ := Y2.c5
    go_wp2_with fail
    refine (refusalOf_any _ _ _ bl lv sf r w1.heap.size k nm ot da kp w2 (h1.1.below hB2) (h2.1.below hB2) (h3.1.below hB2) (by omega) (by omega) (by omega) hg hm2 hnm hot hda).mono ?_
    rintro e w3 ⟨rfl, hb3⟩
    have X3 := X2.below hb3
    have Y3 := Y2.below hb3
    have Z3 := Z2.below hb3
    have hB3 := below_then hB2 hb3
    have zz3 := hb3.size
    have hm3 := map_below hm2 hb3
    clear hb3 X2 Y2 Z2 hB2 hm2 x0 x1 x2 x3 y0 y1 y2 y3 y4
    obtain ⟨_, x0, x1, x2, x3⟩ := X3.c4
    obtain ⟨_, y0, y1, y2, y3, y4⟩ := Y3.c5
    have zz23 : w1.heap.size ≤ w3.heap.size := by omega
    have ne1 : ¬ (w.heap.size + 1 + 1 = w.heap.size) := by omega
    have ne2 : ¬ (w.heap.size = w.heap.size + 1 + 1) := by omega
    by_cases h0 : refuse k nm ot da kp bl lv sf r = 0
    · have HB : Hid (doB k nm ot da kp bl lv sf r = nB k nm da kp bl lv ∧ doL k nm ot da kp bl lv sf r = nL k nm ot bl lv sf ∧ doS k nm ot da kp bl lv sf r = nS k lv sf) := ⟨by simp [doB, hg, h0], by simp [doL, hg, h0], by simp [doS, hg, h0]⟩
      have H0 : Hid (refuse k nm ot da kp bl lv sf r = 0) := h0
      rw [h0]
      clear h0
      go_wp2_with fail
      go_region_held3 (fun w' => (w'.cell? ⟨w.heap.size, 0, none⟩ = some (.slice a1 bl.length c1) ∧ w'.cell? ⟨w.heap.size, 1, none⟩ = some (.slice a2 lv.length c2) ∧ w'.cell? ⟨w.heap.size, 2, none⟩ = some (.slice a3 sf.length c3) ∧ w'.cell? ⟨w.heap.size, 3, none⟩ = some (.int .i64 r)) ∧ w'.cell? ⟨w.heap.size + 1, 0, none⟩ = some (.int .i64 k) ∧ w'.cell? ⟨w.heap.size + 1, 1, none⟩ = some (.string nm) ∧ w'.cell? ⟨w.heap.size + 1, 2, none⟩ = some (.string ot) ∧ w'.cell? ⟨w.heap.size + 1, 3, none⟩ = some (.string da) ∧ w'.cell? ⟨w.heap.size + 1, 4, none⟩ = some (.int .i64 kp)) (go_keep)
        (first
          | (go_at_call 54; refine (copyDisk_any _ _ _ bl lv sf r _ (h1.below hB3.drew) (h2.below hB3.drew) (h3.below hB3.drew) (by omega) (by omega) (by omega)).mono ?_; rintro e w4 ⟨⟨u1, u2, u3, rfl, hM4'⟩, hb4'⟩; have hb4 := below_undrew hb4'; have hM4 : Made w1.heap.size w4 u1 u2 u3 bl lv sf := Made.wk hM4' zz23; have hm4 := map_below hm3 hb4; have zz4 := hb4.size; obtain ⟨b1, e1, b2, e2, b3, e3, rfl, rfl, rfl⟩ := hM4.shape; obtain ⟨_, x0, x1, x2, x3⟩ := (X3.below hb4).c4; obtain ⟨_, y0, y1, y2, y3, y4⟩ := (Y3.below hb4).c5)
          | (go_at_call 55; refine (change_any _ _ _ bl lv sf r w1.heap.size w1.heap.size k nm ot da kp w4 hM4 (by omega) (Nat.le_refl _) hg hm4 hnm hot hda H0.out).mono ?_; rintro e w5 ⟨⟨x1', x2', x3', rfl, hM5⟩, hb5⟩; obtain ⟨b4, e4, b5, e5, b6, e6, rfl, rfl, rfl⟩ := hM5.shape; obtain ⟨_, x0, x1, x2, x3⟩ := ((X3.below hb4).belowAt hb5 (by omega)).c4; obtain ⟨_, y0, y1, y2, y3, y4⟩ := ((Y3.below hb4).belowAt hb5 (by omega)).c5; have Z5 := (Z3.below hb4).belowAt hb5 (by omega); obtain ⟨_, z0, z1, z2, z3⟩ := Z5.c4; have q0 := Z5.2.2 0; have q1 := Z5.2.2 1; have q2 := Z5.2.2 2; have q3 := Z5.2.2 3))
      have hE := put4_box Z5 (.slice b4 (nB k nm da kp bl lv).length e4) (.slice b5 (nL k nm ot bl lv sf).length e5) (.slice b6 (nS k lv sf).length e6) (.int .i64 r)
      have hC := put4_chg w5 (w.heap.size + 1 + 1) (.slice b4 (nB k nm da kp bl lv).length e4) (.slice b5 (nL k nm ot bl lv sf).length e5) (.slice b6 (nS k lv sf).length e6) (.int .i64 r)
      have hzB := hB3.size
      have hB5 : Below w.heap.size w w5 := (below_then hB3 hb4).trans (hb5.mono (by omega))
      have hz5 := hb5.size
      have hB6 := hB5.trans (hC.below (by omega) (fun b h => by omega))
      have hM6 := hM5.chg hC (fun g h1 h2 => by omega)
      change Exit.then _ _ _ _ (put4 w5 (w.heap.size + 1 + 1) (.slice b4 (nB k nm da kp bl lv).length e4) (.slice b5 (nL k nm ot bl lv sf).length e5) (.slice b6 (nS k lv sf).length e6) (.int .i64 r))
      generalize put4 w5 (w.heap.size + 1 + 1) (.slice b4 (nB k nm da kp bl lv).length e4) (.slice b5 (nL k nm ot bl lv sf).length e5) (.slice b6 (nS k lv sf).length e6) (.int .i64 r) = W at *
      obtain ⟨_, t0, t1, t2, t3⟩ := hE.c4
      clear x0 x1 x2 x3 y0 y1 y2 y3 y4 z0 z1 z2 z3 q0 q1 q2 q3 hM4' hM4 hM5 hm3 hm4 X3 Y3 Z3 Z5 h1 h2 h3
      go_wp2
      exact bodyPost_ret (v := .tuple #[.agg #[.slice b4 (nB k nm da kp bl lv).length e4, .slice b5 (nL k nm ot bl lv sf).length e5, .slice b6 (nS k lv sf).length e6, .int .i64 r], .int .i64 0]) (by simp [results, Try.results11, go_sem, t0, t1, t2, t3]) rfl ⟨⟨_, _, _, by rw [H0.out], by rw [HB.out.1, HB.out.2.1, HB.out.2.2]; exact hM6.wk (by omega)⟩, hB6⟩
    · have HB : Hid (doB k nm ot da kp bl lv sf r = bl ∧ doL k nm ot da kp bl lv sf r = lv ∧ doS k nm ot da kp bl lv sf r = sf) := ⟨by simp [doB, hg, h0], by simp [doL, hg, h0], by simp [doS, hg, h0]⟩
      have hne : ((refuse k nm ot da kp bl lv sf r) == 0) = false := by simp [h0]
      go_wp2_with fail
      refine (copyDisk_any _ _ _ bl lv sf r _ (h1.below hB3) (h2.below hB3) (h3.below hB3) (by omega) (by omega) (by omega)).mono ?_
      rintro e w4 ⟨⟨u1, u2, u3, rfl, hM4'⟩, hb4⟩
      have hM4 : Made w3.heap.size w4 u1 u2 u3 bl lv sf := hM4'
      obtain ⟨b1, e1, b2, e2, b3, e3, rfl, rfl, rfl⟩ := hM4.shape
      have Z4 := Z3.below hb4
      obtain ⟨_, z0, z1, z2, z3⟩ := Z4.c4
      have q0 := Z4.2.2 0
      have q1 := Z4.2.2 1
      have q2 := Z4.2.2 2
      have q3 := Z4.2.2 3
      have hE := put4_box Z4 (.slice b1 bl.length e1) (.slice b2 lv.length e2) (.slice b3 sf.length e3) (.int .i64 r)
      have hC := put4_chg w4 (w.heap.size + 1 + 1) (.slice b1 bl.length e1) (.slice b2 lv.length e2) (.slice b3 sf.length e3) (.int .i64 r)
      have hB4 := below_then hB3 hb4
      have hz4 := hB4.size
      have hB6 := hB4.trans (hC.below (by omega) (fun b h => by omega))
      have hM6 := hM4.chg hC (fun g h1 h2 => by omega)
      clear x0 x1 x2 x3 y0 y1 y2 y3 y4 hM4' hM4 hm3 X3 Y3 Z3 h1 h2 h3
      go_wp2
      change bodyPost _ _ _ _ _ (put4 w4 (w.heap.size + 1 + 1) (.slice b1 bl.length e1) (.slice b2 lv.length e2) (.slice b3 sf.length e3) (.int .i64 r))
      generalize put4 w4 (w.heap.size + 1 + 1) (.slice b1 bl.length e1) (.slice b2 lv.length e2) (.slice b3 sf.length e3) (.int .i64 r) = W at *
      obtain ⟨_, t0, t1, t2, t3⟩ := hE.c4
      exact bodyPost_ret (v := .tuple #[.agg #[.slice b1 bl.length e1, .slice b2 lv.length e2, .slice b3 sf.length e3, .int .i64 r], .int .i64 (refuse k nm ot da kp bl lv sf r)]) (by simp [results, Try.results11, go_sem, t0, t1, t2, t3]) rfl ⟨⟨_, _, _, rfl, by rw [HB.out.1, HB.out.2.1, HB.out.2.2]; exact hM6.wk (by omega)⟩, hB6⟩
end Go.Proofs.Ytbgemebpfcbloaa
