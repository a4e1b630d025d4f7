/-
  Both SessionOf, both CellOf.
-/
import Derived.Test.YthlllegedfjhlaaF1
import Derived.Test.YthlllegedfjhlaaF2
import Derived.Test.YthlllegedfjhlaaGI
import Derived.Test.YthlllegedfjhlaaGS
namespace Go.Proofs.Ythlllegedfjhlaa
open Go.RowKit
set_option linter.unusedVariables false
set_option maxRecDepth 100000

/-- What SessionOf answers. -/
def soB (C : List Pr) (S : List Ss) (id : Int) : Bool := gB C S && hsS S id
def soR (C : List Pr) (S : List Ss) (id : Int) : Ss := if soB C S id then S.getD (plc (fS id) S) default else Ss.zero
noncomputable def coB (C : List Pr) (S : List Ss) (key : ByteArray) : Bool := gB C S && hsC C key
noncomputable def coR (C : List Pr) (S : List Ss) (key : ByteArray) : ByteArray := if coB C S key then (C.getD (plc (fC key) C) default).v else ⟨#[]⟩
theorem gB_parts {C : List Pr} {S : List Ss} (h : gB C S = true) : gcB C = true ∧ C.length ≤ 40 ∧ gsB S = true ∧ S.length ≤ 12 := by
  unfold gB at h
  simp only [Bool.and_eq_true, decide_eq_true_eq] at h
  exact ⟨h.1.1, h.1.2, h.2.1, h.2.2⟩

set_option maxHeartbeats 8000000 in
theorem implSO_any (a c : Value) (C : List Pr) (S : List Ss) (id : Int) (w : World) (h : KR w a c C S) (hn : C.length ≤ 1048576) (hm : S.length ≤ 1048576) (hp : ∀ i (h : i < C.length), C[i].k.size ≤ 1048576 ∧ C[i].v.size ≤ 1048576) (hs : ∀ i (h : i < S.length), S[i].v.size ≤ 1048576) :
    Calls Try.prog 12 #[.agg #[a, c], .int .i64 id] w fun e w' => e = .returned (.tuple #[.agg #[.int .i64 (soR C S id).n, .int .i64 (soR C S id).d, .int .i64 (soR C S id).c, .string (soR C S id).v], .bool (soB C S id)]) ∧ Below w.heap.size w w' := by
  have KH := fun W' (hb : Below w.heap.size w W') => h.below hb
  have KG := fun W' (hb : Below w.heap.size w W') => implGood_any a c C S W' (h.below hb) hn hm hp hs
  have KF := fun (g : gB C S = true) W' (hb : Below w.heap.size w W') => findSession_any a c C S id W' (h.below hb) (by have := gB_parts g; omega) (gsB_srt (gB_parts g).2.2.1)
  obtain ⟨⟨xa, xb, rfl, hcC⟩, ya, yb, rfl, hcS⟩ := h
  have X := (Box.new w #[.slice xa C.length xb, .slice ya S.length yb] 31).alloc (.cells #[.int .i64 0, .int .i64 0, .int .i64 0, .string ⟨#[]⟩] 38)
  have Y := Box.new (w.alloc (.cells #[.slice xa C.length xb, .slice ya S.length yb] 31)) #[.int .i64 0, .int .i64 0, .int .i64 0, .string ⟨#[]⟩] 38
  have B0 := below2 w (.cells #[.slice xa C.length xb, .slice ya S.length yb] 31) (.cells #[.int .i64 0, .int .i64 0, .int .i64 0, .string ⟨#[]⟩] 38)
  simp only [World.size_alloc] at Y
  clear hcC KH
  have HBD : Hid (soB C S id = (gB C S && hsS S id)) := rfl
  have HAN : ∀ hl : plc (fS id) S < S.length, soB C S id = true → soR C S id = S[plc (fS id) S] := fun hl e => by unfold soR; rw [if_pos e, getS S _ hl]
  have HAZ : soB C S id = false → soR C S id = Ss.zero := fun e => by unfold soR; rw [if_neg (by rw [e]; simp)]
  have HLT : hsS S id = true → plc (fS id) S < S.length := hsS_lt
  generalize plc (fS id) S = p at *
  generalize hsS S id = hh at *
  cases hg : gB C S with
  | false =>
    have HB : Hid (soB C S id = false) := by show _ = _; rw [HBD.out, hg]; rfl
    rw [hg] at KG
    clear hg KF HLT hcS hp hs
    obtain ⟨hx, x0, x1⟩ := X.c2
    go_enter Try.func12, Try.ntmps12
    go_wp2_with fail
    refine (KG _ B0).mono ?_
    rintro e w1 ⟨rfl, hb1⟩
    clear KG hx x0 x1
    replace B0 := below_then B0 hb1
    replace X := X.below hb1
    replace Y := Y.below hb1
    clear hb1
    have HQ : Hid (soR C S id = Ss.zero) := HAZ HB.out
    obtain ⟨hy, y0, y1, y2, y3⟩ := Y.c4
    have yf := Y.2.2
    have B3 := (((B0.setCell (p := ⟨w.heap.size + 1, 0, none⟩) (by simp <;> omega) (.int .i64 0)).setCell (p := ⟨w.heap.size + 1, 1, none⟩) (by simp <;> omega) (.int .i64 0)).setCell (p := ⟨w.heap.size + 1, 2, none⟩) (by simp <;> omega) (.int .i64 0)).setCell (p := ⟨w.heap.size + 1, 3, none⟩) (by simp <;> omega) (.string ⟨#[]⟩)
    clear X Y B0 HAN HAZ HBD
    go_wp2
    refine bodyPost_ret (v := .tuple #[.agg #[.int .i64 0, .int .i64 0, .int .i64 0, .string ⟨#[]⟩], .bool false]) ?_ rfl ⟨by rw [HQ.out, HB.out]; rfl, B3⟩
    simp [results, Try.results12, go_sem, y0, y1, y2, y3]
  | true =>
    have KF2 := KF hg
    rw [hg] at KG
    have HBE : Hid (soB C S id = hh) := by show _ = _; rw [HBD.out, hg]; rfl
    clear hg KF hp hs
    obtain ⟨hx, x0, x1⟩ := X.c2
    go_enter Try.func12, Try.ntmps12
    go_wp2_with fail
    refine (KG _ B0).mono ?_
    rintro e w1 ⟨rfl, hb1⟩
    clear KG hx x0 x1
    replace B0 := below_then B0 hb1
    replace X := X.below hb1
    replace Y := Y.below hb1
    clear hb1
    obtain ⟨hx, x0, x1⟩ := X.c2
    go_wp2_with fail
    refine (KF2 _ B0).mono ?_
    rintro e w2 ⟨rfl, hb2⟩
    clear KF2 hx x0 x1
    replace B0 := below_then B0 hb2
    replace X := X.below hb2
    replace Y := Y.below hb2
    clear hb2
    cases hh with
    | false =>
      have HB : Hid (soB C S id = false) := HBE.out
      clear HBE HLT hcS
      have HQ : Hid (soR C S id = Ss.zero) := HAZ HB.out
      obtain ⟨hy, y0, y1, y2, y3⟩ := Y.c4
      have yf := Y.2.2
      have B3 := (((B0.setCell (p := ⟨w.heap.size + 1, 0, none⟩) (by simp <;> omega) (.int .i64 0)).setCell (p := ⟨w.heap.size + 1, 1, none⟩) (by simp <;> omega) (.int .i64 0)).setCell (p := ⟨w.heap.size + 1, 2, none⟩) (by simp <;> omega) (.int .i64 0)).setCell (p := ⟨w.heap.size + 1, 3, none⟩) (by simp <;> omega) (.string ⟨#[]⟩)
      clear X Y B0 HAN HAZ HBD
      go_wp2
      refine bodyPost_ret (v := .tuple #[.agg #[.int .i64 0, .int .i64 0, .int .i64 0, .string ⟨#[]⟩], .bool false]) ?_ rfl ⟨by rw [HQ.out, HB.out]; rfl, B3⟩
      simp [results, Try.results12, go_sem, y0, y1, y2, y3]
    | true =>
      have HB : Hid (soB C S id = true) := HBE.out
      have hll := HLT rfl
      clear HBE HLT
      obtain ⟨b, off, rfl, hbl, hcell⟩ := hcS (by intro e; simp [e] at hll)
      obtain ⟨s, hse⟩ : ∃ s, s = S[p] := ⟨_, rfl⟩
      have HQ : Hid (soR C S id = s) := by show _ = _; rw [hse]; exact HAN hll HB.out
      have hbb : Below w.heap.size w _ := B0
      have q0 := (B0.cell (p := ⟨b, off + p * 4, none⟩) hbl).trans (hcell p hll).1
      have q1 := (B0.cell (p := ⟨b, off + p * 4 + 1, none⟩) hbl).trans (hcell p hll).2.1
      have q2 := (B0.cell (p := ⟨b, off + p * 4 + 2, none⟩) hbl).trans (hcell p hll).2.2.1
      have q3 := (B0.cell (p := ⟨b, off + p * 4 + 3, none⟩) hbl).trans (hcell p hll).2.2.2
      rw [← hse] at q0 q1 q2 q3
      obtain ⟨hx, x0, x1⟩ := X.c2
      obtain ⟨hy, y0, y1, y2, y3⟩ := Y.c4
      have yf := Y.2.2
      have B3 := (((B0.setCell (p := ⟨w.heap.size + 1, 0, none⟩) (by simp <;> omega) (.int .i64 s.n)).setCell (p := ⟨w.heap.size + 1, 1, none⟩) (by simp <;> omega) (.int .i64 s.d)).setCell (p := ⟨w.heap.size + 1, 2, none⟩) (by simp <;> omega) (.int .i64 s.c)).setCell (p := ⟨w.heap.size + 1, 3, none⟩) (by simp <;> omega) (.string s.v)
      clear hcell hse HAN HAZ HBD X Y hbb B0 hcS
      obtain ⟨sn, sd, sc, sv⟩ := s
      dsimp only at *
      go_wp2
      refine bodyPost_ret (v := .tuple #[.agg #[.int .i64 sn, .int .i64 sd, .int .i64 sc, .string sv], .bool true]) ?_ rfl ⟨by rw [HQ.out, HB.out], B3⟩
      simp [results, Try.results12, go_sem, y0, y1, y2, y3]
set_option maxHeartbeats 8000000 in
theorem specSO_any (a c : Value) (C : List Pr) (S : List Ss) (id : Int) (w : World) (h : KR w a c C S) (hn : C.length ≤ 1048576) (hm : S.length ≤ 1048576) (hp : ∀ i (h : i < C.length), C[i].k.size ≤ 1048576 ∧ C[i].v.size ≤ 1048576) (hs : ∀ i (h : i < S.length), S[i].v.size ≤ 1048576) :
    Calls Try.prog 11 #[.agg #[a, c], .int .i64 id] w fun e w' => e = .returned (.tuple #[.agg #[.int .i64 (soR C S id).n, .int .i64 (soR C S id).d, .int .i64 (soR C S id).c, .string (soR C S id).v], .bool (soB C S id)]) ∧ Below w.heap.size w w' := by
  have KH := fun W' (hb : Below w.heap.size w W') => h.below hb
  have KG := fun W' (hb : Below w.heap.size w W') => specGood_any a c C S W' (h.below hb) hn hm hp hs
  have KF := fun W' (hb : Below w.heap.size w W') => l14Session_any c S id W' (h.below hb).2 hm
  obtain ⟨⟨xa, xb, rfl, hcC⟩, ya, yb, rfl, hcS⟩ := h
  have X := (Box.new w #[.slice xa C.length xb, .slice ya S.length yb] 31).alloc (.cells #[.int .i64 0, .int .i64 0, .int .i64 0, .string ⟨#[]⟩] 38)
  have Y := Box.new (w.alloc (.cells #[.slice xa C.length xb, .slice ya S.length yb] 31)) #[.int .i64 0, .int .i64 0, .int .i64 0, .string ⟨#[]⟩] 38
  have B0 := below2 w (.cells #[.slice xa C.length xb, .slice ya S.length yb] 31) (.cells #[.int .i64 0, .int .i64 0, .int .i64 0, .string ⟨#[]⟩] 38)
  simp only [World.size_alloc] at Y
  clear hcC KH
  have HBD : Hid (soB C S id = (gB C S && hsS S id)) := rfl
  have HAN : ∀ hl : plc (fS id) S < S.length, soB C S id = true → soR C S id = S[plc (fS id) S] := fun hl e => by unfold soR; rw [if_pos e, getS S _ hl]
  have HAZ : soB C S id = false → soR C S id = Ss.zero := fun e => by unfold soR; rw [if_neg (by rw [e]; simp)]
  have HLT : hsS S id = true → plc (fS id) S < S.length := hsS_lt
  generalize plc (fS id) S = p at *
  generalize hsS S id = hh at *
  obtain ⟨hx, x0, x1⟩ := X.c2
  clear hp hs
  go_enter Try.func11, Try.ntmps11
  go_wp2_with fail
  refine (KF _ B0).mono ?_
  rintro e w1 ⟨rfl, hb1⟩
  clear KF hx x0 x1
  replace B0 := below_then B0 hb1
  replace X := X.below hb1
  replace Y := Y.below hb1
  clear hb1
  obtain ⟨hx, x0, x1⟩ := X.c2
  go_wp2_with fail
  refine (KG _ B0).mono ?_
  rintro e w2 ⟨rfl, hb2⟩
  clear KG hx x0 x1
  replace B0 := below_then B0 hb2
  replace X := X.below hb2
  replace Y := Y.below hb2
  clear hb2
  cases hg : gB C S with
  | false =>
    have HB : Hid (soB C S id = false) := by show _ = _; rw [HBD.out, hg]; rfl
    clear HLT hg hcS
    have HQ : Hid (soR C S id = Ss.zero) := HAZ HB.out
    obtain ⟨hy, y0, y1, y2, y3⟩ := Y.c4
    have yf := Y.2.2
    have B3 := (((B0.setCell (p := ⟨w.heap.size + 1, 0, none⟩) (by simp <;> omega) (.int .i64 0)).setCell (p := ⟨w.heap.size + 1, 1, none⟩) (by simp <;> omega) (.int .i64 0)).setCell (p := ⟨w.heap.size + 1, 2, none⟩) (by simp <;> omega) (.int .i64 0)).setCell (p := ⟨w.heap.size + 1, 3, none⟩) (by simp <;> omega) (.string ⟨#[]⟩)
    clear X Y B0 HAN HAZ HBD
    go_wp2
    refine bodyPost_ret (v := .tuple #[.agg #[.int .i64 0, .int .i64 0, .int .i64 0, .string ⟨#[]⟩], .bool false]) ?_ rfl ⟨by rw [HQ.out, HB.out]; rfl, B3⟩
    simp [results, Try.results11, go_sem, y0, y1, y2, y3]
  | true =>
    cases hh with
    | false =>
      have HB : Hid (soB C S id = false) := by show _ = _; rw [HBD.out, hg]; rfl
      clear HLT hg hcS
      have HQ : Hid (soR C S id = Ss.zero) := HAZ HB.out
      obtain ⟨hy, y0, y1, y2, y3⟩ := Y.c4
      have yf := Y.2.2
      have B3 := (((B0.setCell (p := ⟨w.heap.size + 1, 0, none⟩) (by simp <;> omega) (.int .i64 0)).setCell (p := ⟨w.heap.size + 1, 1, none⟩) (by simp <;> omega) (.int .i64 0)).setCell (p := ⟨w.heap.size + 1, 2, none⟩) (by simp <;> omega) (.int .i64 0)).setCell (p := ⟨w.heap.size + 1, 3, none⟩) (by simp <;> omega) (.string ⟨#[]⟩)
      clear X Y B0 HAN HAZ HBD
      go_wp2
      refine bodyPost_ret (v := .tuple #[.agg #[.int .i64 0, .int .i64 0, .int .i64 0, .string ⟨#[]⟩], .bool false]) ?_ rfl ⟨by rw [HQ.out, HB.out]; rfl, B3⟩
      simp [results, Try.results11, go_sem, y0, y1, y2, y3]
    | true =>
      have HB : Hid (soB C S id = true) := by show _ = _; rw [HBD.out, hg]; rfl
      have hll := HLT rfl
      clear HLT hg
      obtain ⟨b, off, rfl, hbl, hcell⟩ := hcS (by intro e; simp [e] at hll)
      obtain ⟨s, hse⟩ : ∃ s, s = S[p] := ⟨_, rfl⟩
      have HQ : Hid (soR C S id = s) := by show _ = _; rw [hse]; exact HAN hll HB.out
      have hbb : Below w.heap.size w _ := B0
      have q0 := (B0.cell (p := ⟨b, off + p * 4, none⟩) hbl).trans (hcell p hll).1
      have q1 := (B0.cell (p := ⟨b, off + p * 4 + 1, none⟩) hbl).trans (hcell p hll).2.1
      have q2 := (B0.cell (p := ⟨b, off + p * 4 + 2, none⟩) hbl).trans (hcell p hll).2.2.1
      have q3 := (B0.cell (p := ⟨b, off + p * 4 + 3, none⟩) hbl).trans (hcell p hll).2.2.2
      rw [← hse] at q0 q1 q2 q3
      obtain ⟨hx, x0, x1⟩ := X.c2
      obtain ⟨hy, y0, y1, y2, y3⟩ := Y.c4
      have yf := Y.2.2
      have B3 := (((B0.setCell (p := ⟨w.heap.size + 1, 0, none⟩) (by simp <;> omega) (.int .i64 s.n)).setCell (p := ⟨w.heap.size + 1, 1, none⟩) (by simp <;> omega) (.int .i64 s.d)).setCell (p := ⟨w.heap.size + 1, 2, none⟩) (by simp <;> omega) (.int .i64 s.c)).setCell (p := ⟨w.heap.size + 1, 3, none⟩) (by simp <;> omega) (.string s.v)
      clear hcell hse HAN HAZ HBD X Y hbb B0 hcS
      obtain ⟨sn, sd, sc, sv⟩ := s
      dsimp only at *
      go_wp2
      refine bodyPost_ret (v := .tuple #[.agg #[.int .i64 sn, .int .i64 sd, .int .i64 sc, .string sv], .bool true]) ?_ rfl ⟨by rw [HQ.out, HB.out], B3⟩
      simp [results, Try.results11, go_sem, y0, y1, y2, y3]
set_option maxHeartbeats 8000000 in
theorem implCO_any (a c : Value) (C : List Pr) (S : List Ss) (key : ByteArray) (w : World) (h : KR w a c C S) (hn : C.length ≤ 1048576) (hm : S.length ≤ 1048576) (hp : ∀ i (h : i < C.length), C[i].k.size ≤ 1048576 ∧ C[i].v.size ≤ 1048576) (hs : ∀ i (h : i < S.length), S[i].v.size ≤ 1048576) :
    Calls Try.prog 15 #[.agg #[a, c], .string key] w fun e w' => e = .returned (.tuple #[.string (coR C S key), .bool (coB C S key)]) ∧ Below w.heap.size w w' := by
  have KH := fun W' (hb : Below w.heap.size w W') => h.below hb
  have KG := fun W' (hb : Below w.heap.size w W') => implGood_any a c C S W' (h.below hb) hn hm hp hs
  have KF := fun (g : gB C S = true) W' (hb : Below w.heap.size w W') => findCell_any a c C S key W' (h.below hb) (by have := gB_parts g; omega) (gcB_srt (gB_parts g).1)
  obtain ⟨⟨xa, xb, rfl, hcC⟩, ya, yb, rfl, hcS⟩ := h
  have X := Box.new w #[.slice xa C.length xb, .slice ya S.length yb] 31
  have B0 := below_alloc w (.cells #[.slice xa C.length xb, .slice ya S.length yb] 31)
  clear hcS KH
  have HBD : Hid (coB C S key = (gB C S && hsC C key)) := rfl
  have HAN : ∀ hl : plc (fC key) C < C.length, coB C S key = true → coR C S key = C[plc (fC key) C].v := fun hl e => by unfold coR; rw [if_pos e, getP C _ hl]
  have HAZ : coB C S key = false → coR C S key = ⟨#[]⟩ := fun e => by unfold coR; rw [if_neg (by rw [e]; simp)]
  have HLT : hsC C key = true → plc (fC key) C < C.length := hsC_lt
  generalize plc (fC key) C = p at *
  generalize hsC C key = hh at *
  cases hg : gB C S with
  | false =>
    have HB : Hid (coB C S key = false) := by show _ = _; rw [HBD.out, hg]; rfl
    rw [hg] at KG
    clear hg KF HLT hcC hp hs
    obtain ⟨hx, x0, x1⟩ := X.c2
    go_enter Try.func15, Try.ntmps15
    go_wp2_with fail
    refine (KG _ B0).mono ?_
    rintro e w1 ⟨rfl, hb1⟩
    clear KG hx x0 x1
    replace B0 := below_then B0 hb1
    replace X := X.below hb1
    clear hb1
    have HQ : Hid (coR C S key = ⟨#[]⟩) := HAZ HB.out
    clear X HAN HAZ HBD
    go_wp2
    go_ret2
    exact ⟨by rw [HQ.out, HB.out]; simp, B0⟩
  | true =>
    have KF2 := KF hg
    rw [hg] at KG
    have HBE : Hid (coB C S key = hh) := by show _ = _; rw [HBD.out, hg]; rfl
    clear hg KF hp hs
    obtain ⟨hx, x0, x1⟩ := X.c2
    go_enter Try.func15, Try.ntmps15
    go_wp2_with fail
    refine (KG _ B0).mono ?_
    rintro e w1 ⟨rfl, hb1⟩
    clear KG hx x0 x1
    replace B0 := below_then B0 hb1
    replace X := X.below hb1
    clear hb1
    obtain ⟨hx, x0, x1⟩ := X.c2
    go_wp2_with fail
    refine (KF2 _ B0).mono ?_
    rintro e w2 ⟨rfl, hb2⟩
    clear KF2 hx x0 x1
    replace B0 := below_then B0 hb2
    replace X := X.below hb2
    clear hb2
    cases hh with
    | false =>
      have HB : Hid (coB C S key = false) := HBE.out
      clear HBE HLT hcC
      have HQ : Hid (coR C S key = ⟨#[]⟩) := HAZ HB.out
      clear X HAN HAZ HBD
      go_wp2
      go_ret2
      exact ⟨by rw [HQ.out, HB.out]; simp, B0⟩
    | true =>
      have HB : Hid (coB C S key = true) := HBE.out
      have hll := HLT rfl
      clear HBE HLT
      obtain ⟨b, off, rfl, hbl, hcell⟩ := hcC (by intro e; simp [e] at hll)
      obtain ⟨s, hse⟩ : ∃ s, s = C[p] := ⟨_, rfl⟩
      have HQ : Hid (coR C S key = s.v) := by show _ = _; rw [hse]; exact HAN hll HB.out
      have hbb : Below w.heap.size w _ := B0
      have q1 := (B0.cell (p := ⟨b, off + p * 2 + 1, none⟩) hbl).trans (hcell p hll).2
      rw [← hse] at q1
      obtain ⟨hx, x0, x1⟩ := X.c2
      clear hcell hse HAN HAZ HBD X hbb hcC
      obtain ⟨sk, sv⟩ := s
      dsimp only at *
      go_wp2
      go_ret2
      exact ⟨by rw [HQ.out, HB.out]; simp, B0⟩
set_option maxHeartbeats 8000000 in
theorem specCO_any (a c : Value) (C : List Pr) (S : List Ss) (key : ByteArray) (w : World) (h : KR w a c C S) (hn : C.length ≤ 1048576) (hm : S.length ≤ 1048576) (hp : ∀ i (h : i < C.length), C[i].k.size ≤ 1048576 ∧ C[i].v.size ≤ 1048576) (hs : ∀ i (h : i < S.length), S[i].v.size ≤ 1048576) :
    Calls Try.prog 14 #[.agg #[a, c], .string key] w fun e w' => e = .returned (.tuple #[.string (coR C S key), .bool (coB C S key)]) ∧ Below w.heap.size w w' := by
  have KH := fun W' (hb : Below w.heap.size w W') => h.below hb
  have KG := fun W' (hb : Below w.heap.size w W') => specGood_any a c C S W' (h.below hb) hn hm hp hs
  have KF := fun W' (hb : Below w.heap.size w W') => l14Cell_any a C key W' (h.below hb).1 hn
  obtain ⟨⟨xa, xb, rfl, hcC⟩, ya, yb, rfl, hcS⟩ := h
  have X := Box.new w #[.slice xa C.length xb, .slice ya S.length yb] 31
  have B0 := below_alloc w (.cells #[.slice xa C.length xb, .slice ya S.length yb] 31)
  clear hcS KH
  have HBD : Hid (coB C S key = (gB C S && hsC C key)) := rfl
  have HAN : ∀ hl : plc (fC key) C < C.length, coB C S key = true → coR C S key = C[plc (fC key) C].v := fun hl e => by unfold coR; rw [if_pos e, getP C _ hl]
  have HAZ : coB C S key = false → coR C S key = ⟨#[]⟩ := fun e => by unfold coR; rw [if_neg (by rw [e]; simp)]
  have HLT : hsC C key = true → plc (fC key) C < C.length := hsC_lt
  generalize plc (fC key) C = p at *
  generalize hsC C key = hh at *
  obtain ⟨hx, x0, x1⟩ := X.c2
  clear hp hs
  go_enter Try.func14, Try.ntmps14
  go_wp2_with fail
  refine (KF _ B0).mono ?_
  rintro e w1 ⟨rfl, hb1⟩
  clear KF hx x0 x1
  replace B0 := below_then B0 hb1
  replace X := X.below hb1
  clear hb1
  obtain ⟨hx, x0, x1⟩ := X.c2
  go_wp2_with fail
  refine (KG _ B0).mono ?_
  rintro e w2 ⟨rfl, hb2⟩
  clear KG hx x0 x1
  replace B0 := below_then B0 hb2
  replace X := X.below hb2
  clear hb2
  cases hg : gB C S with
  | false =>
    have HB : Hid (coB C S key = false) := by show _ = _; rw [HBD.out, hg]; rfl
    clear HLT hg hcC
    have HQ : Hid (coR C S key = ⟨#[]⟩) := HAZ HB.out
    clear X HAN HAZ HBD
    go_wp2
    go_ret2
    exact ⟨by rw [HQ.out, HB.out]; simp, B0⟩
  | true =>
    cases hh with
    | false =>
      have HB : Hid (coB C S key = false) := by show _ = _; rw [HBD.out, hg]; rfl
      clear HLT hg hcC
      have HQ : Hid (coR C S key = ⟨#[]⟩) := HAZ HB.out
      clear X HAN HAZ HBD
      go_wp2
      go_ret2
      exact ⟨by rw [HQ.out, HB.out]; simp, B0⟩
    | true =>
      have HB : Hid (coB C S key = true) := by show _ = _; rw [HBD.out, hg]; rfl
      have hll := HLT rfl
      clear HLT hg
      obtain ⟨b, off, rfl, hbl, hcell⟩ := hcC (by intro e; simp [e] at hll)
      obtain ⟨s, hse⟩ : ∃ s, s = C[p] := ⟨_, rfl⟩
      have HQ : Hid (coR C S key = s.v) := by show _ = _; rw [hse]; exact HAN hll HB.out
      have hbb : Below w.heap.size w _ := B0
      have q1 := (B0.cell (p := ⟨b, off + p * 2 + 1, none⟩) hbl).trans (hcell p hll).2
      rw [← hse] at q1
      obtain ⟨hx, x0, x1⟩ := X.c2
      clear hcell hse HAN HAZ HBD X hbb hcC
      obtain ⟨sk, sv⟩ := s
      dsimp only at *
      go_wp2
      go_ret2
      exact ⟨by rw [HQ.out, HB.out]; simp, B0⟩
end Go.Proofs.Ythlllegedfjhlaa
