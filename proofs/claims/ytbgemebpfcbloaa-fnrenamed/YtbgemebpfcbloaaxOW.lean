/-
  A disk of one's own rows, and the contracts told of it.
-/
import Derived.Test.YtbgemebpfcbloaaxX4
import Derived.Test.YtbgemebpfcbloaaR5ToxSM
import Derived.Test.YtbgemebpfcbloaaZ16
import Derived.Test.YtbgemebpfcbloaaS1ToR1
namespace Go.Proofs.Ytbgemebpfcbloaa
open Go.RowKit
set_option linter.unusedVariables false
set_option maxRecDepth 100000

def OwD (w : World) (x1 x2 x3 : Value) (bl lv sf : List (ByteArray × Int)) : Prop :=
  (∃ B, w.ownsRow B 43 2 x1 bl.length (flat bl)) ∧ (∃ B, w.ownsRow B 39 2 x2 lv.length (flat lv)) ∧ (∃ B, w.ownsRow B 39 2 x3 sf.length (flat sf))
theorem OwD.below {w w' : World} {x1 x2 x3 : Value} {bl lv sf : List (ByteArray × Int)} (h : OwD w x1 x2 x3 bl lv sf) (hb : Below w.heap.size w w') : OwD w' x1 x2 x3 bl lv sf := by
  obtain ⟨⟨B1, h1⟩, ⟨B2, h2⟩, ⟨B3, h3⟩⟩ := h
  exact ⟨⟨B1, owns_below h1 hb⟩, ⟨B2, owns_below h2 hb⟩, ⟨B3, owns_below h3 hb⟩⟩
theorem OwD.of {w : World} {B : Nat} {x1 x2 x3 : Value} {bl lv sf : List (ByteArray × Int)} (h : Made B w x1 x2 x3 bl lv sf) : OwD w x1 x2 x3 bl lv sf := ⟨⟨_, h.1⟩, ⟨_, h.2.1⟩, ⟨_, h.2.2.1⟩⟩
theorem OwD.shape {w : World} {x1 x2 x3 : Value} {bl lv sf : List (ByteArray × Int)} (h : OwD w x1 x2 x3 bl lv sf) : ∃ a1 c1 a2 c2 a3 c3, x1 = .slice a1 bl.length c1 ∧ x2 = .slice a2 lv.length c2 ∧ x3 = .slice a3 sf.length c3 := by
  obtain ⟨⟨B1, h1⟩, ⟨B2, h2⟩, ⟨B3, h3⟩⟩ := h
  obtain ⟨a1, c1, e1⟩ := owns_shape h1
  obtain ⟨a2, c2, e2⟩ := owns_shape h2
  obtain ⟨a3, c3, e3⟩ := owns_shape h3
  exact ⟨a1, c1, a2, c2, a3, c3, e1, e2, e3⟩
theorem OwD.px {w : World} {x1 x2 x3 : Value} {bl lv sf : List (ByteArray × Int)} (h : OwD w x1 x2 x3 bl lv sf) : PX w x1 bl ∧ PX w x2 lv ∧ PX w x3 sf := by
  obtain ⟨⟨B1, h1⟩, ⟨B2, h2⟩, ⟨B3, h3⟩⟩ := h
  exact ⟨PX_of_owns h1, PX_of_owns h2, PX_of_owns h3⟩
theorem OwD.pz {w : World} {x1 x2 x3 : Value} {bl lv sf : List (ByteArray × Int)} (h : OwD w x1 x2 x3 bl lv sf) : PZ w x1 bl ∧ PZ w x2 lv ∧ PZ w x3 sf := by
  obtain ⟨⟨B1, h1⟩, ⟨B2, h2⟩, ⟨B3, h3⟩⟩ := h
  exact ⟨PZ_of_owns h1, PZ_of_owns h2, PZ_of_owns h3⟩
theorem implDoO {w : World} {x1 x2 x3 : Value} {bl lv sf : List (ByteArray × Int)} (h : OwD w x1 x2 x3 bl lv sf) (hk : okDk bl lv sf) (r k : Int) (nm ot da : ByteArray) (kp : Int) (h1 : nm.size ≤ 1048576) (h2 : ot.size ≤ 1048576) (h3 : da.size ≤ 1048576) :
    Calls Try.prog 11 #[.agg #[x1, x2, x3, .int .i64 r], .agg #[.int .i64 k, .string nm, .string ot, .string da, .int .i64 kp]] w fun e w' => (∃ y1 y2 y3, e = .returned (.tuple #[.agg #[y1, y2, y3, .int .i64 (doR bl lv sf r)], .int .i64 (doC k nm ot da kp bl lv sf r)]) ∧ OwD w' y1 y2 y3 (doB k nm ot da kp bl lv sf r) (doL k nm ot da kp bl lv sf r) (doS k nm ot da kp bl lv sf r)) ∧ Below w.heap.size w w' := by
  refine (implDo_any x1 x2 x3 bl lv sf r k nm ot da kp w h.px.1 h.px.2.1 h.px.2.2 hk.1.1 hk.2.1.1 hk.2.2.1 hk.1.2 hk.2.1.2 hk.2.2.2 h1 h2 h3).mono ?_
  rintro e w' ⟨⟨y1, y2, y3, rfl, M⟩, hb⟩
  exact ⟨⟨y1, y2, y3, rfl, OwD.of M⟩, hb⟩
theorem specDoO {w : World} {x1 x2 x3 : Value} {bl lv sf : List (ByteArray × Int)} (h : OwD w x1 x2 x3 bl lv sf) (hk : okDk bl lv sf) (r k : Int) (nm ot da : ByteArray) (kp : Int) (h1 : nm.size ≤ 1048576) (h2 : ot.size ≤ 1048576) (h3 : da.size ≤ 1048576) :
    Calls Try.prog 12 #[.agg #[x1, x2, x3, .int .i64 r], .agg #[.int .i64 k, .string nm, .string ot, .string da, .int .i64 kp]] w fun e w' => (∃ y1 y2 y3, e = .returned (.tuple #[.agg #[y1, y2, y3, .int .i64 (doR bl lv sf r)], .int .i64 (doC k nm ot da kp bl lv sf r)]) ∧ OwD w' y1 y2 y3 (doB k nm ot da kp bl lv sf r) (doL k nm ot da kp bl lv sf r) (doS k nm ot da kp bl lv sf r)) ∧ Below w.heap.size w w' := by
  refine (specDo_any x1 x2 x3 bl lv sf r k nm ot da kp w h.pz.1 h.pz.2.1 h.pz.2.2 hk.1.1 hk.2.1.1 hk.2.2.1 hk.1.2 hk.2.1.2 hk.2.2.2 h1 h2 h3).mono ?_
  rintro e w' ⟨⟨y1, y2, y3, rfl, M⟩, hb⟩
  exact ⟨⟨y1, y2, y3, rfl, OwD.of M⟩, hb⟩
theorem specGoodO {w : World} {x1 x2 x3 : Value} {bl lv sf : List (ByteArray × Int)} (h : OwD w x1 x2 x3 bl lv sf) (hk : okDk bl lv sf) (r : Int) :
    Calls Try.prog 13 #[.agg #[x1, x2, x3, .int .i64 r]] w fun e w' => e = .returned (.bool (goodD bl lv sf r)) ∧ Below w.heap.size w w' :=
  specGood_any x1 x2 x3 bl lv sf r w h.px.1.1 h.px.2.1.1 h.px.2.2.1 hk.1.1 hk.2.1.1 hk.2.2.1 hk.1.2 hk.2.1.2 hk.2.2.2
theorem implGoodO {w : World} {x1 x2 x3 : Value} {bl lv sf : List (ByteArray × Int)} (h : OwD w x1 x2 x3 bl lv sf) (hk : okDk bl lv sf) (r : Int) :
    Calls Try.prog 14 #[.agg #[x1, x2, x3, .int .i64 r]] w fun e w' => e = .returned (.bool (goodD bl lv sf r)) ∧ Below w.heap.size w w' :=
  implGood_any x1 x2 x3 bl lv sf r w h.px.1.1 h.px.2.1.1 h.px.2.2.1 hk.1.1 hk.2.1.1 hk.2.2.1 hk.1.2 hk.2.1.2 hk.2.2.2
theorem implNamesO {w : World} {x1 x2 x3 : Value} {bl lv sf : List (ByteArray × Int)} (h : OwD w x1 x2 x3 bl lv sf) (r : Int) (hg : goodD bl lv sf r = true) :
    Calls Try.prog 16 #[.agg #[x1, x2, x3, .int .i64 r]] w fun e w' => (∃ a c, e = .returned (.tuple #[.slice a lv.length c, .bool true]) ∧ SL w' (.slice a lv.length c) (lv.map Prod.fst)) ∧ Below w.heap.size w w' := by
  have hk := okDk_good hg
  refine (implNamesOf_any x1 x2 x3 bl lv sf r w h.px.1.1 h.px.2.1.1 h.px.2.2.1 hk.1.1 hk.2.1.1 hk.2.2.1 hk.1.2 hk.2.1.2 hk.2.2.2).mono ?_
  rintro e w' ⟨v, rfl, ho, hb⟩
  rw [namesOr_yes hg.symm] at ho
  obtain ⟨a, c, rfl⟩ := owns_shape ho
  rw [List.length_map] at ho ⊢
  rw [hg]
  exact ⟨⟨a, c, rfl, SL_of_owns (by rw [List.length_map]; exact ho)⟩, hb⟩
theorem implReadO {w : World} {x1 x2 x3 : Value} {bl lv sf : List (ByteArray × Int)} (h : OwD w x1 x2 x3 bl lv sf) (r : Int) (hg : goodD bl lv sf r = true) (nm : ByteArray) (hn : nm.size ≤ 1048576) :
    Calls Try.prog 18 #[.agg #[x1, x2, x3, .int .i64 r], .string nm] w fun e w' => e = .returned (.tuple #[.string (readT bl lv nm true), .bool (readB lv nm true)]) ∧ Below w.heap.size w w' := by
  have hk := okDk_good hg
  have := implRead_any x1 x2 x3 bl lv sf r nm w h.px.1.1 h.px.2.1.1 h.px.2.2.1 hk.1.1 hk.2.1.1 hk.2.2.1 hk.1.2 hk.2.1.2 hk.2.2.2 hn
  rw [hg] at this
  exact this
theorem implSafeO {w : World} {x1 x2 x3 : Value} {bl lv sf : List (ByteArray × Int)} (h : OwD w x1 x2 x3 bl lv sf) (r : Int) (hg : goodD bl lv sf r = true) (nm : ByteArray) (hn : nm.size ≤ 1048576) :
    Calls Try.prog 17 #[.agg #[x1, x2, x3, .int .i64 r], .string nm] w fun e w' => e = .returned (.tuple #[.string (safeT bl sf nm true), .bool (readB sf nm true)]) ∧ Below w.heap.size w w' := by
  have hk := okDk_good hg
  have := implSafe_any x1 x2 x3 bl lv sf r nm w h.px.1.1 h.px.2.1.1 h.px.2.2.1 hk.1.1 hk.2.1.1 hk.2.2.1 hk.1.2 hk.2.1.2 hk.2.2.2 hn
  rw [hg] at this
  exact this
theorem do_bad {bl lv sf : List (ByteArray × Int)} {r : Int} (hg : goodD bl lv sf r = false) (k : Int) (nm ot da : ByteArray) (kp : Int) : doC k nm ot da kp bl lv sf r = 1 := by
  unfold doC
  rw [hg]
  rfl
theorem doR_good {bl lv sf : List (ByteArray × Int)} {r : Int} (hg : goodD bl lv sf r = true) : doR bl lv sf r = r := by
  unfold doR
  rw [hg]
  rfl
/-- A drawn disk and a drawn step. -/
def DdPost (w : World) (e : Ending) (w' : World) : Prop :=
  (∃ x1 x2 x3 bl lv sf r k nm ot da kp, e = .returned (.tuple #[.agg #[x1, x2, x3, .int .i64 r], .agg #[.int .i64 k, .string nm, .string ot, .string da, .int .i64 kp]]) ∧ okDk bl lv sf ∧ okSt k nm ot da kp ∧ OwD w' x1 x2 x3 bl lv sf) ∧ Below w.heap.size w w'
set_option maxHeartbeats 8000000 in
theorem drawDD_any (v : Value) (l : List UInt8) (w : World) (hv : YL w v l) (hl : l.length ≤ maxLen) : Calls Try.prog 10 #[v] w (DdPost w) := by
  have hl' : l.length ≤ 9223372036854775807 := hl
  have hv' := hv
  obtain ⟨va, vc, rfl, _⟩ := hv'
  obtain ⟨w0, hw0⟩ : ∃ w0, w0 = (w.alloc (.cells #[.slice none 0 0, .slice none 0 0, .slice none 0 0, .int .i64 0] 26)).alloc (.cells #[.int .i64 0, .string ⟨#[]⟩, .string ⟨#[]⟩, .string ⟨#[]⟩, .int .i64 0] 28) := ⟨_, rfl⟩
  have R0 : Box w0 w.heap.size [.slice none 0 0, .slice none 0 0, .slice none 0 0, .int .i64 0] := by rw [hw0]; exact (Box.new w #[.slice none 0 0, .slice none 0 0, .slice none 0 0, .int .i64 0] 26).alloc _
  have S0 : Box w0 (w.heap.size + 1) [.int .i64 0, .string ⟨#[]⟩, .string ⟨#[]⟩, .string ⟨#[]⟩, .int .i64 0] := by
    rw [hw0]
    have := Box.new (w.alloc (.cells #[.slice none 0 0, .slice none 0 0, .slice none 0 0, .int .i64 0] 26)) #[.int .i64 0, .string ⟨#[]⟩, .string ⟨#[]⟩, .string ⟨#[]⟩, .int .i64 0] 28
    simpa using this
  have hb0 : Below w.heap.size w w0 := by rw [hw0]; exact below2 _ _ _
  have hz0 : w0.heap.size = w.heap.size + 1 + 1 := by rw [hw0]; simp
  obtain ⟨w1, hw1⟩ : ∃ w1, w1 = w0.alloc (.cells #[.slice va l.length vc, .int .i64 0, .int .u64 0] 90) := ⟨_, rfl⟩
  have C1 : Cur w1 w0.heap.size l 0 := by rw [hw1]; exact cur_new (hv.below hb0)
  have hb1 : Below w0.heap.size w0 w1 := by rw [hw1]; exact below_alloc _ _
  have R1 := R0.below hb1
  have S1 := S0.below hb1
  have hB1 := below_then hb0 hb1
  have hz1 : w.heap.size + 1 + 1 < w1.heap.size := by rw [← hz0, hw1]; simp
  rw [hz0] at C1
  have KD := disk_any (w.heap.size + 1 + 1) l 0 w1 C1 hl' (by omega)
  clear R0 S0 hb0 hb1 hv C1 hz0
  go_enter Try.func10, Try.ntmps10
  go_wp2_with fail
  rw [← hw0, ← hw1]
  clear hw0 hw1
  refine KD.mono ?_
  rintro e w2 ⟨x1, x2, x3, bl, lv, sf, r, rfl, hok, o1, o2, o3, C2, G2⟩
  have R2 := G2.box R1 (by omega)
  have S2 := G2.box S1 (by omega)
  have hB2 := hB1.trans (G2.below (B := w.heap.size) (by omega) (fun k hk => by omega))
  obtain ⟨a1, c1, rfl⟩ := owns_shape o1
  obtain ⟨a2, c2, rfl⟩ := owns_shape o2
  obtain ⟨a3, c3, rfl⟩ := owns_shape o3
  have HOK : Hid (okDk bl lv sf) := hok
  clear KD R1 S1 G2 hok hB1
  go_wp2_with fail
  refine (diskStep_any (w.heap.size + 1 + 1) l (0 + 7100) _ C2 hl' (by omega)).mono ?_
  rintro e w3 ⟨k, nm, ot, da, kp, rfl, hst, C3, G3⟩
  have R3 := G3.box R2 (by omega)
  have S3 := G3.box S2 (by omega)
  have q1 := G3.owns o1 (fun k hk hh => by have := owns_ge o1 k hk; have hh : k = w.heap.size + 1 + 1 := hh; omega)
  have q2 := G3.owns o2 (fun k hk hh => by have := owns_ge o2 k hk; have hh : k = w.heap.size + 1 + 1 := hh; omega)
  have q3 := G3.owns o3 (fun k hk hh => by have := owns_ge o3 k hk; have hh : k = w.heap.size + 1 + 1 := hh; omega)
  have hB3 := hB2.trans (G3.below (B := w.heap.size) hB2.size (fun k hk => by omega))
  have HST : Hid (okSt k nm ot da kp) := hst
  have hC4 := put4_chg w3 w.heap.size (.slice a1 bl.length c1) (.slice a2 lv.length c2) (.slice a3 sf.length c3) (.int .i64 r)
  have R4 := put4_box R3 (.slice a1 bl.length c1) (.slice a2 lv.length c2) (.slice a3 sf.length c3) (.int .i64 r)
  have S4 := hC4.box S3 (by omega)
  have hC5 : Chg (· = w.heap.size + 1) (put4 w3 w.heap.size (.slice a1 bl.length c1) (.slice a2 lv.length c2) (.slice a3 sf.length c3) (.int .i64 r)) (put5 (put4 w3 w.heap.size (.slice a1 bl.length c1) (.slice a2 lv.length c2) (.slice a3 sf.length c3) (.int .i64 r)) (w.heap.size + 1) (.int .i64 k) (.string nm) (.string ot) (.string da) (.int .i64 kp)) :=
    (((((Chg.refl (· = w.heap.size + 1) _).setCell (p := ⟨w.heap.size + 1, 0, none⟩) rfl _).setCell (p := ⟨w.heap.size + 1, 1, none⟩) rfl _).setCell (p := ⟨w.heap.size + 1, 2, none⟩) rfl _).setCell (p := ⟨w.heap.size + 1, 3, none⟩) rfl _).setCell (p := ⟨w.heap.size + 1, 4, none⟩) rfl _
  have R5 := hC5.box R4 (by omega)
  have S5 := put5_box S4 (.int .i64 k) (.string nm) (.string ot) (.string da) (.int .i64 kp)
  have p1 := hC5.owns (hC4.owns q1 (fun k hk hh => by have := owns_ge q1 k hk; have hh : k = w.heap.size := hh; omega)) (fun k hk hh => by have := owns_ge q1 k hk; have hh : k = w.heap.size + 1 := hh; omega)
  have p2 := hC5.owns (hC4.owns q2 (fun k hk hh => by have := owns_ge q2 k hk; have hh : k = w.heap.size := hh; omega)) (fun k hk hh => by have := owns_ge q2 k hk; have hh : k = w.heap.size + 1 := hh; omega)
  have p3 := hC5.owns (hC4.owns q3 (fun k hk hh => by have := owns_ge q3 k hk; have hh : k = w.heap.size := hh; omega)) (fun k hk hh => by have := owns_ge q3 k hk; have hh : k = w.heap.size + 1 := hh; omega)
  have hB5 := (hB3.trans (hC4.below (B := w.heap.size) hB3.size (fun k hk => by omega))).trans (hC5.below (B := w.heap.size) (Nat.le_trans hB3.size hC4.size) (fun k hk => by omega))
  obtain ⟨r0, r1, r2, r3⟩ := box4_f R3
  obtain ⟨hrl, z0, z1, z2, z3⟩ := R3.c4
  obtain ⟨f0, f1, f2, f3, f4⟩ := box5_f S3
  obtain ⟨hsl, y0, y1, y2, y3, y4⟩ := box5_c S3
  have hg1 : w.heap.size ≠ w.heap.size + 1 := by omega
  have hg2 : w.heap.size + 1 ≠ w.heap.size := by omega
  clear R2 S2 o1 o2 o3 C2 hB2 C3 G3 q1 q2 q3 hB3 hC4 hC5 R4 S4 R3 S3 hst hz1
  go_wp2
  change bodyPost _ _ _ _ _ (put5 (put4 w3 w.heap.size (.slice a1 bl.length c1) (.slice a2 lv.length c2) (.slice a3 sf.length c3) (.int .i64 r)) (w.heap.size + 1) (.int .i64 k) (.string nm) (.string ot) (.string da) (.int .i64 kp))
  generalize put5 (put4 w3 w.heap.size (.slice a1 bl.length c1) (.slice a2 lv.length c2) (.slice a3 sf.length c3) (.int .i64 r)) (w.heap.size + 1) (.int .i64 k) (.string nm) (.string ot) (.string da) (.int .i64 kp) = W' at *
  obtain ⟨_, m0, m1, m2, m3⟩ := R5.c4
  obtain ⟨_, n0, n1, n2, n3, n4⟩ := box5_c S5
  exact bodyPost_ret (v := .tuple #[.agg #[.slice a1 bl.length c1, .slice a2 lv.length c2, .slice a3 sf.length c3, .int .i64 r], .agg #[.int .i64 k, .string nm, .string ot, .string da, .int .i64 kp]]) (by simp [results, Try.results10, go_sem, m0, m1, m2, m3, n0, n1, n2, n3, n4]) rfl ⟨⟨_, _, _, bl, lv, sf, r, k, nm, ot, da, kp, rfl, HOK.out, HST.out, ⟨⟨_, p1⟩, ⟨_, p2⟩, ⟨_, p3⟩⟩⟩, hB5⟩
end Go.Proofs.Ytbgemebpfcbloaa
