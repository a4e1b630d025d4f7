/-
  Drawn steps: the cursor's diskStep.
-/
import Derived.Test.YtbgemebpfcbloaaxD2ToxX1
namespace Go.Proofs.Ytbgemebpfcbloaa
open Go.RowKit
set_option linter.unusedVariables false
set_option maxRecDepth 100000

theorem box5_c {w : World} {b : Nat} {v0 v1 v2 v3 v4 : Value} (h : Box w b [v0, v1, v2, v3, v4]) : b < w.heap.size ∧ w.cell? ⟨b, 0, none⟩ = some v0 ∧ w.cell? ⟨b, 1, none⟩ = some v1 ∧ w.cell? ⟨b, 2, none⟩ = some v2 ∧ w.cell? ⟨b, 3, none⟩ = some v3 ∧ w.cell? ⟨b, 4, none⟩ = some v4 :=
  ⟨h.1, h.2.1 0 _ rfl, h.2.1 1 _ rfl, h.2.1 2 _ rfl, h.2.1 3 _ rfl, h.2.1 4 _ rfl⟩
theorem box5_f {w : World} {b : Nat} {v0 v1 v2 v3 v4 : Value} (h : Box w b [v0, v1, v2, v3, v4]) : (w.frozen? ⟨b, 0, none⟩ = false ∧ w.frozen? ⟨b, 1, none⟩ = false ∧ w.frozen? ⟨b, 2, none⟩ = false ∧ w.frozen? ⟨b, 3, none⟩ = false ∧ w.frozen? ⟨b, 4, none⟩ = false) := ⟨h.2.2 0, h.2.2 1, h.2.2 2, h.2.2 3, h.2.2 4⟩
def put5 (w : World) (b : Nat) (x1 x2 x3 x4 x5 : Value) : World := ((((w.setCell ⟨b, 0, none⟩ x1).setCell ⟨b, 1, none⟩ x2).setCell ⟨b, 2, none⟩ x3).setCell ⟨b, 3, none⟩ x4).setCell ⟨b, 4, none⟩ x5
theorem put5_box {w : World} {b : Nat} {y1 y2 y3 y4 y5 : Value} (h : Box w b [y1, y2, y3, y4, y5]) (x1 x2 x3 x4 x5 : Value) : Box (put5 w b x1 x2 x3 x4 x5) b [x1, x2, x3, x4, x5] :=
  ((((h.set 0 x1 (by simp)).set 1 x2 (by simp)).set 2 x3 (by simp)).set 3 x4 (by simp)).set 4 x5 (by simp)
theorem cur_put5 {w : World} {b g : Nat} {l : List UInt8} {K : Nat} (h : Cur w b l K) (hg : b < g) (x1 x2 x3 x4 x5 : Value) : Cur (put5 w g x1 x2 x3 x4 x5) b l K :=
  cur_set (cur_set (cur_set (cur_set (cur_set h (Nat.le_refl _) _ hg _) (Nat.le_refl _) _ hg _) (Nat.le_refl _) _ hg _) (Nat.le_refl _) _ hg _) (Nat.le_refl _) _ hg _
theorem chg_put5 {S : Nat → Prop} {w w1 : World} (h : Chg S w w1) {g : Nat} (hg : w.heap.size ≤ g) (x1 x2 x3 x4 x5 : Value) : Chg S w (put5 w1 g x1 x2 x3 x4 x5) :=
  chg_new (chg_new (chg_new (chg_new (chg_new h _ hg _) _ hg _) _ hg _) _ hg _) _ hg _
def Stop5 (p : Prop) : Prop := p
theorem Stop5.go {p : Prop} (h : Stop5 p) : p := h
theorem conv_repl {w : World} {base n : Nat} {g : Nat} (h : w.ownsRow base 5 1 (.slice (some ⟨g, 0, none⟩) n n) n (bcs (List.replicate n 0))) : (convert 22 9 (.slice (some ⟨g, 0, none⟩) n n)).run Try.prog w = .ok (.string ⟨(List.replicate n (0 : UInt8)).toArray⟩) w := by
  have h' := conv_back (l := List.replicate n 0) (cap := n) (base := base) (g := g) (w := w) (by rw [List.length_replicate]; exact h)
  rw [List.length_replicate] at h'
  exact h'
/-- A drawn step: its sizes. -/
def okSt (k : Int) (nm ot da : ByteArray) (kp : Int) : Prop := (0 ≤ k ∧ k ≤ 9) ∧ (0 ≤ kp ∧ kp ≤ 8) ∧ nm.size ≤ 13 ∧ ot.size ≤ 13 ∧ da.size ≤ 4001
def StPost (b : Nat) (l : List UInt8) (K : Nat) (w : World) (e : Ending) (w' : World) : Prop :=
  ∃ (k : Int) (nm ot da : ByteArray) (kp : Int), e = .returned (.agg #[.int .i64 k, .string nm, .string ot, .string da, .int .i64 kp]) ∧ okSt k nm ot da kp ∧ Cur w' b l K ∧ Chg (· = b) w w'

set_option maxHeartbeats 8000000 in
theorem diskStep_any (b : Nat) (l : List UInt8) (c : Nat) (w : World) (h : Cur w b l c) (hl : l.length ≤ 9223372036854775807) (hc : c ≤ 1000000) :
    Calls Try.prog 51 #[.pointer (some ⟨b, 0, none⟩)] w (StPost b l (c + 60) w) := by
  obtain ⟨i0, hi, hz0, hz1, hz2⟩ := info_parts Try.info5
  have hbw := h.lt
  obtain ⟨w0, hw0⟩ : ∃ w0, w0 = w.alloc (.cells #[.int .i64 0, .string ⟨#[]⟩, .string ⟨#[]⟩, .string ⟨#[]⟩, .int .i64 0] 28) := ⟨_, rfl⟩
  have R0 : Box w0 w.heap.size [.int .i64 0, .string ⟨#[]⟩, .string ⟨#[]⟩, .string ⟨#[]⟩, .int .i64 0] := by rw [hw0]; exact Box.new w #[.int .i64 0, .string ⟨#[]⟩, .string ⟨#[]⟩, .string ⟨#[]⟩, .int .i64 0] 28
  have hb0 : Below w.heap.size w w0 := by rw [hw0]; exact below_alloc _ _
  have hwz : w0.heap.size = w.heap.size + 1 := by rw [hw0]; simp
  obtain ⟨w1, hw1⟩ : ∃ w1, w1 = w0.alloc (.cells #[.int .i64 1, .int .i64 1, .int .i64 2, .int .i64 2, .int .i64 2, .int .i64 3, .int .i64 3, .int .i64 4, .int .i64 5, .int .i64 6, .int .i64 7, .int .i64 7] 3) := ⟨_, rfl⟩
  have X : LitI w1 w0.heap.size [1, 1, 2, 2, 2, 3, 3, 4, 5, 6, 7, 7] := by rw [hw1]; exact lit_of_box (Box.new w0 #[.int .i64 1, .int .i64 1, .int .i64 2, .int .i64 2, .int .i64 2, .int .i64 3, .int .i64 3, .int .i64 4, .int .i64 5, .int .i64 6, .int .i64 7, .int .i64 7] 3)
  have hb1 : Below w0.heap.size w0 w1 := by rw [hw1]; exact below_alloc _ _
  have R1 := R0.below hb1
  have C1 := (h.chg hb0).chg hb1
  have G1 : Chg (· = b) w w1 := (Chg.of_below hb0).trans (Chg.of_below hb1)
  have KA := among_any b l c w0.heap.size 12 _ w1 C1 hl (by omega) X (by omega) rfl (by omega) (by omega)
  clear X R0 hb0 hb1 C1 h
  have HK9 : Hid (∀ z ∈ ([1, 1, 2, 2, 2, 3, 3, 4, 5, 6, 7, 7] : List Int), 0 ≤ z ∧ z ≤ 9) := by show ∀ z ∈ _, _; decide
  rw [hwz] at KA
  clear hwz
  go_enter Try.func51, Try.ntmps51
  go_wp2_with fail
  rw [← hw0, ← hw1]
  refine KA.mono ?_
  rintro e w2 ⟨⟨k, hk, rfl⟩, C2, G2⟩
  have hk9 : 0 ≤ k ∧ k ≤ 9 := HK9.out k hk
  have R2 := G2.box R1 (by omega)
  replace G2 := G1.trans G2
  clear KA hk G1 R1 hw0 hw1 HK9
  go_wp2_with fail
  refine (fileName_any b l (c + 2) _ C2 hl (by omega)).mono ?_
  rintro e w3 ⟨⟨nm, rfl, hnm⟩, C3, G3⟩
  have R3 := G3.box R2 (by omega)
  replace G3 := G2.trans G3
  clear C2 G2 R2
  go_wp2_with fail
  refine (fileName_any b l (c + 2 + 4) _ C3 hl (by omega)).mono ?_
  rintro e w4 ⟨⟨ot, rfl, hot⟩, C4, G4⟩
  have R4 := G4.box R3 (by omega)
  replace G4 := G3.trans G4
  clear C3 G3 R3
  go_wp2_with fail
  refine (pick_any b l (c + 2 + 4 + 4) 12 _ C4 hl (by omega) (by omega)).mono ?_
  rintro e w5 ⟨⟨n, rfl, hn⟩, C5, G5⟩
  have R5 := G5.box R4 (by omega)
  replace G5 := G4.trans G5
  clear C4 G4 R4
  go_wp2_with fail
  refine (text_any b l (c + 2 + 4 + 4 + 2) n _ C5 hl (by omega) (by omega)).mono ?_
  rintro e w6 ⟨⟨da, rfl, hda0⟩, C6, G6⟩
  have R6 := G6.box R5 (by omega)
  replace G6 := G5.trans G6
  have hda : da.size ≤ 4001 := by omega
  have C6 := C6.mono (show c + 2 + 4 + 4 + 2 + 2 * n ≤ c + 36 by omega)
  clear C5 G5 R5 hda0 hn
  obtain ⟨w7, hw7⟩ : ∃ w7, w7 = w6.alloc (.cells #[.int .i64 k, .string nm, .string ot, .string da, .int .i64 0] 28) := ⟨_, rfl⟩
  have S7 : Box w7 w6.heap.size [.int .i64 k, .string nm, .string ot, .string da, .int .i64 0] := by rw [hw7]; exact Box.new w6 #[.int .i64 k, .string nm, .string ot, .string da, .int .i64 0] 28
  have hb7 : Below w6.heap.size w6 w7 := by rw [hw7]; exact below_alloc _ _
  have R7 := R6.below hb7
  have C7 := C6.chg hb7
  have G7 : Chg (· = b) w w7 := G6.trans (Chg.of_below hb7)
  have hrg : w.heap.size < w6.heap.size := R6.1
  clear R6 C6 G6 hb7
  go_wp2_with fail
  rw [← hw7]
  clear hw7
  generalize w6.heap.size = g at *
  refine (pick_any b l (c + 36) 16 _ C7 hl (by omega) (by omega)).mono ?_
  rintro e w8 ⟨⟨q, rfl, hq⟩, C8, G8⟩
  have R8 := G8.box R7 (by omega)
  have S8 := G8.box S7 (by omega)
  replace G8 := G7.trans G8
  clear C7 G7 R7 S7
  by_cases q0 : q = 0
  · subst q0
    have SV : Box (w8.setCell ⟨g, 0, none⟩ (.int .i64 8)) g [.int .i64 8, .string nm, .string ot, .string da, .int .i64 0] := by simpa using S8.set 0 (.int .i64 8) (by simp)
    have RV := R8.setOther ⟨g, 0, none⟩ (.int .i64 8) (by show g ≠ w.heap.size; omega)
    have CV := cur_set C8 (Nat.le_refl _) ⟨g, 0, none⟩ (by show b < g; omega) (.int .i64 8)
    have GV := chg_new G8 ⟨g, 0, none⟩ (by show w.heap.size ≤ g; omega) (.int .i64 8)
    have sf := (box5_f S8).1
    obtain ⟨hsl, s0, s1, s2, s3, s4⟩ := box5_c S8
    clear S8 R8 C8 G8
    go_wp2_with fail
    refine (pick_any b l (c + 36 + 2) 8 _ CV hl (by omega) (by omega)).mono ?_
    rintro e w9 ⟨⟨kp, rfl, hkp⟩, C9, G9⟩
    have S9 := G9.box SV (by omega)
    have R9 := G9.box RV (by omega)
    replace G9 := GV.trans G9
    have Sx : Box (w9.setCell ⟨g, 4, none⟩ (.int .i64 (kp : Int))) g [.int .i64 8, .string nm, .string ot, .string da, .int .i64 (kp : Int)] := by simpa using S9.set 4 (.int .i64 (kp : Int)) (by simp)
    have Rx := R9.setOther ⟨g, 4, none⟩ (.int .i64 (kp : Int)) (by show g ≠ w.heap.size; omega)
    have Cx := cur_set C9 (Nat.le_refl _) ⟨g, 4, none⟩ (by show b < g; omega) (.int .i64 (kp : Int))
    have Gx := chg_new G9 ⟨g, 4, none⟩ (by show w.heap.size ≤ g; omega) (.int .i64 (kp : Int))
    have hkp8 : (0 : Int) ≤ (kp : Int) ∧ (kp : Int) ≤ 8 := by omega
    have sf9 := (box5_f S9).2.2.2.2
    obtain ⟨hsl9, t0, t1, t2, t3, t4⟩ := box5_c S9
    have h8 : (0 : Int) ≤ 8 ∧ (8 : Int) ≤ 9 := by omega
    clear SV RV CV GV sf s0 s1 s2 s3 s4 hsl S9 R9 C9 G9
    go_wp2_with fail
    refine (one_any b l (c + 36 + 2 + 2) 60 _ Cx hl (by omega) (by omega)).mono ?_
    rintro e wy ⟨⟨y, rfl⟩, Cy, Gy⟩
    have Ry := Gy.box Rx (by omega)
    have Sy := Gy.box Sx (by omega)
    replace Gx := Gx.trans Gy
    have hzy := Gx.size
    have hgy : g < wy.heap.size := Sy.1
    clear Cx Gy Rx Sx
    cases y with
    | true =>
      have X := lit_of_box (zs := [0, 9]) (Box.new wy #[.int .i64 0, .int .i64 9] 3)
      have hb2 := below_alloc wy (.cells #[.int .i64 0, .int .i64 9] 3)
      have C2 := Cy.chg hb2
      have G2 := Gx.trans (Chg.of_below (S := (· = b)) hb2)
      have R2 := Ry.below hb2
      have S2 := Sy.below hb2
      have KO := among_any b l (c + 36 + 2 + 2 + 2) wy.heap.size 2 _ _ C2 hl (by omega) X (by omega) rfl (by omega) (by omega)
      clear Cy Gx Ry Sy X hb2 C2
      go_wp2_with fail
      refine KO.mono ?_
      rintro e wz ⟨⟨x, hx, rfl⟩, C3, G3⟩
      have hx9 : 0 ≤ x ∧ x ≤ 9 := by
        simp only [List.mem_cons, List.not_mem_nil, or_false] at hx
        rcases hx with rfl | rfl <;> decide
      have R30 := G3.box R2 (by omega)
      have R3 := R30.setOther ⟨g, 0, none⟩ (.int .i64 x) (by show g ≠ w.heap.size; omega)
      have S30 := G3.box S2 (by omega)
      have S3 : Box (wz.setCell ⟨g, 0, none⟩ (.int .i64 x)) g [.int .i64 x, .string nm, .string ot, .string da, .int .i64 (kp : Int)] := by simpa using S30.set 0 (.int .i64 x) (by simp)
      have C4 := cur_set C3 (Nat.le_refl _) ⟨g, 0, none⟩ (by show b < g; omega) (.int .i64 x)
      have G4 := chg_new (G2.trans G3) ⟨g, 0, none⟩ (by show w.heap.size ≤ g; omega) (.int .i64 x)
      have R9 := put5_box R3 (.int .i64 x) (.string nm) (.string ot) (.string da) (.int .i64 (kp : Int))
      have C9 := cur_put5 C4 (show b < w.heap.size by omega) (.int .i64 x) (.string nm) (.string ot) (.string da) (.int .i64 (kp : Int))
      have G9 := chg_put5 G4 (Nat.le_refl _) (.int .i64 x) (.string nm) (.string ot) (.string da) (.int .i64 (kp : Int))
      obtain ⟨sf0, sf1, sf2, sf3, sf4⟩ := box5_f S30
      obtain ⟨hsl, s0, s1, s2, s3, s4⟩ := box5_c S30
      obtain ⟨r0, r1, r2, r3, r4⟩ := box5_f R30
      obtain ⟨hrl, z0, z1, z2, z3, z4⟩ := box5_c R30
      have hgr : g ≠ w.heap.size := by omega
      have hgr2 : w.heap.size ≠ g := by omega
      clear KO hx C3 G2 G3 R2 S2 S30 R30 R3 S3 C4 G4
      go_wp2
      change bodyPost _ _ _ _ _ (put5 (wz.setCell ⟨g, 0, none⟩ (.int .i64 x)) w.heap.size (.int .i64 x) (.string nm) (.string ot) (.string da) (.int .i64 (kp : Int)))
      generalize put5 (wz.setCell ⟨g, 0, none⟩ (.int .i64 x)) w.heap.size (.int .i64 x) (.string nm) (.string ot) (.string da) (.int .i64 (kp : Int)) = W' at *
      obtain ⟨_, q0, q1, q2, q3, q4⟩ := box5_c R9
      exact bodyPost_ret (v := .agg #[.int .i64 x, .string nm, .string ot, .string da, .int .i64 (kp : Int)]) (by simp [results, Try.results51, go_sem, q0, q1, q2, q3, q4]) rfl ⟨x, nm, ot, da, (kp : Int), rfl, ⟨hx9, hkp8, hnm, hot, hda⟩, C9.mono (by omega), G9⟩
    | false =>
      have R9 := put5_box Ry (.int .i64 (8 : Int)) (.string nm) (.string ot) (.string da) (.int .i64 (kp : Int))
      have C9 := cur_put5 Cy (show b < w.heap.size by omega) (.int .i64 (8 : Int)) (.string nm) (.string ot) (.string da) (.int .i64 (kp : Int))
      have G9 := chg_put5 Gx (Nat.le_refl _) (.int .i64 (8 : Int)) (.string nm) (.string ot) (.string da) (.int .i64 (kp : Int))
      obtain ⟨hsl, s0, s1, s2, s3, s4⟩ := box5_c Sy
      obtain ⟨r0, r1, r2, r3, r4⟩ := box5_f Ry
      obtain ⟨hrl, z0, z1, z2, z3, z4⟩ := box5_c Ry
      have hgr : g ≠ w.heap.size := by omega
      have hgr2 : w.heap.size ≠ g := by omega
      clear Cy Gx Ry Sy
      go_wp2
      change bodyPost _ _ _ _ _ (put5 wy w.heap.size (.int .i64 (8 : Int)) (.string nm) (.string ot) (.string da) (.int .i64 (kp : Int)))
      generalize put5 wy w.heap.size (.int .i64 (8 : Int)) (.string nm) (.string ot) (.string da) (.int .i64 (kp : Int)) = W' at *
      obtain ⟨_, q0, q1, q2, q3, q4⟩ := box5_c R9
      exact bodyPost_ret (v := .agg #[.int .i64 (8 : Int), .string nm, .string ot, .string da, .int .i64 (kp : Int)]) (by simp [results, Try.results51, go_sem, q0, q1, q2, q3, q4]) rfl ⟨(8 : Int), nm, ot, da, (kp : Int), rfl, ⟨h8, hkp8, hnm, hot, hda⟩, C9.mono (by omega), G9⟩
  by_cases q1 : q = 1
  · subst q1
    have X := lit_of_box (zs := [500, 4000, 4001]) (Box.new w8 #[.int .i64 500, .int .i64 4000, .int .i64 4001] 3)
    have hb2 := below_alloc w8 (.cells #[.int .i64 500, .int .i64 4000, .int .i64 4001] 3)
    have C2 := C8.chg hb2
    have G2 := G8.trans (Chg.of_below (S := (· = b)) hb2)
    have R2 := R8.below hb2
    have S2 := S8.below hb2
    have hz8 := G8.size
    have hgy : g < w8.heap.size := S8.1
    have KO := among_any b l (c + 36 + 2) w8.heap.size 3 _ _ C2 hl (by omega) X (by omega) rfl (by omega) (by omega)
    clear C8 G8 R8 S8 X hb2 C2
    go_wp2_with fail
    refine KO.mono ?_
    rintro e w9 ⟨⟨z, hzm, rfl⟩, C9, G9⟩
    obtain ⟨nz, rfl, hnz⟩ : ∃ nz : Nat, z = (nz : Int) ∧ nz ≤ 4001 := by
      simp only [List.mem_cons, List.not_mem_nil, or_false] at hzm
      rcases hzm with rfl | rfl | rfl
      · exact ⟨500, rfl, by omega⟩
      · exact ⟨4000, rfl, by omega⟩
      · exact ⟨4001, rfl, by omega⟩
    have S9 := G9.box S2 (by omega)
    have R9 := G9.box R2 (by omega)
    replace G9 := G2.trans G9
    have hz9 := G9.size
    have hg9 : g < w9.heap.size := S9.1
    clear KO hzm G2 R2 S2
    go_wp2_with (at_make; refine wpList_make_full _ rfl _ _ 22 rfl w9.heap.size 5 i0 _ 1 Try.underlying22 hi hz0 hz1 .i64 .i64 _ _ nz rfl rfl rfl rfl (by rw [hz2]; omega) (by unfold maxLen; omega) (Nat.le_refl _) ?_; intro wA hownA hgrA; refine Stop5.go ?_)
    rw [madeB] at hownA
    have hcv := conv_repl hownA
    have hbA : Below w9.heap.size w9 wA := (Below.refl _ _).grown hgrA (Nat.le_refl _) (by simp)
    have SA := S9.below hbA
    have RA := R9.below hbA
    have CA := C9.chg hbA
    have GA := G9.trans (Chg.of_below (S := (· = b)) hbA)
    have hD4 : (⟨(List.replicate nz (0 : UInt8)).toArray⟩ : ByteArray).size ≤ 4001 := by show (List.replicate nz (0 : UInt8)).toArray.size ≤ 4001; simp; omega
    generalize (⟨(List.replicate nz (0 : UInt8)).toArray⟩ : ByteArray) = dz at *
    have Sx : Box (wA.setCell ⟨g, 3, none⟩ (.string dz)) g [.int .i64 k, .string nm, .string ot, .string dz, .int .i64 0] := by simpa using SA.set 3 (.string dz) (by simp)
    have Rx := RA.setOther ⟨g, 3, none⟩ (.string dz) (by show g ≠ w.heap.size; omega)
    have Cx := cur_set CA (Nat.le_refl _) ⟨g, 3, none⟩ (by show b < g; omega) (.string dz)
    have Gx := chg_new GA ⟨g, 3, none⟩ (by show w.heap.size ≤ g; omega) (.string dz)
    have sf3 := (box5_f SA).2.2.2.1
    obtain ⟨hsl9, t0, t1, t2, t3, t4⟩ := box5_c SA
    have h00 : (0 : Int) ≤ 0 ∧ (0 : Int) ≤ 8 := by omega
    clear hownA hgrA hbA SA RA CA GA S9 R9 C9 G9
    unfold Stop5
    go_wp2_with fail
    refine (one_any b l (c + 36 + 2 + 2) 60 _ Cx hl (by omega) (by omega)).mono ?_
    rintro e wy ⟨⟨y, rfl⟩, Cy, Gy⟩
    have Ry := Gy.box Rx (by omega)
    have Sy := Gy.box Sx (by omega)
    replace Gx := Gx.trans Gy
    have hzy := Gx.size
    have hgy : g < wy.heap.size := Sy.1
    clear Cx Gy Rx Sx
    cases y with
    | true =>
      have X := lit_of_box (zs := [0, 9]) (Box.new wy #[.int .i64 0, .int .i64 9] 3)
      have hb2 := below_alloc wy (.cells #[.int .i64 0, .int .i64 9] 3)
      have C2 := Cy.chg hb2
      have G2 := Gx.trans (Chg.of_below (S := (· = b)) hb2)
      have R2 := Ry.below hb2
      have S2 := Sy.below hb2
      have KO := among_any b l (c + 36 + 2 + 2 + 2) wy.heap.size 2 _ _ C2 hl (by omega) X (by omega) rfl (by omega) (by omega)
      clear Cy Gx Ry Sy X hb2 C2
      go_wp2_with fail
      refine KO.mono ?_
      rintro e wz ⟨⟨x, hx, rfl⟩, C3, G3⟩
      have hx9 : 0 ≤ x ∧ x ≤ 9 := by
        simp only [List.mem_cons, List.not_mem_nil, or_false] at hx
        rcases hx with rfl | rfl <;> decide
      have R30 := G3.box R2 (by omega)
      have R3 := R30.setOther ⟨g, 0, none⟩ (.int .i64 x) (by show g ≠ w.heap.size; omega)
      have S30 := G3.box S2 (by omega)
      have S3 : Box (wz.setCell ⟨g, 0, none⟩ (.int .i64 x)) g [.int .i64 x, .string nm, .string ot, .string dz, .int .i64 (0 : Int)] := by simpa using S30.set 0 (.int .i64 x) (by simp)
      have C4 := cur_set C3 (Nat.le_refl _) ⟨g, 0, none⟩ (by show b < g; omega) (.int .i64 x)
      have G4 := chg_new (G2.trans G3) ⟨g, 0, none⟩ (by show w.heap.size ≤ g; omega) (.int .i64 x)
      have R9 := put5_box R3 (.int .i64 x) (.string nm) (.string ot) (.string dz) (.int .i64 (0 : Int))
      have C9 := cur_put5 C4 (show b < w.heap.size by omega) (.int .i64 x) (.string nm) (.string ot) (.string dz) (.int .i64 (0 : Int))
      have G9 := chg_put5 G4 (Nat.le_refl _) (.int .i64 x) (.string nm) (.string ot) (.string dz) (.int .i64 (0 : Int))
      obtain ⟨sf0, sf1, sf2, sf3, sf4⟩ := box5_f S30
      obtain ⟨hsl, s0, s1, s2, s3, s4⟩ := box5_c S30
      obtain ⟨r0, r1, r2, r3, r4⟩ := box5_f R30
      obtain ⟨hrl, z0, z1, z2, z3, z4⟩ := box5_c R30
      have hgr : g ≠ w.heap.size := by omega
      have hgr2 : w.heap.size ≠ g := by omega
      clear KO hx C3 G2 G3 R2 S2 S30 R30 R3 S3 C4 G4
      go_wp2
      change bodyPost _ _ _ _ _ (put5 (wz.setCell ⟨g, 0, none⟩ (.int .i64 x)) w.heap.size (.int .i64 x) (.string nm) (.string ot) (.string dz) (.int .i64 (0 : Int)))
      generalize put5 (wz.setCell ⟨g, 0, none⟩ (.int .i64 x)) w.heap.size (.int .i64 x) (.string nm) (.string ot) (.string dz) (.int .i64 (0 : Int)) = W' at *
      obtain ⟨_, q0, q1, q2, q3, q4⟩ := box5_c R9
      exact bodyPost_ret (v := .agg #[.int .i64 x, .string nm, .string ot, .string dz, .int .i64 (0 : Int)]) (by simp [results, Try.results51, go_sem, q0, q1, q2, q3, q4]) rfl ⟨x, nm, ot, dz, (0 : Int), rfl, ⟨hx9, h00, hnm, hot, hD4⟩, C9.mono (by omega), G9⟩
    | false =>
      have R9 := put5_box Ry (.int .i64 k) (.string nm) (.string ot) (.string dz) (.int .i64 (0 : Int))
      have C9 := cur_put5 Cy (show b < w.heap.size by omega) (.int .i64 k) (.string nm) (.string ot) (.string dz) (.int .i64 (0 : Int))
      have G9 := chg_put5 Gx (Nat.le_refl _) (.int .i64 k) (.string nm) (.string ot) (.string dz) (.int .i64 (0 : Int))
      obtain ⟨hsl, s0, s1, s2, s3, s4⟩ := box5_c Sy
      obtain ⟨r0, r1, r2, r3, r4⟩ := box5_f Ry
      obtain ⟨hrl, z0, z1, z2, z3, z4⟩ := box5_c Ry
      have hgr : g ≠ w.heap.size := by omega
      have hgr2 : w.heap.size ≠ g := by omega
      clear Cy Gx Ry Sy
      go_wp2
      change bodyPost _ _ _ _ _ (put5 wy w.heap.size (.int .i64 k) (.string nm) (.string ot) (.string dz) (.int .i64 (0 : Int)))
      generalize put5 wy w.heap.size (.int .i64 k) (.string nm) (.string ot) (.string dz) (.int .i64 (0 : Int)) = W' at *
      obtain ⟨_, q0, q1, q2, q3, q4⟩ := box5_c R9
      exact bodyPost_ret (v := .agg #[.int .i64 k, .string nm, .string ot, .string dz, .int .i64 (0 : Int)]) (by simp [results, Try.results51, go_sem, q0, q1, q2, q3, q4]) rfl ⟨k, nm, ot, dz, (0 : Int), rfl, ⟨hk9, h00, hnm, hot, hD4⟩, C9.mono (by omega), G9⟩

  · have n0 : ¬ (q : Int) = 0 := by omega
    have n1 : ¬ (q : Int) = 1 := by omega
    have Cx := C8
    have Gx := G8
    have Rx := R8
    have Sx := S8
    have h00 : (0 : Int) ≤ 0 ∧ (0 : Int) ≤ 8 := by omega
    clear C8 G8 R8 S8
    go_wp2_with fail
    refine (one_any b l (c + 36 + 2) 60 _ Cx hl (by omega) (by omega)).mono ?_
    rintro e wy ⟨⟨y, rfl⟩, Cy, Gy⟩
    have Ry := Gy.box Rx (by omega)
    have Sy := Gy.box Sx (by omega)
    replace Gx := Gx.trans Gy
    have hzy := Gx.size
    have hgy : g < wy.heap.size := Sy.1
    clear Cx Gy Rx Sx
    cases y with
    | true =>
      have X := lit_of_box (zs := [0, 9]) (Box.new wy #[.int .i64 0, .int .i64 9] 3)
      have hb2 := below_alloc wy (.cells #[.int .i64 0, .int .i64 9] 3)
      have C2 := Cy.chg hb2
      have G2 := Gx.trans (Chg.of_below (S := (· = b)) hb2)
      have R2 := Ry.below hb2
      have S2 := Sy.below hb2
      have KO := among_any b l (c + 36 + 2 + 2) wy.heap.size 2 _ _ C2 hl (by omega) X (by omega) rfl (by omega) (by omega)
      clear Cy Gx Ry Sy X hb2 C2
      go_wp2_with fail
      refine KO.mono ?_
      rintro e wz ⟨⟨x, hx, rfl⟩, C3, G3⟩
      have hx9 : 0 ≤ x ∧ x ≤ 9 := by
        simp only [List.mem_cons, List.not_mem_nil, or_false] at hx
        rcases hx with rfl | rfl <;> decide
      have R30 := G3.box R2 (by omega)
      have R3 := R30.setOther ⟨g, 0, none⟩ (.int .i64 x) (by show g ≠ w.heap.size; omega)
      have S30 := G3.box S2 (by omega)
      have S3 : Box (wz.setCell ⟨g, 0, none⟩ (.int .i64 x)) g [.int .i64 x, .string nm, .string ot, .string da, .int .i64 (0 : Int)] := by simpa using S30.set 0 (.int .i64 x) (by simp)
      have C4 := cur_set C3 (Nat.le_refl _) ⟨g, 0, none⟩ (by show b < g; omega) (.int .i64 x)
      have G4 := chg_new (G2.trans G3) ⟨g, 0, none⟩ (by show w.heap.size ≤ g; omega) (.int .i64 x)
      have R9 := put5_box R3 (.int .i64 x) (.string nm) (.string ot) (.string da) (.int .i64 (0 : Int))
      have C9 := cur_put5 C4 (show b < w.heap.size by omega) (.int .i64 x) (.string nm) (.string ot) (.string da) (.int .i64 (0 : Int))
      have G9 := chg_put5 G4 (Nat.le_refl _) (.int .i64 x) (.string nm) (.string ot) (.string da) (.int .i64 (0 : Int))
      obtain ⟨sf0, sf1, sf2, sf3, sf4⟩ := box5_f S30
      obtain ⟨hsl, s0, s1, s2, s3, s4⟩ := box5_c S30
      obtain ⟨r0, r1, r2, r3, r4⟩ := box5_f R30
      obtain ⟨hrl, z0, z1, z2, z3, z4⟩ := box5_c R30
      have hgr : g ≠ w.heap.size := by omega
      have hgr2 : w.heap.size ≠ g := by omega
      clear KO hx C3 G2 G3 R2 S2 S30 R30 R3 S3 C4 G4
      go_wp2
      change bodyPost _ _ _ _ _ (put5 (wz.setCell ⟨g, 0, none⟩ (.int .i64 x)) w.heap.size (.int .i64 x) (.string nm) (.string ot) (.string da) (.int .i64 (0 : Int)))
      generalize put5 (wz.setCell ⟨g, 0, none⟩ (.int .i64 x)) w.heap.size (.int .i64 x) (.string nm) (.string ot) (.string da) (.int .i64 (0 : Int)) = W' at *
      obtain ⟨_, q0, q1, q2, q3, q4⟩ := box5_c R9
      exact bodyPost_ret (v := .agg #[.int .i64 x, .string nm, .string ot, .string da, .int .i64 (0 : Int)]) (by simp [results, Try.results51, go_sem, q0, q1, q2, q3, q4]) rfl ⟨x, nm, ot, da, (0 : Int), rfl, ⟨hx9, h00, hnm, hot, hda⟩, C9.mono (by omega), G9⟩
    | false =>
      have R9 := put5_box Ry (.int .i64 k) (.string nm) (.string ot) (.string da) (.int .i64 (0 : Int))
      have C9 := cur_put5 Cy (show b < w.heap.size by omega) (.int .i64 k) (.string nm) (.string ot) (.string da) (.int .i64 (0 : Int))
      have G9 := chg_put5 Gx (Nat.le_refl _) (.int .i64 k) (.string nm) (.string ot) (.string da) (.int .i64 (0 : Int))
      obtain ⟨hsl, s0, s1, s2, s3, s4⟩ := box5_c Sy
      obtain ⟨r0, r1, r2, r3, r4⟩ := box5_f Ry
      obtain ⟨hrl, z0, z1, z2, z3, z4⟩ := box5_c Ry
      have hgr : g ≠ w.heap.size := by omega
      have hgr2 : w.heap.size ≠ g := by omega
      clear Cy Gx Ry Sy
      go_wp2
      change bodyPost _ _ _ _ _ (put5 wy w.heap.size (.int .i64 k) (.string nm) (.string ot) (.string da) (.int .i64 (0 : Int)))
      generalize put5 wy w.heap.size (.int .i64 k) (.string nm) (.string ot) (.string da) (.int .i64 (0 : Int)) = W' at *
      obtain ⟨_, q0, q1, q2, q3, q4⟩ := box5_c R9
      exact bodyPost_ret (v := .agg #[.int .i64 k, .string nm, .string ot, .string da, .int .i64 (0 : Int)]) (by simp [results, Try.results51, go_sem, q0, q1, q2, q3, q4]) rfl ⟨k, nm, ot, da, (0 : Int), rfl, ⟨hk9, h00, hnm, hot, hda⟩, C9.mono (by omega), G9⟩
end Go.Proofs.Ytbgemebpfcbloaa
