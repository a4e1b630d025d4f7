/-
  The cursor's item.
-/
import Derived.Test.YtjenogmpmkkbiaaX1
import Derived.Test.YtjenogmpmkkbiaaR3
namespace Go.Proofs.Ytjenogmpmkkbiaa
open Go.RowKit
set_option linter.unusedVariables false
set_option maxRecDepth 100000

theorem cur_put4 {w : World} {b g : Nat} {l : List UInt8} {K : Nat} (h : Cur w b l K) (hg : b < g) (x y z t : Value) : Cur (put4 w g x y z t) b l K :=
  cur_set (cur_set (cur_set (cur_set h (Nat.le_refl _) _ hg _) (Nat.le_refl _) _ hg _) (Nat.le_refl _) _ hg _) (Nat.le_refl _) _ hg _
theorem chg_put4 {S : Nat → Prop} {w w1 : World} (h : Chg S w w1) {g : Nat} (hg : w.heap.size ≤ g) (x y z t : Value) : Chg S w (put4 w1 g x y z t) :=
  chg_new (chg_new (chg_new (chg_new h _ hg _) _ hg _) _ hg _) _ hg _

def Stop (p : Prop) : Prop := p
theorem Stop.go {p : Prop} (h : Stop p) : p := h

set_option maxHeartbeats 8000000 in
theorem item_any (b : Nat) (l : List UInt8) (K : Nat) (w : World) (h : Cur w b l K) (hl : l.length ≤ 9223372036854775807) (hK : K ≤ 1000000) :
    Calls Try.prog 99 #[.pointer (some ⟨b, 0, none⟩)] w fun e w' => (∃ x : It, e = .returned (.agg #[.string x.k, .int .i64 x.n, .int .i64 x.d, .string x.v]) ∧ x.k.size ≤ 17 ∧ x.v.size ≤ 41) ∧ Cur w' b l (K + 40) ∧ Chg (· = b) w w' := by
  obtain ⟨i0, hi, hz0, hz1, hz2⟩ := info_parts Try.info5
  have hbw := h.lt
  have R := Box.new w #[.string ⟨#[]⟩, .int .i64 0, .int .i64 0, .string ⟨#[]⟩] 83
  have C := h.chg (below_alloc w (.cells #[.string ⟨#[]⟩, .int .i64 0, .int .i64 0, .string ⟨#[]⟩] 83))
  have G : Chg (· = b) w (w.alloc (.cells #[.string ⟨#[]⟩, .int .i64 0, .int .i64 0, .string ⟨#[]⟩] 83)) := Chg.of_below (below_alloc _ _)
  go_enter Try.func99, Try.ntmps99
  go_wp2_with fail
  refine (key_any b l K _ C hl (by omega)).mono ?_
  rintro e w1 ⟨⟨t, rfl, ht⟩, C1, G1⟩
  replace R := G1.box R (by omega)
  replace G := G.trans G1
  clear C G1 h
  go_wp2_with fail
  refine (pick_any b l (K + 4) 20 _ C1 hl (by omega) (by omega)).mono ?_
  rintro e w2 ⟨⟨x, rfl, hx⟩, C2, G2⟩
  replace R := G2.box R (by omega)
  replace G := G.trans G2
  clear C1 G2 hx
  go_wp2_with fail
  refine (pick_any b l (K + 6) 5 _ C2 hl (by omega) (by omega)).mono ?_
  rintro e w3 ⟨⟨y, rfl, hy⟩, C3, G3⟩
  replace R := G3.box R (by omega)
  replace G := G.trans G3
  have hy5 : y ≤ 4 := by omega
  clear C2 G3 hy
  go_wp2_with fail
  refine (text_any b l (K + 8) y _ C3 hl (by omega) (by omega)).mono ?_
  rintro e w4 ⟨⟨u, rfl, hu⟩, C4, G4⟩
  replace R := G4.box R (by omega)
  replace G := G.trans G4
  have C5 := (C4.mono (show K + 8 + 2 * y ≤ K + 16 from by omega)).chg (below_alloc w4 (.cells #[.string t, .int .i64 (x : Int), .int .i64 1, .string u] 83))
  have hb4 := C4.lt
  have X := Box.new w4 #[.string t, .int .i64 (x : Int), .int .i64 1, .string u] 83
  have hrw : w.heap.size < w4.heap.size := R.1
  replace R := R.alloc (.cells #[.string t, .int .i64 (x : Int), .int .i64 1, .string u] 83)
  have G5 := G.trans (Chg.of_below (S := (· = b)) (below_alloc w4 (.cells #[.string t, .int .i64 (x : Int), .int .i64 1, .string u] 83)))
  have hu4 : u.size ≤ 41 := by omega
  clear C3 C4 G G4 hu hy5
  go_wp2_with fail
  refine (one_any b l (K + 16) 4 _ C5 hl (by omega) (by omega)).mono ?_
  rintro e w5 ⟨⟨z, rfl⟩, C6, G6⟩
  replace R := G6.box R (by omega)
  replace X := G6.box X (by omega)
  have G7 := G5.trans G6
  obtain ⟨xb, hxb⟩ : ∃ xb, xb = w4.heap.size := ⟨_, rfl⟩
  rw [← hxb] at X hrw ⊢
  have hbx : b < xb := by omega
  clear C5 G5 G6
  clear hxb hb4
  cases z with
  | true =>
    obtain ⟨⟨f0, f1, f2, f3⟩, zz, x0, x1, x2, x3⟩ := Box.f4 X
    have X2 : Box ((w5.setCell ⟨xb, 2, none⟩ (.int .i64 0)).setCell ⟨xb, 3, none⟩ (.string ⟨#[]⟩)) xb [.string t, .int .i64 (x : Int), .int .i64 0, .string ⟨#[]⟩] := (X.set 2 (.int .i64 0) (by simp)).set 3 (.string ⟨#[]⟩) (by simp)
    have R2 : Box ((w5.setCell ⟨xb, 2, none⟩ (.int .i64 0)).setCell ⟨xb, 3, none⟩ (.string ⟨#[]⟩)) w.heap.size [.string ⟨#[]⟩, .int .i64 0, .int .i64 0, .string ⟨#[]⟩] := (R.setOther _ _ (by simp; omega)).setOther _ _ (by simp; omega)
    have C7 : Cur ((w5.setCell ⟨xb, 2, none⟩ (.int .i64 0)).setCell ⟨xb, 3, none⟩ (.string ⟨#[]⟩)) b l (K + 18) := cur_set (cur_set C6 (by omega) _ hbx _) (Nat.le_refl _) _ hbx _
    have G8 : Chg (· = b) w ((w5.setCell ⟨xb, 2, none⟩ (.int .i64 0)).setCell ⟨xb, 3, none⟩ (.string ⟨#[]⟩)) := chg_new (chg_new G7 _ (by simp; omega) _) _ (by simp; omega) _
    obtain ⟨W5, hW5⟩ : ∃ W5, W5 = (w5.setCell ⟨xb, 2, none⟩ (.int .i64 0)).setCell ⟨xb, 3, none⟩ (.string ⟨#[]⟩) := ⟨_, rfl⟩
    rw [← hW5] at X2 R2 C7 G8
    go_wp2_with fail
    rw [← hW5]
    clear hW5 X R C6 G7 x0 x1 x2 x3 f0 f1 f2 f3 zz
    refine (pick_any b l (K + 18) 60 _ C7 hl (by omega) (by omega)).mono ?_
    rintro e w6 ⟨⟨p, rfl, hp⟩, C8, G9⟩
    replace R2 := G9.box R2 (by omega)
    replace X2 := G9.box X2 (by omega)
    have GA := G8.trans G9
    clear C7 G8 G9 hp
    by_cases p0 : p = 0
    · subst p0
      have C9 := C8.chg (below_alloc w6 (.cells #[.int .i64 (-1), .int .i64 1000000000, .int .i64 1000000001] 3))
      have hb6 := C8.lt
      have hx6 := X2.1
      have X3 := X2.alloc (.cells #[.int .i64 (-1), .int .i64 1000000000, .int .i64 1000000001] 3)
      have R3 := R2.alloc (.cells #[.int .i64 (-1), .int .i64 1000000000, .int .i64 1000000001] 3)
      have GB1 := GA.trans (Chg.of_below (S := (· = b)) (below_alloc w6 (.cells #[.int .i64 (-1), .int .i64 1000000000, .int .i64 1000000001] 3)))
      have BX : Box (w6.alloc (.cells #[.int .i64 (-1), .int .i64 1000000000, .int .i64 1000000001] 3)) w6.heap.size (([-1, 1000000000, 1000000001] : List Int).map (Value.int .i64)) := Box.new w6 #[.int .i64 (-1), .int .i64 1000000000, .int .i64 1000000001] 3
      clear C8 GA X2 R2
      go_wp2_with fail
      refine (among_any b l (K + 20) w6.heap.size [-1, 1000000000, 1000000001] _ C9 hl (by omega) BX (by omega) (by decide) (by decide)).mono ?_
      rintro e w7 ⟨⟨q, rfl, hq⟩, CA, GC⟩
      replace X3 := GC.box X3 (by omega)
      replace R3 := GC.box R3 (by omega)
      have GD := GB1.trans GC
      clear C9 BX GB1 GC hq hx6 hb6
      obtain ⟨⟨f0, f1, f2, f3⟩, zz, x0, x1, x2, x3⟩ := Box.f4 X3
      have X4 : Box (w7.setCell ⟨xb, 1, none⟩ (.int .i64 q)) xb [.string t, .int .i64 q, .int .i64 0, .string ⟨#[]⟩] := X3.set 1 (.int .i64 q) (by simp)
      have R4 : Box (w7.setCell ⟨xb, 1, none⟩ (.int .i64 q)) w.heap.size [.string ⟨#[]⟩, .int .i64 0, .int .i64 0, .string ⟨#[]⟩] := R3.setOther _ _ (by simp; omega)
      have CC : Cur (w7.setCell ⟨xb, 1, none⟩ (.int .i64 q)) b l (K + 22) := cur_set CA (by omega) _ hbx _
      have GE : Chg (· = b) w (w7.setCell ⟨xb, 1, none⟩ (.int .i64 q)) := chg_new GD _ (by simp; omega) _
      obtain ⟨⟨g0, g1, g2, g3⟩, _, r0, r1, r2, r3⟩ := Box.f4 R3
      have RB := put4_box R4 (.string t) (.int .i64 q) (.int .i64 0) (.string ⟨#[]⟩)
      have CB := cur_put4 (CC.mono (show _ ≤ K + 40 from by omega)) hbw (.string t) (.int .i64 q) (.int .i64 0) (.string ⟨#[]⟩)
      have GB := chg_put4 GE (Nat.le_refl _) (.string t) (.int .i64 q) (.int .i64 0) (.string ⟨#[]⟩)
      clear X4 R4 CC GE X3 R3 CA GD
      go_wp2
      change bodyPost _ _ _ _ _ (put4 (w7.setCell ⟨xb, 1, none⟩ (.int .i64 q)) w.heap.size (.string t) (.int .i64 q) (.int .i64 0) (.string ⟨#[]⟩))
      generalize put4 (w7.setCell ⟨xb, 1, none⟩ (.int .i64 q)) w.heap.size (.string t) (.int .i64 q) (.int .i64 0) (.string ⟨#[]⟩) = W9 at *
      obtain ⟨_, s0, s1, s2, s3⟩ := Box.c4 RB
      exact bodyPost_ret (v := .agg #[.string t, .int .i64 q, .int .i64 0, .string ⟨#[]⟩]) (by simp [results, Try.results99, go_sem, s0, s1, s2, s3]) rfl ⟨⟨⟨t, q, 0, ⟨#[]⟩⟩, rfl, ht, (Nat.zero_le _)⟩, CB, GB⟩
    · have g0p : ((p : Int) == 0) = false := by simp [p0]
      by_cases p1 : p = 1
      · subst p1
        clear g0p p0
        go_wp2_with fail
        refine (pick_any b l (K + 20) 2 _ C8 hl (by omega) (by omega)).mono ?_
        rintro e w7 ⟨⟨q, rfl, hq⟩, CA, GC⟩
        replace X2 := GC.box X2 (by omega)
        replace R2 := GC.box R2 (by omega)
        have GD := GA.trans GC
        have hq1 : q ≤ 1 := by omega
        clear C8 GA GC hq
        obtain ⟨nn, hnn⟩ : ∃ nn, nn = 40 + q := ⟨_, rfl⟩
        have En : (40 : Int) + (q : Int) = (nn : Int) := by omega
        have hn41 : nn ≤ 41 := by omega
        clear hnn
        have hb7 := CA.lt
        have hx7 := X2.1
        have hr7 := R2.1
        go_wp2_with (at_make; refine wpList_make_full _ rfl _ _ 22 rfl w7.heap.size 5 i0 _ 1 Try.underlying22 hi hz0 hz1 .i64 .i64 _ _ nn rfl rfl rfl rfl (by rw [hz2]; omega) (by unfold maxLen; omega) (Nat.le_refl _) ?_; intro w8 hown8 hgr8; refine Stop.go ?_)
        rw [madeB] at hown8
        have hb8 : Below w7.heap.size w7 w8 := (Below.refl _ _).grown hgr8 (Nat.le_refl _) (by simp)
        have hcv := conv_back (l := List.replicate nn 0) (by simpa using hown8)
        simp only [List.length_replicate] at hcv
        have hts : (⟨(List.replicate nn (0 : UInt8)).toArray⟩ : ByteArray).size ≤ 41 := by show (List.replicate nn (0 : UInt8)).toArray.size ≤ 41; simp; exact hn41
        generalize (⟨(List.replicate nn (0 : UInt8)).toArray⟩ : ByteArray) = T at *
        replace X2 := X2.below hb8
        replace R2 := R2.below hb8
        have CB8 := CA.chg hb8
        have GF := GD.trans (Chg.of_below (S := (· = b)) hb8)
        clear CA GD hown8 hgr8 hb8
        obtain ⟨⟨f0, f1, f2, f3⟩, zz, x0, x1, x2, x3⟩ := Box.f4 X2
        obtain ⟨⟨g0, g1, g2, g3⟩, _, r0, r1, r2, r3⟩ := Box.f4 R2
        have R4 : Box (w8.setCell ⟨xb, 3, none⟩ (.string T)) w.heap.size [.string ⟨#[]⟩, .int .i64 0, .int .i64 0, .string ⟨#[]⟩] := R2.setOther _ _ (by simp; omega)
        have CC : Cur (w8.setCell ⟨xb, 3, none⟩ (.string T)) b l (K + 22) := cur_set CB8 (by omega) _ hbx _
        have GE : Chg (· = b) w (w8.setCell ⟨xb, 3, none⟩ (.string T)) := chg_new GF _ (by simp; omega) _
        have RB := put4_box R4 (.string t) (.int .i64 (x : Int)) (.int .i64 0) (.string T)
        have CB := cur_put4 (CC.mono (show _ ≤ K + 40 from by omega)) hbw (.string t) (.int .i64 (x : Int)) (.int .i64 0) (.string T)
        have GB := chg_put4 GE (Nat.le_refl _) (.string t) (.int .i64 (x : Int)) (.int .i64 0) (.string T)
        clear R4 CC GE X2 R2 CB8 GF
        unfold Stop
        go_wp2
        change bodyPost _ _ _ _ _ (put4 (w8.setCell ⟨xb, 3, none⟩ (.string T)) w.heap.size (.string t) (.int .i64 (x : Int)) (.int .i64 0) (.string T))
        generalize put4 (w8.setCell ⟨xb, 3, none⟩ (.string T)) w.heap.size (.string t) (.int .i64 (x : Int)) (.int .i64 0) (.string T) = W9 at *
        obtain ⟨_, s0, s1, s2, s3⟩ := Box.c4 RB
        exact bodyPost_ret (v := .agg #[.string t, .int .i64 (x : Int), .int .i64 0, .string T]) (by simp [results, Try.results99, go_sem, s0, s1, s2, s3]) rfl ⟨⟨⟨t, (x : Int), 0, T⟩, rfl, ht, hts⟩, CB, GB⟩
      · have g1p : ((p : Int) == 1) = false := by simp; omega
        clear p0 p1
        obtain ⟨⟨f0, f1, f2, f3⟩, zz, r0, r1, r2, r3⟩ := Box.f4 R2
        obtain ⟨_, x0, x1, x2, x3⟩ := Box.c4 X2
        have RB := put4_box R2 (.string t) (.int .i64 (x : Int)) (.int .i64 0) (.string ⟨#[]⟩)
        have CB := cur_put4 (C8.mono (show _ ≤ K + 40 from by omega)) hbw (.string t) (.int .i64 (x : Int)) (.int .i64 0) (.string ⟨#[]⟩)
        have GB := chg_put4 GA (Nat.le_refl _) (.string t) (.int .i64 (x : Int)) (.int .i64 0) (.string ⟨#[]⟩)
        go_wp2
        change bodyPost _ _ _ _ _ (put4 _ w.heap.size (.string t) (.int .i64 (x : Int)) (.int .i64 0) (.string ⟨#[]⟩))
        generalize put4 _ w.heap.size (.string t) (.int .i64 (x : Int)) (.int .i64 0) (.string ⟨#[]⟩) = W9 at *
        obtain ⟨_, s0, s1, s2, s3⟩ := Box.c4 RB
        exact bodyPost_ret (v := .agg #[.string t, .int .i64 (x : Int), .int .i64 0, .string ⟨#[]⟩]) (by simp [results, Try.results99, go_sem, s0, s1, s2, s3]) rfl ⟨⟨⟨t, (x : Int), 0, ⟨#[]⟩⟩, rfl, ht, (Nat.zero_le _)⟩, CB, GB⟩
  | false =>
    have X2 := X
    have R2 := R
    have C7 : Cur w5 b l (K + 18) := C6.mono (by omega)
    have G8 := G7
    clear X R C6 G7
    go_wp2_with fail
    refine (pick_any b l (K + 18) 60 _ C7 hl (by omega) (by omega)).mono ?_
    rintro e w6 ⟨⟨p, rfl, hp⟩, C8, G9⟩
    replace R2 := G9.box R2 (by omega)
    replace X2 := G9.box X2 (by omega)
    have GA := G8.trans G9
    clear C7 G8 G9 hp
    by_cases p0 : p = 0
    · subst p0
      have C9 := C8.chg (below_alloc w6 (.cells #[.int .i64 (-1), .int .i64 1000000000, .int .i64 1000000001] 3))
      have hb6 := C8.lt
      have hx6 := X2.1
      have X3 := X2.alloc (.cells #[.int .i64 (-1), .int .i64 1000000000, .int .i64 1000000001] 3)
      have R3 := R2.alloc (.cells #[.int .i64 (-1), .int .i64 1000000000, .int .i64 1000000001] 3)
      have GB1 := GA.trans (Chg.of_below (S := (· = b)) (below_alloc w6 (.cells #[.int .i64 (-1), .int .i64 1000000000, .int .i64 1000000001] 3)))
      have BX : Box (w6.alloc (.cells #[.int .i64 (-1), .int .i64 1000000000, .int .i64 1000000001] 3)) w6.heap.size (([-1, 1000000000, 1000000001] : List Int).map (Value.int .i64)) := Box.new w6 #[.int .i64 (-1), .int .i64 1000000000, .int .i64 1000000001] 3
      clear C8 GA X2 R2
      go_wp2_with fail
      refine (among_any b l (K + 20) w6.heap.size [-1, 1000000000, 1000000001] _ C9 hl (by omega) BX (by omega) (by decide) (by decide)).mono ?_
      rintro e w7 ⟨⟨q, rfl, hq⟩, CA, GC⟩
      replace X3 := GC.box X3 (by omega)
      replace R3 := GC.box R3 (by omega)
      have GD := GB1.trans GC
      clear C9 BX GB1 GC hq hx6 hb6
      obtain ⟨⟨f0, f1, f2, f3⟩, zz, x0, x1, x2, x3⟩ := Box.f4 X3
      have X4 : Box (w7.setCell ⟨xb, 1, none⟩ (.int .i64 q)) xb [.string t, .int .i64 q, .int .i64 1, .string u] := X3.set 1 (.int .i64 q) (by simp)
      have R4 : Box (w7.setCell ⟨xb, 1, none⟩ (.int .i64 q)) w.heap.size [.string ⟨#[]⟩, .int .i64 0, .int .i64 0, .string ⟨#[]⟩] := R3.setOther _ _ (by simp; omega)
      have CC : Cur (w7.setCell ⟨xb, 1, none⟩ (.int .i64 q)) b l (K + 22) := cur_set CA (by omega) _ hbx _
      have GE : Chg (· = b) w (w7.setCell ⟨xb, 1, none⟩ (.int .i64 q)) := chg_new GD _ (by simp; omega) _
      obtain ⟨⟨g0, g1, g2, g3⟩, _, r0, r1, r2, r3⟩ := Box.f4 R3
      have RB := put4_box R4 (.string t) (.int .i64 q) (.int .i64 1) (.string u)
      have CB := cur_put4 (CC.mono (show _ ≤ K + 40 from by omega)) hbw (.string t) (.int .i64 q) (.int .i64 1) (.string u)
      have GB := chg_put4 GE (Nat.le_refl _) (.string t) (.int .i64 q) (.int .i64 1) (.string u)
      clear X4 R4 CC GE X3 R3 CA GD
      go_wp2
      change bodyPost _ _ _ _ _ (put4 (w7.setCell ⟨xb, 1, none⟩ (.int .i64 q)) w.heap.size (.string t) (.int .i64 q) (.int .i64 1) (.string u))
      generalize put4 (w7.setCell ⟨xb, 1, none⟩ (.int .i64 q)) w.heap.size (.string t) (.int .i64 q) (.int .i64 1) (.string u) = W9 at *
      obtain ⟨_, s0, s1, s2, s3⟩ := Box.c4 RB
      exact bodyPost_ret (v := .agg #[.string t, .int .i64 q, .int .i64 1, .string u]) (by simp [results, Try.results99, go_sem, s0, s1, s2, s3]) rfl ⟨⟨⟨t, q, 1, u⟩, rfl, ht, hu4⟩, CB, GB⟩
    · have g0p : ((p : Int) == 0) = false := by simp [p0]
      by_cases p1 : p = 1
      · subst p1
        clear g0p p0
        go_wp2_with fail
        refine (pick_any b l (K + 20) 2 _ C8 hl (by omega) (by omega)).mono ?_
        rintro e w7 ⟨⟨q, rfl, hq⟩, CA, GC⟩
        replace X2 := GC.box X2 (by omega)
        replace R2 := GC.box R2 (by omega)
        have GD := GA.trans GC
        have hq1 : q ≤ 1 := by omega
        clear C8 GA GC hq
        obtain ⟨nn, hnn⟩ : ∃ nn, nn = 40 + q := ⟨_, rfl⟩
        have En : (40 : Int) + (q : Int) = (nn : Int) := by omega
        have hn41 : nn ≤ 41 := by omega
        clear hnn
        have hb7 := CA.lt
        have hx7 := X2.1
        have hr7 := R2.1
        go_wp2_with (at_make; refine wpList_make_full _ rfl _ _ 22 rfl w7.heap.size 5 i0 _ 1 Try.underlying22 hi hz0 hz1 .i64 .i64 _ _ nn rfl rfl rfl rfl (by rw [hz2]; omega) (by unfold maxLen; omega) (Nat.le_refl _) ?_; intro w8 hown8 hgr8; refine Stop.go ?_)
        rw [madeB] at hown8
        have hb8 : Below w7.heap.size w7 w8 := (Below.refl _ _).grown hgr8 (Nat.le_refl _) (by simp)
        have hcv := conv_back (l := List.replicate nn 0) (by simpa using hown8)
        simp only [List.length_replicate] at hcv
        have hts : (⟨(List.replicate nn (0 : UInt8)).toArray⟩ : ByteArray).size ≤ 41 := by show (List.replicate nn (0 : UInt8)).toArray.size ≤ 41; simp; exact hn41
        generalize (⟨(List.replicate nn (0 : UInt8)).toArray⟩ : ByteArray) = T at *
        replace X2 := X2.below hb8
        replace R2 := R2.below hb8
        have CB8 := CA.chg hb8
        have GF := GD.trans (Chg.of_below (S := (· = b)) hb8)
        clear CA GD hown8 hgr8 hb8
        obtain ⟨⟨f0, f1, f2, f3⟩, zz, x0, x1, x2, x3⟩ := Box.f4 X2
        obtain ⟨⟨g0, g1, g2, g3⟩, _, r0, r1, r2, r3⟩ := Box.f4 R2
        have R4 : Box (w8.setCell ⟨xb, 3, none⟩ (.string T)) w.heap.size [.string ⟨#[]⟩, .int .i64 0, .int .i64 0, .string ⟨#[]⟩] := R2.setOther _ _ (by simp; omega)
        have CC : Cur (w8.setCell ⟨xb, 3, none⟩ (.string T)) b l (K + 22) := cur_set CB8 (by omega) _ hbx _
        have GE : Chg (· = b) w (w8.setCell ⟨xb, 3, none⟩ (.string T)) := chg_new GF _ (by simp; omega) _
        have RB := put4_box R4 (.string t) (.int .i64 (x : Int)) (.int .i64 1) (.string T)
        have CB := cur_put4 (CC.mono (show _ ≤ K + 40 from by omega)) hbw (.string t) (.int .i64 (x : Int)) (.int .i64 1) (.string T)
        have GB := chg_put4 GE (Nat.le_refl _) (.string t) (.int .i64 (x : Int)) (.int .i64 1) (.string T)
        clear R4 CC GE X2 R2 CB8 GF
        unfold Stop
        go_wp2
        change bodyPost _ _ _ _ _ (put4 (w8.setCell ⟨xb, 3, none⟩ (.string T)) w.heap.size (.string t) (.int .i64 (x : Int)) (.int .i64 1) (.string T))
        generalize put4 (w8.setCell ⟨xb, 3, none⟩ (.string T)) w.heap.size (.string t) (.int .i64 (x : Int)) (.int .i64 1) (.string T) = W9 at *
        obtain ⟨_, s0, s1, s2, s3⟩ := Box.c4 RB
        exact bodyPost_ret (v := .agg #[.string t, .int .i64 (x : Int), .int .i64 1, .string T]) (by simp [results, Try.results99, go_sem, s0, s1, s2, s3]) rfl ⟨⟨⟨t, (x : Int), 1, T⟩, rfl, ht, hts⟩, CB, GB⟩
      · have g1p : ((p : Int) == 1) = false := by simp; omega
        clear p0 p1
        obtain ⟨⟨f0, f1, f2, f3⟩, zz, r0, r1, r2, r3⟩ := Box.f4 R2
        obtain ⟨_, x0, x1, x2, x3⟩ := Box.c4 X2
        have RB := put4_box R2 (.string t) (.int .i64 (x : Int)) (.int .i64 1) (.string u)
        have CB := cur_put4 (C8.mono (show _ ≤ K + 40 from by omega)) hbw (.string t) (.int .i64 (x : Int)) (.int .i64 1) (.string u)
        have GB := chg_put4 GA (Nat.le_refl _) (.string t) (.int .i64 (x : Int)) (.int .i64 1) (.string u)
        go_wp2
        change bodyPost _ _ _ _ _ (put4 _ w.heap.size (.string t) (.int .i64 (x : Int)) (.int .i64 1) (.string u))
        generalize put4 _ w.heap.size (.string t) (.int .i64 (x : Int)) (.int .i64 1) (.string u) = W9 at *
        obtain ⟨_, s0, s1, s2, s3⟩ := Box.c4 RB
        exact bodyPost_ret (v := .agg #[.string t, .int .i64 (x : Int), .int .i64 1, .string u]) (by simp [results, Try.results99, go_sem, s0, s1, s2, s3]) rfl ⟨⟨⟨t, (x : Int), 1, u⟩, rfl, ht, hu4⟩, CB, GB⟩
end Go.Proofs.Ytjenogmpmkkbiaa
