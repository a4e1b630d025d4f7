/-
  Drawn edits, a drawn text of edits: DrawEditBytes, DrawRecoverVersion.
-/
import Derived.Test.YtenbdjlhcadhaaaGreatRW0
import Derived.Test.YtenbdjlhcadhaaaGreatTO
import Derived.Test.YtenbdjlhcadhaaaGreatNO
namespace Go.Proofs.YtenbdjlhcadhaaaGreat
open Go.RowKit
set_option linter.unusedVariables false
set_option maxRecDepth 100000

theorem below_chg {S : Nat → Prop} {w w1 w2 : World} (h : Below w.heap.size w w1) (k : Chg S w1 w2) (hs : ∀ j, S j → w.heap.size ≤ j) : Below w.heap.size w w2 := h.trans (k.below h.size hs)
theorem frameT_size (s : ByteArray) (h : s.size ≤ 1000) : (frameT s).size ≤ 1100 := by
  unfold frameT
  rw [if_pos h]
  show (frameL s.data.toList).toArray.size ≤ 1100
  have h1 := frameL_len s.data.toList
  have h2 := varL_len 8 s.data.toList.length (by rw [ba_len]; omega)
  rw [ba_len] at h1 h2
  rw [List.size_toArray]
  omega
def DEPost (w : World) (e : Ending) (w' : World) : Prop := ∃ (x y : Int) (u1 u2 : Value) (D : List Int) (A : List Mt), e = .returned (.agg #[.int .i64 x, .int .i64 y, u1, u2]) ∧ ED w' w.heap.size u1 u2 D A ∧ Below w.heap.size w w'
theorem DEPost.mk {w w' : World} {x y : Int} {u1 u2 : Value} {D : List Int} {A : List Mt} (h : ED w' w.heap.size u1 u2 D A) (hb : Below w.heap.size w w') : DEPost w (.returned (.agg #[.int .i64 x, .int .i64 y, u1, u2])) w' := ⟨x, y, u1, u2, D, A, rfl, h, hb⟩
set_option maxHeartbeats 4000000 in
theorem drawED_any (v0 : Value) (bl : List UInt8) (w : World) (hv : YL w v0 bl) (hl : bl.length ≤ maxLen) : Calls Tryz.prog 4 #[v0] w (DEPost w) := by
  unfold maxLen at hl
  have B2 := below_alloc w (.cells #[.int .i64 0, .int .i64 0, .slice none 0 0, .slice none 0 0] 26)
  have hv2 := hv.below B2
  have R := (Box.new w #[.int .i64 0, .int .i64 0, .slice none 0 0, .slice none 0 0] 26).alloc (.cells #[v0, .int .i64 0, .int .u64 0] 51)
  have hB := below2 w (.cells #[.int .i64 0, .int .i64 0, .slice none 0 0, .slice none 0 0] 26) (.cells #[v0, .int .i64 0, .int .u64 0] 51)
  have hcu := cur_new hv2
  simp only [World.size_alloc] at hcu
  obtain ⟨aa, cc, rfl, _⟩ := hv
  clear hv2 B2
  replace hl : bl.length ≤ 9223372036854775807 := by omega
  go_enter Tryz.func4, Tryz.ntmps4
  go_wp2_with fail
  refine (version_any (w.heap.size + 1) bl 0 _ hcu hl (by omega)).mono ?_
  rintro e w1 ⟨⟨nx, sq, u, l, rfl, vd⟩, hcu2, hch⟩
  have ov := vd.o
  have h30 := vd.len
  have hx1 := vd.x0
  have hx2 := vd.x1
  have hs1 := vd.y0
  have hs2 := vd.y1
  simp only [World.size_alloc] at ov
  clear vd
  replace R := hch.box R (by omega)
  replace hB := below_chg hB hch (fun k hk => by omega)
  have hcu := hcu2
  clear hch hcu2
  obtain ⟨va, vc, rfl⟩ := owns_shape ov
  go_wp2_with fail
  refine (edit_any (w.heap.size + 1) bl _ nx sq (.slice va l.length vc) (w.heap.size + 1 + 1) l _ hcu hl (by omega) ov (by omega) (by omega) hx1 (by omega) hs1 (by omega)).mono ?_
  rintro e w2 ⟨⟨ex, ey, u1, u2, D, A, rfl, he⟩, hcu2, hch⟩
  have hR1 := R.1
  replace R := hch.box R (by omega)
  replace hB := below_chg hB hch (fun k hk => by omega)
  have oD := he.oD
  have oA := he.oA
  obtain ⟨u1a, u1c, rfl⟩ := owns_shape oD
  obtain ⟨u2a, u2c, rfl⟩ := owns_shape oA
  obtain ⟨hrl, r0, r1, r2, r3, f0, f1, f2, f3⟩ := R.e4
  have hch2 := put4_chg w2 w.heap.size (.int .i64 ex) (.int .i64 ey) (.slice u1a D.length u1c) (.slice u2a A.length u2c)
  have oD2 := hch2.owns oD (fun g hg q => by have := owns_ge oD g hg; omega)
  have oA2 := hch2.owns oA (fun g hg q => by have := owns_ge oA g hg; omega)
  have hB2 := below_chg hB hch2 (fun k hk => by omega)
  have HE : Hid (ED _ w.heap.size (.slice u1a D.length u1c) (.slice u2a A.length u2c) D A) := ⟨owns_mono' oD2 (by omega), owns_mono' oA2 (by omega), he.dl, he.al, he.sz⟩
  clear hch hch2 oD oA oD2 oA2 he R hB hcu hcu2 ov
  go_wp2
  exact bodyPost_ret (v := .agg #[.int .i64 ex, .int .i64 ey, .slice u1a D.length u1c, .slice u2a A.length u2c]) (by simp [results, Tryz.results4, go_sem, r0, r1, r2, r3]) rfl (DEPost.mk HE.out hB2)
def DRPost (w : World) (e : Ending) (w' : World) : Prop := ∃ t : ByteArray, e = .returned (.string t) ∧ t.size ≤ 100100 ∧ Below w.heap.size w w'
theorem DRPost.mk {w w' : World} {t : ByteArray} (h : t.size ≤ 100100) (hb : Below w.heap.size w w') : DRPost w (.returned (.string t)) w' := ⟨t, rfl, h, hb⟩
set_option maxHeartbeats 16000000 in
theorem drawRV_any (v0 : Value) (bl : List UInt8) (w : World) (hv : YL w v0 bl) (hl : bl.length ≤ maxLen) : Calls Tryz.prog 9 #[v0] w (DRPost w) := by
  unfold maxLen at hl
  have hB := below_alloc w (.cells #[v0, .int .i64 0, .int .u64 0] 51)
  have hcu := cur_new hv
  obtain ⟨aa, cc, rfl, _⟩ := hv
  replace hl : bl.length ≤ 9223372036854775807 := by omega
  go_enter Tryz.func9, Tryz.ntmps9
  go_wp2_with fail
  refine (specNew_any _).mono ?_
  rintro e w1 ⟨rfl, hb1⟩
  replace hcu := hcu.chg hb1
  replace hB := below_then hB hb1
  clear hb1
  have X := Box.new w1 #[.int .i64 1, .int .i64 0, .slice none 0 0] 35
  have hA := below_alloc w1 (.cells #[.int .i64 1, .int .i64 0, .slice none 0 0] 35)
  have hbl := hcu.lt
  replace hcu := hcu.chg hA
  replace hB := below_then hB hA
  clear hA
  go_wp2_with fail
  obtain ⟨w2, hw2⟩ : ∃ w2, w2 = w1.alloc (.cells #[.int .i64 1, .int .i64 0, .slice none 0 0] 35) := ⟨_, rfl⟩
  rw [← hw2] at hcu hB X ⊢
  obtain ⟨x0, hx0⟩ : ∃ x0, x0 = w1.heap.size := ⟨_, rfl⟩
  rw [← hx0] at X hbl ⊢
  clear hw2 hx0
  refine (pick_any w.heap.size bl 0 6 _ hcu hl (by omega) (by omega)).mono ?_
  rintro e w3 ⟨⟨p, rfl, hp⟩, hcu2, hch⟩
  replace X := hch.box X (by omega)
  replace hB := below_chg hB hch (fun k hk => by omega)
  have hcu := hcu2
  have hp5 : p ≤ 5 := by omega
  clear hch hcu2 hp
  go_wp2_with fail
  go_loopw [5, 6] (fun t i wr => ∃ (j : Nat) (s : ByteArray) (nx sq : Int) (u : Value) (l : List Mt), j ≤ 5 ∧ t = .string s ∧ i = .int .i64 j ∧ s.size ≤ 1100 * (5 - j) ∧ Box wr x0 [.int .i64 nx, .int .i64 sq, u] ∧ wr.ownsRow (x0 + 1) 71 4 u l.length (flat4 l) ∧ goodV nx sq l = true ∧ Cur wr w.heap.size bl (2 + 202 * (5 - j)) ∧ Below w.heap.size w wr) (fun _ i _ => (intOf i).toNat)
  case atStart => exact ⟨p, ⟨#[]⟩, 1, 0, .slice none 0 0, [], hp5, rfl, rfl, Nat.zero_le _, X, World.ownsRow_nil _ _ _ _, by decide, hcu.mono (by omega), hB⟩
  case round =>
    clear X hcu hB hp5
    obtain ⟨j, s, nx, sq, u, l, hj5, rfl, rfl, hss, X, ov, hg, hcu, hB⟩ := hrel
    obtain ⟨va, vc, rfl⟩ := owns_shape ov
    obtain ⟨⟨hx1, hx2⟩, ⟨hs1, hs2⟩, h30, HLS0⟩ := goodV_bounds hg
    have HLS : Hid (∀ i (h : i < l.length), l[i].k.size ≤ 1048576 ∧ l[i].v.size ≤ 1048576) := fun i h => by have := HLS0 i h; omega
    have HGV : Hid (goodV nx sq l = true) := hg
    clear HLS0 hg
    by_cases hj0 : 0 < j
    · have gj : (0 : Int) < (j : Int) := by omega
      obtain ⟨hxl, x1, x2, x3, _⟩ := X.c3
      go_wp2_with fail
      refine (edit_any w.heap.size bl _ nx sq (.slice va l.length vc) (x0 + 1) l _ hcu hl (by omega) ov (by omega) (by omega) (by omega) (by omega) hs1 (by omega)).mono ?_
      rintro e k1 ⟨⟨ex, ey, u1, u2, D, A, rfl, he⟩, hcu2, hch⟩
      replace X := hch.box X (by omega)
      replace ov := hch.owns ov (fun g hg q => by have := owns_ge ov g hg; omega)
      replace hB := below_chg hB hch (fun k hk => by omega)
      have hcu := hcu2
      clear hch hcu2 hxl x1 x2 x3
      have oD := he.oD
      have oA := he.oA
      have hdl := he.dl
      have hal := he.al
      have HES : Hid (∀ i (h : i < A.length), A[i].k.size ≤ 1048576 ∧ A[i].v.size ≤ 1048576) := fun i h => by have := he.sz i h; omega
      obtain ⟨u1a, u1c, rfl⟩ := owns_shape oD
      obtain ⟨u2a, u2c, rfl⟩ := owns_shape oA
      clear he
      have E := Box.new k1 #[.int .i64 ex, .int .i64 ey, .slice u1a D.length u1c, .slice u2a A.length u2c] 26
      have hA := below_alloc k1 (.cells #[.int .i64 ex, .int .i64 ey, .slice u1a D.length u1c, .slice u2a A.length u2c] 26)
      have hkX := X.1
      replace X := X.below hA
      replace ov := owns_below ov hA
      replace oD := owns_below oD hA
      replace oA := owns_below oA hA
      replace hcu := hcu.chg hA
      replace hB := below_then hB hA
      clear hA
      obtain ⟨hxl, x1, x2, x3, _⟩ := X.c3
      obtain ⟨hel, e0, e1, e2, e3⟩ := E.c4
      go_wp2_with fail
      refine (specApply_any nx sq ex ey (.slice va l.length vc) (.slice u1a D.length u1c) (.slice u2a A.length u2c) l D A _ (IX_of_owns ov rfl) (IL_of_owns oD rfl) (IR_of_owns oA rfl) (by omega) (by omega) (by omega) HLS.out HES.out).mono ?_
      rintro e k2 ⟨u, rfl, on, hb2⟩
      have hkc := hB.size
      have hkX2 := X.1
      replace X := X.below hb2
      replace E := E.below hb2
      replace ov := owns_below ov hb2
      replace oD := owns_below oD hb2
      replace oA := owns_below oA hb2
      replace hcu := hcu.chg hb2
      replace hB := below_then hB hb2
      have HG : Hid (apB nx sq l ex ey D A = true → goodV (apX nx sq l ex ey D A) (apY nx sq l ex ey D A) (apA nx sq l ex ey D A) = true) := ap_good
      clear hb2 hxl x1 x2 x3 hel e0 e1 e2 e3
      have hkX3 := X.1
      generalize apB nx sq l ex ey D A = ok at *
      generalize apX nx sq l ex ey D A = zx at *
      generalize apY nx sq l ex ey D A = zy at *
      generalize apA nx sq l ex ey D A = Lz at *
      obtain ⟨za, zc, rfl⟩ := owns_shape on
      replace on := owns_mono' on (show x0 + 1 ≤ _ from hkX2)
      have Z := Box.new k2 #[.int .i64 zx, .int .i64 zy, .slice za Lz.length zc] 35
      have hA := below_alloc k2 (.cells #[.int .i64 zx, .int .i64 zy, .slice za Lz.length zc] 35)
      replace X := X.below hA
      replace E := E.below hA
      replace ov := owns_below ov hA
      replace oD := owns_below oD hA
      replace oA := owns_below oA hA
      replace on := owns_below on hA
      replace hcu := hcu.chg hA
      replace hB := below_then hB hA
      clear hA
      obtain ⟨hel, e0, e1, e2, e3⟩ := E.c4
      go_wp2_with fail
      refine (specEditBytes_any ex ey (.slice u1a D.length u1c) (.slice u2a A.length u2c) D A _ (IL_of_owns oD rfl) (IR_of_owns oA rfl) (by omega) (by omega) HES.out).mono ?_
      rintro e k3 ⟨rfl, hb3⟩
      replace X := X.below hb3
      replace Z := Z.below hb3
      replace ov := owns_below ov hb3
      replace on := owns_below on hb3
      replace hcu := hcu.chg hb3
      replace hB := below_then hB hb3
      clear hb3 hel e0 e1 e2 e3 E oD oA HES
      have hts := edT_size ex ey D A
      generalize edT ex ey D A = t at *
      generalize edB ex ey D A = is at *
      clear hdl hal
      cases is with
      | false =>
        cases ok with
        | false =>
          clear on Z
          go_wp2
          go_roundw
          case rel => exact ⟨j - 1, s, nx, sq, _, l, by omega, rfl, by go_num, by omega, X, ov, HGV.out, hcu.mono (by omega), hB⟩
          case measure => simp [intOf]; omega
        | true =>
          clear on Z
          go_wp2
          go_roundw
          case rel => exact ⟨j - 1, s, nx, sq, _, l, by omega, rfl, by go_num, by omega, X, ov, HGV.out, hcu.mono (by omega), hB⟩
          case measure => simp [intOf]; omega
      | true =>
        cases ok with
        | false =>
          go_wp2_with fail
          refine (one_any w.heap.size bl _ 8 _ hcu hl (by omega) (by omega)).mono ?_
          rintro e k4 ⟨⟨c, rfl⟩, hcu2, hch⟩
          replace X := hch.box X (by omega)
          replace Z := hch.box Z (by omega)
          replace ov := hch.owns ov (fun g hg q => by have := owns_ge ov g hg; omega)
          replace on := hch.owns on (fun g hg q => by have := owns_ge on g hg; omega)
          replace hB := below_chg hB hch (fun k hk => by omega)
          have hcu := hcu2
          clear hch hcu2
          cases c with
          | false =>
            clear on Z
            go_wp2
            go_roundw
            case rel => exact ⟨j - 1, s, nx, sq, _, l, by omega, rfl, by go_num, by omega, X, ov, HGV.out, hcu.mono (by omega), hB⟩
            case measure => simp [intOf]; omega
          | true =>
            go_wp2_with fail
            refine (l2Frame_any t _ hts).mono ?_
            rintro e k9 ⟨rfl, hb9⟩
            replace X := X.below hb9
            replace Z := Z.below hb9
            replace ov := owns_below ov hb9
            replace on := owns_below on hb9
            replace hcu := hcu.chg hb9
            replace hB := below_then hB hb9
            have hfs := frameT_size t hts
            generalize frameT t = ft at *
            have hcs : (s ++ ft).size ≤ 1100 * (5 - (j - 1)) := by rw [ByteArray.size_append]; omega
            have hcl : s.size + ft.size ≤ 9223372036854775807 := by omega
            clear hb9 hfs hts
            clear on Z
            go_wp2
            go_roundw
            case rel => exact ⟨j - 1, s ++ ft, nx, sq, _, l, by omega, rfl, by go_num, hcs, X, ov, HGV.out, hcu.mono (by omega), hB⟩
            case measure => simp [intOf]; omega
        | true =>
          go_wp2_with fail
          refine (l2Frame_any t _ hts).mono ?_
          rintro e k9 ⟨rfl, hb9⟩
          replace X := X.below hb9
          replace Z := Z.below hb9
          replace ov := owns_below ov hb9
          replace on := owns_below on hb9
          replace hcu := hcu.chg hb9
          replace hB := below_then hB hb9
          have hfs := frameT_size t hts
          generalize frameT t = ft at *
          have hcs : (s ++ ft).size ≤ 1100 * (5 - (j - 1)) := by rw [ByteArray.size_append]; omega
          have hcl : s.size + ft.size ≤ 9223372036854775807 := by omega
          clear hb9 hfs hts
          have HG2 : Hid (goodV zx zy Lz = true) := HG.out (by trivial)
          have hk9 := X.1
          have X2 := put3_box X (.int .i64 zx) (.int .i64 zy) (.slice za Lz.length zc)
          have hch := put3_chg k9 x0 (.int .i64 zx) (.int .i64 zy) (.slice za Lz.length zc)
          have on2 := hch.owns on (fun g hg q => by have := owns_ge on g hg; omega)
          have hB2 := below_chg hB hch (fun k hk => by omega)
          have hcu2 := cur_low hcu (B := w.heap.size + 1) (by omega) (hch.below (B := w.heap.size + 1) (by omega) (fun k hk => by omega))
          obtain ⟨hzl, z0, z1, z2, _⟩ := Z.c3
          obtain ⟨hxl, x1, x2, x3, f0, f1, f2⟩ := X.c3
          clear hch hcu hB ov on HG X Z
          go_wp2
          go_roundw
          case rel => exact ⟨j - 1, s ++ ft, zx, zy, _, Lz, by omega, rfl, by go_num, hcs, X2, on2, HG2.out, hcu2.mono (by omega), hB2⟩
          case measure => simp [intOf]; omega
    · obtain rfl : j = 0 := by omega
      clear X ov HLS HGV
      go_wp2_with fail
      refine (torn_any w.heap.size bl _ s _ hcu hl (by omega) (by omega)).mono ?_
      rintro e k1 ⟨⟨t, rfl, hts⟩, hcu2, hch⟩
      replace hB := below_chg hB hch (fun k hk => by omega)
      clear hch hcu2 hcu
      go_wp2
      go_ret
      exact DRPost.mk (by omega) hB
end Go.Proofs.YtenbdjlhcadhaaaGreat
