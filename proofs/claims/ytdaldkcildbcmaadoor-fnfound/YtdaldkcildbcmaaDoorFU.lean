/-
  The draws of SeekSkip and FindSkip.
-/
import Derived.Test.YtdaldkcildbcmaaDoorFT
namespace Go.Proofs.YtdaldkcildbcmaaDoor
open Go.RowKit
set_option linter.unusedVariables false
set_option maxRecDepth 100000

theorem cur_new {w : World} {v : Value} {l : List UInt8} (h : YL w v l) : Cur (w.alloc (.cells #[v, .int .i64 0, .int .u64 0] 68)) w.heap.size l 0 := by
  have hb := below_alloc w (.cells #[v, .int .i64 0, .int .u64 0] 68)
  refine ⟨v, 0, 0, Box.new w #[v, .int .i64 0, .int .u64 0] 68, by omega, by omega, ?_⟩
  obtain ⟨a, cap, rfl, hc⟩ := h
  refine ⟨a, cap, rfl, fun hl => ?_⟩
  obtain ⟨cb, off, ha, hbl, hcell⟩ := hc hl
  exact ⟨cb, off, ha, Nat.lt_of_lt_of_le hbl hb.size, hbl, fun i hi => (hb.cell (p := ⟨cb, off + i, none⟩) hbl).trans (hcell i hi)⟩
/-- A drawn list in memory, as whoever reads it wants it. -/
structure DrS (w : World) (lo : Nat) (hv tv : Value) (H : List Int) (T : List Tw) : Prop where
  sh : ∃ a c ay cap, hv = .slice a H.length c ∧ tv = .slice ay T.length cap ∧ T.length ≤ cap ∧ cap ≤ 9223372036854775807
  h5 : H.length ≤ 5
  t60 : T.length ≤ 60
  fit : ∀ i : Nat, i < T.length → FitT (tw T (i : Int))
  st : ∀ (S : Nat → Prop) (W : World), Chg S w W → (∀ g, lo ≤ g → ¬ S g) → IL W hv H ∧ TW W tv T
theorem DrS.chg {S : Nat → Prop} {w w' : World} {lo : Nat} {hv tv : Value} {H : List Int} {T : List Tw} (h : DrS w lo hv tv H T) (hc : Chg S w w') (hs : ∀ g, lo ≤ g → ¬ S g) : DrS w' lo hv tv H T :=
  ⟨h.sh, h.h5, h.t60, h.fit, fun S' W h1 h2 => h.st (fun q => S q ∨ S' q) W ((hc.mono fun q e => .inl e).trans (h1.mono fun q e => .inr e)) fun g q e => e.elim (hs g q) (h2 g q)⟩
theorem DrS.below {w w' : World} {lo : Nat} {hv tv : Value} {H : List Int} {T : List Tw} (h : DrS w lo hv tv H T) (hb : Below w.heap.size w w') : DrS w' lo hv tv H T := h.chg (S := fun _ => False) (Chg.of_below hb) fun _ _ e => e
theorem DrS.il {w : World} {lo : Nat} {hv tv : Value} {H : List Int} {T : List Tw} (h : DrS w lo hv tv H T) : IL w hv H := (h.st (fun _ => False) w (Chg.refl _ _) fun _ _ e => e).1
theorem DrS.tws {w : World} {lo : Nat} {hv tv : Value} {H : List Int} {T : List Tw} (h : DrS w lo hv tv H T) : TW w tv T := (h.st (fun _ => False) w (Chg.refl _ _) fun _ _ e => e).2
theorem DrS.lo {w : World} {lo lo' : Nat} {hv tv : Value} {H : List Int} {T : List Tw} (h : DrS w lo hv tv H T) (hl : lo' ≤ lo) : DrS w lo' hv tv H T := ⟨h.sh, h.h5, h.t60, h.fit, fun S W h1 h2 => h.st S W h1 fun g q => h2 g (Nat.le_trans hl q)⟩
set_option maxHeartbeats 8000000 in
theorem drawSeek_any (v : Value) (l : List UInt8) (w : World) (h : YL w v l) (hl : l.length ≤ 9223372036854775807) :
    Calls Tryd.prog 54 #[v] w fun e w' => (∃ (hv tv : Value) (H : List Int) (T : List Tw) (key : ByteArray) (n : Nat), e = .returned (.tuple #[.agg #[hv, tv], .string key, .int .i64 n]) ∧ DrS w' w.heap.size hv tv H T ∧ key.size ≤ 17 ∧ n ≤ 23) ∧ Below w.heap.size w w' := by
  obtain ⟨a0, c0, hv⟩ : ∃ a c, v = .slice a l.length c := by obtain ⟨a, c, h1, _⟩ := h; exact ⟨a, c, h1⟩
  subst hv
  obtain ⟨W1, hW1⟩ : ∃ W, W = w.alloc (.cells #[.slice none 0 0, .slice none 0 0] 26) := ⟨_, rfl⟩
  have hB : Below w.heap.size w W1 := by rw [hW1]; exact below_alloc _ _
  have R : Box W1 w.heap.size [.slice none 0 0, .slice none 0 0] := by rw [hW1]; exact Box.new w #[.slice none 0 0, .slice none 0 0] 26
  have hzW : W1.heap.size = w.heap.size + 1 := by rw [hW1]; simp
  replace h := h.below hB
  have hc := cur_new h
  obtain ⟨W0, hW0⟩ : ∃ W, W = W1.alloc (.cells #[.slice a0 l.length c0, .int .i64 0, .int .u64 0] 68) := ⟨_, rfl⟩
  have hBc : Below W1.heap.size W1 W0 := by rw [hW0]; exact below_alloc _ _
  rw [← hW0] at hc
  have hz0 : W1.heap.size < W0.heap.size := by rw [hW0]; simp
  replace R := R.below hBc
  replace hB := below_then hB hBc
  rw [hzW] at hc hz0
  go_enter Tryd.func54, Tryd.ntmps54
  go_upto_region 2 with fail
  rw [← hW1, ← hW0]
  obtain ⟨b, hb⟩ : ∃ b, Hid (w.heap.size + 1 = b) := ⟨_, rfl⟩
  have hbw1 : w.heap.size + 1 ≤ b := by have := hb.out; omega
  have hbw2 : b ≤ w.heap.size + 1 := by have := hb.out; omega
  rw [hb.out] at hc hz0 ⊢
  clear hW1 hW0 hBc h hzW hb
  go_wp2_with fail
  refine (skip_any b l 0 _ hc hl (by omega)).mono ?_
  rintro e w3 ⟨⟨hv, tv, H, T, sb, rfl, hF⟩, hc1, hch1⟩
  replace R := hch1.box R (by omega)
  replace hB := hB.trans (hch1.below (B := w.heap.size) (by omega) (fun k e => by have e : k = b := e; omega))
  replace hc := hc1
  have hz3 := hch1.size
  clear hc1 hch1
  obtain ⟨ha, hc2, ay, cap, rfl, rfl, hcy, hcm⟩ := hF.sh
  go_wp2_with fail
  refine (key_any b l _ _ hc hl (by omega)).mono ?_
  rintro e w4 ⟨⟨key, rfl, hks⟩, hc1, hch1⟩
  replace R := hch1.box R (by omega)
  replace hB := hB.trans (hch1.below (B := w.heap.size) (by omega) (fun k e => by have e : k = b := e; omega))
  have hz4 := hch1.size
  have hE := hch1
  replace hc := hc1
  clear hc1 hch1
  go_wp2_with fail
  refine (pick_any b l _ 24 _ hc hl (by omega) (by omega)).mono ?_
  rintro e w5 ⟨⟨n, rfl, hn⟩, hc1, hch1⟩
  replace R := hch1.box R (by omega)
  replace hB := hB.trans (hch1.below (B := w.heap.size) (by omega) (fun k e => by have e : k = b := e; omega))
  have hz5 := hch1.size
  replace hE := hE.trans hch1
  have hn23 : n ≤ 23 := by omega
  clear hc1 hch1 hc hn
  have hC7 := put2_chg w5 w.heap.size (.slice ha H.length hc2) (.slice ay T.length cap)
  have R7 := put2_box R (.slice ha H.length hc2) (.slice ay T.length cap)
  obtain ⟨⟨r0, r1⟩, rl, r2, r3⟩ := R.f2
  obtain ⟨W7, hW7⟩ : ∃ W, W = put2 w5 w.heap.size (.slice ha H.length hc2) (.slice ay T.length cap) := ⟨_, rfl⟩
  rw [← hW7] at hC7 R7
  have hz7 := hC7.size
  have hD7 : DrS W7 w.heap.size (.slice ha H.length hc2) (.slice ay T.length cap) H T := DrS.lo (lo := W0.heap.size + 1) ⟨hF.sh, hF.h5, hF.t60, hF.fit, fun S W h1 h2 => hF.st (fun q => (q = b ∨ q = w.heap.size) ∨ S q) W (((hE.mono (fun q e => .inl (.inl e))).trans (hC7.mono (fun q e => .inl (.inr e)))).trans (h1.mono fun q e => .inr e)) (fun g q1 _ e => by rcases e with (e | e) | e <;> first | omega | exact h2 g q1 e)⟩ (by omega)
  have hB7 := hB.trans (hC7.below (B := w.heap.size) (by omega) (fun k e => by have e : k = w.heap.size := e; omega))
  clear hF hE hB hz7
  have HF : Hid ((∃ (hv tv : Value) (H2 : List Int) (T2 : List Tw) (key2 : ByteArray) (n2 : Nat), Ending.returned (.tuple #[.agg #[.slice ha H.length hc2, .slice ay T.length cap], .string key, .int .i64 n]) = .returned (.tuple #[.agg #[hv, tv], .string key2, .int .i64 n2]) ∧ DrS W7 w.heap.size hv tv H2 T2 ∧ key2.size ≤ 17 ∧ n2 ≤ 23) ∧ Below w.heap.size w W7) := ⟨⟨_, _, H, T, _, _, rfl, hD7, hks, hn23⟩, hB7⟩
  obtain ⟨tl, t0, t1⟩ := R7.c2
  clear R hC7 R7 hD7 hB7
  unfold put2 at hW7
  go_wp2_with fail
  rw [← hW7]
  exact bodyPost_ret (v := .tuple #[.agg #[.slice ha H.length hc2, .slice ay T.length cap], .string key, .int .i64 n]) (by simp [results, Tryd.results54, go_sem, t0, t1]) rfl HF.out
set_option maxHeartbeats 8000000 in
theorem drawFind_any (v : Value) (l : List UInt8) (w : World) (h : YL w v l) (hl : l.length ≤ 9223372036854775807) :
    Calls Tryd.prog 18 #[v] w fun e w' => (∃ (hv tv : Value) (H : List Int) (T : List Tw) (key : ByteArray) (n : Nat), e = .returned (.tuple #[.agg #[hv, tv], .string key, .int .i64 n]) ∧ DrS w' w.heap.size hv tv H T ∧ key.size ≤ 17 ∧ n ≤ 23) ∧ Below w.heap.size w w' := by
  obtain ⟨a0, c0, hv⟩ : ∃ a c, v = .slice a l.length c := by obtain ⟨a, c, h1, _⟩ := h; exact ⟨a, c, h1⟩
  subst hv
  obtain ⟨W1, hW1⟩ : ∃ W, W = w.alloc (.cells #[.slice none 0 0, .slice none 0 0] 26) := ⟨_, rfl⟩
  have hB : Below w.heap.size w W1 := by rw [hW1]; exact below_alloc _ _
  have R : Box W1 w.heap.size [.slice none 0 0, .slice none 0 0] := by rw [hW1]; exact Box.new w #[.slice none 0 0, .slice none 0 0] 26
  have hzW : w.heap.size < W1.heap.size := by rw [hW1]; simp
  have KD := drawSeek_any _ l W1 (h.below hB) hl
  go_enter Tryd.func18, Tryd.ntmps18
  go_upto_region 1 with fail
  rw [← hW1]
  clear hW1 h
  go_wp2_with fail
  refine KD.mono ?_
  rintro e w2 ⟨⟨hv, tv, H, T, key, n, rfl, hD, hks, hn23⟩, hb2⟩
  replace R := R.below hb2
  replace hB := below_then hB hb2
  have hz2 := hb2.size
  obtain ⟨ha, hc2, ay, cap, rfl, rfl, hcy, hcm⟩ := hD.sh
  clear KD
  have hC7 := put2_chg w2 w.heap.size (.slice ha H.length hc2) (.slice ay T.length cap)
  have R7 := put2_box R (.slice ha H.length hc2) (.slice ay T.length cap)
  obtain ⟨⟨r0, r1⟩, rl, r2, r3⟩ := R.f2
  obtain ⟨W7, hW7⟩ : ∃ W, W = put2 w2 w.heap.size (.slice ha H.length hc2) (.slice ay T.length cap) := ⟨_, rfl⟩
  rw [← hW7] at hC7 R7
  have hD7 := (hD.chg hC7 (fun g q e => by have e : g = w.heap.size := e; omega)).lo (show w.heap.size ≤ W1.heap.size from by omega)
  have hB7 := hB.trans (hC7.below (B := w.heap.size) (by omega) (fun k e => by have e : k = w.heap.size := e; omega))
  clear hD hB hb2
  have HF : Hid ((∃ (hv tv : Value) (H2 : List Int) (T2 : List Tw) (key2 : ByteArray) (n2 : Nat), Ending.returned (.tuple #[.agg #[.slice ha H.length hc2, .slice ay T.length cap], .string key, .int .i64 n]) = .returned (.tuple #[.agg #[hv, tv], .string key2, .int .i64 n2]) ∧ DrS W7 w.heap.size hv tv H2 T2 ∧ key2.size ≤ 17 ∧ n2 ≤ 23) ∧ Below w.heap.size w W7) := ⟨⟨_, _, H, T, _, _, rfl, hD7, hks, hn23⟩, hB7⟩
  obtain ⟨tl, t0, t1⟩ := R7.c2
  clear R hC7 R7 hD7 hB7
  unfold put2 at hW7
  go_wp2_with fail
  rw [← hW7]
  exact bodyPost_ret (v := .tuple #[.agg #[.slice ha H.length hc2, .slice ay T.length cap], .string key, .int .i64 n]) (by simp [results, Tryd.results18, go_sem, t0, t1]) rfl HF.out
end Go.Proofs.YtdaldkcildbcmaaDoor
