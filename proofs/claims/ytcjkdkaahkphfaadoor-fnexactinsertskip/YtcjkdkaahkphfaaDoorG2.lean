/-
  Towers in memory; szTower, szTowerS, szSkip.
-/
import Derived.Test.YtcjkdkaahkphfaaDoorG1
namespace Go.Proofs.YtcjkdkaahkphfaaDoor
open Go.RowKit
set_option linter.unusedVariables false
set_option maxRecDepth 100000

theorem Box.c5 {w : World} {b : Nat} {v0 v1 v2 v3 v4 : Value} (h : Box w b [v0, v1, v2, v3, v4]) : b < w.heap.size ∧ w.cell? ⟨b, 0, none⟩ = some v0 ∧ w.cell? ⟨b, 1, none⟩ = some v1 ∧ w.cell? ⟨b, 2, none⟩ = some v2 ∧ w.cell? ⟨b, 3, none⟩ = some v3 ∧ w.cell? ⟨b, 4, none⟩ = some v4 :=
  ⟨h.1, h.2.1 0 _ rfl, h.2.1 1 _ rfl, h.2.1 2 _ rfl, h.2.1 3 _ rfl, h.2.1 4 _ rfl⟩
/-- The value v is a slice of the towers ts. -/
def TW (w : World) (v : Value) (ts : List Tw) : Prop :=
  ∃ a cap, v = .slice a ts.length cap ∧ (ts ≠ [] → ∃ b off, a = some ⟨b, off, none⟩ ∧ b < w.heap.size ∧
    ∀ i (h : i < ts.length), ∃ u, (w.cell? ⟨b, off + i * 5, none⟩ = some (.string ts[i].key) ∧ w.cell? ⟨b, off + i * 5 + 1, none⟩ = some (.int .i64 ts[i].seq) ∧ w.cell? ⟨b, off + i * 5 + 2, none⟩ = some (.int .i64 ts[i].kind) ∧ w.cell? ⟨b, off + i * 5 + 3, none⟩ = some (.string ts[i].val) ∧ w.cell? ⟨b, off + i * 5 + 4, none⟩ = some u) ∧ IL w u ts[i].next)
theorem TW.below {w w' : World} {v : Value} {l : List Tw} (h : TW w v l) (hb : Below w.heap.size w w') : TW w' v l := by
  obtain ⟨a, cap, hv, hc⟩ := h
  refine ⟨a, cap, hv, fun hl => ?_⟩
  obtain ⟨b, off, ha, hbl, hcell⟩ := hc hl
  refine ⟨b, off, ha, Nat.lt_of_lt_of_le hbl hb.size, fun i hi => ?_⟩
  obtain ⟨u, ⟨c0, c1, c2, c3, c4⟩, hu⟩ := hcell i hi
  exact ⟨u, ⟨(hb.cell (p := ⟨b, off + i * 5, none⟩) hbl).trans c0, (hb.cell (p := ⟨b, off + i * 5 + 1, none⟩) hbl).trans c1, (hb.cell (p := ⟨b, off + i * 5 + 2, none⟩) hbl).trans c2, (hb.cell (p := ⟨b, off + i * 5 + 3, none⟩) hbl).trans c3, (hb.cell (p := ⟨b, off + i * 5 + 4, none⟩) hbl).trans c4⟩, hu.below hb⟩

/-- How much a tower bears. -/
def Tw.big (t : Tw) : Nat := t.key.size + t.val.size + t.next.length
def totT : List Tw → Nat
  | [] => 0
  | s :: r => s.big + totT r
theorem totT_take (l : List Tw) (k : Nat) (h : k < l.length) : totT (l.take (k + 1)) = totT (l.take k) + l[k].big := by
  induction l generalizing k with
  | nil => simp at h
  | cons x r ih =>
    cases k with
    | zero => simp [totT]
    | succ k =>
      simp only [List.take_succ_cons, totT, List.getElem_cons_succ]
      rw [ih k (by simpa using h)]; omega
theorem totT_mem (l : List Tw) (k : Nat) (h : k < l.length) : l[k].big ≤ totT l := by
  induction l generalizing k with
  | nil => simp at h
  | cons x r ih =>
    cases k with
    | zero => simp [totT]
    | succ k => have := ih k (by simpa using h); simp only [totT, List.getElem_cons_succ]; omega
/-- Every length fits. -/
def Tw.fits (t : Tw) : Prop := t.key.size ≤ maxLen ∧ t.val.size ≤ maxLen ∧ t.next.length ≤ maxLen

set_option maxHeartbeats 2000000 in
theorem szTower_any (t : Tw) (u : Value) (left : Int) (w : World) (hu : IL w u t.next) (h0 : 0 ≤ left) (h1 : left ≤ 1048576) (hf : t.fits) :
    Calls Tryd.prog 35 #[.agg #[.string t.key, .int .i64 t.seq, .int .i64 t.kind, .string t.val, u], .int .i64 left] w fun e w' => e = .returned (.int .i64 (if (t.big : Int) ≤ left then left - t.big else -1)) ∧ Below w.heap.size w w' := by
  obtain ⟨k, n, d, v, nt⟩ := t
  obtain ⟨f1, f2, f3⟩ := hf
  have hB : (Tw.big ⟨k, n, d, v, nt⟩ : Int) = k.size + v.size + nt.length := by simp [Tw.big]
  rw [hB]
  dsimp only at *
  have SZ := fun w => szItem_any k v n d left w h0 h1 f1 f2
  by_cases c1 : (k.size : Int) + v.size ≤ left
  · rw [if_pos c1] at SZ
    have hl : (0 : Int) ≤ left - k.size - v.size := by omega
    have hl1 : left - k.size - v.size ≤ 1048576 := by omega
    have hE : (if (k.size : Int) + v.size + nt.length ≤ left then left - (k.size + v.size + nt.length) else -1) = (if (nt.length : Int) ≤ left - k.size - v.size then left - k.size - v.size - nt.length else -1) := by
      split <;> split <;> omega
    rw [hE]
    clear hE hB c1
    generalize left - (k.size : Int) - v.size = l2 at *
    have NI := fun w h => szIntS_any u nt l2 w h hl hl1 f3
    by_cases c2 : (nt.length : Int) ≤ l2
    · rw [if_pos c2] at NI ⊢
      have hl2 : ¬ l2 - nt.length < 0 := by omega
      generalize l2 - (nt.length : Int) = l3 at *
      clear c2
      go_enter Tryd.func35, Tryd.ntmps35
      go_wp2_with fail
      refine (SZ _).mono ?_
      rintro e w1 ⟨rfl, hb1⟩
      have hB1 := below_then (below_alloc _ _) hb1
      have X1 := (Box.new w #[.string k, .int .i64 n, .int .i64 d, .string v, u] 64).below hb1
      have hu1 := hu.below hB1
      clear SZ hb1 hu
      obtain ⟨_, x0, x1, x2, x3, x4⟩ := X1.c5
      go_wp2_with fail
      refine (NI _ hu1).mono ?_
      rintro e w2 ⟨rfl, hw⟩
      rw [hw]; clear hw NI
      go_wp2
      go_ret
      exact ⟨rfl, hB1⟩
    · rw [if_neg c2] at NI ⊢
      clear c2
      go_enter Tryd.func35, Tryd.ntmps35
      go_wp2_with fail
      refine (SZ _).mono ?_
      rintro e w1 ⟨rfl, hb1⟩
      have hB1 := below_then (below_alloc _ _) hb1
      have X1 := (Box.new w #[.string k, .int .i64 n, .int .i64 d, .string v, u] 64).below hb1
      have hu1 := hu.below hB1
      clear SZ hb1 hu
      obtain ⟨_, x0, x1, x2, x3, x4⟩ := X1.c5
      go_wp2_with fail
      refine (NI _ hu1).mono ?_
      rintro e w2 ⟨rfl, hw⟩
      rw [hw]; clear hw NI
      go_wp2
      go_ret
      exact ⟨rfl, hB1⟩
  · rw [if_neg c1] at SZ
    rw [if_neg (by omega)]
    clear hB
    go_enter Tryd.func35, Tryd.ntmps35
    go_wp2_with fail
    refine (SZ _).mono ?_
    rintro e w1 ⟨rfl, hb1⟩
    have hB1 := below_then (below_alloc _ _) hb1
    clear SZ hb1
    go_wp2
    go_ret
    exact ⟨rfl, hB1⟩

set_option maxHeartbeats 2000000 in
theorem szTowerS_any (v : Value) (l : List Tw) (left : Int) (w : World) (hv : TW w v l) (h0 : 0 ≤ left) (h1 : left ≤ 1048576) (hn : l.length ≤ maxLen) (hs : ∀ i (h : i < l.length), l[i].fits) :
    Calls Tryd.prog 14 #[v, .int .i64 left] w fun e w' => (∃ r : Int, e = .returned (.int .i64 r) ∧ (r = -1 ∨ (0 ≤ r ∧ (totT l : Int) + l.length + r = left))) ∧ Below w.heap.size w w' := by
  obtain ⟨a, cap, rfl, hc⟩ := hv
  unfold maxLen at hn
  by_cases hl : l.length ≤ left
  · go_enter Tryd.func14, Tryd.ntmps14
    go_wp2
    go_loopw [1, 5] (fun t i wr => ∃ k : Nat, k ≤ l.length ∧ i = .int .i64 k ∧ (totT (l.take k) : Int) ≤ left - l.length ∧ t = .int .i64 (left - l.length - totT (l.take k)) ∧ Below w.heap.size w wr) (fun _ i _ => l.length - (intOf i).toNat)
    case atStart => exact ⟨0, Nat.zero_le _, rfl, by simp [totT]; omega, by simp [totT], Below.refl _ _⟩
    case round =>
      obtain ⟨k, hk, rfl, ht, rfl, hb⟩ := hrel
      by_cases hlt : k < l.length
      · obtain ⟨b, off, rfl, hbl, hcell⟩ := hc (by intro e; simp [e] at hlt)
        obtain ⟨u, ⟨z0, z1, z2, z3, z4⟩, hu⟩ := hcell k hlt
        obtain ⟨s, hse⟩ : ∃ s, s = l[k] := ⟨_, rfl⟩
        have hc0 := (hb.cell (p := ⟨b, off + k * 5, none⟩) hbl).trans z0
        have hc1 := (hb.cell (p := ⟨b, off + k * 5 + 1, none⟩) hbl).trans z1
        have hc2 := (hb.cell (p := ⟨b, off + k * 5 + 2, none⟩) hbl).trans z2
        have hc3 := (hb.cell (p := ⟨b, off + k * 5 + 3, none⟩) hbl).trans z3
        have hc4 := (hb.cell (p := ⟨b, off + k * 5 + 4, none⟩) hbl).trans z4
        have hu1 := hu.below hb
        have hss := hs k hlt
        have HT : Hid (totT (l.take (k + 1)) = totT (l.take k) + s.big) := by rw [hse]; exact totT_take l k hlt
        rw [← hse] at hc0 hc1 hc2 hc3 hss hu1
        clear hcell hs hse hc hu z0 z1 z2 z3 z4
        have hz := hb.size
        have KS := fun w h => szTower_any s u (left - l.length - totT (l.take k)) w h (by omega) (by omega) hss
        by_cases hle : (s.big : Int) ≤ left - l.length - totT (l.take k)
        · rw [if_pos hle] at KS
          obtain ⟨sk, sn, sd, sv, sx⟩ := s
          generalize Tw.big ⟨sk, sn, sd, sv, sx⟩ = bg at *
          dsimp only at *
          go_wp2_with fail
          refine (KS _ hu1).mono ?_
          rintro e w1 ⟨rfl, hb1⟩
          go_wp2_with fail
          go_roundw
          case rel => exact ⟨k + 1, by omega, by go_num, by rw [HT.out]; omega, by rw [HT.out]; go_num, hb.trans (hb1.mono hz)⟩
          case measure => simp [intOf]; omega
        · rw [if_neg hle] at KS
          obtain ⟨sk, sn, sd, sv, sx⟩ := s
          generalize Tw.big ⟨sk, sn, sd, sv, sx⟩ = bg at *
          dsimp only at *
          go_wp2_with fail
          refine (KS _ hu1).mono ?_
          rintro e w1 ⟨rfl, hb1⟩
          go_wp2_with fail
          go_ret
          exact ⟨⟨-1, rfl, .inl rfl⟩, hb.trans (hb1.mono hz)⟩
      · go_wp2
        go_ret
        have : k = l.length := by omega
        subst this
        exact ⟨⟨_, rfl, .inr (by rw [List.take_length] at *; omega)⟩, hb⟩
  · go_enter Tryd.func14, Tryd.ntmps14
    go_wp2
    go_ret
    exact ⟨⟨-1, rfl, .inl rfl⟩, Below.refl _ _⟩

set_option maxHeartbeats 2000000 in
theorem szSkip_any (x y : Value) (hs : List Int) (ts : List Tw) (w : World) (hx : IL w x hs) (hy : TW w y ts) (hn : hs.length ≤ maxLen) (hm : ts.length ≤ maxLen) (hf : ∀ i (h : i < ts.length), ts[i].fits) :
    Calls Tryd.prog 4 #[.agg #[x, y], .int .i64 1048576] w fun e w' => (∃ r : Int, e = .returned (.int .i64 r) ∧ (r = -1 ∨ (0 ≤ r ∧ (hs.length : Int) + totT ts + ts.length + r = 1048576))) ∧ Below w.heap.size w w' := by
  have NI := fun w h => szIntS_any x hs 1048576 w h (by omega) (by omega) hn
  by_cases c1 : (hs.length : Int) ≤ 1048576
  · rw [if_pos c1] at NI
    have hl : (0 : Int) ≤ 1048576 - hs.length := by omega
    have hl1 : (1048576 : Int) - hs.length ≤ 1048576 := by omega
    obtain ⟨l2, hl2⟩ : ∃ l2, l2 = (1048576 : Int) - hs.length := ⟨_, rfl⟩
    rw [← hl2] at NI hl hl1
    have HL : Hid (l2 = (1048576 : Int) - hs.length) := hl2
    clear hl2 c1
    go_enter Tryd.func4, Tryd.ntmps4
    go_wp2_with fail
    refine (NI _ (hx.below (below_alloc _ _))).mono ?_
    rintro e w1 ⟨rfl, hw⟩
    rw [hw]; clear hw NI
    go_wp2_with fail
    refine (szTowerS_any y ts l2 _ (hy.below (below_alloc _ _)) hl hl1 hm hf).mono ?_
    rintro e w2 ⟨⟨r, rfl, hr⟩, hb2⟩
    have hB := below_then (below_alloc _ _) hb2
    rcases hr with rfl | ⟨hr0, hr1⟩
    · go_wp2
      go_ret
      exact ⟨⟨-1, rfl, .inl rfl⟩, hB⟩
    · have hr' : ¬ r < 0 := by omega
      have HR : Hid ((totT ts : Int) + ts.length + r = l2) := hr1
      clear hr1
      go_wp2
      go_ret
      exact ⟨⟨r, rfl, .inr ⟨hr0, by have := HR.out; have := HL.out; omega⟩⟩, hB⟩
  · rw [if_neg c1] at NI
    go_enter Tryd.func4, Tryd.ntmps4
    go_wp2_with fail
    refine (NI _ (hx.below (below_alloc _ _))).mono ?_
    rintro e w1 ⟨rfl, hw⟩
    rw [hw]; clear hw NI
    go_wp2
    go_ret
    exact ⟨⟨-1, rfl, .inl rfl⟩, below_alloc _ _⟩
end Go.Proofs.YtcjkdkaahkphfaaDoor
