/-
  Versions that are good: both sides.
-/
import Derived.Test.YtenbdjlhcadhaaaGreatQ1ToC9
namespace Go.Proofs.YtenbdjlhcadhaaaGreat
open Go.RowKit
set_option linter.unusedVariables false
set_option maxRecDepth 100000

/-- A slice of metas with room for itself. -/
def IX (w : World) (v : Value) (l : List Mt) : Prop := IR w v l ∧ ∃ a cap, v = .slice a l.length cap ∧ l.length ≤ cap
theorem IX.below {w w' : World} {v : Value} {l : List Mt} (h : IX w v l) (hb : Below w.heap.size w w') : IX w' v l := ⟨h.1.below hb, h.2⟩
theorem IX_nil (w : World) : IX w (.slice none 0 0) [] := ⟨IR_nil w, none, 0, rfl, Nat.le_refl _⟩
theorem IX_of_owns {w : World} {base n : Nat} {e : TypeId} {v : Value} {l : List Mt} (h : w.ownsRow base e 4 v n (flat4 l)) (hn : n = l.length) : IX w v l := by
  refine ⟨IR_of_owns h hn, ?_⟩
  subst hn
  rcases h.2 with ⟨rfl, h0⟩ | ⟨g, cap, cur, rfl, hbg, hh, hcap, _⟩
  · exact ⟨none, 0, by rw [h0], by omega⟩
  · exact ⟨_, cap, rfl, hcap⟩
theorem IR_take {w : World} {b off cap : Nat} {l : List Mt} (hbl : b < w.heap.size)
    (hcell : ∀ i (h : i < l.length), w.cell? ⟨b, off + i * 4, none⟩ = some (.int .i64 l[i].n) ∧ w.cell? ⟨b, off + i * 4 + 1, none⟩ = some (.int .i64 l[i].d) ∧ w.cell? ⟨b, off + i * 4 + 2, none⟩ = some (.string l[i].k) ∧ w.cell? ⟨b, off + i * 4 + 3, none⟩ = some (.string l[i].v))
    (k : Nat) (hk : k ≤ l.length) : IR w (.slice (some ⟨b, off, none⟩) k cap) (l.take k) := by
  have hlen : (l.take k).length = k := by simp; omega
  refine ⟨_, cap, by rw [hlen], fun _ => ⟨b, off, rfl, hbl, fun i hi => ?_⟩⟩
  rw [List.getElem_take]
  exact hcell i (by omega)

theorem any_clI (l : List Mt) (i : Nat) (hi : i < l.length) (hg : goodMs l = true) : (l.take i).any (clI l[i]) = (l.take i).any (cls l[i]) := by
  have h1 := okMt_le (goodMs_ok hg hi)
  suffices h : ∀ r : List Mt, (∀ o ∈ r, leK o.k o.v = true) → r.any (clI l[i]) = r.any (cls l[i]) from by
    refine h _ fun o ho => ?_
    obtain ⟨j, hj, rfl⟩ := List.getElem_of_mem ho
    rw [List.getElem_take]
    simp at hj
    exact okMt_le (goodMs_ok hg (by omega))
  intro r
  induction r with
  | nil => intro _; rfl
  | cons o r ih =>
    intro h
    rw [List.any_cons, List.any_cons, ih fun o ho => h o (by simp [ho])]
    have : clI l[i] o = cls l[i] o := by unfold clI cls; rw [ovI_eq _ _ h1 (h o (by simp))]
    rw [this]

theorem goodV_false {nx sq : Int} {l : List Mt} (i : Nat) (hi : i < l.length) (h : mayAt nx l i = false) : goodV nx sq l = false := by
  unfold goodV
  rw [mayTo_stop nx l i hi h]; simp
theorem mayAt_eq (nx : Int) (l : List Mt) (i : Nat) (hi : i < l.length) : mayAt nx l i = (decide (l[i].n < nx) && !((l.take i).any (cls l[i]))) := by
  unfold mayAt; rw [getD_at l i hi]

set_option maxHeartbeats 4000000 in
theorem implGoodV_any (nx sq : Int) (v : Value) (l : List Mt) (w : World) (HV : IX w v l) (hn : l.length ≤ 1048576) (hs : ∀ i (h : i < l.length), l[i].k.size ≤ 1048576 ∧ l[i].v.size ≤ 1048576) :
    Calls Tryz.prog 13 #[.agg #[.int .i64 nx, .int .i64 sq, v]] w fun e w' => e = .returned (.bool (goodV nx sq l)) ∧ Below w.heap.size w w' := by
  obtain ⟨hv, a', cap', hve, hcap⟩ := HV
  have hB0 := below_alloc w (.cells #[.int .i64 nx, .int .i64 sq, v] 35)
  have X0 := Box.new w #[.int .i64 nx, .int .i64 sq, v] 35
  have A := fun w => goodNext_any nx w
  have B := fun w => goodSeq_any sq w
  have C := goodMetas_any v l _ (hv.below hB0) hn hs
  have HG : Hid (goodV nx sq l = (okNext nx && okSeq sq && okMs l && mayTo nx l l.length)) := rfl
  have HMS : Hid (okMs l = true → goodMs l = true) := fun h => by unfold okMs at h; simp only [Bool.and_eq_true] at h; exact h.2
  obtain ⟨a, cap, rfl, hc⟩ := hv
  simp only [Value.slice.injEq, true_and] at hve
  obtain ⟨rfl, rfl⟩ := hve
  clear hs
  generalize okNext nx = b1 at *
  generalize okSeq sq = b2 at *
  generalize okMs l = b3 at *
  go_enter Tryz.func13, Tryz.ntmps13
  go_wp2_with fail
  refine (A _).mono ?_
  rintro e w1 ⟨rfl, rfl⟩
  cases b1
  · have HF : Hid (goodV nx sq l = false) := by show _ = _; rw [HG.out]; rfl
    clear HG HMS hc
    go_wp2
    go_ret
    exact ⟨by rw [HF.out]; rfl, hB0⟩
  go_wp2_with fail
  refine (B _).mono ?_
  rintro e w1 ⟨rfl, rfl⟩
  cases b2
  · have HF : Hid (goodV nx sq l = false) := by show _ = _; rw [HG.out]; rfl
    clear HG HMS hc
    go_wp2
    go_ret
    exact ⟨by rw [HF.out]; rfl, hB0⟩
  go_wp2_with fail
  refine C.mono ?_
  rintro e w1 ⟨rfl, hb1⟩
  have hB1 := below_then hB0 hb1
  have X1 := X0.below hb1
  clear C A B hB0 hb1 X0
  obtain ⟨hx0, c0, c1, c2⟩ : w.heap.size < w1.heap.size ∧ w1.cell? ⟨w.heap.size, 0, none⟩ = some (.int .i64 nx) ∧ w1.cell? ⟨w.heap.size, 1, none⟩ = some (.int .i64 sq) ∧ w1.cell? ⟨w.heap.size, 2, none⟩ = some (.slice a l.length cap) := ⟨X1.1, X1.2.1 0 _ rfl, X1.2.1 1 _ rfl, X1.2.1 2 _ rfl⟩
  cases b3
  · have HF : Hid (goodV nx sq l = false) := by show _ = _; rw [HG.out]; rfl
    clear HG HMS hc
    go_wp2
    go_ret
    exact ⟨by rw [HF.out]; rfl, hB1⟩
  have HGM : Hid (goodMs l = true) := HMS.out rfl
  have HG2 : Hid (goodV nx sq l = mayTo nx l l.length) := by show _ = _; rw [HG.out]; rfl
  clear HG HMS
  go_wp2
  go_loopw [24] (fun i wr => ∃ k : Nat, k ≤ l.length ∧ i = .int .i64 k ∧ mayTo nx l k = true ∧ Below w1.heap.size w1 wr) (fun i _ => l.length - (intOf i).toNat)
  case atStart => exact ⟨0, Nat.zero_le _, rfl, rfl, Below.refl _ _⟩
  case round =>
    clear c0 c1 c2
    obtain ⟨k, hk, rfl, hg, hb⟩ := hrel
    by_cases hlt : k < l.length
    · obtain ⟨b, off, rfl, hbl, hcell⟩ := hc (by intro e; simp [e] at hlt)
      have hz1 := hB1.size
      have hBr := hB1.trans (hb.mono hz1)
      have hc0 := (hBr.cell (p := ⟨b, off + k * 4, none⟩) hbl).trans (hcell k hlt).1
      have hc1 := (hBr.cell (p := ⟨b, off + k * 4 + 1, none⟩) hbl).trans (hcell k hlt).2.1
      have hc2 := (hBr.cell (p := ⟨b, off + k * 4 + 2, none⟩) hbl).trans (hcell k hlt).2.2.1
      have hc3 := (hBr.cell (p := ⟨b, off + k * 4 + 3, none⟩) hbl).trans (hcell k hlt).2.2.2
      have HAT := mayAt_eq nx l k hlt
      rw [← any_clI l k hlt HGM.out] at HAT
      have HAT : Hid (mayAt nx l k = (decide (l[k].n < nx) && !((l.take k).any (clI l[k])))) := HAT
      have hz := hb.size
      have hbl2 : b < wr.heap.size := by omega
      obtain ⟨W0, hW0⟩ : ∃ W0, W0 = wr.alloc (.cells #[.int .i64 l[k].n, .int .i64 l[k].d, .string l[k].k, .string l[k].v] 71) := ⟨_, rfl⟩
      have Y0 : Box W0 wr.heap.size [.int .i64 l[k].n, .int .i64 l[k].d, .string l[k].k, .string l[k].v] := by rw [hW0]; exact Box.new wr #[.int .i64 l[k].n, .int .i64 l[k].d, .string l[k].k, .string l[k].v] 71
      have hBW : Below w1.heap.size w1 W0 := by rw [hW0]; exact hb.alloc hz _
      have hBw : Below w.heap.size w W0 := hB1.trans (hBW.mono hz1)
      have hzW := hBW.size
      have XW : Box W0 w.heap.size [.int .i64 nx, .int .i64 sq, .slice (some ⟨b, off, none⟩) l.length cap] := X1.below hBW
      have p0 := fun x : WC W0.heap.size W0 => (Y0.below x.ok).2.1 0 _ rfl
      have p1 := fun x : WC W0.heap.size W0 => (Y0.below x.ok).2.1 1 _ rfl
      have p2 := fun x : WC W0.heap.size W0 => (Y0.below x.ok).2.1 2 _ rfl
      have p3 := fun x : WC W0.heap.size W0 => (Y0.below x.ok).2.1 3 _ rfl
      have q0 := fun x : WC W0.heap.size W0 => (XW.below x.ok).2.1 0 _ rfl
      have q2 := fun x : WC W0.heap.size W0 => (XW.below x.ok).2.1 2 _ rfl
      have KC : ∀ x : WC W0.heap.size W0, Calls Tryz.prog 43 #[.slice (some ⟨b, off, none⟩) k cap, .func (.func 44) #[.agg #[.int .i64 l[k].n, .int .i64 l[k].d, .string l[k].k, .string l[k].v]] #[]] x.w fun e w' => e = .returned (.bool ((l.take k).any (clI l[k]))) ∧ Below x.w.heap.size x.w w' := fun x => by
        have hBx := hBw.trans (x.ok.mono hBw.size)
        have hI := IR_take (cap := cap) (l := l) (Nat.lt_of_lt_of_le hbl hBx.size) (fun i hi => by
          obtain ⟨e0, e1, e2, e3⟩ := hcell i hi
          exact ⟨(hBx.cell (p := ⟨b, off + i * 4, none⟩) hbl).trans e0, (hBx.cell (p := ⟨b, off + i * 4 + 1, none⟩) hbl).trans e1, (hBx.cell (p := ⟨b, off + i * 4 + 2, none⟩) hbl).trans e2, (hBx.cell (p := ⟨b, off + i * 4 + 3, none⟩) hbl).trans e3⟩) k hk
        exact containsFunc_any l[k].n l[k].d l[k].k l[k].v _ (l.take k) x.w hI (by simp; omega)
      have hne : Nonempty (WC W0.heap.size W0) := ⟨⟨_, Below.refl _ _⟩⟩
      have hkc : (k : Int) ≤ (cap : Int) := by omega
      by_cases hnum : l[k].n < nx
      · have hnd : decide (nx ≤ l[k].n) = false := by simp; omega
        cases hA : (l.take k).any (clI l[k]) with
        | false =>
          have HN : Hid (mayTo nx l (k + 1) = true) := by show _ = _; rw [mayTo_succ, hg, HAT.out, hA, decide_eq_true hnum]; rfl
          rw [hA] at KC
          clear hcell hc HAT hA hg HGM HG2 Y0 XW
          generalize l[k] = s at *
          obtain ⟨sn, sd, sk, sv⟩ := s
          dsimp only at *
          go_wp2_with fail
          rw [← hW0]; clear hW0 hc0 hc1 hc2 hc3
          refine wp_region_calm (B := W0.heap.size) (W := W0) (by kernel_rfl) (by kernel_rfl) (Below.refl _ _) ?_
          repeat (go_big_quiet_step (first | (go_at_call 43; exact calm_of_below (Nat.le_refl _) (KC _))))
          refine wpQuiet_nil ?_
          intro _ hw'
          obtain ⟨x, hx⟩ := hw'
          subst hx
          have hB2 := hBW.trans (x.ok.mono hzW)
          clear p0 p1 p2 p3 q0 q2 hne KC hBW hBw hBr
          generalize x.w = w3 at *
          clear x
          go_wp2
          go_roundw
          case rel => exact ⟨k + 1, by omega, by go_num, HN.out, hB2⟩
          case measure => simp [intOf]; omega
        | true =>
          have HF : Hid (goodV nx sq l = false) := goodV_false k hlt (by rw [HAT.out, hA]; simp)
          rw [hA] at KC
          clear hcell hc HAT hA hg HGM HG2 Y0 XW
          generalize l[k] = s at *
          obtain ⟨sn, sd, sk, sv⟩ := s
          dsimp only at *
          go_wp2_with fail
          rw [← hW0]; clear hW0 hc0 hc1 hc2 hc3
          refine wp_region_calm (B := W0.heap.size) (W := W0) (by kernel_rfl) (by kernel_rfl) (Below.refl _ _) ?_
          repeat (go_big_quiet_step (first | (go_at_call 43; exact calm_of_below (Nat.le_refl _) (KC _))))
          refine wpQuiet_nil ?_
          intro _ hw'
          obtain ⟨x, hx⟩ := hw'
          subst hx
          have hB2 := hBw.trans (x.ok.mono hBw.size)
          clear p0 p1 p2 p3 q0 q2 hne KC hBW hBw hBr
          generalize x.w = w3 at *
          clear x
          go_wp2
          go_ret
          exact ⟨by rw [HF.out]; rfl, hB2⟩
      · have HF : Hid (goodV nx sq l = false) := goodV_false k hlt (by rw [HAT.out, decide_eq_false hnum]; rfl)
        clear hcell hc HAT hg HGM HG2 Y0 XW KC
        generalize l[k] = s at *
        obtain ⟨sn, sd, sk, sv⟩ := s
        dsimp only at *
        go_wp2_with fail
        rw [← hW0]; clear hW0 hc0 hc1 hc2 hc3
        refine wp_region_calm (B := W0.heap.size) (W := W0) (by kernel_rfl) (by kernel_rfl) (Below.refl _ _) ?_
        repeat (go_big_quiet_step (fail))
        refine wpQuiet_nil ?_
        intro _ hw'
        obtain ⟨x, hx⟩ := hw'
        subst hx
        have hB2 := hBw.trans (x.ok.mono hBw.size)
        clear p0 p1 p2 p3 q0 q2 hne hBW hBw hBr
        generalize x.w = w3 at *
        clear x
        go_wp2
        go_ret
        exact ⟨by rw [HF.out]; rfl, hB2⟩
    · obtain rfl : k = l.length := by omega
      have HT : Hid (goodV nx sq l = true) := by show _ = _; rw [HG2.out]; exact hg
      have hBr := hB1.trans (hb.mono hB1.size)
      clear hc hg HG2 HGM
      go_wp2
      go_ret
      exact ⟨by rw [HT.out]; rfl, hBr⟩
end Go.Proofs.YtenbdjlhcadhaaaGreat
