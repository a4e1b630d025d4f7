/-
  Where a chunk is in a list, or would be: plainly; slices.BinarySearchFunc, impl.find.
-/
import Derived.Test.YtocaigffikdlhaaGU
namespace Go.Proofs.Ytocaigffikdlhaa
open Go.RowKit Go.Maps
set_option linter.unusedVariables false
set_option maxRecDepth 100000

/-- The list rises by place. -/
def Srt (G : List Ck) : Prop := ∀ i j (hi : i < G.length) (hj : j < G.length), i < j → ltC G[i] G[j] = true
theorem ltC_trans {x y z : Ck} (h1 : ltC x y = true) (h2 : ltC y z = true) : ltC x z = true := by
  rw [ltC_iff] at *; omega
theorem ltC_irr (x : Ck) : ltC x x = false := by rw [Bool.eq_false_iff]; intro h; rw [ltC_iff] at h; omega
theorem gcB_srt {W : List Wt} {G : List Ck} (h : gcB W G = true) : Srt G := by
  have step : ∀ i (hi : i + 1 < G.length), ltC (G[i]'(by omega)) G[i + 1] = true := by
    intro i hi
    have := gcB_at h hi
    rw [gcAt_pos W G (i + 1) hi (by omega), Bool.and_eq_true] at this
    exact this.2
  intro i j hi hj hij
  obtain ⟨m, rfl⟩ : ∃ m, j = i + 1 + m := ⟨j - i - 1, by omega⟩
  induction m with
  | zero => exact step i hj
  | succ m ih => exact ltC_trans (ih (by omega) (by omega)) (step (i + 1 + m) hj)
theorem gcB_ft {W : List Wt} {G : List Ck} (h : gcB W G = true) (i : Nat) (hi : i < G.length) : ftB W G[i] = true := by
  have := gcB_at h hi
  unfold gcAt at this
  rw [getC_at G i hi, Bool.and_eq_true] at this
  exact this.1
/-- Place p: all ahead of it are less than x, all from it on are not. -/
structure IsPl (G : List Ck) (x : Ck) (p : Nat) : Prop where
  le : p ≤ G.length
  lt : ∀ i (h : i < G.length), i < p → ltC G[i] x = true
  ge : ∀ i (h : i < G.length), p ≤ i → ltC G[i] x = false
theorem IsPl.one {G : List Ck} {x : Ck} {p q : Nat} (h : IsPl G x p) (k : IsPl G x q) : p = q := by
  rcases Nat.lt_trichotomy p q with hh | hh | hh
  · have h1 := k.lt p (by have := k.le; omega) hh
    rw [h.ge p (by have := k.le; omega) (Nat.le_refl _)] at h1; cases h1
  · exact hh
  · have h1 := h.lt q (by have := h.le; omega) hh
    rw [k.ge q (by have := h.le; omega) (Nat.le_refl _)] at h1; cases h1
/-- A chunk with that File and At is there. -/
def hasC (G : List Ck) (n d : Int) : Bool := G.any fun y => decide (y.n = n) && decide (y.d = d)
theorem hasC_iff (G : List Ck) (n d : Int) : hasC G n d = true ↔ ∃ i, ∃ h : i < G.length, G[i].n = n ∧ G[i].d = d := by
  unfold hasC
  simp only [List.any_eq_true, Bool.and_eq_true, decide_eq_true_eq]
  constructor
  · rintro ⟨y, hy, h⟩
    obtain ⟨i, hi, rfl⟩ := List.getElem_of_mem hy
    exact ⟨i, hi, h⟩
  · rintro ⟨i, hi, h⟩
    exact ⟨_, List.getElem_mem hi, h⟩
theorem IsPl.has {G : List Ck} {x : Ck} {p : Nat} (h : IsPl G x p) (hs : Srt G) : hasC G x.n x.d = true ↔ ∃ hp : p < G.length, G[p].n = x.n ∧ G[p].d = x.d := by
  rw [hasC_iff]
  constructor
  · rintro ⟨i, hi, h1, h2⟩
    have hpi : p ≤ i := by
      rcases Nat.lt_or_ge i p with hh | hh
      · have := h.lt i hi hh
        rw [ltC_iff] at this; omega
      · exact hh
    have hp : p < G.length := by omega
    refine ⟨hp, ?_⟩
    rcases Nat.eq_or_lt_of_le hpi with hh | hh
    · subst hh; exact ⟨h1, h2⟩
    · have a := hs p i hp hi hh
      have b := h.ge p hp (Nat.le_refl _)
      rw [Bool.eq_false_iff] at b
      exact absurd (by rw [ltC_iff] at a ⊢; omega) b
  · rintro ⟨hp, h⟩
    exact ⟨p, hp, h⟩

set_option maxHeartbeats 16000000 in
theorem search_any (v : Value) (l : List Ck) (y : Ck) (w : World) (hv : IR w v l) (hn : l.length ≤ 1000) (hsr : Srt l) :
    Calls Try.prog 102 #[v, .agg #[.int .i64 y.n, .int .i64 y.d, .string y.k, .int .u32 y.v], .func (.func 103) #[] #[]] w fun e w' => (∃ p : Nat, IsPl l y p ∧ e = .returned (.tuple #[.int .i64 p, .bool (hasC l y.n y.d)])) ∧ Below w.heap.size w w' := by
  obtain ⟨a, cap, rfl, hc⟩ := hv
  have hb0 := below_alloc w (.cells #[.int .i64 y.n, .int .i64 y.d, .string y.k, .int .u32 y.v] 37)
  have X0 := Box.new w #[.int .i64 y.n, .int .i64 y.d, .string y.k, .int .u32 y.v] 37
  obtain ⟨hh, HHE⟩ : ∃ hh, Hid (hasC l y.n y.d = hh) := ⟨hasC l y.n y.d, rfl⟩
  rw [HHE.out]
  go_enter Try.func102, Try.ntmps102
  go_wp2
  go_loopw [9, 10] (fun i j wr => ∃ lo hi : Nat, lo ≤ hi ∧ hi ≤ l.length ∧ i = .int .i64 lo ∧ j = .int .i64 hi ∧ ((∀ i (h : i < l.length), i < lo → ltC l[i] y = true) ∧ ∀ i (h : i < l.length), hi ≤ i → ltC l[i] y = false) ∧ Below w.heap.size w wr ∧ Box wr w.heap.size [.int .i64 y.n, .int .i64 y.d, .string y.k, .int .u32 y.v]) (fun i j _ => (intOf j).toNat - (intOf i).toNat)
  case atStart => exact ⟨0, l.length, by omega, by omega, rfl, rfl, ⟨fun i h h2 => by omega, fun i h h2 => by omega⟩, hb0, X0⟩
  case round =>
    clear hb0 X0
    obtain ⟨lo, hi, hlh, hhl, rfl, rfl, hR, hb, X0⟩ := hrel
    have HR : Hid ((∀ i (h : i < l.length), i < lo → ltC l[i] y = true) ∧ ∀ i (h : i < l.length), hi ≤ i → ltC l[i] y = false) := hR
    clear hR
    by_cases hlt : lo < hi
    · obtain ⟨b, off, rfl, hbl, hcell⟩ := hc (by intro e; simp [e] at hhl; omega)
      obtain ⟨m, hm⟩ : ∃ m, m = (lo + hi) / 2 := ⟨_, rfl⟩
      have hml : m < l.length := by omega
      have em : ((lo : Int) + hi) / 2 = (m : Int) := by omega
      have em2 : IntKind.i64.wrap (((lo : Int) + hi) / 2) = (m : Int) := by rw [em, IntKind.wrap_i64]; omega
      have hm1 : lo ≤ m := by omega
      have hm2 : m < hi := by omega
      have hz := hb.size
      have hbW : b < wr.heap.size := by omega
      have q0 := fun x : WC wr.heap.size wr => (x.ok.cell (p := ⟨b, off + m * 4, none⟩) hbW).trans ((hb.cell (p := ⟨b, off + m * 4, none⟩) hbl).trans (hcell m hml).1)
      have q1 := fun x : WC wr.heap.size wr => (x.ok.cell (p := ⟨b, off + m * 4 + 1, none⟩) hbW).trans ((hb.cell (p := ⟨b, off + m * 4 + 1, none⟩) hbl).trans (hcell m hml).2.1)
      have q2 := fun x : WC wr.heap.size wr => (x.ok.cell (p := ⟨b, off + m * 4 + 2, none⟩) hbW).trans ((hb.cell (p := ⟨b, off + m * 4 + 2, none⟩) hbl).trans (hcell m hml).2.2.1)
      have q3 := fun x : WC wr.heap.size wr => (x.ok.cell (p := ⟨b, off + m * 4 + 3, none⟩) hbW).trans ((hb.cell (p := ⟨b, off + m * 4 + 3, none⟩) hbl).trans (hcell m hml).2.2.2)
      have p0 := fun x : WC wr.heap.size wr => (X0.below x.ok).2.1 0 _ rfl
      have p1 := fun x : WC wr.heap.size wr => (X0.below x.ok).2.1 1 _ rfl
      have p2 := fun x : WC wr.heap.size wr => (X0.below x.ok).2.1 2 _ rfl
      have p3 := fun x : WC wr.heap.size wr => (X0.below x.ok).2.1 3 _ rfl
      have hne : Nonempty (WC wr.heap.size wr) := ⟨⟨_, Below.refl _ _⟩⟩
      have KO := fun w => comparePlaces_any l[m] y w
      have HCL := cmpC_lt l[m] y
      cases hle : ltC l[m] y with
      | true =>
        have hcm : cmpC l[m] y < 0 := HCL.2 hle
        have HR2 : Hid ((∀ i (h : i < l.length), i < m + 1 → ltC l[i] y = true) ∧ ∀ i (h : i < l.length), hi ≤ i → ltC l[i] y = false) := by
          refine ⟨fun i h h2 => ?_, HR.out.2⟩
          rcases Nat.eq_or_lt_of_le (show i ≤ m from by omega) with hh | hh
          · subst hh; exact hle
          · exact ltC_trans (hsr i m h hml hh) hle
        clear hcell hc HR hm HCL hle hsr
        generalize cmpC l[m] y = c at *
        generalize l[m] = s at *
        obtain ⟨sk, sn, sd, sv⟩ := s
        obtain ⟨yn, yd, yk, yv⟩ := y
        dsimp only at *
        go_wp2_with fail
        refine wp_region_calm (B := wr.heap.size) (W := wr) (by kernel_rfl) (by kernel_rfl) (Below.refl _ _) ?_
        repeat (go_big_quiet_step (first | (go_at_call 103; with_reducible exact calm_of_below (Nat.le_refl _) (KO _))))
        refine wpQuiet_nil ?_
        intro _ hw'
        obtain ⟨x, hx⟩ := hw'
        subst hx
        have hB1 := hb.trans (x.ok.mono hz)
        have X1 := X0.below x.ok
        clear p0 p1 p2 p3 q0 q1 q2 q3 hne X0 hb KO
        generalize x.w = w3 at *
        clear x
        go_wp2
        go_roundw
        case rel => exact ⟨m + 1, hi, by omega, hhl, by go_num, rfl, HR2.out, hB1, X1⟩
        case measure => simp [intOf]; omega
      | false =>
        have hcm : ¬ cmpC l[m] y < 0 := fun h => by rw [HCL.1 h] at hle; cases hle
        have HR2 : Hid ((∀ i (h : i < l.length), i < lo → ltC l[i] y = true) ∧ ∀ i (h : i < l.length), m ≤ i → ltC l[i] y = false) := by
          refine ⟨HR.out.1, fun i h h2 => ?_⟩
          rcases Nat.eq_or_lt_of_le h2 with hh | hh
          · subst hh; exact hle
          · rw [Bool.eq_false_iff]
            intro hy
            rw [ltC_trans (hsr m i hml h hh) hy] at hle; cases hle
        clear hcell hc HR hm HCL hle hsr
        generalize cmpC l[m] y = c at *
        generalize l[m] = s at *
        obtain ⟨sk, sn, sd, sv⟩ := s
        obtain ⟨yn, yd, yk, yv⟩ := y
        dsimp only at *
        go_wp2_with fail
        refine wp_region_calm (B := wr.heap.size) (W := wr) (by kernel_rfl) (by kernel_rfl) (Below.refl _ _) ?_
        repeat (go_big_quiet_step (first | (go_at_call 103; with_reducible exact calm_of_below (Nat.le_refl _) (KO _))))
        refine wpQuiet_nil ?_
        intro _ hw'
        obtain ⟨x, hx⟩ := hw'
        subst hx
        have hB1 := hb.trans (x.ok.mono hz)
        have X1 := X0.below x.ok
        clear p0 p1 p2 p3 q0 q1 q2 q3 hne X0 hb KO
        generalize x.w = w3 at *
        clear x
        go_wp2
        go_roundw
        case rel => exact ⟨lo, m, by omega, by omega, rfl, by go_num, HR2.out, hB1, X1⟩
        case measure => simp [intOf]; omega
    · obtain rfl : lo = hi := by omega
      have HE : Hid (IsPl l y lo) := ⟨hhl, HR.out.1, HR.out.2⟩
      have HH := IsPl.has HE.out hsr
      clear HR
      have hz := hb.size
      have hne : Nonempty (WC wr.heap.size wr) := ⟨⟨_, Below.refl _ _⟩⟩
      by_cases hll : lo < l.length
      · obtain ⟨b, off, rfl, hbl, hcell⟩ := hc (by intro e; simp [e] at hll)
        have hbW : b < wr.heap.size := by omega
        have q0 := fun x : WC wr.heap.size wr => (x.ok.cell (p := ⟨b, off + lo * 4, none⟩) hbW).trans ((hb.cell (p := ⟨b, off + lo * 4, none⟩) hbl).trans (hcell lo hll).1)
        have q1 := fun x : WC wr.heap.size wr => (x.ok.cell (p := ⟨b, off + lo * 4 + 1, none⟩) hbW).trans ((hb.cell (p := ⟨b, off + lo * 4 + 1, none⟩) hbl).trans (hcell lo hll).2.1)
        have q2 := fun x : WC wr.heap.size wr => (x.ok.cell (p := ⟨b, off + lo * 4 + 2, none⟩) hbW).trans ((hb.cell (p := ⟨b, off + lo * 4 + 2, none⟩) hbl).trans (hcell lo hll).2.2.1)
        have q3 := fun x : WC wr.heap.size wr => (x.ok.cell (p := ⟨b, off + lo * 4 + 3, none⟩) hbW).trans ((hb.cell (p := ⟨b, off + lo * 4 + 3, none⟩) hbl).trans (hcell lo hll).2.2.2)
        have p0 := fun x : WC wr.heap.size wr => (X0.below x.ok).2.1 0 _ rfl
        have p1 := fun x : WC wr.heap.size wr => (X0.below x.ok).2.1 1 _ rfl
        have p2 := fun x : WC wr.heap.size wr => (X0.below x.ok).2.1 2 _ rfl
        have p3 := fun x : WC wr.heap.size wr => (X0.below x.ok).2.1 3 _ rfl
        have KO := fun w => comparePlaces_any l[lo] y w
        have HCE := cmpC_eq l[lo] y
        have gc : (cmpC l[lo] y == 0) = hh := by
          rw [← HHE.out, Bool.eq_iff_iff, HH, beq_iff_eq, HCE]
          exact ⟨fun h => ⟨hll, h⟩, fun ⟨_, h⟩ => h⟩
        clear hcell hc hsr HCE HH HHE
        generalize cmpC l[lo] y = c at *
        generalize l[lo] = s at *
        obtain ⟨sk, sn, sd, sv⟩ := s
        obtain ⟨yn, yd, yk, yv⟩ := y
        dsimp only at *
        go_wp2_with fail
        refine wp_region_calm (B := wr.heap.size) (W := wr) (by kernel_rfl) (by kernel_rfl) (Below.refl _ _) ?_
        repeat (go_big_quiet_step (first | (go_at_call 103; with_reducible exact calm_of_below (Nat.le_refl _) (KO _))))
        refine wpQuiet_nil ?_
        intro _ hw'
        obtain ⟨x, hx⟩ := hw'
        subst hx
        have hB1 := hb.trans (x.ok.mono hz)
        clear p0 p1 p2 p3 q0 q1 q2 q3 hne X0 hb KO
        generalize x.w = w3 at *
        clear x
        go_wp2
        go_ret2
        exact ⟨⟨lo, HE.out, rfl⟩, hB1⟩
      · obtain rfl : hh = false := by
          rw [← HHE.out, Bool.eq_false_iff]; intro h; obtain ⟨h2, _⟩ := HH.1 h; omega
        clear hc X0 hsr HH HHE
        go_wp2_with fail
        refine wp_region_calm (B := wr.heap.size) (W := wr) (by kernel_rfl) (by kernel_rfl) (Below.refl _ _) ?_
        repeat (go_big_quiet_step (fail))
        refine wpQuiet_nil ?_
        intro _ hw'
        obtain ⟨x, hx⟩ := hw'
        subst hx
        have hB1 := hb.trans (x.ok.mono hz)
        clear hne hb
        generalize x.w = w3 at *
        clear x
        go_wp2
        go_ret2
        exact ⟨⟨lo, HE.out, rfl⟩, hB1⟩

set_option maxHeartbeats 4000000 in
theorem find_any (a c : Value) (W : List Wt) (G : List Ck) (y : Ck) (w : World) (h : TR w a c W G) (hn : G.length ≤ 1000) (hsr : Srt G) :
    Calls Try.prog 75 #[.agg #[a, c], .agg #[.int .i64 y.n, .int .i64 y.d, .string y.k, .int .u32 y.v]] w fun e w' => (∃ p : Nat, IsPl G y p ∧ e = .returned (.tuple #[.int .i64 p, .bool (hasC G y.n y.d)])) ∧ Below w.heap.size w w' := by
  have KS := fun W' (hb : Below w.heap.size w W') => search_any c G y W' (h.2.below hb) hn hsr
  obtain ⟨⟨wa, wb, rfl, _⟩, ca, cb, rfl, _⟩ := h
  have B0 := below2 w (.cells #[.slice wa W.length wb, .slice ca G.length cb] 41) (.cells #[.int .i64 y.n, .int .i64 y.d, .string y.k, .int .u32 y.v] 37)
  generalize hasC G y.n y.d = hh at *
  go_enter Try.func75, Try.ntmps75
  go_wp2_with fail
  refine (KS _ B0).mono ?_
  rintro e w1 ⟨⟨p, hp, rfl⟩, hb1⟩
  replace B0 := below_then B0 hb1
  clear KS hb1
  go_wp2
  go_ret2
  exact ⟨⟨p, hp, rfl⟩, B0⟩
end Go.Proofs.Ytocaigffikdlhaa
