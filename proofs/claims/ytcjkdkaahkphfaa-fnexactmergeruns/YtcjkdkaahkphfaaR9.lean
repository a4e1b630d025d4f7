/-
  Lists of runs: szRunS, toRunS, eqRunS, markRunS.
-/
import Derived.Test.YtcjkdkaahkphfaaM9
import Derived.Test.YtcjkdkaahkphfaaA8
import Derived.Test.YtcjkdkaahkphfaaM2
import Derived.Test.YtcjkdkaahkphfaaO8
namespace Go.Proofs.Ytcjkdkaahkphfaa
open Go.RowKit Go.Deep Go.Joins Go.ChangeShapes Go.WideShapes Go.ChangeAt
set_option linter.unusedVariables false
set_option maxRecDepth 100000

/-- The value v is a slice of the runs R. -/
def RL (w : World) (v : Value) (R : List (List It)) : Prop :=
  ∃ a cap, v = .slice a R.length cap ∧ (R ≠ [] → ∃ b off, a = some ⟨b, off, none⟩ ∧ b < w.heap.size ∧ ∀ i (h : i < R.length), ∃ u, w.cell? ⟨b, off + i, none⟩ = some u ∧ IR w u R[i])
theorem RL.below {w w' : World} {v : Value} {R : List (List It)} (h : RL w v R) (hb : Below w.heap.size w w') : RL w' v R := by
  obtain ⟨a, cap, hv, hc⟩ := h
  refine ⟨a, cap, hv, fun hl => ?_⟩
  obtain ⟨b, off, ha, hbl, hcell⟩ := hc hl
  refine ⟨b, off, ha, Nat.lt_of_lt_of_le hbl hb.size, fun i hi => ?_⟩
  obtain ⟨u, hu, hr⟩ := hcell i hi
  exact ⟨u, (hb.cell (p := ⟨b, off + i, none⟩) hbl).trans hu, hr.below hb⟩
def tot5 : List (List It) → Nat
  | [] => 0
  | s :: r => tot4 s + s.length + tot5 r
theorem tot5_take (l : List (List It)) (k : Nat) (h : k < l.length) : tot5 (l.take (k + 1)) = tot5 (l.take k) + (tot4 l[k] + l[k].length) := by
  induction l generalizing k with
  | nil => simp at h
  | cons x r ih =>
    cases k with
    | zero => simp [tot5]
    | succ k =>
      simp only [List.take_succ_cons, tot5, List.getElem_cons_succ]
      rw [ih k (by simpa using h)]; omega
theorem tot5_mem (l : List (List It)) (k : Nat) (h : k < l.length) : tot4 l[k] + l[k].length ≤ tot5 l := by
  induction l generalizing k with
  | nil => simp at h
  | cons x r ih =>
    cases k with
    | zero => simp [tot5]
    | succ k => have := ih k (by simpa using h); simp only [tot5, List.getElem_cons_succ]; omega

set_option maxHeartbeats 2000000 in
theorem szRunS_any (v : Value) (R : List (List It)) (left : Int) (w : World) (hv : RL w v R) (h0 : 0 ≤ left) (h1 : left ≤ 1048576) (hn : R.length ≤ maxLen) (hs : ∀ i (h : i < R.length), R[i].length ≤ maxLen ∧ ∀ j (hj : j < R[i].length), R[i][j].k.size ≤ maxLen ∧ R[i][j].v.size ≤ maxLen) :
    Calls Try.prog 10 #[v, .int .i64 left] w fun e w' => (∃ r : Int, e = .returned (.int .i64 r) ∧ (r = -1 ∨ (0 ≤ r ∧ (tot5 R : Int) + R.length + r = left))) ∧ Below w.heap.size w w' := by
  obtain ⟨a, cap, rfl, hc⟩ := hv
  unfold maxLen at hn
  by_cases hl : R.length ≤ left
  · go_enter Try.func10, Try.ntmps10
    go_wp2
    go_loopw [1, 5] (fun t i wr => ∃ k : Nat, k ≤ R.length ∧ i = .int .i64 k ∧ (tot5 (R.take k) : Int) ≤ left - R.length ∧ t = .int .i64 (left - R.length - tot5 (R.take k)) ∧ Below w.heap.size w wr) (fun _ i _ => R.length - (intOf i).toNat)
    case atStart => exact ⟨0, Nat.zero_le _, rfl, by simp [tot5]; omega, by simp [tot5], Below.refl _ _⟩
    case round =>
      obtain ⟨k, hk, rfl, ht, rfl, hb⟩ := hrel
      by_cases hlt : k < R.length
      · obtain ⟨b, off, rfl, hbl, hcell⟩ := hc (by intro e; simp [e] at hlt)
        obtain ⟨u, hu, hir⟩ := hcell k hlt
        have hc0 := (hb.cell (p := ⟨b, off + k, none⟩) hbl).trans hu
        have hirw := hir.below hb
        have hss := hs k hlt
        have HT : Hid (tot5 (R.take (k + 1)) = tot5 (R.take k) + (tot4 R[k] + R[k].length)) := tot5_take R k hlt
        have hz := hb.size
        have KS := szRun_any u R[k] (left - R.length - tot5 (R.take k)) _ hirw (by omega) (by omega) hss.1 hss.2
        obtain ⟨ua, uc, rfl, _⟩ := hir
        clear hcell hs hc hss hirw hu
        generalize R[k] = s at *
        go_wp2_with fail
        refine KS.mono ?_
        rintro e w1 ⟨⟨r, rfl, hr⟩, hb1⟩
        clear KS
        rcases hr with rfl | ⟨hr0, hr1⟩
        · go_wp2
          go_ret
          exact ⟨⟨-1, rfl, .inl rfl⟩, hb.trans (hb1.mono hz)⟩
        · go_wp2
          go_roundw
          case rel => exact ⟨k + 1, by omega, by go_num, by rw [HT.out]; omega, congrArg (Value.int .i64) (by rw [HT.out]; omega), hb.trans (hb1.mono hz)⟩
          case measure => simp [intOf]; omega
      · go_wp2
        go_ret
        have : k = R.length := by omega
        subst this
        exact ⟨⟨_, rfl, .inr (by rw [List.take_length] at *; omega)⟩, hb⟩
  · go_enter Try.func10, Try.ntmps10
    go_wp2
    go_ret
    exact ⟨⟨-1, rfl, .inl rfl⟩, Below.refl _ _⟩

/-- Runs of one's own: the row in block G, the items in blocks gs, rising. -/
structure OwnRuns (w : World) (base G : Nat) (gs : List Nat) (R : List (List It)) : Prop where
  lo : base ≤ G
  hi : G < w.heap.size
  len : gs.length = R.length
  up : gs.Pairwise (· < ·)
  gt : ∀ g ∈ gs, G < g
  fz : ∀ i, w.frozen? ⟨G, i, none⟩ = false
  cell : ∀ i (h : i < R.length), w.cell? ⟨G, i, none⟩ = some (.slice (some ⟨gs[i]'(by omega), 0, none⟩) R[i].length R[i].length)
  own : ∀ i (h : i < R.length), w.ownsRow base 68 4 (.slice (some ⟨gs[i]'(by omega), 0, none⟩) R[i].length R[i].length) R[i].length (flat4 R[i])
theorem OwnRuns.rl {w : World} {base G : Nat} {gs : List Nat} {R : List (List It)} (h : OwnRuns w base G gs R) (cap : Nat) : RL w (.slice (some ⟨G, 0, none⟩) R.length cap) R :=
  ⟨_, cap, rfl, fun _ => ⟨G, 0, rfl, h.hi, fun i hi => ⟨_, by rw [Nat.zero_add]; exact h.cell i hi, IR_of_owns (h.own i hi) rfl⟩⟩⟩
theorem OwnRuns.below {w w' : World} {base G : Nat} {gs : List Nat} {R : List (List It)} (h : OwnRuns w base G gs R) (hb : Below w.heap.size w w') : OwnRuns w' base G gs R where
  lo := h.lo
  hi := Nat.lt_of_lt_of_le h.hi hb.size
  len := h.len
  up := h.up
  gt := h.gt
  fz i := (hb.frozen (p := ⟨G, i, none⟩) h.hi).trans (h.fz i)
  cell i hi := (hb.cell (p := ⟨G, i, none⟩) h.hi).trans (h.cell i hi)
  own i hi := owns_below (h.own i hi) hb
theorem Try.info40 : (Try.prog.info? 40).map (fun i => (i.zero, i.size, i.bytes)) = some (some (.agg #[.slice none 0 0]), 1, 24) := by kernel_rfl

set_option maxHeartbeats 4000000 in
theorem toRunS_any (v : Value) (R : List (List It)) (w : World) (hv : RL w v R) (hn : R.length ≤ 1048576) (hs : ∀ i (h : i < R.length), R[i].length ≤ 1048576) :
    Calls Try.prog 12 #[v] w fun e w' => e = .returned (.slice (some ⟨w.heap.size, 0, none⟩) R.length R.length) ∧ (∃ gs, OwnRuns w' w.heap.size w.heap.size gs R) ∧ Below w.heap.size w w' := by
  obtain ⟨a, cap, rfl, hc⟩ := hv
  obtain ⟨i0, hi, hz0, hz1, hz2⟩ := info_parts Try.info40
  go_enter Try.func12, Try.ntmps12
  go_wp2_with (at_make; refine wpList_make_full _ rfl _ _ 43 rfl w.heap.size 40 i0 _ 1 Try.underlying43 hi hz0 hz1 .i64 .i64 _ _ R.length rfl rfl rfl rfl (by rw [hz2]; omega) (by unfold maxLen; omega) (Nat.le_refl _) ?_; intro w0 hown0 hgr0)
  have hb0 : Below w.heap.size w w0 := (Below.refl _ _).grown hgr0 (Nat.le_refl _) (by simp)
  have hlt0 : w.heap.size < w0.heap.size := (owns_lt hown0).2
  have hex : ∀ i, i < R.length → ∃ u, w0.cell? ⟨w.heap.size, i, none⟩ = some u := fun i hi => by
    rw [hown0.cellAt i (by omega)]
    exact ⟨_, List.getElem?_eq_getElem (by have := hown0.1; omega)⟩
  have hfz : ∀ i, w0.frozen? ⟨w.heap.size, i, none⟩ = false := fun i => hown0.frozenAt i
  clear hgr0 hi hz0 hz1 hz2 hown0
  go_loopw [4] (fun i wr => ∃ (k : Nat) (gs : List Nat), k ≤ R.length ∧ i = .int .i64 k ∧ OwnRuns wr w.heap.size w.heap.size gs (R.take k) ∧ (∀ g ∈ gs, g < wr.heap.size) ∧ (∀ i, i < R.length → ∃ u, wr.cell? ⟨w.heap.size, i, none⟩ = some u) ∧ Below w.heap.size w wr) (fun i _ => R.length - (intOf i).toNat)
  case atStart => exact ⟨0, [], Nat.zero_le _, rfl, ⟨Nat.le_refl _, hlt0, rfl, List.Pairwise.nil, by simp, hfz, fun i h => by simp at h, fun i h => by simp at h⟩, by simp, hex, hb0⟩
  case round =>
    obtain ⟨k, gs, hk, rfl, hO, hgl, hex1, hb⟩ := hrel
    clear hb0 hlt0 hex hfz
    by_cases hlt : k < R.length
    · obtain ⟨b, off, rfl, hbl, hcell⟩ := hc (by intro e; simp [e] at hlt)
      obtain ⟨u, hu, hir⟩ := hcell k hlt
      have hc0 := (hb.cell (p := ⟨b, off + k, none⟩) hbl).trans hu
      have KT := toRun_any u R[k] _ (hir.below hb) (hs k hlt)
      have hz := hb.size
      obtain ⟨ua, uc, rfl, _⟩ := hir
      have HR : Hid (R.take (k + 1) = R.take k ++ [R[k]]) := List.take_succ_eq_append_getElem hlt
      have htl : (R.take k).length = k := by rw [List.length_take]; omega
      clear hcell hs hc hu
      generalize R[k] = s at *
      go_wp2_with fail
      refine KT.mono ?_
      rintro e w1 ⟨g, rfl, hown, hb1⟩
      have hO1 := hO.below hb1
      have hz1 := hb1.size
      have hgg := owns_lt hown
      obtain ⟨uk, hck⟩ := hex1 k hlt
      have hck1 := (hb1.cell (p := ⟨w.heap.size, k, none⟩) hO.hi).trans hck
      have hfk1 := hO1.fz k
      have hGl := hO1.hi
      have hNO : OwnRuns (w1.setCell ⟨w.heap.size, k, none⟩ (.slice (some ⟨g, 0, none⟩) s.length s.length)) w.heap.size w.heap.size (gs ++ [g]) (R.take k ++ [s]) := by
        have hchg : Chg (fun b => b = w.heap.size) w1 (w1.setCell ⟨w.heap.size, k, none⟩ (.slice (some ⟨g, 0, none⟩) s.length s.length)) := (Chg.refl (fun b => b = w.heap.size) w1).setCell (p := ⟨w.heap.size, k, none⟩) rfl _
        have hlen := hO.len
        rw [htl] at hlen
        refine ⟨Nat.le_refl _, by simpa using hO1.hi, by simp [hlen, htl], ?_, ?_, fun i => by simpa using hO1.fz i, fun i hi => ?_, fun i hi => ?_⟩
        · rw [List.pairwise_append]
          refine ⟨hO.up, by simp, fun x hx y hy => ?_⟩
          obtain rfl : y = g := by simpa using hy
          have := hgl x hx; omega
        · intro x hx
          rw [List.mem_append] at hx
          rcases hx with hx | hx
          · exact hO.gt x hx
          · obtain rfl : x = g := by simpa using hx
            have := hO.hi; omega
        · by_cases hik : i < k
          · rw [World.cell?_setCell_other _ _ _ _ (fun e => by have := congrArg Addr.off e; simp at this; omega)]
            have h2 := hO1.cell i (by omega)
            simp only [List.getElem_append_left (show i < gs.length by omega), List.getElem_append_left (show i < (R.take k).length by omega)]
            exact h2
          · have hik2 : i = k := by rw [List.length_append, htl, List.length_singleton] at hi; omega
            subst hik2
            rw [World.cell?_setCell_same _ _ _ hck1]
            simp [List.getElem_append_right, hlen, htl]
        · by_cases hik : i < k
          · have h2 := hO1.own i (by omega)
            simp only [List.getElem_append_left (show i < gs.length by omega), List.getElem_append_left (show i < (R.take k).length by omega)]
            exact hchg.owns h2 (fun b hb hh => by
              have : b = gs[i]'(by omega) := by simpa [Value.ownBlock] using hb.symm
              have := hO.gt _ (List.getElem_mem (show i < gs.length by omega)); omega)
          · have hik2 : i = k := by rw [List.length_append, htl, List.length_singleton] at hi; omega
            subst hik2
            have h2 : (w1.setCell ⟨w.heap.size, i, none⟩ (.slice (some ⟨g, 0, none⟩) s.length s.length)).ownsRow w.heap.size 68 4 (.slice (some ⟨g, 0, none⟩) s.length s.length) s.length (flat4 s) := hchg.owns (owns_base hown (by omega)) (fun b hb hh => by
              have : b = g := by simpa [Value.ownBlock] using hb.symm
              have := hO.hi; omega)
            simpa [List.getElem_append_right, hlen, htl] using h2
      have hex2 : ∀ i, i < R.length → ∃ u, (w1.setCell ⟨w.heap.size, k, none⟩ (.slice (some ⟨g, 0, none⟩) s.length s.length)).cell? ⟨w.heap.size, i, none⟩ = some u := fun i hi => by
        by_cases hik : i = k
        · subst hik; exact ⟨_, World.cell?_setCell_same _ _ _ hck1⟩
        · obtain ⟨u, hu⟩ := hex1 i hi
          exact ⟨u, by rw [World.cell?_setCell_other _ _ _ _ (fun e => hik (congrArg Addr.off e).symm)]; exact (hb1.cell (p := ⟨w.heap.size, i, none⟩) hO.hi).trans hu⟩
      have hgl2 : ∀ x ∈ gs ++ [g], x < w1.heap.size := fun x hx => by
        rw [List.mem_append] at hx
        rcases hx with hx | hx
        · have := hgl x hx; omega
        · obtain rfl : x = g := by simpa using hx
          exact hgg.2
      have hB2 : Below w.heap.size w (w1.setCell ⟨w.heap.size, k, none⟩ (.slice (some ⟨g, 0, none⟩) s.length s.length)) := (hb.trans (hb1.mono hz)).setCell (by simp) _
      clear KT hO hO1 hown hb hb1 hex1 hgl hck
      go_wp2
      go_roundw
      case rel => exact ⟨k + 1, gs ++ [g], by omega, by go_num, by rw [HR.out]; exact hNO, by simpa using hgl2, hex2, hB2⟩
      case measure => simp [intOf]; omega
    · obtain rfl : k = R.length := by omega
      rw [List.take_length] at hO
      clear hc hex1
      go_wp2
      go_ret
      exact ⟨rfl, ⟨gs, hO⟩, hb⟩

set_option maxHeartbeats 2000000 in
theorem eqRunS_same (u v : Value) (R : List (List It)) (w : World) (hu : RL w u R) (hv : RL w v R) (hn : R.length ≤ 1048576) (hs : ∀ i (h : i < R.length), R[i].length ≤ 1048576) :
    Calls Try.prog 15 #[u, v] w fun e w' => e = .returned (.bool true) ∧ Below w.heap.size w w' := by
  obtain ⟨a, cap, rfl, hc⟩ := hu
  obtain ⟨a', cap', rfl, hc'⟩ := hv
  go_enter Try.func15, Try.ntmps15
  go_wp2
  go_loopw [5] (fun i wr => ∃ k : Nat, k ≤ R.length ∧ i = .int .i64 k ∧ Below w.heap.size w wr) (fun i _ => R.length - (intOf i).toNat)
  case atStart => exact ⟨0, Nat.zero_le _, rfl, Below.refl _ _⟩
  case round =>
    obtain ⟨k, hk, rfl, hb⟩ := hrel
    by_cases hlt : k < R.length
    · obtain ⟨b, off, rfl, hbl, hcell⟩ := hc (by intro e; simp [e] at hlt)
      obtain ⟨b', off', rfl, hbl', hcell'⟩ := hc' (by intro e; simp [e] at hlt)
      obtain ⟨x, hx, hirx⟩ := hcell k hlt
      obtain ⟨y, hy, hiry⟩ := hcell' k hlt
      have hc0 := (hb.cell (p := ⟨b, off + k, none⟩) hbl).trans hx
      have hd0 := (hb.cell (p := ⟨b', off' + k, none⟩) hbl').trans hy
      have hixw := hirx.below hb
      have hiyw := hiry.below hb
      have hz := hb.size
      have KE := fun w (h1 : IR w x (R[k]'hlt)) (h2 : IR w y (R[k]'hlt)) => eqRun_same x y (R[k]'hlt) w h1 h2 (hs k hlt)
      obtain ⟨xa, xc, rfl, _⟩ := hirx
      obtain ⟨ya, yc, rfl, _⟩ := hiry
      clear hcell hc hcell' hc' hs hx hy
      generalize R[k] = s at *
      go_wp2_with fail
      go_region_held3 (fun w' => w'.cell? ⟨b, off + k, none⟩ = some (.slice xa s.length xc) ∧ w'.cell? ⟨b', off' + k, none⟩ = some (.slice ya s.length yc)) (go_keep)
        (first | (go_at_call 14; refine (KE _ (hixw.below (Below.refl _ _).drew) (hiyw.below (Below.refl _ _).drew)).mono ?_; rintro e w1 ⟨rfl, hb1'⟩; have hb1 := below_undrew hb1'; have hbl2 : b < wr.heap.size := (by omega); have hbl3 : b' < wr.heap.size := (by omega); replace hc0 := (hb1.cell (p := ⟨b, off + k, none⟩) hbl2).trans hc0; replace hd0 := (hb1.cell (p := ⟨b', off' + k, none⟩) hbl3).trans hd0))
      go_wp2
      go_roundw
      case rel => exact ⟨k + 1, by omega, by go_num, hb.trans (hb1.mono hz)⟩
      case measure => simp [intOf]; omega
    · clear hc hc'
      go_wp2
      go_ret
      exact ⟨rfl, hb⟩

set_option maxHeartbeats 4000000 in
theorem markItemS_big (g cap base : Nat) (l : List It) (k : Int) (w : World) (ho : w.ownsRow base 68 4 (.slice (some ⟨g, 0, none⟩) l.length cap) l.length (flat4 l)) (hn : l.length ≤ 1048576) (h1 : 1 ≤ k) (h2 : k ≤ 10000000) :
    Calls Try.prog 42 #[.slice (some ⟨g, 0, none⟩) l.length cap, .int .i64 k] w fun e w' => e = .returned (.int .i64 (k + 4 * l.length)) ∧ w'.ownsRow base 68 4 (.slice (some ⟨g, 0, none⟩) l.length cap) l.length (flat4 (mkIts k l.length)) ∧ Chg (· = g) w w' := by
  go_enter Try.func42, Try.ntmps42
  go_wp2
  go_loopw [1, 5] (fun t i wr => ∃ j : Nat, j ≤ l.length ∧ i = .int .i64 j ∧ t = .int .i64 (k + 4 * j) ∧ wr.ownsRow base 68 4 (.slice (some ⟨g, 0, none⟩) l.length cap) l.length (flat4 (mkP l k j)) ∧ Chg (· = g) w wr) (fun _ i _ => l.length - (intOf i).toNat)
  case atStart => exact ⟨0, Nat.zero_le _, rfl, by go_num, by rw [mkP_zero]; exact ho, Chg.refl _ _⟩
  case round =>
    clear ho
    obtain ⟨j, hj, rfl, rfl, hown, hch⟩ := hrel
    by_cases hlt : j < l.length
    · have HS : Hid (flat4 ((mkP l k j).set j (mkIt (k + 4 * (j : Int)))) = flat4 (mkP l k (j + 1))) := by show _ = _; rw [mkP_set l k j hlt]
      have HF : Hid (((((flat4 (mkP l k j)).set (j * 4) (.string (mkT (k + 4 * j)))).set (j * 4 + 1) (.int .i64 (k + 4 * j + 1))).set (j * 4 + 2) (.int .i64 (k + 4 * j + 1 + 1))).set (j * 4 + 3) (.string (mkT (k + 4 * j + 1 + 1 + 1))) = flat4 ((mkP l k j).set j (mkIt (k + 4 * (j : Int))))) := flat4_set (mkP l k j) j (mkIt (k + 4 * (j : Int)))
      have HG : Hid (((((flat4 (mkP l k j)).set (j * 4) (.string (mkT (k + 4 * j)))).set (j * 4 + 1) (.int .i64 (k + 4 * j + 1))).set (j * 4 + 2) (.int .i64 (k + 4 * j + 1 + 1))).set (j * 4 + 3) (.string (mkT (k + 4 * j + 1 + 1 + 1))) = flat4 (mkP l k (j + 1))) := HF.out.trans HS.out
      clear HS HF
      generalize flat4 (mkP l k j) = ys at *
      have hgl := (owns_lt hown).2
      go_wp2_with fail
      refine (markText_any _ _ (by omega) (by omega)).mono ?_
      rintro e w1 ⟨rfl, hb1⟩
      replace hown := owns_below hown hb1
      have C1 := hch.trans (Chg.of_below hb1)
      have hgl1 := (owns_lt hown).2
      obtain ⟨⟨u0, d0⟩, f0⟩ := owns4_at hown j hlt 0 (by omega)
      rw [Nat.add_zero] at d0 f0
      have o1 := (hown.stored (j * 4) (.string (mkT (k + 4 * j)))).1
      have o2 := (o1.stored (j * 4 + 1) (.int .i64 (k + 4 * j + 1))).1
      have o3 := (o2.stored (j * 4 + 2) (.int .i64 (k + 4 * j + 1 + 1))).1
      obtain ⟨⟨u1, d1⟩, f1⟩ := owns4_at hown j hlt 1 (by omega)
      obtain ⟨⟨u2, d2⟩, f2⟩ := owns4_at hown j hlt 2 (by omega)
      have C2 := ((C1.setCell (p := ⟨g, j * 4, none⟩) rfl (.string (mkT (k + 4 * j)))).setCell (p := ⟨g, j * 4 + 1, none⟩) rfl (.int .i64 (k + 4 * j + 1))).setCell (p := ⟨g, j * 4 + 2, none⟩) rfl (.int .i64 (k + 4 * j + 1 + 1))
      clear hown hch C1 hb1 o1 o2
      generalize mkT (k + 4 * j) = t1 at *
      go_wp2_with fail
      refine (markText_any _ _ (by omega) (by omega)).mono ?_
      rintro e w2 ⟨rfl, hb2⟩
      replace o3 := owns_below o3 hb2
      have C3 := C2.trans (Chg.of_below hb2)
      have hgl2 := (owns_lt o3).2
      obtain ⟨⟨u3, d3⟩, f3⟩ := owns4_at o3 j hlt 3 (by omega)
      have o4 := (o3.stored (j * 4 + 3) (.string (mkT (k + 4 * j + 1 + 1 + 1)))).1
      have C4 := C3.setCell (p := ⟨g, j * 4 + 3, none⟩) rfl (.string (mkT (k + 4 * j + 1 + 1 + 1)))
      have HO : Hid _ := o4
      clear d0 f0 d1 f1 d2 f2 C2 C3 o3 hb2 o4
      generalize mkT (k + 4 * j + 1 + 1 + 1) = t2 at *
      go_wp2
      go_roundw
      case rel => exact ⟨j + 1, by omega, by go_num, by go_num, by rw [← HG.out]; exact HO.out, C4⟩
      case measure => simp [intOf]; omega
    · obtain rfl : j = l.length := by omega
      rw [mkP_all] at hown
      go_wp2
      go_ret
      exact ⟨rfl, hown, hch⟩


set_option maxHeartbeats 4000000 in
theorem markRunS_at (base G cap : Nat) (gs : List Nat) (R : List (List It)) (w : World) (ho : OwnRuns w base G gs R) (hn : tot5 R + R.length ≤ 1048576) :
    Calls Try.prog 16 #[.slice (some ⟨G, 0, none⟩) R.length cap, .int .i64 1] w fun e w' => (∃ k : Nat, e = .returned (.int .i64 k)) ∧ Chg (fun b => b ∈ gs) w w' := by
  have hlen := ho.len
  have hR : R.length ≤ 1048576 := by omega
  go_enter Try.func16, Try.ntmps16
  go_wp2
  go_loopw [1, 5] (fun t i wr => ∃ (j m : Nat), j ≤ R.length ∧ i = .int .i64 j ∧ t = .int .i64 m ∧ 1 ≤ m ∧ m ≤ 1 + 4 * tot5 (R.take j) ∧ (∀ i (h : i < R.length), j ≤ i → wr.ownsRow base 68 4 (.slice (some ⟨gs[i]'(by omega), 0, none⟩) R[i].length R[i].length) R[i].length (flat4 R[i])) ∧ Chg (fun b => b ∈ gs) w wr) (fun _ i _ => R.length - (intOf i).toNat)
  case atStart => exact ⟨0, 1, Nat.zero_le _, rfl, rfl, by omega, by omega, fun i h _ => ho.own i h, Chg.refl _ _⟩
  case round =>
    obtain ⟨j, m, hj, rfl, rfl, hm1, hm2, hown, hch⟩ := hrel
    by_cases hlt : j < R.length
    · have hG : ¬ G ∈ gs := fun h => by have := ho.gt G h; omega
      have hcj := ho.cell j hlt
      have hc0 : wr.cell? ⟨G, j, none⟩ = some (.slice (some ⟨gs[j]'(by omega), 0, none⟩) R[j].length R[j].length) := by
        rw [← hcj]
        have := hch.block G ho.hi hG
        simp [World.cell?, this]
      have hGl : G < wr.heap.size := Nat.lt_of_lt_of_le ho.hi hch.size
      have hrow := hown j hlt (Nat.le_refl _)
      have htk := tot5_take R j hlt
      have htm := tot5_mem R j hlt
      have htt : tot5 (R.take (j + 1)) ≤ tot5 R := by
        have : ∀ (l : List (List It)) n, tot5 (l.take n) ≤ tot5 l := fun l => by
          induction l with
          | nil => intro n; simp [tot5]
          | cons x r ih => intro n; cases n with | zero => simp [tot5] | succ n => simp only [List.take_succ_cons, tot5]; have := ih n; omega
        exact this R (j + 1)
      have KM := markItemS_big (gs[j]'(by omega)) R[j].length base R[j] (m : Int) wr hrow (by omega) (by omega) (by omega)
      have hrest : ∀ w', Chg (· = gs[j]'(by omega)) wr w' → ∀ i (h : i < R.length), j + 1 ≤ i → w'.ownsRow base 68 4 (.slice (some ⟨gs[i]'(by omega), 0, none⟩) R[i].length R[i].length) R[i].length (flat4 R[i]) := fun w' hc i h hji => hc.owns (hown i h (by omega)) (fun b hb hh => by
        have e : b = gs[i]'(by omega) := by simpa [Value.ownBlock] using hb.symm
        have := List.pairwise_iff_getElem.1 ho.up j i (by omega) (by omega) (by omega)
        omega)
      have hmem : gs[j]'(by omega) ∈ gs := List.getElem_mem _
      have hml : m + 4 * R[j].length ≤ 1 + 4 * tot5 (R.take (j + 1)) := by rw [htk]; omega
      clear hown hrow htk htm hcj ho htt
      generalize gs[j]'(by omega) = gj at *
      generalize hRj : R[j] = s at *
      go_wp2_with fail
      refine KM.mono ?_
      rintro e w1 ⟨rfl, _, hc1⟩
      have hr1 := hrest w1 hc1
      have hch1 := hch.trans (hc1.mono (fun b h => by rw [h]; exact hmem))
      clear KM hrest hc1 hch hc0 hRj
      go_wp2
      go_roundw
      case rel => exact ⟨j + 1, m + 4 * s.length, by omega, by go_num, by go_num, by omega, hml, hr1, hch1⟩
      case measure => simp [intOf]; omega
    · clear hown
      go_wp2
      go_ret
      exact ⟨⟨m, rfl⟩, hch⟩
end Go.Proofs.Ytcjkdkaahkphfaa
