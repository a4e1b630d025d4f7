/-
  The bytes of a run's table: spec.l7Good, l7Word, l7Keys, l7Table, TableBytes.
  The bytes of a run's table: spec.l7Table, spec.TableBytes.
-/
import Derived.Test.YtfdaffnkgpdhhaaGreatJw
import Derived.Test.YtfdaffnkgpdhhaaGreatBz
import Derived.Test.YtfdaffnkgpdhhaaGreatWu
import Derived.BigQuiet
import Derived.Deep.QuietTactic
namespace Go.Proofs.YtfdaffnkgpdhhaaGreat
open Go.RowKit
set_option linter.unusedVariables false
set_option maxRecDepth 100000

theorem l7Good_any (v : Value) (l : List It) (w : World) (hv : IR w v l) (hn : l.length ≤ 1048576) (hs : ∀ i (h : i < l.length), l[i].k.size ≤ 1048576 ∧ l[i].v.size ≤ 1048576) :
    Calls Tryz.prog 35 #[v] w fun e w' => e = .returned (.bool (okT l)) ∧ Below w.heap.size w w' := by
  have KG := fun w h => specRun_any v l w h hn hs
  have HO : Hid (okT l = (goodR l && decide (1 ≤ l.length) && decide (l.length ≤ 120))) := rfl
  have hir := hv
  obtain ⟨a, cap, rfl, _⟩ := hv
  have KI := fun w => l1In_any (l.length : Int) 1 120 w
  cases hg : goodR l with
  | false =>
    rw [hg] at HO KG
    go_enter Tryz.func35, Tryz.ntmps35
    go_wp2_with fail
    refine (KG _ hir).mono ?_
    rintro e w1 ⟨rfl, hb1⟩
    go_wp2
    go_ret
    exact ⟨by rw [HO.out]; rfl, hb1⟩
  | true =>
    rw [hg] at HO KG
    go_enter Tryz.func35, Tryz.ntmps35
    go_wp2_with fail
    refine (KG _ hir).mono ?_
    rintro e w1 ⟨rfl, hb1⟩
    go_wp2_with fail
    refine (KI _).mono ?_
    rintro e w2 ⟨rfl, hw⟩
    rw [hw]; clear hw
    go_wp2
    go_ret
    have hd : (decide ((1 : Int) ≤ (l.length : Int)) && decide ((l.length : Int) ≤ 120)) = (decide (1 ≤ l.length) && decide (l.length ≤ 120)) := by
      congr 1 <;> rw [decide_eq_decide] <;> omega
    exact ⟨by rw [HO.out, Bool.true_and, ← hd]; rfl, hb1⟩
theorem l7Word_any (n : Nat) (w : World) (hn : n < 4294967296) :
    Calls Tryz.prog 75 #[.int .i64 n] w fun e w' => e = .returned (.string (tx (wordL n))) ∧ Below w.heap.size w w' := by
  have KW := fun w => l2Word_any n w hn
  go_enter Tryz.func75, Tryz.ntmps75
  go_wp2_with fail
  refine (KW _).mono ?_
  rintro e w1 ⟨rfl, hb1⟩
  go_wp2
  go_ret
  exact ⟨rfl, hb1⟩
theorem IR_cut {w : World} {b off cap : Nat} {l : List It} (hv : IR w (.slice (some ⟨b, off, none⟩) l.length cap) l) {i : Nat} (hi : i < nb l) (c : Nat) : IR w (.slice (some ⟨b, off + 8 * i * 4, none⟩) (min 8 (l.length - 8 * i)) c) (chk l i) := by
  obtain ⟨a, c', h, hc⟩ := IR_chunk hv hi
  unfold chV at h
  injection h with h1 h2 h3
  exact ⟨a, c, by rw [h1, h2], hc⟩

set_option maxHeartbeats 2000000 in
theorem l7Keys_any (v : Value) (l : List It) (w : World) (hv : IR w v l) (hn : l.length ≤ 100000) :
    Calls Tryz.prog 60 #[v] w fun e w' => ∃ v', e = .returned v' ∧ SL w' v' (kuL l l.length) ∧ Below w.heap.size w w' := by
  obtain ⟨a, cap, rfl, hc⟩ := hv
  obtain ⟨i0, hi, hz0, hzs, hzb⟩ := info_parts Tryz.info9
  go_enter Tryz.func60, Tryz.ntmps60
  go_wp2_with fail
  go_loopw [3, 8] (fun kv i wr => ∃ k : Nat, k ≤ l.length ∧ i = .int .i64 k ∧ wr.ownsRow w.heap.size 9 1 kv (kuL l k).length ((kuL l k).map Value.string) ∧ Below w.heap.size w wr) (fun _ i _ => l.length - (intOf i).toNat)
  case atStart => exact ⟨0, Nat.zero_le _, rfl, World.ownsRow_nil _ _ _ _, Below.refl _ _⟩
  case round =>
    obtain ⟨k, hk, rfl, hown, hB⟩ := hrel
    have hzB := hB.size
    have hkl := kuL_len l k
    obtain ⟨ka, kcap, rfl⟩ : ∃ ka kcap, u3 = .slice ka (kuL l k).length kcap := by
      rcases hown.2 with ⟨h, h0⟩ | ⟨g, c, cur, h, _⟩
      · exact ⟨none, 0, by rw [h, h0]⟩
      · exact ⟨_, _, h⟩
    by_cases hlt : k < l.length
    · obtain ⟨b, off, rfl, hbl, hcell⟩ := hc (by intro e; simp [e] at hlt)
      obtain ⟨c0, c1, c2, c3⟩ := hcell k hlt
      have d0 := (hB.cell (p := ⟨b, _, none⟩) hbl).trans c0
      have d1 := (hB.cell (p := ⟨b, _, none⟩) hbl).trans c1
      have d2 := (hB.cell (p := ⟨b, _, none⟩) hbl).trans c2
      have d3 := (hB.cell (p := ⟨b, _, none⟩) hbl).trans c3
      have hgk : ∀ j (h : j < l.length), l.getD j default = l[j] := fun j h => by rw [List.getD_eq_getElem?_getD, List.getElem?_eq_getElem h]; rfl
      have HN : Hid (kuL l (k + 1) = kuL l k ++ (if k = 0 ∨ (l.getD (k - 1) default).k ≠ (l.getD k default).k then [(l.getD k default).k] else [])) := rfl
      have hprev : k ≠ 0 → wr.cell? ⟨b, off + (k - 1) * 4, none⟩ = some (.string (l.getD (k - 1) default).k) := fun h => by
        rw [hgk (k - 1) (by omega)]
        exact (hB.cell (p := ⟨b, _, none⟩) hbl).trans (hcell (k - 1) (by omega)).1
      rw [hgk k hlt] at HN
      clear hcell c0 c1 c2 c3 hc hgk
      obtain ⟨p, hp⟩ : ∃ p, p = l[k] := ⟨_, rfl⟩
      rw [← hp] at HN d0 d1 d2 d3
      clear hp
      obtain ⟨pk, pn, pd, pv⟩ := p
      dsimp only at d0 d1 d2 d3 HN
      obtain ⟨W0, hW0⟩ : ∃ W0, W0 = wr.alloc (.cells #[.string pk, .int .i64 pn, .int .i64 pd, .string pv] 33) := ⟨_, rfl⟩
      have hB0 : Below w.heap.size w W0 := by rw [hW0]; exact hB.alloc hB.size _
      have hb0 : Below wr.heap.size wr W0 := by rw [hW0]; exact below_alloc _ _
      have X0 : Box W0 wr.heap.size [.string pk, .int .i64 pn, .int .i64 pd, .string pv] := by rw [hW0]; exact Box.new wr #[.string pk, .int .i64 pn, .int .i64 pd, .string pv] 33
      have hown0 : W0.ownsRow w.heap.size 9 1 (.slice ka (kuL l k).length kcap) (kuL l k).length ((kuL l k).map Value.string) := by rw [hW0]; exact hown.alloc _
      have hz0w := hB0.size
      have hblr : b < wr.heap.size := Nat.lt_of_lt_of_le hbl hzB
      clear hown
      generalize hkl2 : (kuL l k).length = q at *
      have app : ∀ W : World, Below w.heap.size w W → W.ownsRow w.heap.size 9 1 (.slice ka q kcap) q ((kuL l k).map Value.string) → kuL l (k + 1) = kuL l k ++ [pk] → ∀ v' w3, w3.ownsRow w.heap.size 9 1 v' (q + 1) ((kuL l k).map Value.string ++ [.string pk]) → (W.alloc (.cells #[.string pk] 9)).grownBy w3 (Value.slice ka q kcap).ownBlock → w3.ownsRow w.heap.size 9 1 v' (kuL l (k + 1)).length ((kuL l (k + 1)).map Value.string) ∧ Below w.heap.size w w3 := by
        intro W hBW hoW hku v' w3 h3 hg3
        refine ⟨by rw [hku, List.length_append, List.map_append, hkl2]; exact h3, ?_⟩
        exact (hBW.alloc hBW.size _).grown hg3 (by have := hBW.size; simp; omega) (fun j hj => (hoW.lt j hj).1)
      by_cases hk0 : k = 0
      · subst hk0
        simp only [Nat.zero_mul, Nat.add_zero] at d0 d1 d2 d3
        have hk0 : (0 : Nat) = 0 := rfl
        have HY : Hid (kuL l (0 + 1) = kuL l 0 ++ [pk]) := by show _ = _; rw [HN.out, if_pos (.inl rfl)]
        clear hk0
        obtain ⟨_, x0, x1, x2, x3⟩ := X0.c4
        rw [hW0] at x0 x1 x2 x3
        go_wp2_with fail
        rw [← hW0]
        have x0' := (X0.c4).2.1
        go_quiet (fail)
        obtain ⟨W1, hW1⟩ : ∃ W1, W1 = W0.drewN nq := ⟨_, rfl⟩
        have hB1 : Below w.heap.size w W1 := by rw [hW1]; exact below_dn hB0 _
        have hown1 : W1.ownsRow w.heap.size 9 1 (.slice ka q kcap) q ((kuL l 0).map Value.string) := by rw [hW1]; exact hown0
        have X1 : Box W1 wr.heap.size [.string pk, .int .i64 pn, .int .i64 pd, .string pv] := by rw [hW1]; exact ⟨X0.1, X0.2.1, X0.2.2⟩
        have hz1w := hB1.size
        rw [← hW1]
        have hown2 := hown1.alloc (.cells #[.string pk] 9)
        have hcn := cell_new1 W1 (.string pk) 9
        obtain ⟨_, y0, y1, y2, y3⟩ := X1.c4
        clear x0 x1 x2 x3 x0' hW1 X0 hown0 d0 d1 d2 d3 hprev
        go_wp2_with (at_builtin; refine wpList_append_own _ rfl _ _ 94 rfl w.heap.size 9 i0 (.string ⟨#[]⟩) 1 16 Tryz.underlying94 hi hz0 hzs hzb rfl (by decide) _ q ((kuL l 0).map Value.string) rfl hown2 ⟨W1.heap.size, 0, none⟩ 1 1 [.string pk] rfl rfl hcn (by intro u hu; simp at hu; subst hu; rfl) (by unfold maxLen; omega) (by omega) (by simp; omega) ?_; intro v' w3 hown3 hgrow3 _)
        go_roundw
        case rel =>
          have := app W1 hB1 hown1 HY.out v' w3 hown3 hgrow3
          exact ⟨0 + 1, by omega, by go_num, this.1, this.2⟩
        case measure => simp [intOf]; omega
      · have hg : ((k : Int) == 0) = false := by rw [beq_eq_false_iff_ne]; omega
        have hpv := hprev hk0
        have hpv2 := (hb0.cell (p := ⟨b, _, none⟩) hblr).trans hpv
        obtain ⟨pp, hpp⟩ : ∃ pp, pp = (l.getD (k - 1) default).k := ⟨_, rfl⟩
        rw [← hpp] at hpv hpv2 HN
        clear hpp hprev
        have hkm : ((k : Int) - 1).toNat = k - 1 := by omega
        obtain ⟨_, x0, x1, x2, x3⟩ := X0.c4
        by_cases he : pp = pk
        · subst he
          have HY : Hid (kuL l (k + 1) = kuL l k) := by show _ = _; rw [HN.out, if_neg (by simp [hk0]), List.append_nil]
          have hgq := tl_eq (rfl : pp = pp)
          go_wp2_with fail
          rw [← hW0]
          go_quiet (fail)
          obtain ⟨W1, hW1⟩ : ∃ W1, W1 = W0.drewN nq := ⟨_, rfl⟩
          have hB1 : Below w.heap.size w W1 := by rw [hW1]; exact below_dn hB0 _
          have hown1 : W1.ownsRow w.heap.size 9 1 (.slice ka q kcap) q ((kuL l k).map Value.string) := by rw [hW1]; exact hown0
          rw [← hW1]
          clear hW1
          go_wp2
          go_roundw
          case rel => exact ⟨k + 1, by omega, by go_num, by rw [HY.out, hkl2]; exact hown1, hB1⟩
          case measure => simp [intOf]; omega
        · have HY : Hid (kuL l (k + 1) = kuL l k ++ [pk]) := by show _ = _; rw [HN.out, if_pos (.inr he)]
          have hgq := tl_ne he
          go_wp2_with fail
          rw [← hW0]
          go_quiet (fail)
          obtain ⟨W1, hW1⟩ : ∃ W1, W1 = W0.drewN nq := ⟨_, rfl⟩
          have hB1 : Below w.heap.size w W1 := by rw [hW1]; exact below_dn hB0 _
          have hown1 : W1.ownsRow w.heap.size 9 1 (.slice ka q kcap) q ((kuL l k).map Value.string) := by rw [hW1]; exact hown0
          have X1 : Box W1 wr.heap.size [.string pk, .int .i64 pn, .int .i64 pd, .string pv] := by rw [hW1]; exact ⟨X0.1, X0.2.1, X0.2.2⟩
          have hz1w := hB1.size
          rw [← hW1]
          have hown2 := hown1.alloc (.cells #[.string pk] 9)
          have hcn := cell_new1 W1 (.string pk) 9
          obtain ⟨_, y0, y1, y2, y3⟩ := X1.c4
          clear x0 x1 x2 x3 hW1 X0 hown0 d0 d1 d2 d3 hpv hpv2
          go_wp2_with (at_builtin; refine wpList_append_own _ rfl _ _ 94 rfl w.heap.size 9 i0 (.string ⟨#[]⟩) 1 16 Tryz.underlying94 hi hz0 hzs hzb rfl (by decide) _ q ((kuL l k).map Value.string) rfl hown2 ⟨W1.heap.size, 0, none⟩ 1 1 [.string pk] rfl rfl hcn (by intro u hu; simp at hu; subst hu; rfl) (by unfold maxLen; omega) (by omega) (by simp; omega) ?_; intro v' w3 hown3 hgrow3 _)
          go_roundw
          case rel =>
            have := app W1 hB1 hown1 HY.out v' w3 hown3 hgrow3
            exact ⟨k + 1, by omega, by go_num, this.1, this.2⟩
          case measure => simp [intOf]; omega
    · obtain rfl : k = l.length := by omega
      have hsl := SL_of_owns hown
      clear hc hown
      generalize (kuL l l.length).length = q at *
      go_wp2
      go_ret
      exact ⟨_, rfl, hsl, hB⟩
end Go.Proofs.YtfdaffnkgpdhhaaGreat

namespace Go.Proofs.YtfdaffnkgpdhhaaGreat
open Go.RowKit
set_option linter.unusedVariables false
set_option maxRecDepth 100000

theorem ix_step_tx (l : List It) (k : Nat) : tx (ixL l (k + 1)) = tx (ixL l k) ++ (tx (varL (lastI l k).k.size) ++ (lastI l k).k ++ tx (varL (lastI l k).n.toNat) ++ tx (varL (bsL l k).length) ++ tx (varL (blkL (chk l k)).length)) := by
  apply ByteArray.ext
  simp [ixL, plcL, tx, bl]
theorem bs_step_tx (l : List It) (k : Nat) : tx (bsL l (k + 1)) = tx (bsL l k) ++ tx (blkL (chk l k)) := by rw [tx_cat]; rfl
theorem tb_tx {l : List It} (hk : okT l = true) : tb l = tx (bsL l (nb l)) ++ frameT (tx (ixL l (nb l))) ++ frameT (fbT l) ++ tx (wordL (bsL l (nb l)).length) ++ tx (wordL (csum (wordL (bsL l (nb l)).length))) := by
  have hn := nb_le hk
  have hx := ixL_len hk (Nat.le_refl _)
  obtain ⟨m', _, _, hfs⟩ := filF_run hk
  rw [frameT, if_pos (by rw [tx_size]; omega), frameT, if_pos (by omega)]
  apply ByteArray.ext
  simp [tb, tbL, tx, endL, bl]

set_option maxHeartbeats 4000000 in
theorem l7Table_any (b off cap : Nat) (l : List It) (w : World) (hv : IR w (.slice (some ⟨b, off, none⟩) l.length cap) l) (hcap : l.length ≤ cap) (hk : okT l = true) :
    Calls Tryz.prog 36 #[.slice (some ⟨b, off, none⟩) l.length cap] w fun e w' => e = .returned (.string (tb l)) ∧ Below w.heap.size w w' := by
  have hp := okT_parts hk
  have hn := nb_le hk
  have hnb : nb l = (l.length + 7) / 8 := rfl
  go_enter Tryz.func36, Tryz.ntmps36
  go_wp2_with fail
  go_loopw [3, 4, 5] (fun sv xv i wr => ∃ k : Nat, k ≤ nb l ∧ sv = .string (tx (bsL l k)) ∧ xv = .string (tx (ixL l k)) ∧ i = .int .i64 (8 * k : Nat) ∧ Below w.heap.size w wr) (fun _ _ i _ => l.length + 8 - (intOf i).toNat)
  case atStart => exact ⟨0, Nat.zero_le _, rfl, rfl, rfl, Below.refl _ _⟩
  case round =>
    obtain ⟨k, hkn, rfl, rfl, rfl, hB⟩ := hrel
    have hbs := bsL_len hp.1 k
    have hxs := ixL_len hk hkn
    by_cases hlt : k < nb l
    · have hlt8 : 8 * k < l.length := nb_lt hlt
      obtain ⟨m, hm⟩ : ∃ m : Nat, min 8 (l.length - 8 * k) = m := ⟨_, rfl⟩
      have hm1 : 1 ≤ m ∧ m ≤ 8 ∧ 8 * k + m ≤ l.length := by omega
      have hir := IR_cut (hv.below hB) hlt (cap - 8 * k)
      rw [hm] at hir
      have KB := fun v w h => l6Block_any v (chk l k) w h (by rw [chk_len]; omega) (chk_good hp.1 k)
      have hTs := chk_small hp.1 k
      have hTz : (tx (blkL (chk l k))).size = (blkL (chk l k)).length := tx_size _
      have hok := lastI_ok hp.1 hlt
      have hq1 := okIt_key hok
      have hq2 := okIt_seq hok
      have hlen : (chk l k).length = m := by rw [chk_len, hm]
      have hlastE : lastI l k = l[8 * k + m - 1]'(by omega) := by
        unfold lastI
        rw [chk_at l k _ (by omega), hlen, List.getD_eq_getElem?_getD, List.getElem?_eq_getElem (by omega)]
        show l[8 * k + (m - 1)] = _
        congr 1; omega
      have hcells : b < w.heap.size ∧ wr.cell? ⟨b, off + (8 * k + m - 1) * 4, none⟩ = some (.string (lastI l k).k) ∧ wr.cell? ⟨b, off + (8 * k + m - 1) * 4 + 1, none⟩ = some (.int .i64 (lastI l k).n) ∧ wr.cell? ⟨b, off + (8 * k + m - 1) * 4 + 2, none⟩ = some (.int .i64 (lastI l k).d) ∧ wr.cell? ⟨b, off + (8 * k + m - 1) * 4 + 3, none⟩ = some (.string (lastI l k).v) := by
        obtain ⟨a'', c'', he, hc⟩ := hv
        injection he with e1 e2 e3
        subst e1
        obtain ⟨b', off', he', hbl, hcell⟩ := hc (by intro e; rw [e] at hlt8; simp at hlt8)
        cases he'
        obtain ⟨c0, c1, c2, c3⟩ := hcell (8 * k + m - 1) (by omega)
        rw [hlastE]
        exact ⟨hbl, (hB.cell (p := ⟨b, _, none⟩) hbl).trans c0, (hB.cell (p := ⟨b, _, none⟩) hbl).trans c1, (hB.cell (p := ⟨b, _, none⟩) hbl).trans c2, (hB.cell (p := ⟨b, _, none⟩) hbl).trans c3⟩
      obtain ⟨hbl, hl0, hl1, hl2, hl3⟩ := hcells
      have HX : Hid _ := ix_step_tx l k
      have HS : Hid _ := bs_step_tx l k
      have hz1 := tx_size (bsL l k)
      have hz2 := tx_size (ixL l k)
      clear hlastE hlen hok
      generalize lastI l k = q at *
      obtain ⟨qk, qn, qd, qv⟩ := q
      dsimp only at hl0 hl1 hl2 hl3 HX hq1 hq2
      obtain ⟨qn, rfl⟩ := Int.eq_ofNat_of_zero_le hq2.1
      rw [Int.toNat_natCast] at HX
      have e1 : (tx (varL qk.size)).size ≤ 9 := by rw [tx_size]; exact varL_len 8 _ (by simp; omega)
      have e2 : (tx (varL qn)).size ≤ 9 := by rw [tx_size]; exact varL_len 8 _ (by simp; omega)
      have e3 : (tx (varL (bsL l k).length)).size ≤ 9 := by rw [tx_size]; exact varL_len 8 _ (by simp; omega)
      have e4 : (tx (varL (blkL (chk l k)).length)).size ≤ 9 := by rw [tx_size]; exact varL_len 8 _ (by simp; omega)
      have K1 := fun w => l2Var_any qk.size w (by omega)
      have K2 := fun w => l2Var_any qn w (by omega)
      have K3 := fun w => l2Var_any (bsL l k).length w (by omega)
      have K4 := fun w => l2Var_any (blkL (chk l k)).length w (by omega)
      change ∀ w, Calls _ _ _ w fun e w' => e = .returned (.string (tx (varL qk.size))) ∧ _ at K1
      change ∀ w, Calls _ _ _ w fun e w' => e = .returned (.string (tx (varL qn))) ∧ _ at K2
      change ∀ w, Calls _ _ _ w fun e w' => e = .returned (.string (tx (varL (bsL l k).length))) ∧ _ at K3
      change ∀ w, Calls _ _ _ w fun e w' => e = .returned (.string (tx (varL (blkL (chk l k)).length))) ∧ _ at K4
      generalize tx (varL qk.size) = V1 at *
      generalize tx (varL qn) = V2 at *
      generalize tx (varL (bsL l k).length) = V3 at *
      generalize tx (varL (blkL (chk l k)).length) = V4 at *
      generalize tx (ixL l k) = X1 at *
      generalize tx (bsL l k) = S1 at *
      generalize tx (blkL (chk l k)) = T at *
      rw [← hz1] at K3
      rw [← hTz] at K4 hTs
      rw [← hz1] at hbs
      rw [← hz2] at hxs
      clear hz1 hz2 hTz
      have fin : ∀ wx, Below w.heap.size w wx → True := fun _ _ => trivial
      clear fin
      obtain ⟨W0, hW0⟩ : ∃ W0 : World → World, W0 = fun w1 => w1.alloc (.cells #[.string qk, .int .i64 (qn : Int), .int .i64 qd, .string qv] 33) := ⟨_, rfl⟩
      clear hW0 W0
      by_cases hend : 8 * k + 8 ≤ l.length
      · obtain rfl : m = 8 := by omega
        have g1 : decide ((l.length : Int) < ((8 * k : Nat) : Int) + 8) = false := by simp; omega
        have hix : (((8 * k : Nat) : Int) + 8 - 1).toNat = 8 * k + 7 := by omega
        rw [show 8 * k + 8 - 1 = 8 * k + 7 from rfl] at hl0 hl1 hl2 hl3
        go_wp2_with fail
        refine (KB _ _ hir).mono ?_
        rintro e w1 ⟨rfl, hb1⟩
        have hB1 := below_then hB hb1
        have hz1w := hB1.size
        have c0 := (hB1.cell (p := ⟨b, _, none⟩) hbl).trans ((hB.cell (p := ⟨b, _, none⟩) hbl).symm.trans hl0)
        have c1 := (hB1.cell (p := ⟨b, _, none⟩) hbl).trans ((hB.cell (p := ⟨b, _, none⟩) hbl).symm.trans hl1)
        have c2 := (hB1.cell (p := ⟨b, _, none⟩) hbl).trans ((hB.cell (p := ⟨b, _, none⟩) hbl).symm.trans hl2)
        have c3 := (hB1.cell (p := ⟨b, _, none⟩) hbl).trans ((hB.cell (p := ⟨b, _, none⟩) hbl).symm.trans hl3)
        obtain ⟨W0, hW0⟩ : ∃ W0, W0 = w1.alloc (.cells #[.string qk, .int .i64 (qn : Int), .int .i64 qd, .string qv] 33) := ⟨_, rfl⟩
        have X0 : Box W0 w1.heap.size [.string qk, .int .i64 (qn : Int), .int .i64 qd, .string qv] := by rw [hW0]; exact Box.new w1 #[.string qk, .int .i64 (qn : Int), .int .i64 qd, .string qv] 33
        have hB0 : Below w.heap.size w W0 := by rw [hW0]; exact hB1.alloc hz1w _
        clear KB hir hl0 hl1 hl2 hl3 hB hb1
        go_wp2_with fail
        rw [← hW0]; clear hW0 c0 c1 c2 c3
        have hz0 := hB0.size
        have p0 := fun x : WC W0.heap.size W0 => (X0.below x.ok).2.1 0 _ rfl
        have p1 := fun x : WC W0.heap.size W0 => (X0.below x.ok).2.1 1 _ rfl
        have hne : Nonempty (WC W0.heap.size W0) := ⟨⟨_, Below.refl _ _⟩⟩
        refine wp_region_calm (B := W0.heap.size) (W := W0) (by kernel_rfl) (by kernel_rfl) (Below.refl _ _) ?_
        repeat (go_big_quiet_step (first | (go_at_call 74; first | with_reducible exact calm_of_below (Nat.le_refl _) (K1 _) | with_reducible exact calm_of_below (Nat.le_refl _) (K2 _) | with_reducible exact calm_of_below (Nat.le_refl _) (K3 _) | with_reducible exact calm_of_below (Nat.le_refl _) (K4 _))))
        refine wpQuiet_nil ?_
        intro _ hw'
        obtain ⟨x, hx⟩ := hw'
        subst hx
        have hB2 := hB0.trans (x.ok.mono hz0)
        generalize x.w = w2 at *
        clear x p0 p1 hne X0 hB0 K1 K2 K3 K4
        go_wp2
        go_roundw
        case rel => exact ⟨k + 1, by omega, by rw [HS.out], by rw [HX.out], by go_num, hB2⟩
        case measure => simp [intOf]; omega
      · obtain rfl : m = l.length - 8 * k := by omega
        have g1 : decide ((l.length : Int) < ((8 * k : Nat) : Int) + 8) = true := by simp; omega
        have hix : ((l.length : Int) - 1).toNat = l.length - 1 := by omega
        rw [show 8 * k + (l.length - 8 * k) - 1 = l.length - 1 from by omega] at hl0 hl1 hl2 hl3
        go_wp2_with fail
        refine (KB _ _ hir).mono ?_
        rintro e w1 ⟨rfl, hb1⟩
        have hB1 := below_then hB hb1
        have hz1w := hB1.size
        have c0 := (hB1.cell (p := ⟨b, _, none⟩) hbl).trans ((hB.cell (p := ⟨b, _, none⟩) hbl).symm.trans hl0)
        have c1 := (hB1.cell (p := ⟨b, _, none⟩) hbl).trans ((hB.cell (p := ⟨b, _, none⟩) hbl).symm.trans hl1)
        have c2 := (hB1.cell (p := ⟨b, _, none⟩) hbl).trans ((hB.cell (p := ⟨b, _, none⟩) hbl).symm.trans hl2)
        have c3 := (hB1.cell (p := ⟨b, _, none⟩) hbl).trans ((hB.cell (p := ⟨b, _, none⟩) hbl).symm.trans hl3)
        obtain ⟨W0, hW0⟩ : ∃ W0, W0 = w1.alloc (.cells #[.string qk, .int .i64 (qn : Int), .int .i64 qd, .string qv] 33) := ⟨_, rfl⟩
        have X0 : Box W0 w1.heap.size [.string qk, .int .i64 (qn : Int), .int .i64 qd, .string qv] := by rw [hW0]; exact Box.new w1 #[.string qk, .int .i64 (qn : Int), .int .i64 qd, .string qv] 33
        have hB0 : Below w.heap.size w W0 := by rw [hW0]; exact hB1.alloc hz1w _
        clear KB hir hl0 hl1 hl2 hl3 hB hb1
        go_wp2_with fail
        rw [← hW0]; clear hW0 c0 c1 c2 c3
        have hz0 := hB0.size
        have p0 := fun x : WC W0.heap.size W0 => (X0.below x.ok).2.1 0 _ rfl
        have p1 := fun x : WC W0.heap.size W0 => (X0.below x.ok).2.1 1 _ rfl
        have hne : Nonempty (WC W0.heap.size W0) := ⟨⟨_, Below.refl _ _⟩⟩
        refine wp_region_calm (B := W0.heap.size) (W := W0) (by kernel_rfl) (by kernel_rfl) (Below.refl _ _) ?_
        repeat (go_big_quiet_step (first | (go_at_call 74; first | with_reducible exact calm_of_below (Nat.le_refl _) (K1 _) | with_reducible exact calm_of_below (Nat.le_refl _) (K2 _) | with_reducible exact calm_of_below (Nat.le_refl _) (K3 _) | with_reducible exact calm_of_below (Nat.le_refl _) (K4 _))))
        refine wpQuiet_nil ?_
        intro _ hw'
        obtain ⟨x, hx⟩ := hw'
        subst hx
        have hB2 := hB0.trans (x.ok.mono hz0)
        generalize x.w = w2 at *
        clear x p0 p1 hne X0 hB0 K1 K2 K3 K4
        go_wp2
        go_roundw
        case rel => exact ⟨k + 1, by omega, by rw [HS.out], by rw [HX.out], by go_num, hB2⟩
        case measure => simp [intOf]; omega
    · obtain rfl : k = nb l := by omega
      have g1 : decide (((8 * nb l : Nat) : Int) < (l.length : Int)) = false := by simp; omega
      obtain ⟨fm, hfm, hfg, hfs⟩ := filF_run hk
      have KK := fun w h => l7Keys_any (.slice (some ⟨b, off, none⟩) l.length cap) l w h (by omega)
      have KF := fun v w h => specFil_good 4 v (kuL l l.length) w h (by have := kuL_len l l.length; omega) (by decide)
      rw [hfm] at KF
      dsimp only at KF
      have hirW := hv.below hB
      have HT : Hid _ := tb_tx hk
      have KW := fun w => l7Word_any (bsL l (nb l)).length w (by omega)
      have K1 := fun w => l2Frame_any (tx (ixL l (nb l))) w (by rw [tx_size]; omega)
      have K2 := fun w => l2Frame_any (fbT l) w (by omega)
      have K3 := fun w => l2Sum_any (tx (wordL (bsL l (nb l)).length)) w (by rw [tx_size]; show 4 ≤ _; omega)
      have K4 := fun w => l2Word_any (csum (wordL (bsL l (nb l)).length)) w (csum_lt _)
      change ∀ w, Calls _ _ _ w fun e w' => e = .returned (.int .u32 ((csum (wordL (bsL l (nb l)).length) : Nat) : Int)) ∧ _ at K3
      change ∀ w, Calls _ _ _ w fun e w' => e = .returned (.string (tx (wordL (csum (wordL (bsL l (nb l)).length))))) ∧ _ at K4
      have e1 : (frameT (tx (ixL l (nb l)))).size ≤ 1013 := frameT_size _ (by rw [tx_size]; omega)
      have e2 : (frameT (fbT l)).size ≤ 1013 := frameT_size _ (by omega)
      have e3 : (tx (wordL (bsL l (nb l)).length)).size = 4 := rfl
      have e4 : (tx (wordL (csum (wordL (bsL l (nb l)).length)))).size = 4 := rfl
      have hz1 := tx_size (bsL l (nb l))
      generalize csum (wordL (bsL l (nb l)).length) = c at *
      generalize tx (wordL c) = V4 at *
      generalize tx (wordL (bsL l (nb l)).length) = V3 at *
      generalize frameT (tx (ixL l (nb l))) = V1 at *
      generalize frameT (fbT l) = V2 at *
      generalize tx (ixL l (nb l)) = X1 at *
      generalize tx (bsL l (nb l)) = S1 at *
      generalize fbT l = FB at *
      rw [← hz1] at KW hbs
      clear hz1 hxs hfm hfg
      go_wp2_with fail
      refine (KK _ hirW).mono ?_
      rintro e w1 ⟨kv, rfl, hsl, hb1⟩
      go_wp2_with fail
      refine (KF _ _ hsl).mono ?_
      rintro e w2 ⟨rfl, hb2⟩
      have hB2 := below_then (below_then hB hb1) hb2
      have hB3 := hB2.alloc hB2.size (.cells #[.int .i64 4, .string FB, .int .i64 fm] 46)
      have X3 := Box.new w2 #[.int .i64 4, .string FB, .int .i64 fm] 46
      clear hB hb1 hb2 hB2 hsl KK KF hirW
      go_wp2_with fail
      refine (KW _).mono ?_
      rintro e w4 ⟨rfl, hb4⟩
      have hB4 := below_then hB3 hb4
      have X4 := X3.below hb4
      clear hB3 X3 hb4 KW
      have hz4 := hB4.size
      have p1 := fun x : WC w4.heap.size w4 => (X4.below x.ok).2.1 1 _ rfl
      have hne : Nonempty (WC w4.heap.size w4) := ⟨⟨_, Below.refl _ _⟩⟩
      go_wp2_with fail
      refine wp_region_calm (B := w4.heap.size) (W := w4) (by kernel_rfl) (by kernel_rfl) (Below.refl _ _) ?_
      repeat (go_big_quiet_step (first | (go_at_call 76; first | with_reducible exact calm_of_below (Nat.le_refl _) (K1 _) | with_reducible exact calm_of_below (Nat.le_refl _) (K2 _)) | (go_at_call 78; with_reducible exact calm_of_below (Nat.le_refl _) (K3 _)) | (go_at_call 77; with_reducible exact calm_of_below (Nat.le_refl _) (K4 _))))
      refine wpQuiet_nil ?_
      intro _ hw'
      obtain ⟨x, hx⟩ := hw'
      subst hx
      have hB5 := hB4.trans (x.ok.mono hz4)
      generalize x.w = w5 at *
      clear x p1 hne X4 hB4 K1 K2 K3 K4
      go_wp2
      go_ret
      exact ⟨by rw [HT.out]; rfl, hB5⟩

set_option maxHeartbeats 1000000 in
theorem specTab_any (a : Option Addr) (cap : Nat) (l : List It) (w : World) (hv : IR w (.slice a l.length cap) l) (hcap : l.length ≤ cap) (hn : l.length ≤ 1048576) (hs : ∀ i (h : i < l.length), l[i].k.size ≤ 1048576 ∧ l[i].v.size ≤ 1048576) :
    Calls Tryz.prog 10 #[.slice a l.length cap] w fun e w' => e = .returned (.tuple #[.string (tabF l), .bool (okT l)]) ∧ Below w.heap.size w w' := by
  have KG := l7Good_any (.slice a l.length cap) l w hv hn hs
  cases hk : okT l with
  | false =>
    rw [hk] at KG
    have HT : Hid (tabF l = ⟨#[]⟩) := by show _ = _; unfold tabF; rw [if_neg (by rw [hk]; simp)]
    clear hv hs hk
    go_enter Tryz.func10, Tryz.ntmps10
    go_wp2_with fail
    refine KG.mono ?_
    rintro e w1 ⟨rfl, hb1⟩
    go_wp2
    go_ret2
    exact ⟨by rw [HT.out]; rfl, hb1⟩
  | true =>
    rw [hk] at KG
    have hp := okT_parts hk
    obtain ⟨b, off, rfl⟩ : ∃ b off, a = some ⟨b, off, none⟩ := by
      obtain ⟨a', c', h, hc⟩ := hv
      cases h
      obtain ⟨b, off, h, _⟩ := hc (by intro e; rw [e] at hp; simp at hp)
      exact ⟨b, off, h⟩
    have HT : Hid (tabF l = tb l) := by show _ = _; unfold tabF; rw [if_pos hk]
    have KT := fun w1 h => l7Table_any b off cap l w1 h hcap hk
    have hv2 := fun w1 (h : Below w.heap.size w w1) => hv.below h
    clear hs hk hv
    go_enter Tryz.func10, Tryz.ntmps10
    go_wp2_with fail
    refine KG.mono ?_
    rintro e w1 ⟨rfl, hb1⟩
    have hv3 := hv2 _ hb1
    clear hv2 KG
    go_wp2_with fail
    refine (KT _ hv3).mono ?_
    rintro e w2 ⟨rfl, hb2⟩
    have hB := below_then hb1 hb2
    go_wp2
    go_ret2
    exact ⟨by rw [HT.out]; rfl, hB⟩
end Go.Proofs.YtfdaffnkgpdhhaaGreat

