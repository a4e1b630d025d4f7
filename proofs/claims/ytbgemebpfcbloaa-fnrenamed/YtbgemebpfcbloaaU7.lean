/-
  spec.PlayDisk.
-/
import Derived.Test.YtbgemebpfcbloaaU3ToU5
import Derived.Deep.RegionHeld3
import Derived.Deep.CutRange
namespace Go.Proofs.Ytbgemebpfcbloaa
open Go.RowKit Go.Maps
set_option linter.unusedVariables false
set_option maxRecDepth 100000

theorem Kept.owns {g : Nat} {w w' : World} (h : Kept g w w') {base e s n : Nat} {v : Value} {xs : List Value} (ho : w.ownsRow base e s v n xs) (hne : ∀ b, v.ownBlock = some b → b ≠ g) : w'.ownsRow base e s v n xs := by
  obtain ⟨hl, ho⟩ := ho
  refine ⟨hl, ?_⟩
  rcases ho with ho | ⟨b, cap, cur, rfl, hb, hh, ho⟩
  · exact .inl ho
  · exact .inr ⟨b, cap, cur, rfl, hb, (h.block b (Array.getElem?_eq_some_iff.1 hh).1 (hne b rfl)).trans hh, ho⟩
theorem made_grown {base : Nat} {w w' : World} {x1 x2 x3 u : Value} {bl lv sf : List (ByteArray × Int)} {n : Nat} {xs : List Value} (hM : Made base w x1 x2 x3 bl lv sf) (hO : w.ownsRow base 3 1 u n xs) (hC : Chg (fun k => u.ownBlock = some k) w w') : Made base w' x1 x2 x3 bl lv sf :=
  ⟨hC.owns hM.1 (fun g hg h => rows_ne hM.1 hO (by decide) g hg h), hC.owns hM.2.1 (fun g hg h => rows_ne hM.2.1 hO (by decide) g hg h), hC.owns hM.2.2.1 (fun g hg h => rows_ne hM.2.2.1 hO (by decide) g hg h), hM.2.2.2⟩

set_option maxHeartbeats 8000000 in
theorem specPlay_any (r : Int) (v : Value) (l : List St) (w : World) (hv : FL w v l) (hn : l.length ≤ 1048576) (hs : ∀ i (h : i < l.length), l[i].nm.size ≤ 1048576 ∧ l[i].ot.size ≤ 1048576 ∧ l[i].da.size ≤ 1048576) :
    Calls Try.prog 35 #[.int .i64 r, v] w fun e w' => (∃ x1 x2 x3 cs, e = .returned (.tuple #[.agg #[x1, x2, x3, .int .i64 (pR r l)], cs, .bool (pOk r l)]) ∧ Made w.heap.size w' x1 x2 x3 (pD r l).1 (pD r l).2.1 (pD r l).2.2 ∧ w'.ownsRow w.heap.size 3 1 cs (pC r l).length ((pC r l).map (.int .i64))) ∧ Below w.heap.size w w' := by
  obtain ⟨a, cap, rfl, hc⟩ := hv
  have KN := fun w => specNew_any r w
  have HD : Hid (pD r l = if pOk r l then plD r l else ([], [], [])) := rfl
  have HC : Hid (pC r l = if pOk r l then plC r ([], [], []) l else []) := rfl
  have HR : Hid (pR r l = if pOk r l then r else 0) := rfl
  have HO : Hid (pOk r l = (decide (0 ≤ r) && decide (r ≤ 100000) && decide ((l.length : Int) ≤ 100))) := rfl
  generalize pD r l = DD at *
  generalize pC r l = CC at *
  generalize pR r l = RR at *
  generalize pOk r l = ok at *
  cases hr : (decide (0 ≤ r) && decide (r ≤ 100000)) with
  | false =>
    rw [hr] at KN HO
    obtain rfl : ok = false := HO.out
    obtain rfl : DD = ([], [], []) := HD.out
    obtain rfl : CC = [] := HC.out
    obtain rfl : RR = 0 := HR.out
    clear HD HC HR HO
    simp only [Bool.false_eq_true, if_false] at KN
    go_enter Try.func35, Try.ntmps35
    go_wp2_with fail
    refine (KN _).mono ?_
    rintro e w1 ⟨rfl, hb1⟩
    have Z1 := (Box.new w #[.slice none 0 0, .slice none 0 0, .slice none 0 0, .int .i64 0] 26).below hb1
    have hB1 := below_then (below_alloc _ _) hb1
    have hE := (put4_box Z1 (.slice none 0 0) (.slice none 0 0) (.slice none 0 0) (.int .i64 0)).alloc (.cells #[.slice none 0 0, .slice none 0 0, .slice none 0 0, .int .i64 0] 26)
    have hC := put4_chg w1 w.heap.size (.slice none 0 0) (.slice none 0 0) (.slice none 0 0) (.int .i64 0)
    have hz1 := hB1.size
    have hB2 := (hB1.trans (hC.below (B := w.heap.size) hz1 (fun b h => by omega))).alloc (by have := hC.size; omega) (.cells #[.slice none 0 0, .slice none 0 0, .slice none 0 0, .int .i64 0] 26)
    obtain ⟨hzz, z0, z1, z2, z3⟩ := Z1.c4
    have e0 := Z1.2.2 0
    have e1 := Z1.2.2 1
    have e2 := Z1.2.2 2
    have e3 := Z1.2.2 3
    clear hb1 KN hC Z1
    go_wp2
    change bodyPost _ _ _ _ _ ((put4 w1 w.heap.size (.slice none 0 0) (.slice none 0 0) (.slice none 0 0) (.int .i64 0)).alloc (.cells #[.slice none 0 0, .slice none 0 0, .slice none 0 0, .int .i64 0] 26))
    generalize (put4 w1 w.heap.size (.slice none 0 0) (.slice none 0 0) (.slice none 0 0) (.int .i64 0)).alloc (.cells #[.slice none 0 0, .slice none 0 0, .slice none 0 0, .int .i64 0] 26) = W at *
    obtain ⟨_, t0, t1, t2, t3⟩ := hE.c4
    exact bodyPost_ret (v := .tuple #[.agg #[.slice none 0 0, .slice none 0 0, .slice none 0 0, .int .i64 0], .slice none 0 0, .bool false]) (by simp [results, Try.results35, go_sem, t0, t1, t2, t3]) rfl ⟨⟨_, _, _, _, rfl, made_nil _ _, World.ownsRow_nil _ _ _ _⟩, hB2⟩
  | true =>
    rw [hr] at KN HO
    simp only [if_true] at KN
    by_cases hlen : (l.length : Int) ≤ 100
    case neg =>
      obtain rfl : ok = false := by rw [HO.out, decide_eq_false hlen]; rfl
      obtain rfl : DD = ([], [], []) := HD.out
      obtain rfl : CC = [] := HC.out
      obtain rfl : RR = 0 := HR.out
      clear HD HC HR HO
      go_enter Try.func35, Try.ntmps35
      go_wp2_with fail
      refine (KN _).mono ?_
      rintro e w1 ⟨rfl, hb1⟩
      have Z1 := (Box.new w #[.slice none 0 0, .slice none 0 0, .slice none 0 0, .int .i64 0] 26).below hb1
      have hB1 := below_then (below_alloc _ _) hb1
      have hE := (put4_box Z1 (.slice none 0 0) (.slice none 0 0) (.slice none 0 0) (.int .i64 0)).alloc (.cells #[.slice none 0 0, .slice none 0 0, .slice none 0 0, .int .i64 r] 26)
      have hC := put4_chg w1 w.heap.size (.slice none 0 0) (.slice none 0 0) (.slice none 0 0) (.int .i64 0)
      have hz1 := hB1.size
      have hB2 := (hB1.trans (hC.below (B := w.heap.size) hz1 (fun b h => by omega))).alloc (by have := hC.size; omega) (.cells #[.slice none 0 0, .slice none 0 0, .slice none 0 0, .int .i64 r] 26)
      obtain ⟨hzz, z0, z1, z2, z3⟩ := Z1.c4
      have e0 := Z1.2.2 0
      have e1 := Z1.2.2 1
      have e2 := Z1.2.2 2
      have e3 := Z1.2.2 3
      clear hb1 KN hC Z1
      go_wp2
      change bodyPost _ _ _ _ _ ((put4 w1 w.heap.size (.slice none 0 0) (.slice none 0 0) (.slice none 0 0) (.int .i64 0)).alloc (.cells #[.slice none 0 0, .slice none 0 0, .slice none 0 0, .int .i64 r] 26))
      generalize (put4 w1 w.heap.size (.slice none 0 0) (.slice none 0 0) (.slice none 0 0) (.int .i64 0)).alloc (.cells #[.slice none 0 0, .slice none 0 0, .slice none 0 0, .int .i64 r] 26) = W at *
      obtain ⟨_, t0, t1, t2, t3⟩ := hE.c4
      exact bodyPost_ret (v := .tuple #[.agg #[.slice none 0 0, .slice none 0 0, .slice none 0 0, .int .i64 0], .slice none 0 0, .bool false]) (by simp [results, Try.results35, go_sem, t0, t1, t2, t3]) rfl ⟨⟨_, _, _, _, rfl, made_nil _ _, World.ownsRow_nil _ _ _ _⟩, hB2⟩
    obtain rfl : ok = true := by rw [HO.out, decide_eq_true hlen]; rfl
    obtain rfl : DD = plD r l := HD.out
    obtain rfl : CC = plC r ([], [], []) l := HC.out
    obtain rfl : r = RR := HR.out.symm
    clear HD HC HR HO
    rw [Bool.and_eq_true] at hr
    have r0 := of_decide_eq_true hr.1
    have r1 := of_decide_eq_true hr.2
    clear hr
    obtain ⟨i0, hi, hz0, hzs, hzb⟩ := info_parts Try.info3i
    go_enter Try.func35, Try.ntmps35
    go_wp2_with fail
    refine (KN _).mono ?_
    rintro e w1 ⟨rfl, hb1⟩
    have Z1 := ((Box.new w #[.slice none 0 0, .slice none 0 0, .slice none 0 0, .int .i64 0] 26).below hb1).alloc (.cells #[.slice none 0 0, .slice none 0 0, .slice none 0 0, .int .i64 r] 26)
    have D1 := Box.new w1 #[.slice none 0 0, .slice none 0 0, .slice none 0 0, .int .i64 r] 26
    have hB1 := below_then (below_alloc _ _) hb1
    have hz1 : w.heap.size < w1.heap.size := by have := hb1.size; simp at this; omega
    have hB2 := hB1.alloc hB1.size (.cells #[.slice none 0 0, .slice none 0 0, .slice none 0 0, .int .i64 r] 26)
    clear hb1 hB1 KN
    go_wp2_with fail
    go_loopw [9, 29] (fun cv i wr => ∃ (j : Nat) (a1 : Option Addr) (n1 c1 : Nat) (a2 : Option Addr) (n2 c2 : Nat) (a3 : Option Addr) (n3 c3 : Nat) (a4 : Option Addr) (n4 c4 : Nat), j ≤ l.length ∧ i = .int .i64 j ∧ cv = .slice a4 n4 c4 ∧ Box wr w.heap.size [.slice none 0 0, .slice none 0 0, .slice none 0 0, .int .i64 0] ∧ Box wr w1.heap.size [.slice a1 n1 c1, .slice a2 n2 c2, .slice a3 n3 c3, .int .i64 r] ∧ Made (w1.heap.size + 1) wr (.slice a1 n1 c1) (.slice a2 n2 c2) (.slice a3 n3 c3) (plD r (l.take j)).1 (plD r (l.take j)).2.1 (plD r (l.take j)).2.2 ∧ wr.ownsRow (w1.heap.size + 1) 3 1 (.slice a4 n4 c4) (plC r ([], [], []) (l.take j)).length ((plC r ([], [], []) (l.take j)).map (.int .i64)) ∧ Below w.heap.size w wr) (fun _ i _ => l.length - (intOf i).toNat)
    case atStart => exact ⟨0, none, 0, 0, none, 0, 0, none, 0, 0, none, 0, 0, Nat.zero_le _, rfl, rfl, Z1, D1, made_nil _ _, World.ownsRow_nil _ _ _ _, hB2⟩
    case round =>
      clear Z1 D1 hB2
      obtain ⟨j, a1, n1, c1, a2, n2, c2, a3, n3, c3, a4, n4, c4, hj, rfl, rfl, Z, D, M, O, hb⟩ := hrel
      have hzw := hb.size
      have hzd := D.1
      by_cases hlt : j < l.length
      · skip
        obtain ⟨b, off, rfl, hbl, hcell⟩ := hc (by intro e; simp [e] at hlt)
        obtain ⟨s, hse⟩ : ∃ s, s = l[j] := ⟨_, rfl⟩
        have hc0 := (hb.cell (p := ⟨b, off + j * 5, none⟩) hbl).trans (hcell j hlt).1
        have hc1 := (hb.cell (p := ⟨b, off + j * 5 + 1, none⟩) hbl).trans (hcell j hlt).2.1
        have hc2 := (hb.cell (p := ⟨b, off + j * 5 + 2, none⟩) hbl).trans (hcell j hlt).2.2.1
        have hc3 := (hb.cell (p := ⟨b, off + j * 5 + 3, none⟩) hbl).trans (hcell j hlt).2.2.2.1
        have hc4 := (hb.cell (p := ⟨b, off + j * 5 + 4, none⟩) hbl).trans (hcell j hlt).2.2.2.2
        have hss := hs j hlt
        have HP : Hid (plD r (l.take (j + 1)) = nxS r (plD r (l.take j)) s) := by rw [hse]; exact plD_take r l j hlt
        have HQ : Hid (plC r ([], [], []) (l.take (j + 1)) = plC r ([], [], []) (l.take j) ++ [cdS r (plD r (l.take j)) s]) := by rw [hse]; exact plC_take r l j hlt
        have HL : Hid ((plC r ([], [], []) (l.take j)).length = j) := by show _ = _; rw [plC_length]; simp; omega
        have HG : Hid (goodD (plD r (l.take j)).1 (plD r (l.take j)).2.1 (plD r (l.take j)).2.2 r = true) := plD_good r0 r1 _
        rw [← hse] at hc0 hc1 hc2 hc3 hc4 hss
        clear hcell hse hc hs
        generalize plD r (l.take j) = x at *
        generalize plC r ([], [], []) (l.take j) = cl at *
        obtain ⟨G1, G2, G3, G4, G5, G6⟩ := (goodD_iff _ _ _ _).1 HG.out
        have hl1 := ((okNs_iff _ _).1 G3).2.2
        have hl2 := ((okNs_iff _ _).1 G4).2.2
        have KD := fun g1 d1 g2 d2 g3 d3 base w hM hbase => l1Do_k g1 d1 g2 d2 g3 d3 x.1 x.2.1 x.2.2 r s.k base s.nm s.ot s.da s.kp w hM hbase HG.out hss.1 hss.2.1 hss.2.2
        have KB := fun g1 d1 g2 d2 g3 d3 base w hM hbase => l1Do_al g1 d1 g2 d2 g3 d3 x.1 x.2.1 x.2.2 r s.k base s.nm s.ot s.da s.kp w hM hbase HG.out hss.1 hss.2.1 hss.2.2
        have HX : Hid (nxS r x s = if cdS r x s = 0 then (nB s.k s.nm s.da s.kp x.1 x.2.1, nL s.k s.nm s.ot x.1 x.2.1 x.2.2, nS s.k x.2.1 x.2.2) else x) := rfl
        have hcd : refuse s.k s.nm s.ot s.da s.kp x.1 x.2.1 x.2.2 r = cdS r x s := rfl
        rw [hcd] at KD KB
        clear hss hcd G1 G3 G4 G5 G6
        generalize cdS r x s = cc at *
        generalize nxS r x s = y at *
        obtain ⟨sk, sn, so, sd, sp⟩ := s
        dsimp only at hc0 hc1 hc2 hc3 hc4 KD KB HX
        have A1 := below_alloc wr (.cells #[.int .i64 sk, .string sn, .string so, .string sd, .int .i64 sp] 28)
        have ZV := Z.below A1
        have DV := D.below A1
        have YV := Box.new wr #[.int .i64 sk, .string sn, .string so, .string sd, .int .i64 sp] 28
        have MV := M.below A1
        have OV := owns_below O A1
        have hBV := below_then hb A1
        have hzA := A1.size
        clear Z D M O hb A1
        obtain ⟨_, x0, x1, x2, x3⟩ := DV.c4
        go_wp2_with fail
        generalize wr.alloc (.cells #[.int .i64 sk, .string sn, .string so, .string sd, .int .i64 sp] 28) = V at *
        obtain ⟨_, y0, y1, y2, y3, y4⟩ := YV.c5
        have hyv := YV.1
        have hD : Below V.heap.size V V.drew := (Below.refl _ _).drew
        clear x0 x1 x2 x3
        obtain ⟨_, x0, x1, x2, x3⟩ := DV.c4
        go_cut [12, 13] from 33 to 39 (fun sp' sc wc => ∃ (b : Nat) (b4 : Option Addr) (m4 e4 : Nat) (b5 : Option Addr) (m5 e5 : Nat) (b6 : Option Addr) (m6 e6 : Nat), sp' = .pointer (some ⟨b, 0, none⟩) ∧ sc = .int .i64 cc ∧ Box wc b [.slice b4 m4 e4, .slice b5 m5 e5, .slice b6 m6 e6, .int .i64 r] ∧ (cc = 0 → Made (w1.heap.size + 1) wc (.slice b4 m4 e4) (.slice b5 m5 e5) (.slice b6 m6 e6) (nB sk sn sd sp x.1 x.2.1) (nL sk sn so x.1 x.2.1 x.2.2) (nS sk x.2.1 x.2.2)) ∧ Box wc w.heap.size [.slice none 0 0, .slice none 0 0, .slice none 0 0, .int .i64 0] ∧ Box wc w1.heap.size [.slice a1 n1 c1, .slice a2 n2 c2, .slice a3 n3 c3, .int .i64 r] ∧ Made (w1.heap.size + 1) wc (.slice a1 n1 c1) (.slice a2 n2 c2) (.slice a3 n3 c3) x.1 x.2.1 x.2.2 ∧ wc.ownsRow (w1.heap.size + 1) 3 1 (.slice a4 n4 c4) cl.length (cl.map (.int .i64)) ∧ Below w.heap.size w wc ∧ w1.heap.size < b)
        case first =>
          go_region_held3 (fun w' => (w'.cell? ⟨w1.heap.size, 0, none⟩ = some (.slice a1 n1 c1) ∧ w'.cell? ⟨w1.heap.size, 1, none⟩ = some (.slice a2 n2 c2) ∧ w'.cell? ⟨w1.heap.size, 2, none⟩ = some (.slice a3 n3 c3) ∧ w'.cell? ⟨w1.heap.size, 3, none⟩ = some (.int .i64 r)) ∧ w'.cell? ⟨wr.heap.size, 0, none⟩ = some (.int .i64 sk) ∧ w'.cell? ⟨wr.heap.size, 1, none⟩ = some (.string sn) ∧ w'.cell? ⟨wr.heap.size, 2, none⟩ = some (.string so) ∧ w'.cell? ⟨wr.heap.size, 3, none⟩ = some (.string sd) ∧ w'.cell? ⟨wr.heap.size, 4, none⟩ = some (.int .i64 sp)) (go_keep)
            (first
              | (go_at_call 57; refine (l1Own_any _ _ _ x.1 x.2.1 x.2.2 r V.drew (PZ_of_owns (owns_below MV.1 hD)) (PZ_of_owns (owns_below MV.2.1 hD)) (PZ_of_owns (owns_below MV.2.2.1 hD)) (by omega) (by omega) (by omega)).mono ?_; rintro e w4 ⟨⟨g1, d1, g2, d2, g3, d3, rfl, hM4'⟩, hb4'⟩; have hb4 : Below V.heap.size V w4 := below_undrew hb4'; have hM4 : MadeS V.heap.size w4 g1 d1 g2 d2 g3 d3 x.1 x.2.1 x.2.2 := hM4'; have zz4 := hb4.size; have hgg := (owns_lt hM4.1).1; obtain ⟨_, x0, x1, x2, x3⟩ := (DV.below hb4).c4; obtain ⟨_, y0, y1, y2, y3, y4⟩ := (YV.below hb4).c5)
              | (go_at_call 57; refine (l1Own_al _ _ _ x.1 x.2.1 x.2.2 r V.drew (PZ_of_owns (owns_below MV.1 hD)) (PZ_of_owns (owns_below MV.2.1 hD)) (PZ_of_owns (owns_below MV.2.2.1 hD)) (by omega) (by omega) (by omega)).mono ?_; rintro e w4 ⟨⟨g1, d1, g2, d2, g3, d3, rfl, hM4', hg1'⟩, E4', T4', hb4'⟩; have hb4 : Below V.heap.size V w4 := below_undrew hb4'; have hM4 : MadeS V.heap.size w4 g1 d1 g2 d2 g3 d3 x.1 x.2.1 x.2.2 := hM4'; have E4 : Box w4 V.heap.size [.slice none 0 0, .slice none 0 0, .slice none 0 0, .int .i64 0] := E4'; have T4 : w4.heap[V.heap.size]? = some (.cells #[.slice none 0 0, .slice none 0 0, .slice none 0 0, .int .i64 0] 26 (0, 0)) := T4'; have hg1 : g1 ≠ V.heap.size := hg1'; have zz4 := hb4.size; have hgg := (owns_lt hM4.1).1; obtain ⟨_, x0, x1, x2, x3⟩ := (DV.below hb4).c4; obtain ⟨_, y0, y1, y2, y3, y4⟩ := (YV.below hb4).c5)
              | (go_at_call 56; refine (KB g1 d1 g2 d2 g3 d3 V.heap.size w4 hM4 zz4).mono ?_; rintro e w5 ⟨⟨b4, m4, e4, b5, m5, e5, b6, m6, e6, rfl, hM5⟩, hK5, E5, T5, hb5⟩; obtain ⟨_, u0, u1, u2, u3⟩ := E5.c4; have p0 := E5.2.2 0; have p1 := E5.2.2 1; have p2 := E5.2.2 2; have p3 := E5.2.2 3; have mq1 : ¬ (w4.heap.size = w1.heap.size) := (by omega); have mq2 : ¬ (w4.heap.size = wr.heap.size) := (by omega); have mq3 : ¬ (w1.heap.size = w4.heap.size) := (by omega); have mq4 : ¬ (wr.heap.size = w4.heap.size) := (by omega); have D5 := hK5.box _ _ (by omega) (by omega) (DV.below hb4); have Y5 := hK5.box _ _ (by omega) (by omega) (YV.below hb4); have Z5 := hK5.box _ _ (by omega) (by omega) (ZV.below hb4); obtain ⟨_, x0, x1, x2, x3⟩ := D5.c4; obtain ⟨_, y0, y1, y2, y3, y4⟩ := Y5.c5; have nx := World.new_ne w5 ⟨w1.heap.size, 0, none⟩ x0; have ny := World.new_ne w5 ⟨wr.heap.size, 0, none⟩ y0)
              | (go_at_call 56; have E5 := E4; refine (KD g1 d1 g2 d2 g3 d3 V.heap.size w4 hM4 zz4).mono ?_; rintro e w5 ⟨⟨b4, m4, e4, b5, m5, e5, b6, m6, e6, rfl, hM5⟩, hK5, hb5⟩; have hz14 := E4.1; have E5 := hK5.box _ _ hz14 (Ne.symm hg1) E4; have T5 := (hK5.block _ hz14 (Ne.symm hg1)).trans T4; obtain ⟨_, u0, u1, u2, u3⟩ := E5.c4; have p0 := E5.2.2 0; have p1 := E5.2.2 1; have p2 := E5.2.2 2; have p3 := E5.2.2 3; have mq1 : ¬ (V.heap.size = w1.heap.size) := (by omega); have mq2 : ¬ (V.heap.size = wr.heap.size) := (by omega); have mq3 : ¬ (w1.heap.size = V.heap.size) := (by omega); have mq4 : ¬ (wr.heap.size = V.heap.size) := (by omega); have D5 := hK5.box _ _ (by omega) (by omega) (DV.below hb4); have Y5 := hK5.box _ _ (by omega) (by omega) (YV.below hb4); have Z5 := hK5.box _ _ (by omega) (by omega) (ZV.below hb4); obtain ⟨_, x0, x1, x2, x3⟩ := D5.c4; obtain ⟨_, y0, y1, y2, y3, y4⟩ := Y5.c5; have nx := World.new_ne w5 ⟨w1.heap.size, 0, none⟩ x0; have ny := World.new_ne w5 ⟨wr.heap.size, 0, none⟩ y0)
              | (go_at_call 56; refine (KD g1 d1 g2 d2 g3 d3 V.heap.size w4 hM4 zz4).mono ?_; rintro e w5 ⟨⟨b4, m4, e4, b5, m5, e5, b6, m6, e6, rfl, hM5⟩, hK5, hb5⟩; have D5 := hK5.box _ _ (by omega) (by omega) (DV.below hb4); have Y5 := hK5.box _ _ (by omega) (by omega) (YV.below hb4); have Z5 := hK5.box _ _ (by omega) (by omega) (ZV.below hb4); obtain ⟨_, x0, x1, x2, x3⟩ := D5.c4; obtain ⟨_, y0, y1, y2, y3, y4⟩ := Y5.c5; have nx := World.new_ne w5 ⟨w1.heap.size, 0, none⟩ x0; have ny := World.new_ne w5 ⟨wr.heap.size, 0, none⟩ y0))
          · skip
            have zz5 := hK5.size
            have gx := owns_hi MV.1
            have gy := owns_hi MV.2.1
            have gz := owns_hi MV.2.2.1
            have go := owns_hi OV
            have M6 : Made (w1.heap.size + 1) w5 (.slice a1 n1 c1) (.slice a2 n2 c2) (.slice a3 n3 c3) x.1 x.2.1 x.2.2 := ⟨hK5.owns (owns_below MV.1 hb4) (fun b h => by have := gx b h; omega), hK5.owns (owns_below MV.2.1 hb4) (fun b h => by have := gy b h; omega), hK5.owns (owns_below MV.2.2.1 hb4) (fun b h => by have := gz b h; omega), MV.2.2.2⟩
            have O6 := hK5.owns (owns_below OV hb4) (fun b h => by have := go b h; omega)
            have B6 := (below_then hBV hb4).trans (hb5.mono (by have := hBV.size; omega))
            have ZZ := Z5.alloc (.cells #[.slice b4 m4 e4, .slice b5 m5 e5, .slice b6 m6 e6, .int .i64 r] 26)
            have DD := D5.alloc (.cells #[.slice b4 m4 e4, .slice b5 m5 e5, .slice b6 m6 e6, .int .i64 r] 26)
            have EE := Box.new w5 #[.slice b4 m4 e4, .slice b5 m5 e5, .slice b6 m6 e6, .int .i64 r] 26
            have NN : cc = 0 → Made (w1.heap.size + 1) (w5.alloc (.cells #[.slice b4 m4 e4, .slice b5 m5 e5, .slice b6 m6 e6, .int .i64 r] 26)) (.slice b4 m4 e4) (.slice b5 m5 e5) (.slice b6 m6 e6) (nB sk sn sd sp x.1 x.2.1) (nL sk sn so x.1 x.2.1 x.2.2) (nS sk x.2.1 x.2.2) := fun h => ((hM5 h).below (below_alloc _ _)).wk (by omega)
            have MM := M6.below (below_alloc w5 (.cells #[.slice b4 m4 e4, .slice b5 m5 e5, .slice b6 m6 e6, .int .i64 r] 26))
            have OO := owns_below O6 (below_alloc w5 (.cells #[.slice b4 m4 e4, .slice b5 m5 e5, .slice b6 m6 e6, .int .i64 r] 26))
            have BBx := B6.alloc (by have := B6.size; omega) (.cells #[.slice b4 m4 e4, .slice b5 m5 e5, .slice b6 m6 e6, .int .i64 r] 26)
            have lb : w1.heap.size < w5.heap.size := by omega
            clear M6 O6 B6 gx gy gz go
            go_wp2_with fail
            go_meet
            case rel => exact ⟨_, _, _, _, _, _, _, _, _, _, rfl, rfl, EE, NN, ZZ, DD, MM, OO, BBx, lb⟩
          · skip
            have zz5 := hK5.size
            have gx := owns_hi MV.1
            have gy := owns_hi MV.2.1
            have gz := owns_hi MV.2.2.1
            have go := owns_hi OV
            have M6 : Made (w1.heap.size + 1) w5 (.slice a1 n1 c1) (.slice a2 n2 c2) (.slice a3 n3 c3) x.1 x.2.1 x.2.2 := ⟨hK5.owns (owns_below MV.1 hb4) (fun b h => by have := gx b h; omega), hK5.owns (owns_below MV.2.1 hb4) (fun b h => by have := gy b h; omega), hK5.owns (owns_below MV.2.2.1 hb4) (fun b h => by have := gz b h; omega), MV.2.2.2⟩
            have O6 := hK5.owns (owns_below OV hb4) (fun b h => by have := go b h; omega)
            have B6 := (below_then hBV hb4).trans (hb5.mono (by have := hBV.size; omega))
            have hC := put4_chg w5 w4.heap.size (.slice b4 m4 e4) (.slice b5 m5 e5) (.slice b6 m6 e6) (.int .i64 r)
            have ZZ := hC.box Z5 (by omega)
            have DD := hC.box D5 (by omega)
            have EE := put4_box E5 (.slice b4 m4 e4) (.slice b5 m5 e5) (.slice b6 m6 e6) (.int .i64 r)
            have NN : cc = 0 → Made (w1.heap.size + 1) (put4 w5 w4.heap.size (.slice b4 m4 e4) (.slice b5 m5 e5) (.slice b6 m6 e6) (.int .i64 r)) (.slice b4 m4 e4) (.slice b5 m5 e5) (.slice b6 m6 e6) (nB sk sn sd sp x.1 x.2.1) (nL sk sn so x.1 x.2.1 x.2.2) (nS sk x.2.1 x.2.2) := fun h => (made_put (hM5 h) T5 _ _ _ _).wk (by omega)
            have MM := made_put M6 T5 (.slice b4 m4 e4) (.slice b5 m5 e5) (.slice b6 m6 e6) (.int .i64 r)
            have OO := hC.owns O6 (fun g hg h => by have := go g hg; omega)
            have BBx := B6.trans (hC.below (B := w.heap.size) (by have := B6.size; omega) (fun b h => by omega))
            have lb : w1.heap.size < w4.heap.size := by omega
            clear M6 O6 B6 gx gy gz go
            go_wp2_with fail
            go_meet
            case rel => exact ⟨_, _, _, _, _, _, _, _, _, _, rfl, rfl, EE, NN, ZZ, DD, MM, OO, BBx, lb⟩
          · skip
            have zz5 := hK5.size
            have gx := owns_hi MV.1
            have gy := owns_hi MV.2.1
            have gz := owns_hi MV.2.2.1
            have go := owns_hi OV
            have M6 : Made (w1.heap.size + 1) w5 (.slice a1 n1 c1) (.slice a2 n2 c2) (.slice a3 n3 c3) x.1 x.2.1 x.2.2 := ⟨hK5.owns (owns_below MV.1 hb4) (fun b h => by have := gx b h; omega), hK5.owns (owns_below MV.2.1 hb4) (fun b h => by have := gy b h; omega), hK5.owns (owns_below MV.2.2.1 hb4) (fun b h => by have := gz b h; omega), MV.2.2.2⟩
            have O6 := hK5.owns (owns_below OV hb4) (fun b h => by have := go b h; omega)
            have B6 := (below_then hBV hb4).trans (hb5.mono (by have := hBV.size; omega))
            have hC := put4_chg w5 V.heap.size (.slice b4 m4 e4) (.slice b5 m5 e5) (.slice b6 m6 e6) (.int .i64 r)
            have ZZ := hC.box Z5 (by omega)
            have DD := hC.box D5 (by omega)
            have EE := put4_box E5 (.slice b4 m4 e4) (.slice b5 m5 e5) (.slice b6 m6 e6) (.int .i64 r)
            have NN : cc = 0 → Made (w1.heap.size + 1) (put4 w5 V.heap.size (.slice b4 m4 e4) (.slice b5 m5 e5) (.slice b6 m6 e6) (.int .i64 r)) (.slice b4 m4 e4) (.slice b5 m5 e5) (.slice b6 m6 e6) (nB sk sn sd sp x.1 x.2.1) (nL sk sn so x.1 x.2.1 x.2.2) (nS sk x.2.1 x.2.2) := fun h => (made_put (hM5 h) T5 _ _ _ _).wk (by omega)
            have MM := made_put M6 T5 (.slice b4 m4 e4) (.slice b5 m5 e5) (.slice b6 m6 e6) (.int .i64 r)
            have OO := hC.owns O6 (fun g hg h => by have := go g hg; omega)
            have BBx := B6.trans (hC.below (B := w.heap.size) (by have := B6.size; omega) (fun b h => by omega))
            have lb : w1.heap.size < V.heap.size := by omega
            clear M6 O6 B6 gx gy gz go
            go_wp2_with fail
            go_meet
            case rel => exact ⟨_, _, _, _, _, _, _, _, _, _, rfl, rfl, EE, NN, ZZ, DD, MM, OO, BBx, lb⟩
        case rest =>
          clear x0 x1 x2 x3 y0 y1 y2 y3 y4 ZV DV YV MV OV hBV KD KB hD
          obtain ⟨w2, hw2⟩ : ∃ x, x = wc := ⟨_, rfl⟩
          subst hw2
          obtain ⟨b, b4, m4, e4, b5, m5, e5, b6, m6, e6, rfl, rfl, EE, NN, Z2, D2, M2, O2, hB2, lb⟩ := hcut
          obtain ⟨_, x0, x1, x2, x3⟩ := D2.c4
          have f0 := D2.2.2 0
          have f1 := D2.2.2 1
          have f2 := D2.2.2 2
          have f3 := D2.2.2 3
          obtain ⟨_, u0, u1, u2, u3⟩ := EE.c4
          have hz2 := D2.1
          by_cases h0 : cc = 0
          · subst h0
            have N2 := NN rfl
            obtain rfl : y = (nB sk sn sd sp x.1 x.2.1, nL sk sn so x.1 x.2.1 x.2.2, nS sk x.2.1 x.2.2) := by rw [HX.out]; rfl
            have hC2 := put4_chg w2 w1.heap.size (.slice b4 m4 e4) (.slice b5 m5 e5) (.slice b6 m6 e6) (.int .i64 r)
            have D3 := put4_box D2 (.slice b4 m4 e4) (.slice b5 m5 e5) (.slice b6 m6 e6) (.int .i64 r)
            have Z3 := hC2.box Z2 (by omega)
            have M3 := N2.chg hC2 (fun g h1 h2 => by omega)
            have O3 := hC2.owns O2 (fun g hg h => by have := owns_ge O2 g hg; omega)
            have hB3 := hB2.trans (hC2.below (B := w.heap.size) (by omega) (fun b h => by omega))
            have hz3' : (put4 w2 w1.heap.size (.slice b4 m4 e4) (.slice b5 m5 e5) (.slice b6 m6 e6) (.int .i64 r)).heap.size = w2.heap.size := by simp [put4]
            clear D2 Z2 M2 O2 hB2 hC2 EE NN N2 HX
            go_wp2_with (at_builtin; refine Stop.go ?_)
            change Stop (wpList _ _ _ _ _ ((put4 w2 w1.heap.size (.slice b4 m4 e4) (.slice b5 m5 e5) (.slice b6 m6 e6) (.int .i64 r)).alloc (.cells #[.int .i64 0] 3)))
            clear x0 x1 x2 x3 f0 f1 f2 f3 u0 u1 u2 u3
            generalize put4 w2 w1.heap.size (.slice b4 m4 e4) (.slice b5 m5 e5) (.slice b6 m6 e6) (.int .i64 r) = w3 at *
            have A3 := below_alloc w3 (.cells #[.int .i64 0] 3)
            have S3 : Box (w3.alloc (.cells #[.int .i64 0] 3)) w2.heap.size [.int .i64 0] := by have := Box.new w3 #[.int .i64 0] 3; rw [hz3'] at this; exact this
            have Dq := D3.below A3
            have Zq := Z3.below A3
            have Mq := M3.below A3
            have Oq := owns_below O3 A3
            have hBq := hB3.trans (A3.mono (by have := hB3.size; omega))
            have hzq := A3.size
            have hz3 := D3.1
            have hcl := HL.out
            clear D3 Z3 M3 O3 hB3 A3
            unfold Stop
            generalize w3.alloc (.cells #[.int .i64 0] 3) = w4 at *
            refine wpList_append_own _ rfl _ _ 66 rfl (w1.heap.size + 1) 3 i0 (.int .i64 0) 1 8 Try.underlying66 hi hz0 hzs hzb rfl (by decide) (.slice a4 n4 c4) cl.length (cl.map (.int .i64)) rfl Oq ⟨w2.heap.size, 0, none⟩ 1 1 [.int .i64 0] rfl rfl (by intro i u hi; match i, hi with | 0, hi => simp at hi; subst hi; exact S3.2.1 0 _ rfl) (by intro u hu; simp at hu; subst hu; rfl) (by unfold maxLen; omega) (by omega) (by omega) ?_
            intro v5 w5 o5 hg5 hn5
            obtain ⟨a5, c5, rfl⟩ := owns_shape o5
            have hC5 := chg_grown hg5
            have ge4 := owns_ge Oq
            have Z5 := hC5.box Zq (fun e => by have := ge4 _ e; omega)
            have D5 := hC5.box Dq (fun e => by have := ge4 _ e; omega)
            have M5 := made_grown Mq Oq hC5
            have hB5 := hBq.trans (hC5.below (B := w.heap.size) (by have := hBq.size; omega) (fun b h => by have := ge4 _ h; omega))
            rw [hcl] at o5
            clear Zq Dq Mq Oq hBq hC5 hg5 S3 hcl
            go_wp2
            go_roundw
            case rel => exact ⟨j + 1, _, _, _, _, _, _, _, _, _, _, _, _, by omega, by go_num, rfl, Z5, D5, by rw [HP.out]; exact M5, by rw [HQ.out, List.length_append, List.map_append, HL.out]; exact o5, hB5⟩
            case measure => simp [intOf]; omega
          · obtain rfl : y = x := by rw [HX.out, if_neg h0]
            have hne : (cc == 0) = false := by simp [h0]
            obtain ⟨w3, hw3⟩ : ∃ q, q = w2 := ⟨_, rfl⟩
            subst hw3
            have D3 := D2
            have Z3 := Z2
            have M3 := M2
            have O3 := O2
            have hB3 := hB2
            clear D2 Z2 M2 O2 hB2 EE NN HX
            go_wp2_with (at_builtin; refine Stop.go ?_)
            clear x0 x1 x2 x3 f0 f1 f2 f3 u0 u1 u2 u3
            have A3 := below_alloc w3 (.cells #[.int .i64 cc] 3)
            have S3 : Box (w3.alloc (.cells #[.int .i64 cc] 3)) w3.heap.size [.int .i64 cc] := Box.new w3 #[.int .i64 cc] 3
            have Dq := D3.below A3
            have Zq := Z3.below A3
            have Mq := M3.below A3
            have Oq := owns_below O3 A3
            have hBq := hB3.trans (A3.mono (by have := hB3.size; omega))
            have hzq := A3.size
            have hz3 := D3.1
            have hcl := HL.out
            clear D3 Z3 M3 O3 hB3 A3
            unfold Stop
            generalize w3.alloc (.cells #[.int .i64 cc] 3) = w4 at *
            refine wpList_append_own _ rfl _ _ 66 rfl (w1.heap.size + 1) 3 i0 (.int .i64 0) 1 8 Try.underlying66 hi hz0 hzs hzb rfl (by decide) (.slice a4 n4 c4) cl.length (cl.map (.int .i64)) rfl Oq ⟨w3.heap.size, 0, none⟩ 1 1 [.int .i64 cc] rfl rfl (by intro i u hi; match i, hi with | 0, hi => simp at hi; subst hi; exact S3.2.1 0 _ rfl) (by intro u hu; simp at hu; subst hu; rfl) (by unfold maxLen; omega) (by omega) (by omega) ?_
            intro v5 w5 o5 hg5 hn5
            obtain ⟨a5, c5, rfl⟩ := owns_shape o5
            have hC5 := chg_grown hg5
            have ge4 := owns_ge Oq
            have Z5 := hC5.box Zq (fun e => by have := ge4 _ e; omega)
            have D5 := hC5.box Dq (fun e => by have := ge4 _ e; omega)
            have M5 := made_grown Mq Oq hC5
            have hB5 := hBq.trans (hC5.below (B := w.heap.size) (by have := hBq.size; omega) (fun b h => by have := ge4 _ h; omega))
            rw [hcl] at o5
            clear Zq Dq Mq Oq hBq hC5 hg5 S3 hcl
            go_wp2
            go_roundw
            case rel => exact ⟨j + 1, _, _, _, _, _, _, _, _, _, _, _, _, by omega, by go_num, rfl, Z5, D5, by rw [HP.out]; exact M5, by rw [HQ.out, List.length_append, List.map_append, HL.out]; exact o5, hB5⟩
            case measure => simp [intOf]; omega
      · skip
        obtain rfl : j = l.length := by omega
        rw [List.take_length] at M O
        clear hc hs
        obtain ⟨G1, G2, G3, G4, G5, G6⟩ := (goodD_iff _ _ _ _).1 (plD_good r0 r1 l)
        have hl1 := ((okNs_iff _ _).1 G3).2.2
        have hl2 := ((okNs_iff _ _).1 G4).2.2
        clear G1 G3 G4 G5 G6
        obtain ⟨_, d0, d1, d2, d3⟩ := D.c4
        go_wp2_with fail
        refine (l1Own_any _ _ _ (plD r l).1 (plD r l).2.1 (plD r l).2.2 r _ (PZ_of_owns M.1) (PZ_of_owns M.2.1) (PZ_of_owns M.2.2.1) (by omega) (by omega) (by omega)).mono ?_
        rintro e w7 ⟨⟨q1, q2, q3, q4, q5, q6, rfl, M7⟩, hb7⟩
        have Z7 := Z.below hb7
        have O7 := owns_below O hb7
        have B7 := below_then hb hb7
        have M7' : Made wr.heap.size w7 (.slice (some ⟨q1, 0, none⟩) (plD r l).1.length q2) (.slice (some ⟨q3, 0, none⟩) (plD r l).2.1.length q4) (.slice (some ⟨q5, 0, none⟩) (plD r l).2.2.length q6) (plD r l).1 (plD r l).2.1 (plD r l).2.2 := M7
        clear M7 Z O hb hb7 M D d0 d1 d2 d3
        obtain ⟨_, z0, z1, z2, z3⟩ := Z7.c4
        have e0 := Z7.2.2 0
        have e1 := Z7.2.2 1
        have e2 := Z7.2.2 2
        have e3 := Z7.2.2 3
        have hE := put4_box Z7 (.slice (some ⟨q1, 0, none⟩) (plD r l).1.length q2) (.slice (some ⟨q3, 0, none⟩) (plD r l).2.1.length q4) (.slice (some ⟨q5, 0, none⟩) (plD r l).2.2.length q6) (.int .i64 r)
        have hC := put4_chg w7 w.heap.size (.slice (some ⟨q1, 0, none⟩) (plD r l).1.length q2) (.slice (some ⟨q3, 0, none⟩) (plD r l).2.1.length q4) (.slice (some ⟨q5, 0, none⟩) (plD r l).2.2.length q6) (.int .i64 r)
        have M9 := (M7'.chg hC (fun g h1 h2 => by omega)).wk (base' := w.heap.size) (by omega)
        have O9 := owns_wk (base' := w.heap.size) (hC.owns O7 (fun g hg h => by have := owns_ge O7 g hg; omega)) (by omega)
        have hB9 := B7.trans (hC.below (B := w.heap.size) B7.size (fun b h => by omega))
        clear hC M7' O7
        go_wp2
        change bodyPost _ _ _ _ _ (put4 w7 w.heap.size (.slice (some ⟨q1, 0, none⟩) (plD r l).1.length q2) (.slice (some ⟨q3, 0, none⟩) (plD r l).2.1.length q4) (.slice (some ⟨q5, 0, none⟩) (plD r l).2.2.length q6) (.int .i64 r))
        generalize put4 w7 w.heap.size (.slice (some ⟨q1, 0, none⟩) (plD r l).1.length q2) (.slice (some ⟨q3, 0, none⟩) (plD r l).2.1.length q4) (.slice (some ⟨q5, 0, none⟩) (plD r l).2.2.length q6) (.int .i64 r) = W at *
        obtain ⟨_, t0, t1, t2, t3⟩ := hE.c4
        exact bodyPost_ret (v := .tuple #[.agg #[.slice (some ⟨q1, 0, none⟩) (plD r l).1.length q2, .slice (some ⟨q3, 0, none⟩) (plD r l).2.1.length q4, .slice (some ⟨q5, 0, none⟩) (plD r l).2.2.length q6, .int .i64 r], .slice a4 n4 c4, .bool true]) (by simp [results, Try.results35, go_sem, t0, t1, t2, t3]) rfl ⟨⟨_, _, _, _, rfl, M9, O9⟩, hB9⟩
end Go.Proofs.Ytbgemebpfcbloaa
