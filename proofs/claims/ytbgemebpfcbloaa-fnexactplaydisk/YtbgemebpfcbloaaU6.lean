/-
  impl.PlayDisk.
-/
import Derived.Test.YtbgemebpfcbloaaUb
namespace Go.Proofs.Ytbgemebpfcbloaa
open Go.RowKit Go.Maps
set_option linter.unusedVariables false
set_option maxRecDepth 100000

set_option maxHeartbeats 8000000 in
theorem implPlay_any (r : Int) (v : Value) (l : List St) (w : World) (hv : FL w v l) (hn : l.length ≤ 1048576) (hs : ∀ i (h : i < l.length), l[i].nm.size ≤ 1048576 ∧ l[i].ot.size ≤ 1048576 ∧ l[i].da.size ≤ 1048576) :
    Calls Try.prog 37 #[.int .i64 r, v] w fun e w' => (∃ x1 x2 x3 cs, e = .returned (.tuple #[.agg #[x1, x2, x3, .int .i64 (pR r l)], cs, .bool (pOk r l)]) ∧ Made w.heap.size w' x1 x2 x3 (pD r l).1 (pD r l).2.1 (pD r l).2.2 ∧ w'.ownsRow w.heap.size 3 1 cs (pC r l).length ((pC r l).map (.int .i64))) ∧ Below w.heap.size w w' := by
  obtain ⟨a, cap, rfl, hc⟩ := hv
  have KN := fun w => implNew_any r w
  have HD : Hid (pD r l = if pOk r l then plD r l else ([], [], [])) := rfl
  have HC : Hid (pC r l = if pOk r l then plC r ([], [], []) l else []) := rfl
  have HR : Hid (pR r l = if pOk r l then r else 0) := rfl
  have HO : Hid (pOk r l = (decide (0 ≤ r) && decide (r ≤ 100000) && decide ((l.length : Int) ≤ 100))) := rfl
  generalize pD r l = DD at *
  generalize pC r l = CC at *
  generalize pR r l = RR at *
  generalize pOk r l = ok at *
  cases hr : (decide (0 ≤ r) && decide (r ≤ 100000)) with
  | false =>
    rw [hr] at KN HO
    obtain rfl : ok = false := HO.out
    obtain rfl : DD = ([], [], []) := HD.out
    obtain rfl : CC = [] := HC.out
    obtain rfl : RR = 0 := HR.out
    clear HD HC HR HO
    simp only [Bool.false_eq_true, if_false] at KN
    go_enter Try.func37, Try.ntmps37
    go_wp2_with fail
    refine (KN _).mono ?_
    rintro e w1 ⟨rfl, hb1⟩
    have Z1 := (Box.new w #[.slice none 0 0, .slice none 0 0, .slice none 0 0, .int .i64 0] 26).below hb1
    have hB1 := below_then (below_alloc _ _) hb1
    have hE := (put4_box Z1 (.slice none 0 0) (.slice none 0 0) (.slice none 0 0) (.int .i64 0)).alloc (.cells #[.slice none 0 0, .slice none 0 0, .slice none 0 0, .int .i64 0] 26)
    have hC := put4_chg w1 w.heap.size (.slice none 0 0) (.slice none 0 0) (.slice none 0 0) (.int .i64 0)
    have hz1 := hB1.size
    have hB2 := (hB1.trans (hC.below (B := w.heap.size) hz1 (fun b h => by omega))).alloc (by have := hC.size; omega) (.cells #[.slice none 0 0, .slice none 0 0, .slice none 0 0, .int .i64 0] 26)
    obtain ⟨hzz, z0, z1, z2, z3⟩ := Z1.c4
    have e0 := Z1.2.2 0
    have e1 := Z1.2.2 1
    have e2 := Z1.2.2 2
    have e3 := Z1.2.2 3
    clear hb1 KN hC Z1
    go_wp2
    change bodyPost _ _ _ _ _ ((put4 w1 w.heap.size (.slice none 0 0) (.slice none 0 0) (.slice none 0 0) (.int .i64 0)).alloc (.cells #[.slice none 0 0, .slice none 0 0, .slice none 0 0, .int .i64 0] 26))
    generalize (put4 w1 w.heap.size (.slice none 0 0) (.slice none 0 0) (.slice none 0 0) (.int .i64 0)).alloc (.cells #[.slice none 0 0, .slice none 0 0, .slice none 0 0, .int .i64 0] 26) = W at *
    obtain ⟨_, t0, t1, t2, t3⟩ := hE.c4
    exact bodyPost_ret (v := .tuple #[.agg #[.slice none 0 0, .slice none 0 0, .slice none 0 0, .int .i64 0], .slice none 0 0, .bool false]) (by simp [results, Try.results37, go_sem, t0, t1, t2, t3]) rfl ⟨⟨_, _, _, _, rfl, made_nil _ _, World.ownsRow_nil _ _ _ _⟩, hB2⟩
  | true =>
    rw [hr] at KN HO
    simp only [if_true] at KN
    by_cases hlen : (l.length : Int) ≤ 100
    case neg =>
      obtain rfl : ok = false := by rw [HO.out, decide_eq_false hlen]; rfl
      obtain rfl : DD = ([], [], []) := HD.out
      obtain rfl : CC = [] := HC.out
      obtain rfl : RR = 0 := HR.out
      clear HD HC HR HO
      go_enter Try.func37, Try.ntmps37
      go_wp2_with fail
      refine (KN _).mono ?_
      rintro e w1 ⟨rfl, hb1⟩
      have Z1 := (Box.new w #[.slice none 0 0, .slice none 0 0, .slice none 0 0, .int .i64 0] 26).below hb1
      have hB1 := below_then (below_alloc _ _) hb1
      have hE := (put4_box Z1 (.slice none 0 0) (.slice none 0 0) (.slice none 0 0) (.int .i64 0)).alloc (.cells #[.slice none 0 0, .slice none 0 0, .slice none 0 0, .int .i64 r] 26)
      have hC := put4_chg w1 w.heap.size (.slice none 0 0) (.slice none 0 0) (.slice none 0 0) (.int .i64 0)
      have hz1 := hB1.size
      have hB2 := (hB1.trans (hC.below (B := w.heap.size) hz1 (fun b h => by omega))).alloc (by have := hC.size; omega) (.cells #[.slice none 0 0, .slice none 0 0, .slice none 0 0, .int .i64 r] 26)
      obtain ⟨hzz, z0, z1, z2, z3⟩ := Z1.c4
      have e0 := Z1.2.2 0
      have e1 := Z1.2.2 1
      have e2 := Z1.2.2 2
      have e3 := Z1.2.2 3
      clear hb1 KN hC Z1
      go_wp2
      change bodyPost _ _ _ _ _ ((put4 w1 w.heap.size (.slice none 0 0) (.slice none 0 0) (.slice none 0 0) (.int .i64 0)).alloc (.cells #[.slice none 0 0, .slice none 0 0, .slice none 0 0, .int .i64 r] 26))
      generalize (put4 w1 w.heap.size (.slice none 0 0) (.slice none 0 0) (.slice none 0 0) (.int .i64 0)).alloc (.cells #[.slice none 0 0, .slice none 0 0, .slice none 0 0, .int .i64 r] 26) = W at *
      obtain ⟨_, t0, t1, t2, t3⟩ := hE.c4
      exact bodyPost_ret (v := .tuple #[.agg #[.slice none 0 0, .slice none 0 0, .slice none 0 0, .int .i64 0], .slice none 0 0, .bool false]) (by simp [results, Try.results37, go_sem, t0, t1, t2, t3]) rfl ⟨⟨_, _, _, _, rfl, made_nil _ _, World.ownsRow_nil _ _ _ _⟩, hB2⟩
    obtain rfl : ok = true := by rw [HO.out, decide_eq_true hlen]; rfl
    obtain rfl : DD = plD r l := HD.out
    obtain rfl : CC = plC r ([], [], []) l := HC.out
    obtain rfl : r = RR := HR.out.symm
    clear HD HC HR HO
    rw [Bool.and_eq_true] at hr
    have r0 := of_decide_eq_true hr.1
    have r1 := of_decide_eq_true hr.2
    clear hr
    obtain ⟨i0, hi, hz0, hzs, hzb⟩ := info_parts Try.info3i
    go_enter Try.func37, Try.ntmps37
    go_wp2_with fail
    refine (KN _).mono ?_
    rintro e w1 ⟨rfl, hb1⟩
    have Z1 := ((Box.new w #[.slice none 0 0, .slice none 0 0, .slice none 0 0, .int .i64 0] 26).below hb1).alloc (.cells #[.slice none 0 0, .slice none 0 0, .slice none 0 0, .int .i64 r] 26)
    have D1 := Box.new w1 #[.slice none 0 0, .slice none 0 0, .slice none 0 0, .int .i64 r] 26
    have hB1 := below_then (below_alloc _ _) hb1
    have hz1 : w.heap.size < w1.heap.size := by have := hb1.size; simp at this; omega
    have hB2 := hB1.alloc hB1.size (.cells #[.slice none 0 0, .slice none 0 0, .slice none 0 0, .int .i64 r] 26)
    clear hb1 hB1 KN
    go_wp2_with fail
    go_loopw [9, 29] (fun cv i wr => ∃ (j : Nat) (a1 : Option Addr) (n1 c1 : Nat) (a2 : Option Addr) (n2 c2 : Nat) (a3 : Option Addr) (n3 c3 : Nat) (a4 : Option Addr) (n4 c4 : Nat), j ≤ l.length ∧ i = .int .i64 j ∧ cv = .slice a4 n4 c4 ∧ Box wr w.heap.size [.slice none 0 0, .slice none 0 0, .slice none 0 0, .int .i64 0] ∧ Box wr w1.heap.size [.slice a1 n1 c1, .slice a2 n2 c2, .slice a3 n3 c3, .int .i64 r] ∧ Made (w1.heap.size + 1) wr (.slice a1 n1 c1) (.slice a2 n2 c2) (.slice a3 n3 c3) (plD r (l.take j)).1 (plD r (l.take j)).2.1 (plD r (l.take j)).2.2 ∧ wr.ownsRow (w1.heap.size + 1) 3 1 (.slice a4 n4 c4) (plC r ([], [], []) (l.take j)).length ((plC r ([], [], []) (l.take j)).map (.int .i64)) ∧ Below w.heap.size w wr) (fun _ i _ => l.length - (intOf i).toNat)
    case atStart => exact ⟨0, none, 0, 0, none, 0, 0, none, 0, 0, none, 0, 0, Nat.zero_le _, rfl, rfl, Z1, D1, made_nil _ _, World.ownsRow_nil _ _ _ _, hB2⟩
    case round =>
      clear Z1 D1 hB2
      obtain ⟨j, a1, n1, c1, a2, n2, c2, a3, n3, c3, a4, n4, c4, hj, rfl, rfl, Z, D, M, O, hb⟩ := hrel
      have hzw := hb.size
      have hzd := D.1
      by_cases hlt : j < l.length
      · skip
        obtain ⟨b, off, rfl, hbl, hcell⟩ := hc (by intro e; simp [e] at hlt)
        obtain ⟨s, hse⟩ : ∃ s, s = l[j] := ⟨_, rfl⟩
        have hc0 := (hb.cell (p := ⟨b, off + j * 5, none⟩) hbl).trans (hcell j hlt).1
        have hc1 := (hb.cell (p := ⟨b, off + j * 5 + 1, none⟩) hbl).trans (hcell j hlt).2.1
        have hc2 := (hb.cell (p := ⟨b, off + j * 5 + 2, none⟩) hbl).trans (hcell j hlt).2.2.1
        have hc3 := (hb.cell (p := ⟨b, off + j * 5 + 3, none⟩) hbl).trans (hcell j hlt).2.2.2.1
        have hc4 := (hb.cell (p := ⟨b, off + j * 5 + 4, none⟩) hbl).trans (hcell j hlt).2.2.2.2
        have hss := hs j hlt
        have HP : Hid (plD r (l.take (j + 1)) = nxS r (plD r (l.take j)) s) := by rw [hse]; exact plD_take r l j hlt
        have HQ : Hid (plC r ([], [], []) (l.take (j + 1)) = plC r ([], [], []) (l.take j) ++ [cdS r (plD r (l.take j)) s]) := by rw [hse]; exact plC_take r l j hlt
        have HL : Hid ((plC r ([], [], []) (l.take j)).length = j) := by show _ = _; rw [plC_length]; simp; omega
        have HG : Hid (goodD (plD r (l.take j)).1 (plD r (l.take j)).2.1 (plD r (l.take j)).2.2 r = true) := plD_good r0 r1 _
        rw [← hse] at hc0 hc1 hc2 hc3 hc4 hss
        clear hcell hse hc hs
        generalize plD r (l.take j) = x at *
        generalize plC r ([], [], []) (l.take j) = cl at *
        have bB := blobs_small HG.out
        have bL := live_small HG.out
        have bS := safe_small HG.out
        obtain ⟨q1, q2, q3, q4, q5⟩ := doB_nx (s := s) HG.out
        have KI := fun v1 v2 v3 w h1 h2 h3 => implDo_any v1 v2 v3 x.1 x.2.1 x.2.2 r s.k s.nm s.ot s.da s.kp w h1 h2 h3 bB.1 bL.1 bS.1 bB.2 bL.2 bS.2 hss.1 hss.2.1 hss.2.2
        rw [q1, q2, q3, q4, q5] at KI
        clear q1 q2 q3 q4 q5 bB bL bS hss
        have HM : Hid (Made (w1.heap.size + 1) wr (.slice a1 n1 c1) (.slice a2 n2 c2) (.slice a3 n3 c3) x.1 x.2.1 x.2.2) := M
        generalize nxS r x s = y at *
        generalize cdS r x s = cc at *
        obtain ⟨sk, sn, so, sd, sp⟩ := s
        dsimp only at hc0 hc1 hc2 hc3 hc4 KI
        obtain ⟨_, d0, d1, d2, d3⟩ := D.c4
        have A1 := below_alloc wr (.cells #[.int .i64 sk, .string sn, .string so, .string sd, .int .i64 sp] 28)
        go_wp2_with fail
        refine (KI _ _ _ _ (PX_of_owns (owns_below HM.out.1 A1)) (PX_of_owns (owns_below HM.out.2.1 A1)) (PX_of_owns (owns_below HM.out.2.2.1 A1))).mono ?_
        rintro e w2 ⟨⟨y1, y2, y3, rfl, M2'⟩, hb2⟩
        have T2 := below_then A1 hb2
        have Z2 := Z.below T2
        have D2 := D.below T2
        have O2 := owns_below O T2
        have M2 := M2'.wk (base' := w1.heap.size + 1) (by simp; omega)
        have hz2 := T2.size
        have hB2 := below_then hb T2
        obtain ⟨b1, e1, b2, e2, b3, e3, rfl, rfl, rfl⟩ := M2.shape
        clear M2' hb2 A1 KI Z D O M HM hb hc0 hc1 hc2 hc3 hc4 d0 d1 d2 d3
        obtain ⟨_, d0, d1, d2, d3⟩ := D2.c4
        have f0 := D2.2.2 0
        have f1 := D2.2.2 1
        have f2 := D2.2.2 2
        have f3 := D2.2.2 3
        go_wp2_with (at_builtin; refine Stop.go ?_)
        have hC2 := put4_chg w2 w1.heap.size (.slice b1 y.1.length e1) (.slice b2 y.2.1.length e2) (.slice b3 y.2.2.length e3) (.int .i64 r)
        have D3' := put4_box D2 (.slice b1 y.1.length e1) (.slice b2 y.2.1.length e2) (.slice b3 y.2.2.length e3) (.int .i64 r)
        have Z3' := hC2.box Z2 (by omega)
        have M3' := M2.chg hC2 (fun g h1 h2 => by omega)
        have O3' := hC2.owns O2 (fun g hg h => by have := owns_ge O2 g hg; omega)
        have hB3' := hB2.trans (hC2.below (B := w.heap.size) (by omega) (fun b h => by omega))
        have hz3' : (put4 w2 w1.heap.size (.slice b1 y.1.length e1) (.slice b2 y.2.1.length e2) (.slice b3 y.2.2.length e3) (.int .i64 r)).heap.size = w2.heap.size := by simp [put4]
        clear d0 d1 d2 d3 f0 f1 f2 f3 D2 Z2 M2 O2 hB2 hC2
        unfold Stop
        change wpList _ _ _ _ _ (((put4 w2 w1.heap.size (.slice b1 y.1.length e1) (.slice b2 y.2.1.length e2) (.slice b3 y.2.2.length e3) (.int .i64 r)).alloc (.cells #[.slice b1 y.1.length e1, .slice b2 y.2.1.length e2, .slice b3 y.2.2.length e3, .int .i64 r] 26)).alloc (.cells #[.int .i64 cc] 3))
        generalize put4 w2 w1.heap.size (.slice b1 y.1.length e1) (.slice b2 y.2.1.length e2) (.slice b3 y.2.2.length e3) (.int .i64 r) = w3 at *
        have A3 := below2 w3 (.cells #[.slice b1 y.1.length e1, .slice b2 y.2.1.length e2, .slice b3 y.2.2.length e3, .int .i64 r] 26) (.cells #[.int .i64 cc] 3)
        have S3 : Box ((w3.alloc (.cells #[.slice b1 y.1.length e1, .slice b2 y.2.1.length e2, .slice b3 y.2.2.length e3, .int .i64 r] 26)).alloc (.cells #[.int .i64 cc] 3)) (w2.heap.size + 1) [.int .i64 cc] := by
          have := Box.new (w3.alloc (.cells #[.slice b1 y.1.length e1, .slice b2 y.2.1.length e2, .slice b3 y.2.2.length e3, .int .i64 r] 26)) #[.int .i64 cc] 3
          simpa [hz3'] using this
        have D3 := D3'.below A3
        have Z3 := Z3'.below A3
        have M3 := M3'.below A3
        have O3 := owns_below O3' A3
        have hB3 := hB3'.trans (A3.mono (by have := hB3'.size; omega))
        have hz3 := A3.size
        clear D3' Z3' M3' O3' hB3' A3
        generalize (w3.alloc (.cells #[.slice b1 y.1.length e1, .slice b2 y.2.1.length e2, .slice b3 y.2.2.length e3, .int .i64 r] 26)).alloc (.cells #[.int .i64 cc] 3) = w4 at *
        have hcl := HL.out
        refine wpList_append_own _ rfl _ _ 66 rfl (w1.heap.size + 1) 3 i0 (.int .i64 0) 1 8 Try.underlying66 hi hz0 hzs hzb rfl (by decide) (.slice a4 n4 c4) cl.length (cl.map (.int .i64)) rfl O3 ⟨w2.heap.size + 1, 0, none⟩ 1 1 [.int .i64 cc] rfl rfl (by intro i u hi; match i, hi with | 0, hi => simp at hi; subst hi; exact S3.2.1 0 _ rfl) (by intro u hu; simp at hu; subst hu; rfl) (by unfold maxLen; omega) (by omega) (by omega) ?_
        intro v5 w5 o5 hg5 hn5
        obtain ⟨a5, c5, rfl⟩ := owns_shape o5
        have hC5 := chg_grown hg5
        have ge4 := owns_ge O3
        have Z5 := hC5.box Z3 (fun e => by have := ge4 _ e; omega)
        have D5 := hC5.box D3 (fun e => by have := ge4 _ e; omega)
        have M5 : Made (w1.heap.size + 1) w5 (.slice b1 y.1.length e1) (.slice b2 y.2.1.length e2) (.slice b3 y.2.2.length e3) y.1 y.2.1 y.2.2 := ⟨hC5.owns M3.1 (fun g hg h => rows_ne M3.1 O3 (by decide) g hg h), hC5.owns M3.2.1 (fun g hg h => rows_ne M3.2.1 O3 (by decide) g hg h), hC5.owns M3.2.2.1 (fun g hg h => rows_ne M3.2.2.1 O3 (by decide) g hg h), M3.2.2.2⟩
        have hB5 := hB3.trans (hC5.below (B := w.heap.size) (by omega) (fun b h => by have := ge4 _ h; omega))
        rw [hcl] at o5
        clear Z3 D3 M3 O3 hB3 hC5 hg5 S3 hcl
        go_wp2
        go_roundw
        case rel => exact ⟨j + 1, _, _, _, _, _, _, _, _, _, _, _, _, by omega, by go_num, rfl, Z5, D5, by rw [HP.out]; exact M5, by rw [HQ.out, List.length_append, List.map_append, HL.out]; exact o5, hB5⟩
        case measure => simp [intOf]; omega
      · skip
        obtain rfl : j = l.length := by omega
        rw [List.take_length] at M O
        clear hc hs
        obtain ⟨_, d0, d1, d2, d3⟩ := D.c4
        obtain ⟨_, z0, z1, z2, z3⟩ := Z.c4
        have e0 := Z.2.2 0
        have e1 := Z.2.2 1
        have e2 := Z.2.2 2
        have e3 := Z.2.2 3
        have hE := put4_box Z (.slice a1 n1 c1) (.slice a2 n2 c2) (.slice a3 n3 c3) (.int .i64 r)
        have hC := put4_chg wr w.heap.size (.slice a1 n1 c1) (.slice a2 n2 c2) (.slice a3 n3 c3) (.int .i64 r)
        have M9 := (M.chg hC (fun g h1 h2 => by omega)).wk (base' := w.heap.size) (by omega)
        have O9 := owns_wk (base' := w.heap.size) (hC.owns O (fun g hg h => by have := owns_ge O g hg; omega)) (by omega)
        have hB9 := hb.trans (hC.below (B := w.heap.size) hzw (fun b h => by omega))
        clear hC M O
        go_wp2
        change bodyPost _ _ _ _ _ (put4 wr w.heap.size (.slice a1 n1 c1) (.slice a2 n2 c2) (.slice a3 n3 c3) (.int .i64 r))
        generalize put4 wr w.heap.size (.slice a1 n1 c1) (.slice a2 n2 c2) (.slice a3 n3 c3) (.int .i64 r) = W at *
        obtain ⟨_, t0, t1, t2, t3⟩ := hE.c4
        exact bodyPost_ret (v := .tuple #[.agg #[.slice a1 n1 c1, .slice a2 n2 c2, .slice a3 n3 c3, .int .i64 r], .slice a4 n4 c4, .bool true]) (by simp [results, Try.results37, go_sem, t0, t1, t2, t3]) rfl ⟨⟨_, _, _, _, rfl, M9, O9⟩, hB9⟩
end Go.Proofs.Ytbgemebpfcbloaa
