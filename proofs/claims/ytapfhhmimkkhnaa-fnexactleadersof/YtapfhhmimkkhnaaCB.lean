/-
  How great a cluster is: szRaftNodeS, szRaftMsgS, szLeadS, szCluster.
-/
import Derived.Test.YtapfhhmimkkhnaaCA
import Derived.Test.YtapfhhmimkkhnaaC1ToM1
import Derived.Test.YtapfhhmimkkhnaaN2ToA1
namespace Go.Proofs.Ytapfhhmimkkhnaa
open Go.RowKit Go.Maps
set_option linter.unusedVariables false
set_option maxRecDepth 100000

def NZ (x : Nv) : Prop := x.n.log.length ≤ maxLen ∧ x.n.vs.length ≤ maxLen ∧ x.n.mt.length ≤ maxLen ∧ ∀ j (h : j < x.n.log.length), x.n.log[j].d.size ≤ maxLen
def MZ (x : Mv) : Prop := x.q.es.length ≤ maxLen ∧ ∀ j (h : j < x.q.es.length), x.q.es[j].d.size ≤ maxLen
set_option maxHeartbeats 2000000 in
theorem szNode_left (left : Int) (h0 : 0 ≤ left) (h1 : left ≤ 1048576) (id pe te vo co ro : Int) (vl vv vm : Value) (log : List En) (vs mt : List Int) (w : World) (hl : ER w vl log) (hv : IL w vv vs) (hm : IL w vm mt) (nl : log.length ≤ maxLen) (nv : vs.length ≤ maxLen) (nm : mt.length ≤ maxLen) (ns : ∀ i (h : i < log.length), log[i].d.size ≤ maxLen) :
    Calls Try.prog 23 #[.agg #[.int .i64 id, .int .i64 pe, .int .i64 te, .int .i64 vo, vl, .int .i64 co, .int .i64 ro, vv, vm], .int .i64 left] w fun e w' => (∃ r : Int, e = .returned (.int .i64 r) ∧ (r = -1 ∨ (0 ≤ r ∧ (tot2 log : Int) + log.length + vs.length + mt.length + r = left))) ∧ Below w.heap.size w w' := by
  have hB := below_alloc w (.cells #[.int .i64 id, .int .i64 pe, .int .i64 te, .int .i64 vo, vl, .int .i64 co, .int .i64 ro, vv, vm] 49)
  have X := Box.new w #[.int .i64 id, .int .i64 pe, .int .i64 te, .int .i64 vo, vl, .int .i64 co, .int .i64 ro, vv, vm] 49
  have K1 := szEntryS_any vl log left _ (hl.below hB) h0 h1 nl ns
  have K2 := fun left W (h : Below w.heap.size w W) h0 h1 => szIntS_any vv vs left W (hv.below h) h0 h1 nv
  have K3 := fun left W (h : Below w.heap.size w W) h0 h1 => szIntS_any vm mt left W (hm.below h) h0 h1 nm
  obtain ⟨la, lc, rfl, hlc⟩ := hl
  obtain ⟨va, vc, rfl, hvc⟩ := hv
  obtain ⟨ma, mc, rfl, hmc⟩ := hm
  clear hlc hvc hmc ns
  go_enter Try.func23, Try.ntmps23
  go_wp2_with fail
  refine K1.mono ?_
  rintro e w1 ⟨⟨r, rfl, hr⟩, hb⟩
  replace hB := below_then hB hb
  replace X := X.below hb
  clear hb K1
  obtain ⟨hxl, x0, x1, x2, x3, x4, x5, x6, x7, x8⟩ := X.e9
  rcases hr with rfl | ⟨hr0, hr1⟩
  · clear K2 K3
    go_wp2
    go_ret
    exact ⟨⟨-1, rfl, .inl rfl⟩, hB⟩
  have L1 := K2 r _ hB hr0 (by omega)
  have HE : Hid ((tot2 log : Int) + log.length + r = left) := hr1
  have hr2 : ¬ r < 0 := by omega
  have hr3 : r ≤ 1048576 := by omega
  clear hr1 K2
  go_wp2_with fail
  refine L1.mono ?_
  rintro e w2 ⟨rfl, hw⟩
  subst hw
  clear L1
  by_cases c1 : (vs.length : Int) ≤ r
  rotate_left
  · rw [if_neg c1]
    clear K3
    go_wp2
    go_ret
    exact ⟨⟨-1, rfl, .inl rfl⟩, hB⟩
  rw [if_pos c1]
  have L2 := K3 (r - vs.length) _ hB (by omega) (by omega)
  obtain ⟨r2, hr4⟩ : ∃ r2, r2 = r - (vs.length : Int) := ⟨_, rfl⟩
  rw [← hr4] at L2 ⊢
  have HE2 : Hid (r2 = r - (vs.length : Int)) := hr4
  have hr5 : ¬ r2 < 0 := by omega
  clear hr4 K3
  go_wp2_with fail
  refine L2.mono ?_
  rintro e w3 ⟨rfl, hw⟩
  subst hw
  clear L2
  by_cases c2 : (mt.length : Int) ≤ r2
  · rw [if_pos c2]
    have hr6 : ¬ r2 - (mt.length : Int) < 0 := by omega
    go_wp2
    go_ret
    exact ⟨⟨_, rfl, .inr ⟨by omega, by have := HE.out; have := HE2.out; omega⟩⟩, hB⟩
  · rw [if_neg c2]
    go_wp2
    go_ret
    exact ⟨⟨-1, rfl, .inl rfl⟩, hB⟩


set_option maxHeartbeats 4000000 in
theorem szNodeS_any (v : Value) (l : List Nv) (left : Int) (w : World) (hv : NW w v l) (he : ∀ i (h : i < l.length), NE w l[i]) (h0 : 0 ≤ left) (h1 : left ≤ 1048576) (hn : l.length ≤ maxLen) (hs : ∀ i (h : i < l.length), NZ l[i]) :
    Calls Try.prog 93 #[v, .int .i64 left] w fun e w' => (∃ r : Int, e = .returned (.int .i64 r) ∧ (r = -1 ∨ (0 ≤ r ∧ (sm tN l : Int) + l.length + r = left))) ∧ Below w.heap.size w w' := by
  obtain ⟨a, cap, rfl, hc⟩ := hv
  unfold maxLen at hn
  by_cases hl : l.length ≤ left
  · go_enter Try.func93, Try.ntmps93
    go_wp2
    go_loopw [1, 5] (fun t i wr => ∃ k : Nat, k ≤ l.length ∧ i = .int .i64 k ∧ (sm tN (l.take k) : Int) ≤ left - l.length ∧ t = .int .i64 (left - l.length - sm tN (l.take k)) ∧ Below w.heap.size w wr) (fun _ i _ => l.length - (intOf i).toNat)
    case atStart => exact ⟨0, Nat.zero_le _, rfl, by simp [sm]; omega, by simp [sm], Below.refl _ _⟩
    case round =>
      obtain ⟨k, hk, rfl, ht, rfl, hb⟩ := hrel
      by_cases hlt : k < l.length
      · obtain ⟨b, off, rfl, hbl, hcell⟩ := hc (by intro e; simp [e] at hlt)
        obtain ⟨z0, z1, z2, z3, z4, z5, z6, z7, z8⟩ := hcell k hlt
        have hc0 := (hb.cell (p := ⟨b, off + k * 9, none⟩) hbl).trans z0
        have hc1 := (hb.cell (p := ⟨b, off + k * 9 + 1, none⟩) hbl).trans z1
        have hc2 := (hb.cell (p := ⟨b, off + k * 9 + 2, none⟩) hbl).trans z2
        have hc3 := (hb.cell (p := ⟨b, off + k * 9 + 3, none⟩) hbl).trans z3
        have hc4 := (hb.cell (p := ⟨b, off + k * 9 + 4, none⟩) hbl).trans z4
        have hc5 := (hb.cell (p := ⟨b, off + k * 9 + 5, none⟩) hbl).trans z5
        have hc6 := (hb.cell (p := ⟨b, off + k * 9 + 6, none⟩) hbl).trans z6
        have hc7 := (hb.cell (p := ⟨b, off + k * 9 + 7, none⟩) hbl).trans z7
        have hc8 := (hb.cell (p := ⟨b, off + k * 9 + 8, none⟩) hbl).trans z8
        have hE := (he k hlt).below hb
        have hss := hs k hlt
        have HT : Hid (sm tN (l.take (k + 1)) = sm tN (l.take k) + tN l[k]) := sm_take tN l k hlt
        clear hcell hs hc he z0 z1 z2 z3 z4 z5 z6 z7 z8
        have hz := hb.size
        generalize l[k] = s at *
        obtain ⟨S2, HS2⟩ : ∃ S2, Hid (sm tN (l.take (k + 1)) = S2) := ⟨sm tN (l.take (k + 1)), rfl⟩
        rw [HS2.out] at HT
        generalize sm tN (l.take k) = S1 at *
        obtain ⟨⟨id, pe, te, vo, co, ro, log, vs, mt⟩, la, lc, va, vc, ma, mc⟩ := s
        obtain ⟨lf, hlf⟩ : ∃ lf : Int, lf = left - l.length - S1 := ⟨_, rfl⟩
        have KS := szNode_left lf (by omega) (by omega) id pe te vo co ro _ _ _ log vs mt wr hE.1 hE.2.1 hE.2.2 hss.1 hss.2.1 hss.2.2.1 hss.2.2.2
        rw [← hlf]
        have HL : Hid (lf = left - l.length - S1) := hlf
        clear hlf hE hss
        dsimp only at *
        go_wp2_with fail
        refine KS.mono ?_
        rintro e w1 ⟨⟨r, rfl, hr⟩, hb1⟩
        replace hb := hb.trans (hb1.mono hz)
        clear KS hb1
        rcases hr with rfl | ⟨hr0, hr1⟩
        · go_wp2_with fail
          go_ret
          exact ⟨⟨-1, rfl, .inl rfl⟩, hb⟩
        have hr2 : ¬ r < 0 := by omega
        have HR : Hid (r = left - l.length - S2 ∧ (S2 : Int) ≤ left - l.length) := by
          have e1 := HT.out
          have e2 := HL.out
          simp only [tN] at e1
          exact ⟨by omega, by omega⟩
        clear hr1
        go_wp2_with fail
        go_roundw
        case rel => exact ⟨k + 1, by omega, by go_num, by rw [HS2.out]; exact HR.out.2, by rw [HS2.out, HR.out.1], hb⟩
        case measure => simp [intOf]; omega
      · clear hc he
        go_wp2
        go_ret
        have : k = l.length := by omega
        subst this
        exact ⟨⟨_, rfl, .inr (by rw [List.take_length] at *; omega)⟩, hb⟩
  · go_enter Try.func93, Try.ntmps93
    go_wp2
    go_ret
    exact ⟨⟨-1, rfl, .inl rfl⟩, Below.refl _ _⟩

set_option maxHeartbeats 4000000 in
theorem szMsgS_any (v : Value) (l : List Mv) (left : Int) (w : World) (hv : MW w v l) (he : ∀ i (h : i < l.length), ME w l[i]) (h0 : 0 ≤ left) (h1 : left ≤ 1048576) (hn : l.length ≤ maxLen) (hs : ∀ i (h : i < l.length), MZ l[i]) :
    Calls Try.prog 94 #[v, .int .i64 left] w fun e w' => (∃ r : Int, e = .returned (.int .i64 r) ∧ (r = -1 ∨ (0 ≤ r ∧ (sm tM l : Int) + l.length + r = left))) ∧ Below w.heap.size w w' := by
  obtain ⟨a, cap, rfl, hc⟩ := hv
  unfold maxLen at hn
  by_cases hl : l.length ≤ left
  · go_enter Try.func94, Try.ntmps94
    go_wp2
    go_loopw [1, 5] (fun t i wr => ∃ k : Nat, k ≤ l.length ∧ i = .int .i64 k ∧ (sm tM (l.take k) : Int) ≤ left - l.length ∧ t = .int .i64 (left - l.length - sm tM (l.take k)) ∧ Below w.heap.size w wr) (fun _ i _ => l.length - (intOf i).toNat)
    case atStart => exact ⟨0, Nat.zero_le _, rfl, by simp [sm]; omega, by simp [sm], Below.refl _ _⟩
    case round =>
      obtain ⟨k, hk, rfl, ht, rfl, hb⟩ := hrel
      by_cases hlt : k < l.length
      · obtain ⟨b, off, rfl, hbl, hcell⟩ := hc (by intro e; simp [e] at hlt)
        obtain ⟨z0, z1, z2, z3, z4, z5, z6, z7, z8⟩ := hcell k hlt
        have hc0 := (hb.cell (p := ⟨b, off + k * 9, none⟩) hbl).trans z0
        have hc1 := (hb.cell (p := ⟨b, off + k * 9 + 1, none⟩) hbl).trans z1
        have hc2 := (hb.cell (p := ⟨b, off + k * 9 + 2, none⟩) hbl).trans z2
        have hc3 := (hb.cell (p := ⟨b, off + k * 9 + 3, none⟩) hbl).trans z3
        have hc4 := (hb.cell (p := ⟨b, off + k * 9 + 4, none⟩) hbl).trans z4
        have hc5 := (hb.cell (p := ⟨b, off + k * 9 + 5, none⟩) hbl).trans z5
        have hc6 := (hb.cell (p := ⟨b, off + k * 9 + 6, none⟩) hbl).trans z6
        have hc7 := (hb.cell (p := ⟨b, off + k * 9 + 7, none⟩) hbl).trans z7
        have hc8 := (hb.cell (p := ⟨b, off + k * 9 + 8, none⟩) hbl).trans z8
        have hE := (he k hlt).below hb
        have hss := hs k hlt
        have HT : Hid (sm tM (l.take (k + 1)) = sm tM (l.take k) + tM l[k]) := sm_take tM l k hlt
        clear hcell hs hc he z0 z1 z2 z3 z4 z5 z6 z7 z8
        have hz := hb.size
        generalize l[k] = s at *
        obtain ⟨S2, HS2⟩ : ∃ S2, Hid (sm tM (l.take (k + 1)) = S2) := ⟨sm tM (l.take (k + 1)), rfl⟩
        rw [HS2.out] at HT
        generalize sm tM (l.take k) = S1 at *
        obtain ⟨⟨ki, fr, dst, te, ix, be, co, ye, es⟩, ea, ec⟩ := s
        obtain ⟨lf, hlf⟩ : ∃ lf : Int, lf = left - l.length - S1 := ⟨_, rfl⟩
        have KS := szMsg_any ki fr dst te ix be co ye _ es lf wr hE (by omega) (by omega) hss.1 hss.2
        rw [← hlf]
        have HL : Hid (lf = left - l.length - S1) := hlf
        clear hlf hE hss
        dsimp only at *
        go_wp2_with fail
        refine KS.mono ?_
        rintro e w1 ⟨⟨r, rfl, hr⟩, hb1⟩
        replace hb := hb.trans (hb1.mono hz)
        clear KS hb1
        rcases hr with rfl | ⟨hr0, hr1⟩
        · go_wp2_with fail
          go_ret
          exact ⟨⟨-1, rfl, .inl rfl⟩, hb⟩
        have hr2 : ¬ r < 0 := by omega
        have HR : Hid (r = left - l.length - S2 ∧ (S2 : Int) ≤ left - l.length) := by
          have e1 := HT.out
          have e2 := HL.out
          simp only [tM] at e1
          exact ⟨by omega, by omega⟩
        clear hr1
        go_wp2_with fail
        go_roundw
        case rel => exact ⟨k + 1, by omega, by go_num, by rw [HS2.out]; exact HR.out.2, by rw [HS2.out, HR.out.1], hb⟩
        case measure => simp [intOf]; omega
      · clear hc he
        go_wp2
        go_ret
        have : k = l.length := by omega
        subst this
        exact ⟨⟨_, rfl, .inr (by rw [List.take_length] at *; omega)⟩, hb⟩
  · go_enter Try.func94, Try.ntmps94
    go_wp2
    go_ret
    exact ⟨⟨-1, rfl, .inl rfl⟩, Below.refl _ _⟩

theorem szLeadS_any (v : Value) (n : Nat) (left : Int) (w : World) (a : Option Addr) (cap : Nat) (hv : v = .slice a n cap) (h0 : 0 ≤ left) (h1 : left ≤ 1048576) (hn : n ≤ maxLen) :
    Calls Try.prog 95 #[v, .int .i64 left] w fun e w' => e = .returned (.int .i64 (if (n : Int) ≤ left then left - n else -1)) ∧ w' = w := by
  subst hv
  unfold maxLen at hn
  by_cases hl : (n : Int) ≤ left
  · rw [if_pos hl]
    have hl2 : ¬ left - (n : Int) < 0 := by omega
    go_enter Try.func95, Try.ntmps95
    go_wp2
    go_ret
    exact ⟨rfl, rfl⟩
  · rw [if_neg hl]
    have hl2 : left - (n : Int) < 0 := by omega
    go_enter Try.func95, Try.ntmps95
    go_wp2
    go_ret
    exact ⟨rfl, rfl⟩

set_option maxHeartbeats 4000000 in
theorem szCluster_any (vn vm vl : Value) (N : List Nv) (M : List Mv) (L : List Ld) (w : World) (h : CR w vn vm vl N M L) (nn : N.length ≤ maxLen) (nm : M.length ≤ maxLen) (nl : L.length ≤ maxLen) (zn : ∀ i (h : i < N.length), NZ N[i]) (zm : ∀ i (h : i < M.length), MZ M[i]) :
    Calls Try.prog 38 #[.agg #[vn, vm, vl], .int .i64 1048576] w fun e w' => (∃ r : Int, e = .returned (.int .i64 r) ∧ (r = -1 ∨ (0 ≤ r ∧ (sm tN N : Int) + N.length + sm tM M + M.length + L.length + r = 1048576))) ∧ Below w.heap.size w w' := by
  have hB := below_alloc w (.cells #[vn, vm, vl] 70)
  have X := Box.new w #[vn, vm, vl] 70
  have h1 := h.below hB
  have K1 := szNodeS_any vn N 1048576 _ h1.n h1.ne (by omega) (by omega) nn zn
  have K2 := fun left W (hb : Below w.heap.size w W) h0 h1 => szMsgS_any vm M left W (h.below hb).m (h.below hb).me h0 h1 nm zm
  obtain ⟨⟨na, nc, rfl⟩, ⟨ma, mc, rfl⟩, la, lc, rfl⟩ := h.shapes
  have K3 := fun left W h0 h1 => szLeadS_any _ L.length left W la lc rfl h0 h1 nl
  clear zn zm h h1
  go_enter Try.func38, Try.ntmps38
  go_wp2_with fail
  refine K1.mono ?_
  rintro e w1 ⟨⟨r, rfl, hr⟩, hb⟩
  replace hB := below_then hB hb
  replace X := X.below hb
  clear hb K1
  obtain ⟨hxl, x0, x1, x2⟩ := X.c3
  rcases hr with rfl | ⟨hr0, hr1⟩
  · clear K2 K3
    go_wp2
    go_ret
    exact ⟨⟨-1, rfl, .inl rfl⟩, hB⟩
  have L1 := K2 r _ hB hr0 (by omega)
  have HE : Hid ((sm tN N : Int) + N.length + r = 1048576) := hr1
  have hr2 : ¬ r < 0 := by omega
  have hr3 : r ≤ 1048576 := by omega
  clear hr1 K2
  go_wp2_with fail
  refine L1.mono ?_
  rintro e w2 ⟨⟨r2, rfl, hr4⟩, hb⟩
  replace hB := below_then hB hb
  replace X := X.below hb
  clear hb L1 hxl x0 x1 x2
  obtain ⟨hxl, x0, x1, x2⟩ := X.c3
  rcases hr4 with rfl | ⟨hr5, hr6⟩
  · clear K3
    go_wp2
    go_ret
    exact ⟨⟨-1, rfl, .inl rfl⟩, hB⟩
  have HE2 : Hid ((sm tM M : Int) + M.length + r2 = r) := hr6
  have hr7 : ¬ r2 < 0 := by omega
  have L2 := K3 r2 w2 hr5 (by omega)
  clear hr6 K3
  go_wp2_with fail
  refine L2.mono ?_
  rintro e w3 ⟨rfl, hw⟩
  subst hw
  clear L2
  by_cases c2 : (L.length : Int) ≤ r2
  · rw [if_pos c2]
    have hr8 : ¬ r2 - (L.length : Int) < 0 := by omega
    go_wp2
    go_ret
    exact ⟨⟨_, rfl, .inr ⟨by omega, by have := HE.out; have := HE2.out; omega⟩⟩, hB⟩
  · rw [if_neg c2]
    go_wp2
    go_ret
    exact ⟨⟨-1, rfl, .inl rfl⟩, hB⟩
end Go.Proofs.Ytapfhhmimkkhnaa
