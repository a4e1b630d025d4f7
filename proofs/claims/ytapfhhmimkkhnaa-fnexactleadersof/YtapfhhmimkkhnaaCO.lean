/-
  NewCluster: both sides.
-/
import Derived.Test.YtapfhhmimkkhnaaCN
import Derived.Test.YtapfhhmimkkhnaaNN
import Derived.Test.YtapfhhmimkkhnaaA2ToA3
namespace Go.Proofs.Ytapfhhmimkkhnaa
open Go.RowKit Go.Maps
set_option linter.unusedVariables false
set_option maxRecDepth 100000

def newN (i p : Int) : Nd := ⟨i, p, 0, -1, 0, 0, [], [], []⟩
def newNs (p : Int) (k : Nat) : List Nv := (List.range k).map fun i : Nat => ⟨newN i p, none, 0, none, 0, none, 0⟩
theorem newNs_length (p : Int) (k : Nat) : (newNs p k).length = k := by simp [newNs]
theorem newNs_succ (p : Int) (k : Nat) : newNs p (k + 1) = newNs p k ++ [⟨newN k p, none, 0, none, 0, none, 0⟩] := by simp [newNs, List.range_succ]
theorem newNs_at (p : Int) (k i : Nat) (h : i < (newNs p k).length) : (newNs p k)[i] = ⟨newN i p, none, 0, none, 0, none, 0⟩ := by simp [newNs]
def ncN (ok : Bool) (p : Int) : List Nv := if ok then newNs p p.toNat else []
/-- One node appended to a row of one's own. -/
theorem wpList_append_nd (w : World) {ops : Array Oper} {rest : List Oper} {o : Oper} {a : Act} {Q : Exit → Act → World → Prop} (hgd : o.guard = none) (s y : Operand)
    (ho : o.op = .call { callee := .builtin .append, args := #[s, y], argTypes := #[57, 57] }) (hty : o.type = 57)
    (base : Nat) (v : Value) (n : Nat) (zs : List Nv) (hs : a.eval s = v) (hown : w.ownsRow base 26 9 v n (flatN zs))
    (b : Nat) (x : Nv) (hx : a.eval y = .slice (some ⟨b, 0, none⟩) 1 1) (hI : Box w b [.int .i64 x.n.id, .int .i64 x.n.pe, .int .i64 x.n.te, .int .i64 x.n.vo, .slice x.la x.n.log.length x.lc, .int .i64 x.n.co, .int .i64 x.n.ro, .slice x.va x.n.vs.length x.vc, .slice x.ma x.n.mt.length x.mc]) (hn : n + 1 ≤ 2000000) (hbase : base ≤ w.heap.size)
    (h : ∀ v' w', w'.ownsRow base 26 9 v' (n + 1) (flatN (zs ++ [x])) → w.grownBy w' v.ownBlock → wpList Try.prog ops Q rest (a.put o.dst v') w') : wpList Try.prog ops Q (o :: rest) a w := by
  obtain ⟨i0, hi, hz0, hzs, hzb⟩ := info_parts Try.info26
  refine wpList_append_own _ hgd s y 57 ho base 26 i0 (.agg #[.int .i64 0, .int .i64 0, .int .i64 0, .int .i64 0, .slice none 0 0, .int .i64 0, .int .i64 0, .slice none 0 0, .slice none 0 0]) 9 120 Try.underlying57 hi hz0 hzs hzb rfl (by decide) v n (flatN zs) hs hown ⟨b, 0, none⟩ 1 1 (flatN [x]) hx rfl ?_ ?_ (by unfold maxLen; omega) (by omega) hbase fun v' w' h1 h2 _ => h v' w' (by rw [flatN_append]; exact h1) h2
  · intro j u hj
    rw [show (⟨b, 0, none⟩ : Addr).add j = ⟨b, j, none⟩ from by simp [Addr.add]; omega]
    exact hI.2.1 j u hj
  · intro u hu
    simp only [flatN, List.mem_cons, List.not_mem_nil, or_false] at hu
    rcases hu with rfl | rfl | rfl | rfl | rfl | rfl | rfl | rfl | rfl <;> rfl

set_option maxHeartbeats 16000000 in
theorem implNewC_any (p : Int) (w : World) :
    Calls Try.prog 34 #[.int .i64 p] w fun e w' => ∃ u, e = .returned (.tuple #[.agg #[u, .slice none 0 0, .slice none 0 0], .bool (inB p 1 7)]) ∧ w'.ownsRow w.heap.size 26 9 u (ncN (inB p 1 7) p).length (flatN (ncN (inB p 1 7) p)) ∧ Below w.heap.size w w' := by
  have hB1 := below_alloc w (.cells #[.slice none 0 0, .slice none 0 0, .slice none 0 0] 60)
  have X1 := Box.new w #[.slice none 0 0, .slice none 0 0, .slice none 0 0] 60
  by_cases hq : 1 ≤ p ∧ p ≤ 7
  rotate_left
  · have hib : inB p 1 7 = false := by simp [inB]; omega
    rw [hib]
    have hn : ncN false p = [] := rfl
    rw [hn]
    clear hB1
    have hB1 := below_alloc w (.cells #[.slice none 0 0, .slice none 0 0, .slice none 0 0] 60)
    go_enter Try.func34, Try.ntmps34
    by_cases h1 : p < 1
    · go_wp2
      exact bodyPost_ret (v := .tuple #[.agg #[.slice none 0 0, .slice none 0 0, .slice none 0 0], .bool false]) (by simp [results, Try.results34, go_sem]) rfl ⟨_, rfl, World.ownsRow_nil _ _ _ _, hB1⟩
    have h2 : 7 < p := by omega
    go_wp2
    exact bodyPost_ret (v := .tuple #[.agg #[.slice none 0 0, .slice none 0 0, .slice none 0 0], .bool false]) (by simp [results, Try.results34, go_sem]) rfl ⟨_, rfl, World.ownsRow_nil _ _ _ _, hB1⟩
  have hib : inB p 1 7 = true := by simp [inB]; omega
  obtain ⟨pn, rfl⟩ := Int.eq_ofNat_of_zero_le (show 0 ≤ p from by omega)
  have hn : ncN true pn = newNs pn pn := by simp [ncN]
  rw [hib, hn]
  have hp1 : 1 ≤ pn := by omega
  have hp7 : pn ≤ 7 := by omega
  clear hn hq
  obtain ⟨W0, hW0⟩ : ∃ W0, W0 = (w.alloc (.cells #[.slice none 0 0, .slice none 0 0, .slice none 0 0] 60)).alloc (.cells #[.slice none 0 0, .slice none 0 0, .slice none 0 0] 60) := ⟨_, rfl⟩
  have hB : Below w.heap.size w W0 := by rw [hW0]; exact below2 _ _ _
  have X : Box W0 w.heap.size [.slice none 0 0, .slice none 0 0, .slice none 0 0] := by rw [hW0]; exact X1.alloc _
  have Y : Box W0 (w.heap.size + 1) [.slice none 0 0, .slice none 0 0, .slice none 0 0] := by
    rw [hW0]
    have := Box.new (w.alloc (.cells #[.slice none 0 0, .slice none 0 0, .slice none 0 0] 60)) #[.slice none 0 0, .slice none 0 0, .slice none 0 0] 60
    simpa using this
  have hz0 := Y.1
  clear X1 hB1
  have q1 : ¬ (pn : Int) < 1 := by omega
  have q2 : ¬ 7 < (pn : Int) := by omega
  go_enter Try.func34, Try.ntmps34
  go_wp2
  rw [← hW0]; clear hW0
  go_loopw [16] (fun i wr => ∃ (k : Nat) (z : Value), k ≤ pn ∧ i = .int .i64 k ∧ Box wr w.heap.size [.slice none 0 0, .slice none 0 0, .slice none 0 0] ∧ Box wr (w.heap.size + 1) [z, .slice none 0 0, .slice none 0 0] ∧ wr.ownsRow (w.heap.size + 1 + 1) 26 9 z k (flatN (newNs pn k)) ∧ Below w.heap.size w wr) (fun i _ => pn - (intOf i).toNat)
  case atStart => exact ⟨0, .slice none 0 0, Nat.zero_le _, rfl, X, Y, World.ownsRow_nil _ _ _ _, hB⟩
  case round =>
    obtain ⟨k, z, hk, rfl, Xr, Yr, hown, hb⟩ := hrel
    clear X Y hB
    obtain ⟨za, zc, rfl⟩ := owns_shape hown
    have hz := Yr.1
    by_cases hlt : k < pn
    · have KN := fun W => implNew_any k pn W
      rw [show newOk (k : Int) pn = true from by simp [newOk, inB] <;> omega] at KN
      simp only [sel, if_true] at KN
      go_wp2_with fail
      refine (KN _).mono ?_
      rintro e w1 ⟨rfl, hb1⟩
      replace Xr := Xr.below hb1
      replace Yr := Yr.below hb1
      replace hown := owns_below hown hb1
      replace hb := below_then hb hb1
      have hz1 := hb1.size
      clear KN hb1
      have BA := below_alloc w1 (.cells #[.int .i64 k, .int .i64 pn, .int .i64 0, .int .i64 (-1), .slice none 0 0, .int .i64 0, .int .i64 0, .slice none 0 0, .slice none 0 0] 26)
      have MB := Box.new w1 #[.int .i64 k, .int .i64 pn, .int .i64 0, .int .i64 (-1), .slice none 0 0, .int .i64 0, .int .i64 0, .slice none 0 0, .slice none 0 0] 26
      replace Xr := Xr.below BA
      replace Yr := Yr.below BA
      replace hown := owns_below hown BA
      replace hb := below_then hb BA
      clear BA
      obtain ⟨W1, hW1⟩ : ∃ W1, W1 = w1.alloc (.cells #[.int .i64 k, .int .i64 pn, .int .i64 0, .int .i64 (-1), .slice none 0 0, .int .i64 0, .int .i64 0, .slice none 0 0, .slice none 0 0] 26) := ⟨_, rfl⟩
      rw [← hW1] at Xr Yr hown hb MB
      have hz2 : w1.heap.size < W1.heap.size := by rw [hW1]; simp
      obtain ⟨yl, y0, y1, y2⟩ := Yr.c3
      obtain ⟨ml, m0, m1, m2, m3, m4, m5, m6, m7, m8⟩ := MB.e9
      go_upto_region 8 with fail
      rw [← hW1]
      clear hW1
      have BA := below_alloc W1 (.cells #[.int .i64 k, .int .i64 pn, .int .i64 0, .int .i64 (-1), .slice none 0 0, .int .i64 0, .int .i64 0, .slice none 0 0, .slice none 0 0] 26)
      have NB := Box.new W1 #[.int .i64 k, .int .i64 pn, .int .i64 0, .int .i64 (-1), .slice none 0 0, .int .i64 0, .int .i64 0, .slice none 0 0, .slice none 0 0] 26
      have o2 := owns_below hown BA
      replace Xr := Xr.below BA
      replace Yr := Yr.below BA
      replace hb := below_then hb BA
      clear BA hown MB
      go_wp2_with (at_builtin; refine wpList_append_nd _ rfl _ _ rfl rfl (w.heap.size + 1 + 1) _ k (newNs pn k) rfl o2 W1.heap.size ⟨newN k pn, none, 0, none, 0, none, 0⟩ rfl NB (by omega) (by simp; omega) ?_; intro v' w' hown hgr; refine StopA.go ?_)
      have gl := owns_ge o2
      have hb4 : Below (w.heap.size + 1 + 1) (W1.alloc (.cells #[.int .i64 k, .int .i64 pn, .int .i64 0, .int .i64 (-1), .slice none 0 0, .int .i64 0, .int .i64 0, .slice none 0 0, .slice none 0 0] 26)) w' := (Below.refl _ _).grown hgr (by simp; omega) (fun q hq => gl q hq)
      replace Xr := Xr.under hb4 (by omega)
      replace Yr := Yr.under hb4 (by omega)
      replace hb := hb.trans (hb4.mono (by omega))
      clear hgr o2 NB gl hb4 yl y0 y1 y2 ml m0 m1 m2 m3 m4 m5 m6 m7 m8
      rw [← newNs_succ] at hown
      obtain ⟨va, vc, rfl⟩ := owns_shape hown
      have gh := owns_ge hown
      obtain ⟨yl, y0, y1, y2⟩ := Yr.c3
      have f0 := Yr.2.2 0
      have hC : Chg (fun q => q = w.heap.size + 1) w' (w'.setCell ⟨w.heap.size + 1, 0, none⟩ (.slice va (k + 1) vc)) := Chg.setCell (S := fun q => q = w.heap.size + 1) (Chg.refl _ _) rfl _
      have X2 := hC.box Xr (by omega)
      have Y2 : Box (w'.setCell ⟨w.heap.size + 1, 0, none⟩ (.slice va (k + 1) vc)) (w.heap.size + 1) [.slice va (k + 1) vc, .slice none 0 0, .slice none 0 0] := Yr.set 0 _ (by simp)
      have HO := hC.owns hown (fun q hq e => by have := gh q hq; omega)
      have hbz := hb.size
      have hB2 := hb.trans (hC.below (B := w.heap.size) hb.size (fun q hq => by omega))
      clear hC hown Xr Yr hb gh
      unfold StopA
      go_wp2
      go_roundw
      case rel => exact ⟨k + 1, _, by omega, by go_num, X2, Y2, HO, hB2⟩
      case measure => simp [intOf]; omega
    · obtain rfl : k = pn := by omega
      have hC := put3_chg wr w.heap.size (.slice za k zc) (.slice none 0 0) (.slice none 0 0)
      have Z := put3_box Xr (.slice za k zc) (.slice none 0 0) (.slice none 0 0)
      have gh := owns_ge hown
      have o9 := hC.owns (owns_mono' hown (show w.heap.size ≤ w.heap.size + 1 + 1 from by omega)) (fun q hq e => by have := gh q hq; have e : q = w.heap.size := e; omega)
      have hBE := hb.trans (hC.below (B := w.heap.size) hb.size (fun q hq => by have hq : q = w.heap.size := hq; omega))
      obtain ⟨xl, x0, x1, x2⟩ := Xr.c3
      obtain ⟨f0, f1, f2⟩ := Xr.f3
      obtain ⟨yl, y0, y1, y2⟩ := Yr.c3
      clear hC hown Xr Yr hb gh
      obtain ⟨zl, t0, t1, t2⟩ := Z.c3
      clear Z
      unfold put3 at *
      go_wp2
      exact bodyPost_ret (v := .tuple #[.agg #[.slice za k zc, .slice none 0 0, .slice none 0 0], .bool true]) (by simp [results, Try.results34, go_sem, t0, t1, t2]) rfl ⟨_, rfl, by rw [newNs_length]; exact o9, hBE⟩

set_option maxHeartbeats 16000000 in
theorem specNewC_any (p : Int) (w : World) :
    Calls Try.prog 33 #[.int .i64 p] w fun e w' => ∃ u, e = .returned (.tuple #[.agg #[u, .slice none 0 0, .slice none 0 0], .bool (inB p 1 7)]) ∧ w'.ownsRow w.heap.size 26 9 u (ncN (inB p 1 7) p).length (flatN (ncN (inB p 1 7) p)) ∧ Below w.heap.size w w' := by
  have hB1 := below_alloc w (.cells #[.slice none 0 0, .slice none 0 0, .slice none 0 0] 60)
  have X1 := Box.new w #[.slice none 0 0, .slice none 0 0, .slice none 0 0] 60
  have KP := fun W => l11Peers_any p W
  by_cases hq : 1 ≤ p ∧ p ≤ 7
  rotate_left
  · have hib : inB p 1 7 = false := by simp [inB]; omega
    rw [hib]
    have hn : ncN false p = [] := rfl
    rw [hn]
    rw [hib] at KP
    go_enter Try.func33, Try.ntmps33
    go_wp2_with fail
    refine (KP _).mono ?_
    rintro e w1 ⟨rfl, hw⟩
    subst hw
    clear KP
    go_wp2
    exact bodyPost_ret (v := .tuple #[.agg #[.slice none 0 0, .slice none 0 0, .slice none 0 0], .bool false]) (by simp [results, Try.results33, go_sem]) rfl ⟨_, rfl, World.ownsRow_nil _ _ _ _, hB1⟩
  have hib : inB p 1 7 = true := by simp [inB]; omega
  obtain ⟨pn, rfl⟩ := Int.eq_ofNat_of_zero_le (show 0 ≤ p from by omega)
  have hn : ncN true pn = newNs pn pn := by simp [ncN]
  rw [hib, hn]
  have hp1 : 1 ≤ pn := by omega
  have hp7 : pn ≤ 7 := by omega
  clear hn hq
  obtain ⟨W0, hW0⟩ : ∃ W0, W0 = (w.alloc (.cells #[.slice none 0 0, .slice none 0 0, .slice none 0 0] 60)).alloc (.cells #[.slice none 0 0, .slice none 0 0, .slice none 0 0] 60) := ⟨_, rfl⟩
  have hB : Below w.heap.size w W0 := by rw [hW0]; exact below2 _ _ _
  have X : Box W0 w.heap.size [.slice none 0 0, .slice none 0 0, .slice none 0 0] := by rw [hW0]; exact X1.alloc _
  have Y : Box W0 (w.heap.size + 1) [.slice none 0 0, .slice none 0 0, .slice none 0 0] := by
    rw [hW0]
    have := Box.new (w.alloc (.cells #[.slice none 0 0, .slice none 0 0, .slice none 0 0] 60)) #[.slice none 0 0, .slice none 0 0, .slice none 0 0] 60
    simpa using this
  have hz0 := Y.1
  clear X1 hB1
  rw [hib] at KP
  clear hib
  go_enter Try.func33, Try.ntmps33
  go_wp2_with fail
  refine (KP _).mono ?_
  rintro e w1 ⟨rfl, hw⟩
  subst hw
  clear KP
  go_wp2
  rw [← hW0]; clear hW0
  go_loopw [5] (fun i wr => ∃ (k : Nat) (z : Value), k ≤ pn ∧ i = .int .i64 k ∧ Box wr w.heap.size [.slice none 0 0, .slice none 0 0, .slice none 0 0] ∧ Box wr (w.heap.size + 1) [z, .slice none 0 0, .slice none 0 0] ∧ wr.ownsRow (w.heap.size + 1 + 1) 26 9 z k (flatN (newNs pn k)) ∧ Below w.heap.size w wr) (fun i _ => pn - (intOf i).toNat)
  case atStart => exact ⟨0, .slice none 0 0, Nat.zero_le _, rfl, X, Y, World.ownsRow_nil _ _ _ _, hB⟩
  case round =>
    obtain ⟨k, z, hk, rfl, Xr, Yr, hown, hb⟩ := hrel
    clear X Y hB
    obtain ⟨za, zc, rfl⟩ := owns_shape hown
    have hz := Yr.1
    by_cases hlt : k < pn
    · have KN := fun W => specNew_any k pn W
      rw [show newOk (k : Int) pn = true from by simp [newOk, inB] <;> omega] at KN
      simp only [sel, if_true] at KN
      go_wp2_with fail
      refine (KN _).mono ?_
      rintro e w1 ⟨rfl, hb1⟩
      replace Xr := Xr.below hb1
      replace Yr := Yr.below hb1
      replace hown := owns_below hown hb1
      replace hb := below_then hb hb1
      have hz1 := hb1.size
      clear KN hb1
      have BA := below_alloc w1 (.cells #[.int .i64 k, .int .i64 pn, .int .i64 0, .int .i64 (-1), .slice none 0 0, .int .i64 0, .int .i64 0, .slice none 0 0, .slice none 0 0] 26)
      have MB := Box.new w1 #[.int .i64 k, .int .i64 pn, .int .i64 0, .int .i64 (-1), .slice none 0 0, .int .i64 0, .int .i64 0, .slice none 0 0, .slice none 0 0] 26
      replace Xr := Xr.below BA
      replace Yr := Yr.below BA
      replace hown := owns_below hown BA
      replace hb := below_then hb BA
      clear BA
      obtain ⟨W1, hW1⟩ : ∃ W1, W1 = w1.alloc (.cells #[.int .i64 k, .int .i64 pn, .int .i64 0, .int .i64 (-1), .slice none 0 0, .int .i64 0, .int .i64 0, .slice none 0 0, .slice none 0 0] 26) := ⟨_, rfl⟩
      rw [← hW1] at Xr Yr hown hb MB
      have hz2 : w1.heap.size < W1.heap.size := by rw [hW1]; simp
      obtain ⟨yl, y0, y1, y2⟩ := Yr.c3
      obtain ⟨ml, m0, m1, m2, m3, m4, m5, m6, m7, m8⟩ := MB.e9
      go_upto_region 8 with fail
      rw [← hW1]
      clear hW1
      have BA := below_alloc W1 (.cells #[.int .i64 k, .int .i64 pn, .int .i64 0, .int .i64 (-1), .slice none 0 0, .int .i64 0, .int .i64 0, .slice none 0 0, .slice none 0 0] 26)
      have NB := Box.new W1 #[.int .i64 k, .int .i64 pn, .int .i64 0, .int .i64 (-1), .slice none 0 0, .int .i64 0, .int .i64 0, .slice none 0 0, .slice none 0 0] 26
      have o2 := owns_below hown BA
      replace Xr := Xr.below BA
      replace Yr := Yr.below BA
      replace hb := below_then hb BA
      clear BA hown MB
      go_wp2_with (at_builtin; refine wpList_append_nd _ rfl _ _ rfl rfl (w.heap.size + 1 + 1) _ k (newNs pn k) rfl o2 W1.heap.size ⟨newN k pn, none, 0, none, 0, none, 0⟩ rfl NB (by omega) (by simp; omega) ?_; intro v' w' hown hgr; refine StopA.go ?_)
      have gl := owns_ge o2
      have hb4 : Below (w.heap.size + 1 + 1) (W1.alloc (.cells #[.int .i64 k, .int .i64 pn, .int .i64 0, .int .i64 (-1), .slice none 0 0, .int .i64 0, .int .i64 0, .slice none 0 0, .slice none 0 0] 26)) w' := (Below.refl _ _).grown hgr (by simp; omega) (fun q hq => gl q hq)
      replace Xr := Xr.under hb4 (by omega)
      replace Yr := Yr.under hb4 (by omega)
      replace hb := hb.trans (hb4.mono (by omega))
      clear hgr o2 NB gl hb4 yl y0 y1 y2 ml m0 m1 m2 m3 m4 m5 m6 m7 m8
      rw [← newNs_succ] at hown
      obtain ⟨va, vc, rfl⟩ := owns_shape hown
      have gh := owns_ge hown
      obtain ⟨yl, y0, y1, y2⟩ := Yr.c3
      have f0 := Yr.2.2 0
      have hC : Chg (fun q => q = w.heap.size + 1) w' (w'.setCell ⟨w.heap.size + 1, 0, none⟩ (.slice va (k + 1) vc)) := Chg.setCell (S := fun q => q = w.heap.size + 1) (Chg.refl _ _) rfl _
      have X2 := hC.box Xr (by omega)
      have Y2 : Box (w'.setCell ⟨w.heap.size + 1, 0, none⟩ (.slice va (k + 1) vc)) (w.heap.size + 1) [.slice va (k + 1) vc, .slice none 0 0, .slice none 0 0] := Yr.set 0 _ (by simp)
      have HO := hC.owns hown (fun q hq e => by have := gh q hq; omega)
      have hbz := hb.size
      have hB2 := hb.trans (hC.below (B := w.heap.size) hb.size (fun q hq => by omega))
      clear hC hown Xr Yr hb gh
      unfold StopA
      go_wp2
      go_roundw
      case rel => exact ⟨k + 1, _, by omega, by go_num, X2, Y2, HO, hB2⟩
      case measure => simp [intOf]; omega
    · obtain rfl : k = pn := by omega
      have hC := put3_chg wr w.heap.size (.slice za k zc) (.slice none 0 0) (.slice none 0 0)
      have Z := put3_box Xr (.slice za k zc) (.slice none 0 0) (.slice none 0 0)
      have gh := owns_ge hown
      have o9 := hC.owns (owns_mono' hown (show w.heap.size ≤ w.heap.size + 1 + 1 from by omega)) (fun q hq e => by have := gh q hq; have e : q = w.heap.size := e; omega)
      have hBE := hb.trans (hC.below (B := w.heap.size) hb.size (fun q hq => by have hq : q = w.heap.size := hq; omega))
      obtain ⟨xl, x0, x1, x2⟩ := Xr.c3
      obtain ⟨f0, f1, f2⟩ := Xr.f3
      obtain ⟨yl, y0, y1, y2⟩ := Yr.c3
      clear hC hown Xr Yr hb gh
      obtain ⟨zl, t0, t1, t2⟩ := Z.c3
      clear Z
      unfold put3 at *
      go_wp2
      exact bodyPost_ret (v := .tuple #[.agg #[.slice za k zc, .slice none 0 0, .slice none 0 0], .bool true]) (by simp [results, Try.results33, go_sem, t0, t1, t2]) rfl ⟨_, rfl, by rw [newNs_length]; exact o9, hBE⟩
end Go.Proofs.Ytapfhhmimkkhnaa
