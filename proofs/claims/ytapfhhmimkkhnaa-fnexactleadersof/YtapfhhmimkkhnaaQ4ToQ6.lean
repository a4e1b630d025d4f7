/-
  Messages without entries, in a row: marked and held.
  Messages without entries, in a row: held; nil or not.
  The messages that ask the others: asksToOthers.
-/
import Derived.Test.YtapfhhmimkkhnaaF5ToQ3
import Derived.Deep.Cut
namespace Go.Proofs.Ytapfhhmimkkhnaa
open Go.RowKit Go.Maps
set_option linter.unusedVariables false
set_option maxRecDepth 100000

set_option maxHeartbeats 8000000 in
theorem markMsgS_at (g cap base : Nat) (l : List Mq) (k : Int) (w : World) (ho : w.ownsRow base 38 9 (.slice (some ⟨g, 0, none⟩) l.length cap) l.length (flat9 l)) (hn : l.length ≤ 1048576) (h1 : 1 ≤ k) (h2 : k ≤ 40000000) :
    Calls Try.prog 30 #[.slice (some ⟨g, 0, none⟩) l.length cap, .int .i64 k] w fun e w' => e = .returned (.int .i64 (k + 8 * l.length)) ∧ w'.ownsRow base 38 9 (.slice (some ⟨g, 0, none⟩) l.length cap) l.length (flat9 (mkQs k l.length)) ∧ Chg (· = g) w w' := by
  go_enter Try.func30, Try.ntmps30
  go_wp2
  go_loopw [1, 5] (fun t i wr => ∃ j : Nat, j ≤ l.length ∧ i = .int .i64 j ∧ t = .int .i64 (k + 8 * j) ∧ wr.ownsRow base 38 9 (.slice (some ⟨g, 0, none⟩) l.length cap) l.length (flat9 (mkPQ l k j)) ∧ Chg (· = g) w wr) (fun _ i _ => l.length - (intOf i).toNat)
  case atStart => exact ⟨0, Nat.zero_le _, rfl, by go_num, by rw [mkPQ_zero]; exact ho, Chg.refl _ _⟩
  case round =>
    clear ho
    obtain ⟨j, hj, rfl, rfl, hown, hch⟩ := hrel
    by_cases hlt : j < l.length
    · have HF := flat9_set (mkPQ l k j) j (mkQ (k + 8 * (j : Int)))
      rw [mkPQ_set l k j hlt] at HF
      dsimp only [mkQ] at HF
      have HF : Hid _ := HF
      have hpl : (mkPQ l k j).length = l.length := by simp [mkPQ, mkQs_length]; omega
      have y6 : (flat9 (mkPQ l k j))[j * 9 + 6]? = some (.slice none 0 0) := (flat9_get (mkPQ l k j) j (by omega)).2.2.2.2.2.2.1
      clear hpl
      generalize flat9 (mkPQ l k j) = ys at *
      have hgl := (owns_lt hown).2
      have o0 := (hown.stored (j * 9) (.int .i64 (k + 8 * j))).1
      have o1 := (o0.stored (j * 9 + 1) (.int .i64 (k + 8 * j + 1))).1
      have o2 := (o1.stored (j * 9 + 2) (.int .i64 (k + 8 * j + 1 + 1))).1
      have o3 := (o2.stored (j * 9 + 3) (.int .i64 (k + 8 * j + 1 + 1 + 1))).1
      have o4 := (o3.stored (j * 9 + 4) (.int .i64 (k + 8 * j + 1 + 1 + 1 + 1))).1
      have o5 := (o4.stored (j * 9 + 5) (.int .i64 (k + 8 * j + 1 + 1 + 1 + 1 + 1))).1
      have o7 := (o5.stored (j * 9 + 7) (.int .i64 (k + 8 * j + 1 + 1 + 1 + 1 + 1 + 1))).1
      have o8 := (o7.stored (j * 9 + 8) (.bool ((k + 8 * j + 1 + 1 + 1 + 1 + 1 + 1 + 1) % 3 == 0))).1
      obtain ⟨⟨u0, d0⟩, f0⟩ := owns9_at hown j hlt 0 (by omega)
      obtain ⟨⟨u1, d1⟩, f1⟩ := owns9_at hown j hlt 1 (by omega)
      obtain ⟨⟨u2, d2⟩, f2⟩ := owns9_at hown j hlt 2 (by omega)
      obtain ⟨⟨u3, d3⟩, f3⟩ := owns9_at hown j hlt 3 (by omega)
      obtain ⟨⟨u4, d4⟩, f4⟩ := owns9_at hown j hlt 4 (by omega)
      obtain ⟨⟨u5, d5⟩, f5⟩ := owns9_at hown j hlt 5 (by omega)
      obtain ⟨⟨u6, d6⟩, f6⟩ := owns9_at hown j hlt 6 (by omega)
      obtain ⟨⟨u7, d7⟩, f7⟩ := owns9_at hown j hlt 7 (by omega)
      obtain ⟨⟨u8, d8⟩, f8⟩ := owns9_at hown j hlt 8 (by omega)
      rw [Nat.add_zero] at d0 f0
      have C8 := ((((((((hch.setCell (p := ⟨g, j * 9, none⟩) rfl (.int .i64 (k + 8 * j))).setCell (p := ⟨g, j * 9 + 1, none⟩) rfl (.int .i64 (k + 8 * j + 1))).setCell (p := ⟨g, j * 9 + 2, none⟩) rfl (.int .i64 (k + 8 * j + 1 + 1))).setCell (p := ⟨g, j * 9 + 3, none⟩) rfl (.int .i64 (k + 8 * j + 1 + 1 + 1))).setCell (p := ⟨g, j * 9 + 4, none⟩) rfl (.int .i64 (k + 8 * j + 1 + 1 + 1 + 1))).setCell (p := ⟨g, j * 9 + 5, none⟩) rfl (.int .i64 (k + 8 * j + 1 + 1 + 1 + 1 + 1))).setCell (p := ⟨g, j * 9 + 7, none⟩) rfl (.int .i64 (k + 8 * j + 1 + 1 + 1 + 1 + 1 + 1))).setCell (p := ⟨g, j * 9 + 8, none⟩) rfl (.bool ((k + 8 * j + 1 + 1 + 1 + 1 + 1 + 1 + 1) % 3 == 0)))
      have HO : Hid _ := o8
      have KE := fun W => markEntryS_nil (k + 8 * j + 1 + 1 + 1 + 1 + 1 + 1) W (by omega) (by omega)
      obtain ⟨W6, hW6⟩ : ∃ W6, W6 = ((((((wr).setCell ⟨g, j * 9, none⟩ (.int .i64 (k + 8 * j))).setCell ⟨g, j * 9 + 1, none⟩ (.int .i64 (k + 8 * j + 1))).setCell ⟨g, j * 9 + 2, none⟩ (.int .i64 (k + 8 * j + 1 + 1))).setCell ⟨g, j * 9 + 3, none⟩ (.int .i64 (k + 8 * j + 1 + 1 + 1))).setCell ⟨g, j * 9 + 4, none⟩ (.int .i64 (k + 8 * j + 1 + 1 + 1 + 1))).setCell ⟨g, j * 9 + 5, none⟩ (.int .i64 (k + 8 * j + 1 + 1 + 1 + 1 + 1)) := ⟨_, rfl⟩
      have e6 : W6.cell? ⟨g, j * 9 + 6, none⟩ = some (.slice none 0 0) := by
        rw [hW6, o5.cellAt (j * 9 + 6) (by omega)]
        rw [List.getElem?_set_ne (by omega), List.getElem?_set_ne (by omega), List.getElem?_set_ne (by omega), List.getElem?_set_ne (by omega), List.getElem?_set_ne (by omega), List.getElem?_set_ne (by omega)]
        exact y6
      obtain ⟨⟨u7', e7⟩, p7⟩ := owns9_at o5 j hlt 7 (by omega)
      obtain ⟨⟨u8', e8⟩, p8⟩ := owns9_at o5 j hlt 8 (by omega)
      have hg6 := (owns_lt o5).2
      rw [← hW6] at C8 HO e7 p7 e8 p8 hg6
      clear hown hch o0 o1 o2 o3 o4 o5 o7 o8 y6
      go_upto_region 16 with fail
      rw [← hW6]
      clear hW6 d0 d1 d2 d3 d4 d5 d6 d7 d8 f0 f1 f2 f3 f4 f5 f6 f7 f8
      go_wp2_with fail
      refine (KE _).mono ?_
      rintro e w7 ⟨rfl, hw⟩
      subst hw
      clear KE
      go_wp2
      go_roundw
      case rel => exact ⟨j + 1, by omega, by go_num, by go_num, by rw [← HF.out]; exact HO.out, C8⟩
      case measure => simp [intOf]; omega
    · obtain rfl : j = l.length := by omega
      rw [mkPQ_all] at hown
      go_wp2
      go_ret
      exact ⟨rfl, hown, hch⟩
end Go.Proofs.Ytapfhhmimkkhnaa

namespace Go.Proofs.Ytapfhhmimkkhnaa
open Go.RowKit Go.Maps
set_option linter.unusedVariables false
set_option maxRecDepth 100000

set_option maxHeartbeats 8000000 in
theorem heldMsgS_at (v : Value) (n : Nat) (k : Int) (w : World) (hv : MR w v (mkQs k n)) (hn : n ≤ 1048576) (h1 : 1 ≤ k) (h2 : k ≤ 40000000) :
    Calls Try.prog 32 #[v, .int .i64 k] w fun e w' => e = .returned (.int .i64 (k + 8 * n)) ∧ Below w.heap.size w w' := by
  obtain ⟨a, cap, rfl, hc⟩ := hv
  rw [mkQs_length]
  go_enter Try.func32, Try.ntmps32
  go_wp2
  go_loopw [1, 5] (fun t i wr => ∃ j : Nat, j ≤ n ∧ i = .int .i64 j ∧ t = .int .i64 (k + 8 * j) ∧ Below w.heap.size w wr) (fun _ i _ => n - (intOf i).toNat)
  case atStart => exact ⟨0, Nat.zero_le _, rfl, by go_num, Below.refl _ _⟩
  case round =>
    obtain ⟨j, hj, rfl, rfl, hb⟩ := hrel
    by_cases hlt : j < n
    · obtain ⟨b, off, rfl, hbl, hcell⟩ := hc (by intro e; have := congrArg List.length e; rw [mkQs_length] at this; simp at this; omega)
      obtain ⟨c0, c1, c2, c3, c4, c5, c6, c7, c8⟩ := hcell j (by rw [mkQs_length]; exact hlt)
      rw [mkQs_at k n j hlt] at c0 c1 c2 c3 c4 c5 c7 c8
      have hz := hb.size
      have hbW : b < wr.heap.size := by omega
      replace c0 := (hb.cell (p := ⟨b, off + j * 9, none⟩) hbl).trans c0
      replace c1 := (hb.cell (p := ⟨b, off + j * 9 + 1, none⟩) hbl).trans c1
      replace c2 := (hb.cell (p := ⟨b, off + j * 9 + 2, none⟩) hbl).trans c2
      replace c3 := (hb.cell (p := ⟨b, off + j * 9 + 3, none⟩) hbl).trans c3
      replace c4 := (hb.cell (p := ⟨b, off + j * 9 + 4, none⟩) hbl).trans c4
      replace c5 := (hb.cell (p := ⟨b, off + j * 9 + 5, none⟩) hbl).trans c5
      replace c6 := (hb.cell (p := ⟨b, off + j * 9 + 6, none⟩) hbl).trans c6
      replace c7 := (hb.cell (p := ⟨b, off + j * 9 + 7, none⟩) hbl).trans c7
      replace c8 := (hb.cell (p := ⟨b, off + j * 9 + 8, none⟩) hbl).trans c8
      unfold mkQ at c0 c1 c2 c3 c4 c5 c7 c8
      dsimp only at c0 c1 c2 c3 c4 c5 c7 c8
      have KE := heldEntryS_at (.slice none 0 0) 0 (k + 8 * j + 1 + 1 + 1 + 1 + 1 + 1) wr (ER_nil _) (by omega) (by omega) (by omega)
      simp only [Int.ofNat_zero, Int.mul_zero, Int.add_zero] at KE
      have NB := fun W => run_neq_b W ((k + 8 * j + 1 + 1 + 1 + 1 + 1 + 1 + 1) % 3 == 0)
      have q6 : ¬ k + 8 * j + 1 + 1 + 1 + 1 + 1 + 1 < 0 := by omega
      clear hcell hc
      go_wp2_with fail
      refine KE.mono ?_
      rintro e w1 ⟨rfl, hb1⟩
      replace c7 := (hb1.cell (p := ⟨b, off + j * 9 + 7, none⟩) hbW).trans c7
      replace c8 := (hb1.cell (p := ⟨b, off + j * 9 + 8, none⟩) hbW).trans c8
      have hB1 := hb.trans (hb1.mono hz)
      have hbW1 : b < w1.heap.size := by have := hb1.size; omega
      clear KE c0 c1 c2 c3 c4 c5 c6 hb1 hb
      go_wp2
      go_roundw
      case rel => exact ⟨j + 1, by omega, by go_num, by go_num, hB1⟩
      case measure => simp [intOf]; omega
    · obtain rfl : j = n := by omega
      clear hc
      go_wp2
      go_ret
      exact ⟨rfl, hb⟩
theorem markMsgS_nil (k : Int) (w : World) : Calls Try.prog 30 #[.slice none 0 0, .int .i64 k] w fun e w' => e = .returned (.int .i64 k) ∧ w' = w := by
  go_enter Try.func30, Try.ntmps30
  go_wp2
  go_loopw [1, 5] (fun t i wr => i = .int .i64 0 ∧ t = .int .i64 k ∧ wr = w) (fun _ _ _ => 0)
  case atStart => exact ⟨rfl, rfl, rfl⟩
  case round =>
    obtain ⟨rfl, rfl, rfl⟩ := hrel
    go_wp2
    go_ret
    exact ⟨rfl, rfl⟩
theorem markMsgS_own (v : Value) (base : Nat) (l : List Mq) (k : Int) (w : World) (ho : w.ownsRow base 38 9 v l.length (flat9 l)) (hn : l.length ≤ 1048576) (h1 : 1 ≤ k) (h2 : k ≤ 40000000) :
    Calls Try.prog 30 #[v, .int .i64 k] w fun e w' => e = .returned (.int .i64 (k + 8 * l.length)) ∧ w'.ownsRow base 38 9 v l.length (flat9 (mkQs k l.length)) ∧ Chg (fun b => v.ownBlock = some b) w w' := by
  rcases ho.2 with ⟨rfl, h0⟩ | ⟨g, cap, cur, rfl, _⟩
  · rw [h0]
    refine (markMsgS_nil k w).mono ?_
    rintro e w' ⟨rfl, rfl⟩
    exact ⟨by simp, World.ownsRow_nil _ _ _ _, Chg.refl _ _⟩
  · refine (markMsgS_at g cap base l k w ho hn h1 h2).mono ?_
    rintro e w' ⟨rfl, h1, h2⟩
    exact ⟨rfl, h1, h2.mono fun b hb => by rw [hb]; rfl⟩
end Go.Proofs.Ytapfhhmimkkhnaa

namespace Go.Proofs.Ytapfhhmimkkhnaa
open Go.RowKit Go.Maps
set_option linter.unusedVariables false
set_option maxRecDepth 100000

/-- The asks to the first k peers but id. -/
def asksTo (id te n b : Int) : Nat → List Mq
  | 0 => []
  | k + 1 => asksTo id te n b k ++ (if (k : Int) = id then [] else [⟨1, id, k, te, n, b, 0, false⟩])
theorem asksTo_le (id te n b : Int) (k : Nat) : (asksTo id te n b k).length ≤ k := by
  induction k with
  | zero => simp [asksTo]
  | succ k ih => simp only [asksTo, List.length_append]; split <;> simp <;> omega
theorem Try.info38 : (Try.prog.info? 38).map (fun i => (i.zero, i.size, i.bytes)) = some (some (.agg #[.int .i64 0, .int .i64 0, .int .i64 0, .int .i64 0, .int .i64 0, .int .i64 0, .slice none 0 0, .int .i64 0, .bool false]), 9, 88) := by kernel_rfl
/-- One message appended to a row of one's own. -/
theorem wpList_append_msg (w : World) {ops : Array Oper} {rest : List Oper} {o : Oper} {a : Act} {Q : Exit → Act → World → Prop} (hgd : o.guard = none) (s x : Operand)
    (ho : o.op = .call { callee := .builtin .append, args := #[s, x], argTypes := #[42, 42] }) (hty : o.type = 42)
    (base : Nat) (v : Value) (n : Nat) (zs : List Mq) (hs : a.eval s = v) (hown : w.ownsRow base 38 9 v n (flat9 zs))
    (b : Nat) (q : Mq) (hx : a.eval x = .slice (some ⟨b, 0, none⟩) 1 1) (hI : Box w b [.int .i64 q.ki, .int .i64 q.fr, .int .i64 q.dst, .int .i64 q.te, .int .i64 q.ix, .int .i64 q.be, .slice none 0 0, .int .i64 q.co, .bool q.ye]) (hn : n + 1 ≤ 2000000) (hbase : base ≤ w.heap.size)
    (h : ∀ v' w', w'.ownsRow base 38 9 v' (n + 1) (flat9 (zs ++ [q])) → w.grownBy w' v.ownBlock → wpList Try.prog ops Q rest (a.put o.dst v') w') : wpList Try.prog ops Q (o :: rest) a w := by
  obtain ⟨i0, hi, hz0, hzs, hzb⟩ := info_parts Try.info38
  refine wpList_append_own _ hgd s x 42 ho base 38 i0 (.agg #[.int .i64 0, .int .i64 0, .int .i64 0, .int .i64 0, .int .i64 0, .int .i64 0, .slice none 0 0, .int .i64 0, .bool false]) 9 88 Try.underlying42 hi hz0 hzs hzb rfl (by decide) v n (flat9 zs) hs hown ⟨b, 0, none⟩ 1 1 (flat9 [q]) hx rfl ?_ ?_ (by unfold maxLen; omega) (by omega) hbase fun v' w' h1 h2 _ => h v' w' (by rw [flat9_append]; exact h1) h2
  · intro j u hj
    rw [show (⟨b, 0, none⟩ : Addr).add j = ⟨b, j, none⟩ from by simp [Addr.add]; omega]
    exact hI.2.1 j u hj
  · intro u hu
    simp only [flat9, List.mem_cons, List.not_mem_nil, or_false] at hu
    rcases hu with rfl | rfl | rfl | rfl | rfl | rfl | rfl | rfl | rfl <;> rfl

set_option maxHeartbeats 8000000 in
theorem asksToOthers_any (id pe te vo co ro : Int) (vl vv vm : Value) (log : List En) (vs mt : List Int) (w : World) (hl : ER w vl log) (hv : IL w vv vs) (hm : IL w vm mt) (nl : log.length ≤ 1048576) (hp0 : 0 ≤ pe) (hp7 : pe ≤ 7) :
    Calls Try.prog 82 #[.agg #[.int .i64 id, .int .i64 pe, .int .i64 te, .int .i64 vo, vl, .int .i64 co, .int .i64 ro, vv, vm]] w fun e w' => ∃ u, e = .returned u ∧ w'.ownsRow w.heap.size 38 9 u (asksTo id te log.length (tmAt log log.length) pe.toNat).length (flat9 (asksTo id te log.length (tmAt log log.length) pe.toNat)) ∧ Below w.heap.size w w' := by
  obtain ⟨pn, rfl⟩ := Int.eq_ofNat_of_zero_le hp0
  rw [Int.toNat_natCast]
  have KT := fun W (h : Below w.heap.size w W) => termAt_any id pn te vo co ro vl vv vm log vs mt log.length W (hl.below h) (hv.below h) (hm.below h) (Nat.le_refl _) nl
  have MT := fun (k : Int) W => messageTo_any id pn te vo co ro k 1 vl vv vm W
  obtain ⟨la, lc, rfl, hlc⟩ := hl
  obtain ⟨va, vc, rfl, hvc⟩ := hv
  obtain ⟨ma, mc, rfl, hmc⟩ := hm
  clear hlc hvc hmc
  generalize tmAt log log.length = tb at *
  have hB := below_alloc w (.cells #[.int .i64 id, .int .i64 pn, .int .i64 te, .int .i64 vo, .slice la log.length lc, .int .i64 co, .int .i64 ro, .slice va vs.length vc, .slice ma mt.length mc] 26)
  have X := Box.new w #[.int .i64 id, .int .i64 pn, .int .i64 te, .int .i64 vo, .slice la log.length lc, .int .i64 co, .int .i64 ro, .slice va vs.length vc, .slice ma mt.length mc] 26
  obtain ⟨W0, hW0⟩ : ∃ W0, W0 = w.alloc (.cells #[.int .i64 id, .int .i64 pn, .int .i64 te, .int .i64 vo, .slice la log.length lc, .int .i64 co, .int .i64 ro, .slice va vs.length vc, .slice ma mt.length mc] 26) := ⟨_, rfl⟩
  rw [← hW0] at hB X
  have hz0 := X.1
  go_enter Try.func82, Try.ntmps82
  go_wp2
  rw [← hW0]; clear hW0
  go_loopw [3, 8] (fun z i wr => ∃ k : Nat, k ≤ pn ∧ i = .int .i64 k ∧ wr.ownsRow W0.heap.size 38 9 z (asksTo id te log.length tb k).length (flat9 (asksTo id te log.length tb k)) ∧ Below W0.heap.size W0 wr) (fun _ i _ => pn - (intOf i).toNat)
  case atStart => exact ⟨0, Nat.zero_le _, rfl, World.ownsRow_nil _ _ _ _, Below.refl _ _⟩
  case round =>
    obtain ⟨k, hk, rfl, hown, hb⟩ := hrel
    have Xr := X.below hb
    have hBr := below_then hB hb
    have hzr := hb.size
    clear X
    obtain ⟨za, zc, rfl⟩ := owns_shape hown
    obtain ⟨xl, x0, x1, x2, x3, x4, x5, x6, x7, x8⟩ := Xr.e9
    by_cases hlt : k < pn
    · by_cases hid : (k : Int) = id
      · have HA : Hid (asksTo id te log.length tb (k + 1) = asksTo id te log.length tb k) := by show _ = _; simp [asksTo, hid]
        have hid2 : ((k : Int) == id) = true := by simp [hid]
        have HO : Hid _ := hown
        have hal := asksTo_le id te log.length tb k
        generalize asksTo id te log.length tb k = az at *
        clear hown KT MT
        go_wp2
        go_roundw
        case rel => exact ⟨k + 1, by omega, by go_num, by rw [HA.out]; exact HO.out, hb⟩
        case measure => simp [intOf]; omega
      · have HA : Hid (asksTo id te log.length tb (k + 1) = asksTo id te log.length tb k ++ [⟨1, id, k, te, log.length, tb, 0, false⟩]) := by show _ = _; simp [asksTo, hid]
        have hid2 : ((k : Int) == id) = false := by simp [hid]
        have hal := asksTo_le id te log.length tb k
        generalize asksTo id te log.length tb k = az at *
        go_wp2_with fail
        refine (MT _ _).mono ?_
        rintro e w1 ⟨rfl, hb1⟩
        replace Xr := Xr.below hb1
        replace hBr := below_then hBr hb1
        replace hb := below_then hb hb1
        replace hown := owns_below hown hb1
        have hz1 := hb1.size
        clear MT hb1 xl x0 x1 x2 x3 x4 x5 x6 x7 x8
        obtain ⟨xl, x0, x1, x2, x3, x4, x5, x6, x7, x8⟩ := Xr.e9
        have lz := owns_below_lt hown
        have BA := below_alloc w1 (.cells #[.int .i64 1, .int .i64 id, .int .i64 k, .int .i64 te, .int .i64 log.length, .int .i64 0, .slice none 0 0, .int .i64 0, .bool false] 38)
        have MB := Box.new w1 #[.int .i64 1, .int .i64 id, .int .i64 k, .int .i64 te, .int .i64 log.length, .int .i64 0, .slice none 0 0, .int .i64 0, .bool false] 38
        have hBa := below_then hBr BA
        go_wp2_with fail
        refine (KT _ hBa).mono ?_
        rintro e w2 ⟨rfl, hb2⟩
        replace Xr := (Xr.below BA).below hb2
        replace hBr := below_then hBa hb2
        replace hb := below_then (below_then hb BA) hb2
        replace hown := owns_below (owns_below hown BA) hb2
        replace MB := MB.below hb2
        have hz2 := hb2.size
        simp only [World.size_alloc] at hz2
        clear KT BA hBa hb2 xl x0 x1 x2 x3 x4 x5 x6 x7 x8
        obtain ⟨ml, m0, m1, m2, m3, m4, m5, m6, m7, m8⟩ := MB.e9
        have f5 := MB.2.2 5
        go_upto_region 9 with fail
        obtain ⟨W2, hW2⟩ : ∃ W2, W2 = w2.setCell ⟨w1.heap.size, 5, none⟩ (.int .i64 tb) := ⟨_, rfl⟩
        have hC : Chg (fun q => q = w1.heap.size) w2 W2 := by rw [hW2]; exact Chg.setCell (S := fun q => q = w1.heap.size) (Chg.refl _ _) rfl _
        have M2 : Box W2 w1.heap.size [.int .i64 1, .int .i64 id, .int .i64 k, .int .i64 te, .int .i64 log.length, .int .i64 tb, .slice none 0 0, .int .i64 0, .bool false] := by rw [hW2]; exact MB.set 5 _ (by simp)
        replace hown := hC.owns hown (fun g hg e => by have := lz g hg; omega)
        replace hb := Below.trans hb (hC.below (B := W0.heap.size) hb.size (fun q hq => by omega))
        replace hBr := Below.trans hBr (hC.below (B := w.heap.size) hBr.size (fun q hq => by omega))
        have hz3 : w2.heap.size ≤ W2.heap.size := hC.size
        have hz4 := hb.size
        rw [← hW2]
        clear hW2 hC MB Xr ml m0 m1 m2 m3 m4 m5 m6 m7 m8 f5
        obtain ⟨ml, m0, m1, m2, m3, m4, m5, m6, m7, m8⟩ := M2.e9
        have BA := below_alloc W2 (.cells #[.int .i64 1, .int .i64 id, .int .i64 k, .int .i64 te, .int .i64 log.length, .int .i64 tb, .slice none 0 0, .int .i64 0, .bool false] 38)
        have MB := Box.new W2 #[.int .i64 1, .int .i64 id, .int .i64 k, .int .i64 te, .int .i64 log.length, .int .i64 tb, .slice none 0 0, .int .i64 0, .bool false] 38
        have o2 := owns_below hown BA
        replace hb := below_then hb BA
        clear hown hBr M2
        go_wp2_with (at_builtin; refine wpList_append_msg _ rfl _ _ rfl rfl W0.heap.size _ az.length az rfl o2 W2.heap.size ⟨1, id, k, te, log.length, tb, 0, false⟩ rfl MB (by omega) (by simp; omega) ?_; intro v' w' hown hgr; refine StopA.go ?_)
        replace hb := hb.grown hgr (by simp; omega) (fun j hj => (o2.lt j hj).1)
        clear hgr o2 MB BA ml m0 m1 m2 m3 m4 m5 m6 m7 m8
        unfold StopA
        go_wp2
        go_roundw
        case rel => exact ⟨k + 1, by omega, by go_num, by rw [HA.out, List.length_append]; exact hown, hb⟩
        case measure => simp [intOf]; omega
    · obtain rfl : k = pn := by omega
      clear KT MT
      go_wp2
      go_ret
      exact ⟨_, rfl, owns_mono' hown (by omega), hBr⟩
end Go.Proofs.Ytapfhhmimkkhnaa
