/-
  DropShadowed, both.
-/
import Derived.Test.YtjenogmpmkkbiaaV8
import Derived.Test.YtjenogmpmkkbiaaE9
namespace Go.Proofs.Ytjenogmpmkkbiaa
open Go.RowKit
set_option linter.unusedVariables false
set_option maxRecDepth 100000

def dsB (l : List It) (q : Int) : Bool := mayM l && okSeq q
def dsL (l : List It) (q : Int) (b : Bool) : List It := if dsB l q then dropL l q b else []
theorem dropTo_step (l : List It) (q : Int) (bot : Bool) (k : Nat) (h : k < l.length) : dropTo l q bot (k + 1) = if stayB l q bot k = true then dropTo l q bot k ++ [l[k]] else dropTo l q bot k := by
  rw [dropTo, getD_at l k h]
theorem stay_at (l : List It) (q : Int) (bot : Bool) (k : Nat) (h : k < l.length) : stayB l q bot k = (decide (q < l[k].n) || (seenB l q k && !(bot && decide (l[k].d = 0)))) := by
  unfold stayB; rw [getD_at l k h]
theorem ds_len (l : List It) (q : Int) (b : Bool) : (dsL l q b).length ≤ 400 := by
  unfold dsL
  split
  · rename_i h
    unfold dsB at h
    rw [Bool.and_eq_true] at h
    exact Nat.le_trans (dropTo_len l q b l.length) (mayM_good h.1).2
  · simp

set_option maxHeartbeats 8000000 in
theorem implDrop_any (v : Value) (l : List It) (q : Int) (bot : Bool) (w : World) (hv : IR w v l) (hn : l.length ≤ 1048576) (hs : ∀ i (h : i < l.length), l[i].k.size ≤ 1048576 ∧ l[i].v.size ≤ 1048576) :
    Calls Try.prog 13 #[.agg #[v], .int .i64 q, .bool bot] w fun e w' => ∃ u, e = .returned (.tuple #[.agg #[u], .bool (dsB l q)]) ∧ w'.ownsRow w.heap.size 83 4 u (dsL l q bot).length (flat4 (dsL l q bot)) ∧ Below w.heap.size w w' := by
  obtain ⟨i0, hi, hz0, hzs, hzb⟩ := info_parts Try.info83
  have hB0 := below2 w (.cells #[v] 25) (.cells #[.slice none 0 0] 25)
  have hv1 := hv.below hB0
  have K := mayMerge_any v l _ hv1 hn hs
  have KQ := fun w => goodSeq_any q w
  have HV : Hid (dsL l q bot = if mayM l && okSeq q then dropTo l q bot l.length else []) := rfl
  have HB : Hid (dsB l q = (mayM l && okSeq q)) := rfl
  generalize dsL l q bot = VL at *
  generalize dsB l q = VB at *
  generalize mayM l = m at *
  generalize okSeq q = oq at *
  have b0 := (Boxed.new w 25 v).alloc (.cells #[.slice none 0 0] 25)
  have b1 := Boxed.new (w.alloc (.cells #[v] 25)) 25 (.slice none 0 0)
  simp only [World.size_alloc] at b1
  obtain ⟨a, cap, hve, hc⟩ := id hv
  subst hve
  clear hs
  go_enter Try.func13, Try.ntmps13
  go_wp2_with fail
  refine K.mono ?_
  rintro e w1 ⟨rfl, hb1⟩
  have e0 : Boxed w1 w.heap.size 25 (.slice a l.length cap) := (hb1.block _ b0.lt).trans b0
  have e1 : Boxed w1 (w.heap.size + 1) 25 (.slice none 0 0) := (hb1.block _ b1.lt).trans b1
  have hB1 := below_then hB0 hb1
  have n0 := e0.lt
  have n1 := e1.lt
  have c0 := e0.cell
  have c1 := e1.cell
  have f1 := e1.frozen
  clear K b0 b1 hB0 hb1 hv1
  cases m with
  | false =>
    obtain rfl : VB = false := HB.out
    obtain rfl : VL = [] := HV.out
    have E1 := e1.set (.slice none 0 0)
    have d1 := E1.cell
    clear HV HB KQ hc hv
    go_wp2
    exact bodyPost_ret (v := .tuple #[.agg #[.slice none 0 0], .bool false]) (by simp [results, Try.results13, go_sem, c1]) rfl ⟨_, rfl, World.ownsRow_nil _ _ _ _, hB1.setCell (by simp) _⟩
  | true =>
    go_wp2_with fail
    refine (KQ _).mono ?_
    rintro e w2 ⟨rfl, hw2⟩
    subst hw2
    clear KQ
    cases oq with
    | false =>
      obtain rfl : VB = false := HB.out
      obtain rfl : VL = [] := HV.out
      clear HV HB hc hv
      go_wp2
      exact bodyPost_ret (v := .tuple #[.agg #[.slice none 0 0], .bool false]) (by simp [results, Try.results13, go_sem, c1]) rfl ⟨_, rfl, World.ownsRow_nil _ _ _ _, hB1.setCell (by simp) _⟩
    | true =>
      obtain rfl : VB = true := HB.out
      obtain rfl : VL = dropTo l q bot l.length := HV.out
      clear HV HB
      have bL := Boxed.new w2 25 (.slice none 0 0)
      have hb2 := below_alloc w2 (.cells #[.slice none 0 0] 25)
      have hB2 := below_then hB1 hb2
      have E0 : Boxed (w2.alloc (.cells #[.slice none 0 0] 25)) w.heap.size 25 (.slice a l.length cap) := e0.alloc _
      have E1 : Boxed (w2.alloc (.cells #[.slice none 0 0] 25)) (w.heap.size + 1) 25 (.slice none 0 0) := e1.alloc _
      go_wp2
      clear c0 c1 f1 e0 e1 hB1 hb2
      go_loopw [24] (fun i wr => ∃ (k : Nat) (u : Value), k ≤ l.length ∧ i = .int .i64 k ∧ Boxed wr w2.heap.size 25 u ∧ wr.ownsRow w2.heap.size 83 4 u (dropTo l q bot k).length (flat4 (dropTo l q bot k)) ∧ Boxed wr w.heap.size 25 (.slice a l.length cap) ∧ Boxed wr (w.heap.size + 1) 25 (.slice none 0 0) ∧ Below w.heap.size w wr) (fun i _ => l.length - (intOf i).toNat)
      case atStart => exact ⟨0, _, Nat.zero_le _, rfl, bL, World.ownsRow_nil _ _ _ _, E0, E1, hB2⟩
      case round =>
        clear bL hB2 E0 E1
        obtain ⟨k, u, hk, rfl, bL, hown, E0, E1, hb⟩ := hrel
        have hz := hb.size
        have r0 := E0.cell
        have rl := bL.cell
        have rf := bL.frozen
        have nL := bL.lt
        have nE := E0.lt
        by_cases hlt : k < l.length
        · obtain ⟨b, off, rfl, hbl, hcell⟩ := hc (by intro e; simp [e] at hlt)
          have hir := hv.below hb
          have hc0 := (hb.cell (p := ⟨b, off + k * 4, none⟩) hbl).trans (hcell k hlt).1
          have hc1 := (hb.cell (p := ⟨b, off + k * 4 + 1, none⟩) hbl).trans (hcell k hlt).2.1
          have hc2 := (hb.cell (p := ⟨b, off + k * 4 + 2, none⟩) hbl).trans (hcell k hlt).2.2.1
          have hc3 := (hb.cell (p := ⟨b, off + k * 4 + 3, none⟩) hbl).trans (hcell k hlt).2.2.2
          have hb1 := below_alloc wr (.cells #[.string l[k].k, .int .i64 l[k].n, .int .i64 l[k].d, .string l[k].v] 83)
          have KS := seen_any _ l k q _ (hir.below hb1) hn hlt
          have X1 := Box.new wr #[.string l[k].k, .int .i64 l[k].n, .int .i64 l[k].d, .string l[k].v] 83
          have HT : Hid (dropTo l q bot (k + 1) = if stayB l q bot k = true then dropTo l q bot k ++ [l[k]] else dropTo l q bot k) := dropTo_step l q bot k hlt
          have hst := stay_at l q bot k hlt
          have hlen := dropTo_len l q bot k
          have hbW : b < wr.heap.size := by omega
          obtain ⟨av, cv, rfl, _⟩ := IR_of_owns hown rfl
          clear hcell hc hir hv
          generalize stayB l q bot k = st at *
          generalize dropTo l q bot k = L at *
          generalize seenB l q k = sb at *
          generalize l[k] = s at *
          obtain ⟨sk, sn, sd, sv⟩ := s
          dsimp only at *
          go_wp2_with fail
          refine KS.mono ?_
          rintro e w3 ⟨rfl, hb3⟩
          have hbb := below_then hb1 hb3
          have X3 := X1.below hb3
          have B3 := below_then hb hbb
          have bL3 : Boxed w3 w2.heap.size 25 (.slice av L.length cv) := (hbb.block _ nL).trans bL
          have E03 : Boxed w3 w.heap.size 25 (.slice (some ⟨b, off, none⟩) l.length cap) := (hbb.block _ nE).trans E0
          have E13 : Boxed w3 (w.heap.size + 1) 25 (.slice none 0 0) := (hbb.block _ E1.lt).trans E1
          have hown3 := owns_below hown hbb
          have hz3 := hbb.size
          obtain ⟨hXl, x0, x1, x2, x3⟩ := X3.c4
          have rl3 := bL3.cell
          have rf3 := bL3.frozen
          have nL3 := bL3.lt
          clear KS hb1 hb3 X1 hc0 hc1 hc2 hc3 r0 rl rf hb hown E0 E1 bL hbb X3
          cases hstc : st with
          | false =>
            have HT2 : Hid (dropTo l q bot (k + 1) = L) := by show _ = _; rw [HT.out, hstc]; rfl
            rw [hstc] at hst
            have hst2 := hst.symm
            rw [Bool.or_eq_false_iff] at hst2
            obtain ⟨hq, hst2⟩ := hst2
            clear HT hst hi hz0 hzs hzb hstc
            have hq0 := hq
            cases sb with
            | false =>
              go_wp2
              go_roundw
              case rel => exact ⟨k + 1, _, by omega, by go_num, bL3, by rw [HT2.out]; exact hown3, E03, E13, B3⟩
              case measure => simp [intOf]; omega
            | true =>
              cases bot with
              | false => simp at hst2
              | true =>
                by_cases hd : sd = 0
                · subst hd
                  clear hst2
                  go_wp2
                  go_roundw
                  case rel => exact ⟨k + 1, _, by omega, by go_num, bL3, by rw [HT2.out]; exact hown3, E03, E13, B3⟩
                  case measure => simp [intOf]; omega
                · exfalso
                  rw [decide_eq_false hd] at hst2
                  simp at hst2
          | true =>
            have HT2 : Hid (dropTo l q bot (k + 1) = L ++ [⟨sk, sn, sd, sv⟩]) := by show _ = _; rw [HT.out, hstc]; rfl
            rw [hstc] at hst
            have hst2 := hst.symm
            clear HT hst hstc
            have hcn := cells_new4 w3 ⟨sk, sn, sd, sv⟩
            have hW23 : w2.heap.size ≤ w3.heap.size := Nat.le_of_lt nL3
            have hall : (q < sn ∧ sb = false) ∨ (q < sn ∧ sb = true ∧ bot = false) ∨ (q < sn ∧ sb = true ∧ bot = true ∧ sd = 0) ∨ (q < sn ∧ sb = true ∧ bot = true ∧ sd ≠ 0) ∨ (¬ q < sn ∧ sb = true ∧ bot = false) ∨ (¬ q < sn ∧ sb = true ∧ bot = true ∧ sd ≠ 0) := by
              by_cases h1 : q < sn
              · cases sb
                · exact .inl ⟨h1, rfl⟩
                · cases bot
                  · exact .inr (.inl ⟨h1, rfl, rfl⟩)
                  · by_cases h2 : sd = 0
                    · exact .inr (.inr (.inl ⟨h1, rfl, rfl, h2⟩))
                    · exact .inr (.inr (.inr (.inl ⟨h1, rfl, rfl, h2⟩)))
              · rw [decide_eq_false h1, Bool.false_or, Bool.and_eq_true, Bool.not_eq_true', Bool.and_eq_false_iff] at hst2
                obtain ⟨h2, h3⟩ := hst2
                cases hbt : bot with
                | false => exact .inr (.inr (.inr (.inr (.inl ⟨h1, h2, rfl⟩))))
                | true =>
                  rw [hbt] at h3
                  refine .inr (.inr (.inr (.inr (.inr ⟨h1, h2, rfl, fun e => ?_⟩))))
                  rcases h3 with h3 | h3
                  · cases h3
                  · exact of_decide_eq_false h3 e
            clear hst2
            rcases hall with ⟨h1, rfl⟩ | ⟨h1, rfl, rfl⟩ | ⟨h1, rfl, rfl, rfl⟩ | ⟨h1, rfl, rfl, h2⟩ | ⟨h1, rfl, rfl⟩ | ⟨h1, rfl, rfl, h2⟩
            all_goals
              try have g2 := decide_eq_false h2
              try have g3 : (sd == 0) = false := by simpa using h2
              go_wp2_with (at_builtin; refine wpList_append_own _ rfl _ _ 23 rfl w2.heap.size 83 i0 (.agg #[.string ⟨#[]⟩, .int .i64 0, .int .i64 0, .string ⟨#[]⟩]) 4 48 Try.underlying23 hi hz0 hzs hzb rfl (by decide) _ L.length (flat4 L) rfl (owns_below hown3 (below_alloc _ _)) ⟨w3.heap.size, 0, none⟩ 1 1 (flat4 [⟨sk, sn, _, sv⟩]) rfl rfl hcn (one4 _) (by unfold maxLen; omega) (by omega) (by simp; omega) ?_; intro v' w4 hown4 hgrow4 _; obtain ⟨g', cap', rfl⟩ := ownsRow_succ hown4; obtain ⟨hv1, hv2, hr2, _, hb2⟩ := bL3.appended (by decide) hown3 hW23 (Nat.le_refl _) hown4 hgrow4; have t1 := hv1.cell; have t2 := hv1.frozen; have t3 := hv1.lt)
              go_roundw
              case rel => exact ⟨k + 1, _, by omega, by go_num, hv2, by rw [HT2.out, List.length_append, flat4_append]; exact hr2, (hb2.block _ n0).trans E03, (hb2.block _ n1).trans E13, B3.trans (hb2.mono (by omega))⟩
              case measure => simp [intOf]; omega
        · obtain rfl : k = l.length := by omega
          have E1c := E1.cell
          have E1f := E1.frozen
          have nE1 := E1.lt
          obtain ⟨av, cv, rfl, _⟩ := IR_of_owns hown rfl
          have hO : (wr.setCell ⟨w.heap.size + 1, 0, none⟩ (.slice av (dropTo l q bot l.length).length cv)).ownsRow w.heap.size 83 4 (.slice av (dropTo l q bot l.length).length cv) (dropTo l q bot l.length).length (flat4 (dropTo l q bot l.length)) := by
            refine owns_lower (base := w2.heap.size) ?_ (by omega)
            have c : Chg (fun k => k = w.heap.size + 1) wr (wr.setCell ⟨w.heap.size + 1, 0, none⟩ (.slice av (dropTo l q bot l.length).length cv)) := (Chg.refl (fun k => k = w.heap.size + 1) wr).setCell (p := ⟨w.heap.size + 1, 0, none⟩) rfl _
            exact c.owns hown (fun b hb hh => by have := owns_ge hown b hb; omega)
          have hC : Below w.heap.size w (wr.setCell ⟨w.heap.size + 1, 0, none⟩ (.slice av (dropTo l q bot l.length).length cv)) := hb.setCell (by simp) _
          clear hc hi hz0 hzs hzb hown hv hb
          obtain ⟨L, HL⟩ : ∃ L, Hid (dropTo l q bot l.length = L) := ⟨_, rfl⟩
          rw [HL.out] at hO hC bL rl
          go_wp2
          exact bodyPost_ret (v := .tuple #[.agg #[.slice av L.length cv], .bool true]) (by simp [results, Try.results13, go_sem, E1c]) rfl ⟨_, rfl, by rw [HL.out]; exact hO, hC⟩

set_option maxHeartbeats 8000000 in
theorem l8Drop_any (v : Value) (l : List It) (q : Int) (bot : Bool) (w : World) (hv : IR w v l) (hn : l.length ≤ 1048576) (hg : goodR l = true) :
    Calls Try.prog 54 #[v, .int .i64 q, .bool bot] w fun e w' => ∃ u, e = .returned u ∧ w'.ownsRow w.heap.size 83 4 u (dropL l q bot).length (flat4 (dropL l q bot)) ∧ Below w.heap.size w w' := by
  obtain ⟨i0, hi, hz0, hzs, hzb⟩ := info_parts Try.info83
  have K := l8Seen_any v l q w hv hn hg
  have hSl : (seenL l q).length ≤ l.length := seenTo_len l q l.length
  have hnext := fun k hk => seen_next hg q k hk
  have hkind : ∀ k (h : k < l.length), l[k].d = 0 ∨ l[k].d = 1 := fun k h => by
    have := goodR_at hg h
    unfold okAt at this
    rw [Bool.and_eq_true, getD_at l k h] at this
    exact (okIt_kind this.1).1
  obtain ⟨a, cap, hve, hc⟩ := id hv
  subst hve
  go_enter Try.func54, Try.ntmps54
  go_wp2_with fail
  refine K.mono ?_
  rintro e w1 ⟨uS, rfl, hoS, hb1⟩
  obtain ⟨aS, cS, rfl, hcS⟩ := IR_of_owns hoS rfl
  have hz1 := hb1.size
  clear K hoS hg
  go_wp2
  go_loopw [7, 9, 17] (fun u j i wr => ∃ k : Nat, k ≤ l.length ∧ i = .int .i64 k ∧ j = .int .i64 (seenTo l q k).length ∧ wr.ownsRow w1.heap.size 83 4 u (dropTo l q bot k).length (flat4 (dropTo l q bot k)) ∧ Below w1.heap.size w1 wr) (fun _ _ i _ => l.length - (intOf i).toNat)
  case atStart => exact ⟨0, Nat.zero_le _, rfl, rfl, World.ownsRow_nil _ _ _ _, Below.refl _ _⟩
  case round =>
    obtain ⟨k, hk, rfl, rfl, hown, hb⟩ := hrel
    have hz := hb.size
    obtain ⟨av, cv, rfl, _⟩ := IR_of_owns hown rfl
    by_cases hlt : k < l.length
    · obtain ⟨b, off, rfl, hbl, hcell⟩ := hc (by intro e; simp [e] at hlt)
      have hB := below_then hb1 hb
      have hc0 := (hB.cell (p := ⟨b, off + k * 4, none⟩) hbl).trans (hcell k hlt).1
      have hc1 := (hB.cell (p := ⟨b, off + k * 4 + 1, none⟩) hbl).trans (hcell k hlt).2.1
      have hc2 := (hB.cell (p := ⟨b, off + k * 4 + 2, none⟩) hbl).trans (hcell k hlt).2.2.1
      have hc3 := (hB.cell (p := ⟨b, off + k * 4 + 3, none⟩) hbl).trans (hcell k hlt).2.2.2
      have hbW : b < wr.heap.size := by omega
      have HT : Hid (dropTo l q bot (k + 1) = if stayB l q bot k = true then dropTo l q bot k ++ [l[k]] else dropTo l q bot k) := dropTo_step l q bot k hlt
      have hst := stay_at l q bot k hlt
      have hlen := dropTo_len l q bot k
      have hslen := seenTo_len l q k
      have hnx := hnext k hlt
      have hkd := hkind k hlt
      have HSN : Hid (seenTo l q (k + 1) = if seenB l q k = true then seenTo l q k ++ [l[k]] else seenTo l q k) := by show _ = _; rw [seenTo, getD_at l k hlt]
      have HSB : seenB l q k = true → l[k].n ≤ q := fun h => by unfold seenB at h; rw [Bool.and_eq_true, decide_eq_true_eq, getD_at l k hlt] at h; exact h.1
      rw [getD_at l k hlt] at hnx
      obtain ⟨M, hM⟩ : ∃ M, M = (seenTo l q k).length := ⟨_, rfl⟩
      rw [← hM] at hnx hslen ⊢
      have HM : Hid (M = (seenTo l q k).length) := hM
      clear hcell hc hnext hkind hM hv
      generalize stayB l q bot k = st at *
      generalize seenB l q k = sb at *
      generalize dropTo l q bot k = L at *
      generalize seenL l q = S at *
      generalize l[k] = s at *
      obtain ⟨N, hNL⟩ : ∃ N, N = L.length := ⟨_, rfl⟩
      have HN : Hid (N = L.length) := hNL
      rw [← hNL] at hown hlen ⊢
      clear hNL
      by_cases hq : q < s.n
      · have hsb : sb = false := by cases sb with | false => rfl | true => have := HSB rfl; omega
        subst hsb
        have HS2 : Hid (seenTo l q (k + 1) = seenTo l q k) := by show _ = _; rw [HSN.out]; rfl
        have HT2 : Hid (dropTo l q bot (k + 1) = L ++ [s]) := by show _ = _; rw [HT.out, hst, decide_eq_true hq]; rfl
        clear HT hst HSN HSB hnx hkd hcS
        obtain ⟨sk, sn, sd, sv⟩ := s
        dsimp only at *
        have hown2 := owns_below hown (below_alloc wr (.cells #[.string sk, .int .i64 sn, .int .i64 sd, .string sv] 83))
        have hcn := cells_new4 (wr.alloc (.cells #[.string sk, .int .i64 sn, .int .i64 sd, .string sv] 83)) ⟨sk, sn, sd, sv⟩
        simp only [World.size_alloc] at hcn
        clear hown
        go_wp2_with (at_builtin; refine wpList_append_own _ rfl _ _ 23 rfl w1.heap.size 83 i0 (.agg #[.string ⟨#[]⟩, .int .i64 0, .int .i64 0, .string ⟨#[]⟩]) 4 48 Try.underlying23 hi hz0 hzs hzb rfl (by decide) _ N (flat4 L) rfl (owns_below hown2 (below_alloc _ _)) ⟨wr.heap.size + 1, 0, none⟩ 1 1 (flat4 [⟨sk, sn, sd, sv⟩]) rfl rfl hcn (one4 _) (by unfold maxLen; omega) (by omega) (by simp; omega) ?_; intro v' w3 hown3 hgrow3 _)
        go_roundw
        case rel => exact ⟨k + 1, by omega, by go_num, by rw [HS2.out, HM.out], by rw [HT2.out, List.length_append, flat4_append, ← HN.out]; exact hown3, ((hb.alloc hz _).alloc (by simp; omega) _).grown hgrow3 (by simp; omega) (owns_ge hown2)⟩
        case measure => simp [intOf]; omega
      · have hqd : decide (q < s.n) = false := decide_eq_false hq
        rw [hqd, Bool.false_or] at hst
        cases sb with
        | false =>
          have HS2 : Hid (seenTo l q (k + 1) = seenTo l q k) := by show _ = _; rw [HSN.out]; rfl
          have HT2 : Hid (dropTo l q bot (k + 1) = L) := by show _ = _; rw [HT.out, hst]; rfl
          clear HT hst HSN HSB hi hz0 hzs hzb hkd
          by_cases hMS : M < S.length
          · obtain ⟨g, offS, rfl, hgl, hce⟩ := hcS (by intro e; simp [e] at hMS)
            have d0 := (hb.cell (p := ⟨g, offS + M * 4, none⟩) hgl).trans (hce M hMS).1
            have d1 := (hb.cell (p := ⟨g, offS + M * 4 + 1, none⟩) hgl).trans (hce M hMS).2.1
            have d2 := (hb.cell (p := ⟨g, offS + M * 4 + 2, none⟩) hgl).trans (hce M hMS).2.2.1
            have d3 := (hb.cell (p := ⟨g, offS + M * 4 + 3, none⟩) hgl).trans (hce M hMS).2.2.2
            rw [List.getElem?_eq_getElem hMS] at hnx
            have hgW : g < wr.heap.size := by omega
            dsimp only at hnx
            clear hce hcS
            generalize S[M] = t at *
            have hts : t ≠ s := of_decide_eq_false hnx.symm
            obtain ⟨sk, sn, sd, sv⟩ := s
            obtain ⟨tk, tn, td, tv⟩ := t
            dsimp only at *
            have EV := fun w => eqItemV tk tv sk sv tn td sn sd w
            rw [← hnx] at EV
            have EG := eqG83
            clear hnx hts
            go_wp2_with fail
            go_quiet (fail)
            go_wp2
            go_roundw
            case rel => exact ⟨k + 1, by omega, by go_num, by rw [HS2.out, HM.out], by rw [HT2.out, ← HN.out]; exact owns_below hown (below_drewN (below_alloc _ _) _), hb.trans (below_drewN ((below_alloc _ _).mono hz) _)⟩
            case measure => simp [intOf]; omega
          · have hMd : decide ((M : Int) < (S.length : Int)) = false := decide_eq_false (by omega)
            clear hcS hnx
            obtain ⟨sk, sn, sd, sv⟩ := s
            dsimp only at *
            go_wp2_with fail
            go_quiet (fail)
            go_wp2
            go_roundw
            case rel => exact ⟨k + 1, by omega, by go_num, by rw [HS2.out, HM.out], by rw [HT2.out, ← HN.out]; exact owns_below hown (below_drewN (below_alloc _ _) _), hb.trans (below_drewN ((below_alloc _ _).mono hz) _)⟩
            case measure => simp [intOf]; omega
        | true =>
          have hMS : M < S.length := by
            rcases Nat.lt_or_ge M S.length with h | h
            · exact h
            · rw [List.getElem?_eq_none h] at hnx; cases hnx
          obtain ⟨g, offS, rfl, hgl, hce⟩ := hcS (by intro e; simp [e] at hMS)
          have d0 := (hb.cell (p := ⟨g, offS + M * 4, none⟩) hgl).trans (hce M hMS).1
          have d1 := (hb.cell (p := ⟨g, offS + M * 4 + 1, none⟩) hgl).trans (hce M hMS).2.1
          have d2 := (hb.cell (p := ⟨g, offS + M * 4 + 2, none⟩) hgl).trans (hce M hMS).2.2.1
          have d3 := (hb.cell (p := ⟨g, offS + M * 4 + 3, none⟩) hgl).trans (hce M hMS).2.2.2
          rw [List.getElem?_eq_getElem hMS] at hnx
          have hgW : g < wr.heap.size := by omega
          dsimp only at hnx
          have hts : S[M] = s := of_decide_eq_true hnx.symm
          rw [hts] at d0 d1 d2 d3
          have HS2 : Hid ((M : Int) + 1 = ((seenTo l q (k + 1)).length : Int)) := by show _ = _; rw [HSN.out, if_pos rfl, List.length_append, ← HM.out]; simp
          have hM63 : M + 1 ≤ 1048577 := by omega
          clear hce hcS hnx hts HSN HSB
          have hst3 : st = !(bot && decide (s.d = 0)) := by rw [hst]; rfl
          clear hst
          have EG := eqG83
          obtain ⟨sk, sn, sd, sv⟩ := s
          dsimp only at *
          have EV := fun w => eqItemV sk sv sk sv sn sd sn sd w
          rw [decide_eq_true rfl] at EV
          obtain ⟨W0, hW0⟩ : ∃ W0, W0 = wr.alloc (.cells #[.string sk, .int .i64 sn, .int .i64 sd, .string sv] 83) := ⟨_, rfl⟩
          go_wp2_with fail
          go_quiet (fail)
          clear hc0 hc1 hc2 hc3 d0 d1 d2 d3 EV EG
          rw [← hW0]
          have hbX : Below wr.heap.size wr (W0.drewN nq) := by rw [hW0]; exact below_drewN (below_alloc _ _) _
          have X2 : Box (W0.drewN nq) wr.heap.size [.string sk, .int .i64 sn, .int .i64 sd, .string sv] := by rw [hW0]; exact (Box.new wr #[.string sk, .int .i64 sn, .int .i64 sd, .string sv] 83).below (below_drewN (Below.refl _ _) _)
          clear hW0
          generalize W0.drewN nq = w2 at *
          clear W0
          have hown2 := owns_below hown hbX
          have hB2 := hb.trans (hbX.mono hz)
          have hz2 := hB2.size
          have hcn := cells_new4 w2 ⟨sk, sn, sd, sv⟩
          obtain ⟨_, x0, x1, x2, x3⟩ := X2.c4
          have hall : (bot = true ∧ sd = 0 ∧ st = false) ∨ (bot = true ∧ sd = 1 ∧ st = true) ∨ (bot = false ∧ st = true) := by
            cases bot with
            | false => exact .inr (.inr ⟨rfl, hst3⟩)
            | true =>
              rcases hkd with h | h
              · exact .inl ⟨rfl, h, by rw [hst3, h]; rfl⟩
              · exact .inr (.inl ⟨rfl, h, by rw [hst3, h]; rfl⟩)
          clear hown hb hst3 hkd X2
          rcases hall with ⟨rfl, rfl, hst⟩ | ⟨rfl, rfl, hst⟩ | ⟨rfl, hst⟩
          · have HT2 : Hid (dropTo l q true (k + 1) = L) := by show _ = _; rw [HT.out, hst]; rfl
            clear HT hst hi hz0 hzs hzb hcn
            go_wp2
            go_roundw
            case rel => exact ⟨k + 1, by omega, by go_num, congrArg (Value.int .i64) HS2.out, by rw [HT2.out, ← HN.out]; exact hown2, hB2⟩
            case measure => simp [intOf]; omega
          · have HT2 : Hid (dropTo l q true (k + 1) = L ++ [⟨sk, sn, 1, sv⟩]) := by show _ = _; rw [HT.out, hst]; rfl
            clear HT hst
            go_wp2_with (at_builtin; refine wpList_append_own _ rfl _ _ 23 rfl w1.heap.size 83 i0 (.agg #[.string ⟨#[]⟩, .int .i64 0, .int .i64 0, .string ⟨#[]⟩]) 4 48 Try.underlying23 hi hz0 hzs hzb rfl (by decide) _ N (flat4 L) rfl (owns_below hown2 (below_alloc _ _)) ⟨w2.heap.size, 0, none⟩ 1 1 (flat4 [⟨sk, sn, 1, sv⟩]) rfl rfl hcn (one4 _) (by unfold maxLen; omega) (by omega) (by simp; omega) ?_; intro v' w3 hown3 hgrow3 _)
            go_roundw
            case rel => exact ⟨k + 1, by omega, by go_num, congrArg (Value.int .i64) HS2.out, by rw [HT2.out, List.length_append, flat4_append, ← HN.out]; exact hown3, (hB2.alloc hz2 _).grown hgrow3 (by simp; omega) (owns_ge hown2)⟩
            case measure => simp [intOf]; omega
          · have HT2 : Hid (dropTo l q false (k + 1) = L ++ [⟨sk, sn, sd, sv⟩]) := by show _ = _; rw [HT.out, hst]; rfl
            clear HT hst
            go_wp2_with (at_builtin; refine wpList_append_own _ rfl _ _ 23 rfl w1.heap.size 83 i0 (.agg #[.string ⟨#[]⟩, .int .i64 0, .int .i64 0, .string ⟨#[]⟩]) 4 48 Try.underlying23 hi hz0 hzs hzb rfl (by decide) _ N (flat4 L) rfl (owns_below hown2 (below_alloc _ _)) ⟨w2.heap.size, 0, none⟩ 1 1 (flat4 [⟨sk, sn, sd, sv⟩]) rfl rfl hcn (one4 _) (by unfold maxLen; omega) (by omega) (by simp; omega) ?_; intro v' w3 hown3 hgrow3 _)
            go_roundw
            case rel => exact ⟨k + 1, by omega, by go_num, congrArg (Value.int .i64) HS2.out, by rw [HT2.out, List.length_append, flat4_append, ← HN.out]; exact hown3, (hB2.alloc hz2 _).grown hgrow3 (by simp; omega) (owns_ge hown2)⟩
            case measure => simp [intOf]; omega
    · obtain rfl : k = l.length := by omega
      have HD : Hid (dropL l q bot = dropTo l q bot l.length) := rfl
      clear hc hcS hi hz0 hzs hzb hnext hkind hv
      go_wp2
      go_ret
      refine ⟨_, rfl, ?_, below_then hb1 hb⟩
      rw [HD.out]
      exact owns_lower hown hz1

set_option maxHeartbeats 4000000 in
theorem specDrop_any (v : Value) (l : List It) (q : Int) (bot : Bool) (w : World) (hv : IR w v l) (hn : l.length ≤ 1048576) (hs : ∀ i (h : i < l.length), l[i].k.size ≤ 1048576 ∧ l[i].v.size ≤ 1048576) :
    Calls Try.prog 14 #[.agg #[v], .int .i64 q, .bool bot] w fun e w' => ∃ u, e = .returned (.tuple #[.agg #[u], .bool (dsB l q)]) ∧ w'.ownsRow w.heap.size 83 4 u (dsL l q bot).length (flat4 (dsL l q bot)) ∧ Below w.heap.size w w' := by
  have hB0 := below2 w (.cells #[v] 25) (.cells #[.slice none 0 0] 25)
  have hv1 := hv.below hB0
  have K := l8Run_any v l _ hv1 hn hs
  have KQ := fun w => l4Seq_any q w
  have KD := fun w' h => fun hg => l8Drop_any v l q bot w' h hn hg
  have HV : Hid (dsL l q bot = if mayM l && okSeq q then dropL l q bot else []) := rfl
  have HB : Hid (dsB l q = (mayM l && okSeq q)) := rfl
  have HG := @mayM_good l
  generalize dropL l q bot = Z at *
  generalize dsL l q bot = VL at *
  generalize dsB l q = VB at *
  generalize mayM l = m at *
  generalize okSeq q = oq at *
  have b0 := (Boxed.new w 25 v).alloc (.cells #[.slice none 0 0] 25)
  have b1 := Boxed.new (w.alloc (.cells #[v] 25)) 25 (.slice none 0 0)
  simp only [World.size_alloc] at b1
  obtain ⟨a, cap, hve, _⟩ := id hv
  subst hve
  clear hs hv
  go_enter Try.func14, Try.ntmps14
  go_wp2_with fail
  refine K.mono ?_
  rintro e w1 ⟨rfl, hb1⟩
  have e0 : Boxed w1 w.heap.size 25 (.slice a l.length cap) := (hb1.block _ b0.lt).trans b0
  have e1 : Boxed w1 (w.heap.size + 1) 25 (.slice none 0 0) := (hb1.block _ b1.lt).trans b1
  have hv2 := hv1.below hb1
  have hB1 := below_then hB0 hb1
  have n0 := e0.lt
  have n1 := e1.lt
  have c0 := e0.cell
  have c1 := e1.cell
  have f1 := e1.frozen
  clear K b0 b1 hB0 hb1 hv1
  cases m with
  | false =>
    obtain rfl : VB = false := HB.out
    obtain rfl : VL = [] := HV.out
    clear HV HB KQ KD HG hv2
    go_wp2
    exact bodyPost_ret (v := .tuple #[.agg #[.slice none 0 0], .bool false]) (by simp [results, Try.results14, go_sem, c1]) rfl ⟨_, rfl, World.ownsRow_nil _ _ _ _, hB1.setCell (by simp) _⟩
  | true =>
    have hgr := (HG rfl).1
    clear HG
    go_wp2_with fail
    refine (KQ _).mono ?_
    rintro e w2 ⟨rfl, hw2⟩
    subst hw2
    clear KQ
    cases oq with
    | false =>
      obtain rfl : VB = false := HB.out
      obtain rfl : VL = [] := HV.out
      clear HV HB KD hv2
      go_wp2
      exact bodyPost_ret (v := .tuple #[.agg #[.slice none 0 0], .bool false]) (by simp [results, Try.results14, go_sem, c1]) rfl ⟨_, rfl, World.ownsRow_nil _ _ _ _, hB1.setCell (by simp) _⟩
    | true =>
      obtain rfl : VB = true := HB.out
      obtain rfl : VL = Z := HV.out
      clear HV HB
      go_wp2_with fail
      refine (KD _ hv2 hgr).mono ?_
      rintro e w3 ⟨u, rfl, ho, hb3⟩
      have E1 : Boxed w3 (w.heap.size + 1) 25 (.slice none 0 0) := (hb3.block _ n1).trans e1
      have hB3 := below_then hB1 hb3
      obtain ⟨av, cv, rfl, _⟩ := IR_of_owns ho rfl
      have c3 := E1.cell
      have f3 := E1.frozen
      have n3 := E1.lt
      have hO : (w3.setCell ⟨w.heap.size + 1, 0, none⟩ (.slice av VL.length cv)).ownsRow w.heap.size 83 4 (.slice av VL.length cv) VL.length (flat4 VL) := by
        refine owns_lower (base := w2.heap.size) ?_ (by omega)
        have c : Chg (fun k => k = w.heap.size + 1) w3 (w3.setCell ⟨w.heap.size + 1, 0, none⟩ (.slice av VL.length cv)) := (Chg.refl (fun k => k = w.heap.size + 1) w3).setCell (p := ⟨w.heap.size + 1, 0, none⟩) rfl _
        exact c.owns ho (fun b hb hh => by have := owns_ge ho b hb; omega)
      have hC : Below w.heap.size w (w3.setCell ⟨w.heap.size + 1, 0, none⟩ (.slice av VL.length cv)) := hB3.setCell (by simp) _
      clear KD ho hb3 c0 c1 f1 e0 e1 hB1 hB3 hv2
      go_wp2
      exact bodyPost_ret (v := .tuple #[.agg #[.slice av VL.length cv], .bool true]) (by simp [results, Try.results14, go_sem, c3]) rfl ⟨_, rfl, hO, hC⟩
end Go.Proofs.Ytjenogmpmkkbiaa
