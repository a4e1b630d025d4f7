/-
  impl.ScanAt, impl.VisibleAt.
-/
import Derived.Test.YtjenogmpmkkbiaaV8
import Derived.Test.YtjenogmpmkkbiaaT8
namespace Go.Proofs.Ytjenogmpmkkbiaa
open Go.RowKit Go.Shelf Go.Lib
set_option linter.unusedVariables false
set_option maxRecDepth 100000
attribute [local go_sem] Oper.semAt_some

theorem scprs_step (pre : List It) (x : It) (f t : ByteArray) : scanL (prs (pre ++ [x])) f t = if (decide (x.d = 1) && inB f t x.k) = true then scanL (prs pre) f t ++ [(x.k, x.v)] else scanL (prs pre) f t := by
  rw [prs_append, prs_one]
  unfold scanL
  rw [List.filter_append]
  by_cases h : x.d = 1
  · rw [if_pos h, decide_eq_true h, Bool.true_and]
    by_cases hb : inB f t x.k = true
    · rw [if_pos hb]; simp [hb]
    · rw [if_neg hb]; simp [hb]
  · rw [if_neg h, decide_eq_false h]; simp
set_option maxHeartbeats 8000000 in
theorem implScan_in (v : Value) (l : List It) (f t : ByteArray) (q : Int) (w : World) (hv : IR w v l) (hn : l.length ≤ 1048576) (hs : ∀ i (h : i < l.length), l[i].k.size ≤ 1048576 ∧ l[i].v.size ≤ 1048576) (hf : f.size ≤ 1048576) (ht : t.size ≤ 1048576) :
    CallsIn Fence.wide 9 Try.prog 24 #[.agg #[v], .string f, .string t, .int .i64 q] w fun e w' => ∃ u, e = .returned (.tuple #[u, .bool (scB l f t q)]) ∧ w'.ownsRow w.heap.size 45 2 u (scL l f t q).length (flat2 (scL l f t q)) ∧ Below w.heap.size w w' := by
  obtain ⟨i0, hi, hz0, hz1, hz2⟩ := info_parts Try.info45
  have hB0 : Below w.heap.size w (((w.alloc (.cells #[v] 25)).alloc (.cells #[.string f] 9)).alloc (.cells #[.string t] 9)) := below3 _ _ _ _
  have hv1 := hv.below hB0
  have K := mayMerge_any v l _ hv1 hn hs
  have KQ := fun w => goodSeq_any q w
  have KA := fun w => seenAt_any v q w
  have KS := fun Br Bs B w' a b c d => fun h e g h1 h2 h3 => seen_stops 8 (by omega) Br Bs B v l q hn w' a b c d h e g h1 h2 h3
  have hSl : (seenL l q).length ≤ l.length := seenTo_len l q l.length
  have HV : Hid (scL l f t q = if mayM l && okSeq q && decide ((f.size : Int) ≤ 16) && decide ((t.size : Int) ≤ 16) then scanL (prs (seenL l q)) f t else []) := rfl
  have HB : Hid (scB l f t q = (mayM l && okSeq q && decide ((f.size : Int) ≤ 16) && decide ((t.size : Int) ≤ 16))) := rfl
  have HG := @mayM_good l
  generalize scL l f t q = VL at *
  generalize scB l f t q = VB at *
  generalize mayM l = m at *
  generalize okSeq q = oq at *
  have b0 := ((Boxed.new w 25 v).alloc (.cells #[.string f] 9)).alloc (.cells #[.string t] 9)
  have b1 := (Boxed.new (w.alloc (.cells #[v] 25)) 9 (.string f)).alloc (.cells #[.string t] 9)
  have b2 := Boxed.new ((w.alloc (.cells #[v] 25)).alloc (.cells #[.string f] 9)) 9 (.string t)
  simp only [World.size_alloc] at b1 b2
  obtain ⟨a, cap, hve, hc⟩ := id hv
  subst hve
  have hib : ∀ b off len c, (Value.slice a l.length cap) = .slice (some ⟨b, off, none⟩) len c → l ≠ [] → b < w.heap.size := fun b off len c e hl => by
    obtain ⟨b', off', rfl, hlt, _⟩ := hc hl
    simp only [Value.slice.injEq, Option.some.injEq, Addr.mk.injEq] at e
    omega
  clear hv hs hc
  refine callsIn_of_wp_marks Try.func24 rfl trivial ?_ rfl
  simp only [Try.ntmps24, List.size_toArray, List.length_cons, List.length_nil, Nat.reduceAdd, Nat.reduceSub, Array.replicate_succ, Array.replicate_zero, List.push_toArray, List.append_toArray, List.nil_append, List.cons_append]
  gi_wp2_with fail
  refine ⟨trivial, ?_⟩
  refine (callsIn_wide.2 K).mono ?_
  rintro e w1 ⟨rfl, hb1⟩
  have hsz3 := hb1.size
  simp only [World.size_alloc] at hsz3
  have e0 : Boxed w1 w.heap.size 25 (.slice a l.length cap) := (hb1.block _ b0.lt).trans b0
  have e1 : Boxed w1 (w.heap.size + 1) 9 (.string f) := (hb1.block _ b1.lt).trans b1
  have e2 : Boxed w1 (w.heap.size + 1 + 1) 9 (.string t) := (hb1.block _ b2.lt).trans b2
  have hv2 := hv1.below hb1
  have hB1 := below_then hB0 hb1
  have n0 := e0.lt
  have n1 := e1.lt
  have n2 := e2.lt
  have c0 := e0.cell
  have c1 := e1.cell
  have c2 := e2.cell
  clear K b0 b1 b2 hB0 hb1 hv1
  cases m with
  | false =>
    obtain rfl : VB = false := HB.out
    obtain rfl : VL = [] := HV.out
    clear HV HB HG KQ KA KS
    gi_wp2
    refine ⟨trivial, ?_⟩
    gi_wp2
    exact ⟨.tuple #[.slice none 0 0, .bool false], by simp [results, Try.results24, go_sem], .slice none 0 0, rfl, World.ownsRow_nil _ _ _ _, hB1⟩
  | true =>
    have hgr := HG rfl
    by_cases h1 : (f.size : Int) ≤ 16
    · by_cases h2 : (t.size : Int) ≤ 16
      · rw [decide_eq_true h1, decide_eq_true h2] at HB HV
        have f1 : decide ((16 : Int) < f.size) = false := decide_eq_false (by omega)
        have f2 : decide ((16 : Int) < t.size) = false := decide_eq_false (by omega)
        gi_wp2_with fail
        refine ⟨trivial, ?_⟩
        refine (callsIn_wide.2 (KQ _)).mono ?_
        rintro e w2 ⟨rfl, hw2⟩
        subst hw2
        cases oq with
        | false =>
          obtain rfl : VB = false := HB.out
          obtain rfl : VL = [] := HV.out
          clear HV HB HG KQ KA KS
          gi_wp2
          exact ⟨.tuple #[.slice none 0 0, .bool false], by simp [results, Try.results24, go_sem], .slice none 0 0, rfl, World.ownsRow_nil _ _ _ _, hB1⟩
        | true =>
          obtain rfl : VB = true := HB.out
          obtain rfl : VL = scanL (prs (seenL l q)) f t := HV.out
          clear HV HB HG KQ
          gi_wp2_with fail
          refine ⟨trivial, ?_⟩
          refine (callsIn_wide.2 (KA _)).mono ?_
          rintro e w3 ⟨rfl, rfl⟩
          clear KA
          have bL := ((Boxed.new w2 33 (.slice none 0 0)).alloc (.cells #[.slice a l.length cap] 25)).alloc (.cells #[.int .i64 q] 3)
          have bR := (Boxed.new (w2.alloc (.cells #[.slice none 0 0] 33)) 25 (.slice a l.length cap)).alloc (.cells #[.int .i64 q] 3)
          have bS := Boxed.new ((w2.alloc (.cells #[.slice none 0 0] 33)).alloc (.cells #[.slice a l.length cap] 25)) 3 (.int .i64 q)
          have hb2 := below3 w2 (.cells #[.slice none 0 0] 33) (.cells #[.slice a l.length cap] 25) (.cells #[.int .i64 q] 3)
          have hsz : (((w2.alloc (.cells #[.slice none 0 0] 33)).alloc (.cells #[.slice a l.length cap] 25)).alloc (.cells #[.int .i64 q] 3)).heap.size = w2.heap.size + 3 := by simp
          simp only [World.size_alloc] at bR bS
          gi_wp2_with fail
          obtain ⟨W0, hW0⟩ : ∃ W0, ((w2.alloc (.cells #[.slice none 0 0] 33)).alloc (.cells #[.slice a l.length cap] 25)).alloc (.cells #[.int .i64 q] 3) = W0 := ⟨_, rfl⟩
          rw [hW0] at bL bR bS hb2 hsz ⊢
          clear hW0
          have hB2 := below_then hB1 hb2
          have E1 : Boxed W0 (w.heap.size + 1) 9 (.string f) := (hb2.block _ n1).trans e1
          have E2 : Boxed W0 (w.heap.size + 1 + 1) 9 (.string t) := (hb2.block _ n2).trans e2
          have hv3 := hv2.below hb2
          have hrow0 : rowOf W0 w2.heap.size = none := by unfold rowOf; rw [bL.cell]; rfl
          clear e0 e1 e2 c0 c1 c2 hv2 hb2 hB1
          refine wpIn_rangeFunc_ownH rfl (by omega) (gf := 86) (lb := #[.pointer (some ⟨w2.heap.size + 1, 0, none⟩), .pointer (some ⟨w2.heap.size + 1 + 1, 0, none⟩)]) rfl trivial (enters_of Try.func86 (by kernel_rfl) rfl)
            (KS (w2.heap.size + 1) (w2.heap.size + 1 + 1) w2.heap.size W0 (by omega) hrow0 (by omega) (by omega) hv3 (fun hl b off len c e => by have := hib b off len c e hl; omega) (by omega) (by omega) bR.cell bS.cell) (fun h k => h.trans k) (Kept.put (by omega)) (Below.refl _ _) (fun _ => rfl)
            (fun pre W => (∃ v, Boxed W w2.heap.size 33 v ∧ W.ownsRow w2.heap.size 45 2 v (scanL (prs pre) f t).length (flat2 (scanL (prs pre) f t)) ∧ True) ∧ (Boxed W (w.heap.size + 1) 9 (.string f) ∧ Boxed W (w.heap.size + 1 + 1) 9 (.string t)) ∧ Below w.heap.size w W)
            (fun _ _ _ => False)
            (OwnFrom.and (Own.from (holdsRow_own w2.heap.size w2.heap.size 33 45 2 (fun pre => (scanL (prs pre) f t).length) (fun pre => flat2 (scanL (prs pre) f t)) (fun _ _ => True)) _) (OwnFrom.and (OwnFrom.and (Own.from (boxed_own _ _ _) _) (Own.from (boxed_own _ _ _) _)) (ownFrom_below (Nat.le_refl _) (by omega))))
            (fun _ _ _ _ _ hs _ _ => hs)
            ⟨⟨_, bL, World.ownsRow_nil _ _ _ _, trivial⟩, ⟨E1, E2⟩, hB2⟩
            (fun x a' W => ∃ Bx, w2.heap.size < Bx ∧ Box W Bx [.string x.k, .int .i64 x.n, .int .i64 x.d, .string x.v] ∧ a' = { tmps := #[.agg #[.slice a l.length cap], .string f, .string t, .int .i64 q, .pointer (some ⟨w.heap.size, 0, none⟩), .pointer (some ⟨w.heap.size + 1, 0, none⟩), .pointer (some ⟨w.heap.size + 1 + 1, 0, none⟩), undef, .slice none 0 0, .bool false, .pointer (some ⟨w2.heap.size, 0, none⟩), .pointer (some ⟨Bx, 0, none⟩), .agg #[.slice a l.length cap], .bool true, .bool false, .bool false, .string f, .int .i64 f.size, .bool false, .bool false, .bool false, .string t, .int .i64 t.size, .bool false, .bool false, .bool false, .int .i64 q, .bool true, .bool false, .bool false, .agg #[.slice a l.length cap], .int .i64 q, .func (.func 86) #[] #[.pointer (some ⟨w2.heap.size + 1, 0, none⟩), .pointer (some ⟨w2.heap.size + 1 + 1, 0, none⟩)], .agg #[.string x.k, .int .i64 x.n, .int .i64 x.d, .string x.v], undef, undef, undef, undef, undef, undef, undef, undef, undef, undef, undef, undef, undef, undef, undef, undef, undef, undef, undef, undef, undef, undef, undef, undef, undef, undef, undef, undef], defers := [] })
            (fun x a' _ X Y row hs hg hr => by obtain ⟨Bx, h1, h2, h3⟩ := hs; exact ⟨Bx, h1, box_owned h2 hg (fun r e => (hr r e).2), h3⟩)
            ?assign ?body ?done ?stop
          case assign =>
            rintro l pre x W K ⟨⟨v, hv, hrow, _⟩, ⟨hE1, hE2⟩, hB⟩ hK
            have hlt := hv.lt
            obtain ⟨xk, xn, xd, xv⟩ := x
            simp only [encIt]
            gi_wp2
            exact hK _ _ ((KeepsOthers.alloc _ _).from _) (Kept.alloc _ W _ hlt) ⟨⟨v, hv.alloc _, hrow.alloc _, trivial⟩, ⟨hE1.alloc _, hE2.alloc _⟩, hB.alloc hB.size _⟩ ⟨W.heap.size, hlt, Box.new W #[.string xk, .int .i64 xn, .int .i64 xd, .string xv] 83, rfl⟩
          case body =>
            rintro yl pre x a' W hl ⟨r, hr⟩ ⟨⟨v, hv, hrow, _⟩, ⟨hE1, hE2⟩, hB⟩ ⟨Bx, hBx, X, rfl⟩ hlt
            have hc := hv.cell
            have g1 := hE1.cell
            have g2 := hE2.cell
            have hpl : (scanL (prs pre) f t).length + 1 ≤ 1048577 := by have := scan_len (prs pre) f t; have := prs_len pre; omega
            obtain ⟨_, x0, x1, x2, x3⟩ := X.c4
            have HT := scprs_step pre x f t
            have HI : inB f t x.k = (!Op.bytesLess x.k.toList f.toList && (t.toList.isEmpty || Op.bytesLess x.k.toList t.toList)) := by unfold inB; rw [isEmpty_eq]
            have hWz : w2.heap.size ≤ W.heap.size := Nat.le_of_lt hv.lt
            obtain ⟨L2, hL2⟩ : ∃ L2, L2 = scanL (prs (pre ++ [x])) f t := ⟨_, rfl⟩
            have hgoal : ∀ W' : World, (∃ v, Boxed W' w2.heap.size 33 v ∧ W'.ownsRow w2.heap.size 45 2 v L2.length (flat2 L2) ∧ True) → (∃ v, Boxed W' w2.heap.size 33 v ∧ W'.ownsRow w2.heap.size 45 2 v (scanL (prs (pre ++ [x])) f t).length (flat2 (scanL (prs (pre ++ [x])) f t)) ∧ True) := fun W' h => by rw [← hL2]; exact h
            rw [← hL2] at HT
            clear hL2
            generalize scanL (prs pre) f t = L at *
            cases hcond : (decide (x.d = 1) && inB f t x.k) with
            | false =>
              rw [hcond] at HT
              obtain rfl : L2 = L := HT
              have hfin : (KeepsFrom W0.heap.size W W ∧ Kept w2.heap.size W W ∧ ((∃ v, Boxed W w2.heap.size 33 v ∧ W.ownsRow w2.heap.size 45 2 v (scanL (prs (pre ++ [x])) f t).length (flat2 (scanL (prs (pre ++ [x])) f t)) ∧ True) ∧ (Boxed W (w.heap.size + 1) 9 (.string f) ∧ Boxed W (w.heap.size + 1 + 1) 9 (.string t)) ∧ Below w.heap.size w W)) := ⟨(KeepsOthers.refl _).from _, Kept.refl _ _, hgoal W ⟨v, hv, hrow, trivial⟩, ⟨hE1, hE2⟩, hB⟩
              clear hgoal hr hl hlt hrow
              obtain ⟨xk, xn, xd, xv⟩ := x
              dsimp only at *
              by_cases hd : xd = 1
              · subst hd
                rw [decide_eq_true rfl, Bool.true_and, HI] at hcond
                clear HI
                cases h3 : Op.bytesLess xk.toList f.toList with
                | true => gi_wp2; exact hfin
                | false =>
                  rw [h3] at hcond
                  simp only [Bool.not_false, Bool.true_and, Bool.or_eq_false_iff] at hcond
                  obtain ⟨h4, h5⟩ := hcond
                  gi_wp2
                  exact hfin
              · have d1 : decide (xd = 1) = false := decide_eq_false hd
                have d2 : (xd == 1) = false := by simpa using hd
                clear HI hcond hd
                gi_wp2
                exact hfin
            | true =>
              rw [hcond] at HT
              obtain ⟨g, cap, w4, hrun, hown', hgrow, hl2, hg2⟩ := run_append_lies (P := Try.prog) (W.alloc (.cells #[.string x.k, .string x.v] 45)) 33 33 w2.heap.size 45 i0 (.agg #[.string ⟨#[]⟩, .string ⟨#[]⟩]) 2 32 Try.underlying33 hi hz0 hz1 hz2 rfl (by decide) v L.length (flat2 L) (hrow.alloc _) ⟨W.heap.size, 0, none⟩ 1 1 (flat2 [(x.k, x.v)]) rfl (cells_new2 W (x.k, x.v)) (one2 _) (by omega) (by unfold maxLen; omega) (by omega) (by simp; omega) _ rfl
              obtain ⟨hv1, hv2, hr2, hk2, hb2⟩ := hv.appended (by decide) hrow hWz (by omega) hown' hgrow
              have hc1 := hv1.cell
              have hf1 := hv1.frozen
              have hKp := Kept.appended (cap := cap) (m := L.length + 1) hv hv1 hgrow hl2 hg2
              rw [← flat2_append] at hr2
              have hr3 : (w4.setCell ⟨w2.heap.size, 0, none⟩ (.slice (some ⟨g, 0, none⟩) (L.length + 1) cap)).ownsRow w2.heap.size 45 2 (.slice (some ⟨g, 0, none⟩) (L.length + 1) cap) L2.length (flat2 L2) := by rw [HT, if_pos rfl, List.length_append]; exact hr2
              have hfin : KeepsFrom W0.heap.size W (w4.setCell ⟨w2.heap.size, 0, none⟩ (.slice (some ⟨g, 0, none⟩) (L.length + 1) cap)) ∧ Kept w2.heap.size W (w4.setCell ⟨w2.heap.size, 0, none⟩ (.slice (some ⟨g, 0, none⟩) (L.length + 1) cap)) ∧ ((∃ v, Boxed (w4.setCell ⟨w2.heap.size, 0, none⟩ (.slice (some ⟨g, 0, none⟩) (L.length + 1) cap)) w2.heap.size 33 v ∧ (w4.setCell ⟨w2.heap.size, 0, none⟩ (.slice (some ⟨g, 0, none⟩) (L.length + 1) cap)).ownsRow w2.heap.size 45 2 v (scanL (prs (pre ++ [x])) f t).length (flat2 (scanL (prs (pre ++ [x])) f t)) ∧ True) ∧ (Boxed (w4.setCell ⟨w2.heap.size, 0, none⟩ (.slice (some ⟨g, 0, none⟩) (L.length + 1) cap)) (w.heap.size + 1) 9 (.string f) ∧ Boxed (w4.setCell ⟨w2.heap.size, 0, none⟩ (.slice (some ⟨g, 0, none⟩) (L.length + 1) cap)) (w.heap.size + 1 + 1) 9 (.string t)) ∧ Below w.heap.size w (w4.setCell ⟨w2.heap.size, 0, none⟩ (.slice (some ⟨g, 0, none⟩) (L.length + 1) cap))) :=
                ⟨hk2.from _, hKp, hgoal _ ⟨_, hv2, hr3, trivial⟩, ⟨(hb2.block _ n1).trans hE1, (hb2.block _ n2).trans hE2⟩, hB.trans (hb2.mono (by omega))⟩
              clear hgrow hl2 hg2 hown' hl hr hr2 hgoal hlt hrow HT hKp hk2 hb2 hv1 hv2 hr3
              obtain ⟨xk, xn, xd, xv⟩ := x
              dsimp only at *
              rw [Bool.and_eq_true, decide_eq_true_eq] at hcond
              obtain ⟨rfl, hcond⟩ := hcond
              rw [HI, Bool.and_eq_true, Bool.not_eq_true'] at hcond
              obtain ⟨h3, h4⟩ := hcond
              clear HI
              cases h5 : t.toList.isEmpty with
              | true =>
                clear h4
                gi_wp2_with (gi_at_builtin; refine append_ran _ rfl _ _ 33 rfl _ _ rfl rfl _ _ hrun ?_)
                exact hfin
              | false =>
                rw [h5, Bool.false_or] at h4
                gi_wp2_with (gi_at_builtin; refine append_ran _ rfl _ _ 33 rfl _ _ rfl rfl _ _ hrun ?_)
                exact hfin
          case done =>
            rintro D ys W hD rfl ⟨⟨v, hv, hrow, _⟩, _, hB⟩ hK
            have hc := hv.cell
            have HB6 : ∀ o', Below w.heap.size w (W.putObj D o') := fun o' => hB.trans (belowK_b (w := w) (Nat.le_refl _) W D _ o' (by omega) hK rfl rfl)
            have hrow5 := owns_lower hrow (show w.heap.size ≤ w2.heap.size from by omega)
            clear KS hi hz0 hz1 hz2
            gi_wp2
            refine ⟨by simp, .inl ⟨_, _, rfl, run_takeDeferred hK, ?_⟩⟩
            exact ⟨.tuple #[v, .bool true], by simp [results, Try.results24, go_sem], v, rfl, ownsRow_putObj hrow5 _ hK rfl, HB6 _⟩
          case stop =>
            rintro D c pre W _ _ h _
            exact h.elim
      · rw [decide_eq_true h1, decide_eq_false h2, Bool.and_false] at HB HV
        have f1 : decide ((16 : Int) < f.size) = false := decide_eq_false (by omega)
        have f2 : decide ((16 : Int) < t.size) = true := decide_eq_true (by omega)
        obtain rfl : VB = false := HB.out
        obtain rfl : VL = [] := HV.out
        clear HV HB HG KQ KA KS
        gi_wp2
        refine ⟨trivial, ?_⟩
        gi_wp2
        exact ⟨.tuple #[.slice none 0 0, .bool false], by simp [results, Try.results24, go_sem], .slice none 0 0, rfl, World.ownsRow_nil _ _ _ _, hB1⟩
    · rw [decide_eq_false h1, Bool.and_false, Bool.false_and] at HB HV
      have f1 : decide ((16 : Int) < f.size) = true := decide_eq_true (by omega)
      obtain rfl : VB = false := HB.out
      obtain rfl : VL = [] := HV.out
      clear HV HB HG KQ KA KS
      gi_wp2
      refine ⟨trivial, ?_⟩
      gi_wp2
      exact ⟨.tuple #[.slice none 0 0, .bool false], by simp [results, Try.results24, go_sem], .slice none 0 0, rfl, World.ownsRow_nil _ _ _ _, hB1⟩
theorem seen_len400 {l : List It} (h : mayM l = true) (q : Int) : (seenL l q).length ≤ 400 := Nat.le_trans (seenTo_len l q l.length) (mayM_good h).2
theorem vs_len (l : List It) (q : Int) : (vsL l q).length ≤ 400 := by
  unfold vsL
  split
  · rename_i h
    unfold vsB at h
    rw [Bool.and_eq_true] at h
    exact Nat.le_trans (prs_len _) (seen_len400 h.1 q)
  · simp
theorem sc_len (l : List It) (f t : ByteArray) (q : Int) : (scL l f t q).length ≤ 400 := by
  unfold scL
  split
  · rename_i h
    unfold scB at h
    rw [Bool.and_eq_true, Bool.and_eq_true, Bool.and_eq_true] at h
    exact Nat.le_trans (scan_len _ _ _) (Nat.le_trans (prs_len _) (seen_len400 h.1.1.1 q))
  · simp
theorem implScan_any (v : Value) (l : List It) (f t : ByteArray) (q : Int) (w : World) (hv : IR w v l) (hn : l.length ≤ 1048576) (hs : ∀ i (h : i < l.length), l[i].k.size ≤ 1048576 ∧ l[i].v.size ≤ 1048576) (hf : f.size ≤ 1048576) (ht : t.size ≤ 1048576) :
    Calls Try.prog 24 #[.agg #[v], .string f, .string t, .int .i64 q] w fun e w' => ∃ u, e = .returned (.tuple #[u, .bool (scB l f t q)]) ∧ w'.ownsRow w.heap.size 45 2 u (scL l f t q).length (flat2 (scL l f t q)) ∧ Below w.heap.size w w' :=
  callsIn_wide.1 (implScan_in v l f t q w hv hn hs hf ht)

set_option maxHeartbeats 1000000 in
theorem implVisible_any (v : Value) (l : List It) (q : Int) (w : World) (hv : IR w v l) (hn : l.length ≤ 1048576) (hs : ∀ i (h : i < l.length), l[i].k.size ≤ 1048576 ∧ l[i].v.size ≤ 1048576) :
    Calls Try.prog 17 #[.agg #[v], .int .i64 q] w fun e w' => ∃ u, e = .returned (.tuple #[u, .bool (vsB l q)]) ∧ w'.ownsRow w.heap.size 45 2 u (vsL l q).length (flat2 (vsL l q)) ∧ Below w.heap.size w w' := by
  have hB0 := below_alloc w (.cells #[v] 25)
  have K := implScan_any v l ⟨#[]⟩ ⟨#[]⟩ q _ (hv.below hB0) hn hs (by decide) (by decide)
  rw [(sc_empty l q).1, (sc_empty l q).2] at K
  generalize vsL l q = VL at *
  generalize vsB l q = VB at *
  obtain ⟨a, cap, rfl, _⟩ := hv
  clear hs
  go_enter Try.func17, Try.ntmps17
  go_wp2_with fail
  refine K.mono ?_
  rintro e w1 ⟨u, rfl, ho, hb⟩
  have hO := owns_lower ho (show w.heap.size ≤ _ from by simp)
  have hB1 := below_then hB0 hb
  clear ho hb K hB0
  go_wp2
  exact bodyPost_ret (v := .tuple #[u, .bool VB]) (by simp [results, Try.results17, go_sem]) rfl ⟨_, rfl, hO, hB1⟩
end Go.Proofs.Ytjenogmpmkkbiaa
