/-
  Merging, the program's side: unread, Collect of numbers, MinFunc, least.
-/
import Derived.Test.YtcjkdkaahkphfaaK9
import Derived.Test.YtcjkdkaahkphfaaH9
namespace Go.Proofs.Ytcjkdkaahkphfaa
open Go.RowKit Go.Shelf Go.Lib
set_option linter.unusedVariables false
set_option maxRecDepth 100000
attribute [local go_sem] Oper.semAt_some

theorem unread_any (v u : Value) (w : World) :
    Calls Try.prog 83 #[.agg #[v, u]] w fun e w' => e = .returned (.func (.func 95) #[] #[.pointer (some ⟨w.heap.size, 0, none⟩)]) ∧ w' = w.alloc (.cells #[v, u] 90) := by
  go_enter Try.func83, Try.ntmps83
  go_wp2
  go_ret
  exact ⟨rfl, rfl⟩
theorem unread_stops (n : Nat) (hn : 1 ≤ n) (Bm B gb cp : Nat) (v : Value) (R : List (List It)) (at_ : List Nat) (hl : R.length ≤ 1048576) (hal : at_.length = R.length) (w : World) (hB : B < w.heap.size) (hrow : rowOf w B = none) (hbm : Bm ≠ B) (hgb : gb ≠ B) (hrl : RL w v R) (hib : R ≠ [] → ∀ b off len cap, v = .slice (some ⟨b, off, none⟩) len cap → b ≠ B) (ha : AT w gb at_) (hMl : Bm < w.heap.size)
    (hM0 : w.cell? ⟨Bm, 0, none⟩ = some v) (hM1 : w.cell? ⟨Bm, 1, none⟩ = some (.slice (some ⟨gb, 0, none⟩) R.length cp)) :
    SeqStopsK Fence.wide n Try.prog 95 #[.pointer (some ⟨Bm, 0, none⟩)] (fun x : Nat => #[.int .i64 (x : Int)]) (Kept B) (fun ys => ys = opnTo R at_ R.length) (fun _ => True) (opnTo R at_ R.length).length w := fun y J Jx W hW hJ _ hY h0 =>
  unread1_in n hn y Bm B gb cp v R at_ hl hal J Jx W hJ (Nat.lt_of_lt_of_le hB hW.size) (by rw [rowOf_below hW hB]; exact hrow) hbm hgb (hrl.below hW) hib (ha.below hW) hY ((hW.cell (p := ⟨Bm, 0, none⟩) hMl).trans hM0) ((hW.cell (p := ⟨Bm, 1, none⟩) hMl).trans hM1) h0
def intsV (l : List Nat) : List Value := l.map fun n : Nat => Value.int .i64 (n : Int)
theorem intsV_append (a b : List Nat) : intsV (a ++ b) = intsV a ++ intsV b := by simp [intsV]
theorem cells_new1 (W : World) (x : Nat) : ∀ j u, (intsV [x])[j]? = some u → (W.alloc (.cells #[.int .i64 (x : Int)] 3)).cell? ((⟨W.heap.size, 0, none⟩ : Addr).add j) = some u := by
  intro j u hj
  match j, hj with
  | 0, h => cases h; simp [Addr.add]
  | n + 1, h => simp [intsV] at h
theorem one1 (x : Nat) : ∀ u ∈ intsV [x], u.oneCell' = true := by
  intro u hu
  simp only [intsV, List.map_cons, List.map_nil, List.mem_cons, List.not_mem_nil, or_false] at hu
  subst hu; rfl
theorem opnTo_len (R : List (List It)) (at_ : List Nat) : ∀ k, (opnTo R at_ k).length ≤ k
  | 0 => Nat.le_refl _
  | k + 1 => by
    have := opnTo_len R at_ k
    unfold opnTo
    split
    · simp; omega
    · omega

set_option maxHeartbeats 8000000 in
theorem appendInt_in (Bm gb cp : Nat) (v : Value) (R : List (List It)) (at_ : List Nat) (w : World) (hl : R.length ≤ 1000) (hal : at_.length = R.length) (hrl : RL w v R) (ha : AT w gb at_) (hMl : Bm < w.heap.size)
    (hM0 : w.cell? ⟨Bm, 0, none⟩ = some v) (hM1 : w.cell? ⟨Bm, 1, none⟩ = some (.slice (some ⟨gb, 0, none⟩) R.length cp)) :
    CallsIn Fence.wide 9 Try.prog 94 #[.slice none 0 0, .func (.func 95) #[] #[.pointer (some ⟨Bm, 0, none⟩)]] w fun e w' => ∃ u, e = .returned u ∧ w'.ownsRow w.heap.size 3 1 u (opnTo R at_ R.length).length (intsV (opnTo R at_ R.length)) ∧ Below w.heap.size w w' := by
  obtain ⟨i0, hi, hz0, hz1, hz2⟩ := info_parts Try.info3
  have hOL := opnTo_len R at_ R.length
  have hbX := below_alloc w (.cells #[.slice none 0 0] 22)
  have bL := Boxed.new w 22 (.slice none 0 0)
  have hgl := ha.1
  have hrl1 := hrl.below hbX
  have ha1 := ha.below hbX
  have hib : R ≠ [] → ∀ b off len cap, v = .slice (some ⟨b, off, none⟩) len cap → b ≠ w.heap.size := fun hne b off len cap e => by
    obtain ⟨a, c, h1, h2⟩ := hrl
    obtain ⟨b', off', h3, h4, _⟩ := h2 hne
    rw [h1, h3] at e
    simp only [Value.slice.injEq, Option.some.injEq, Addr.mk.injEq] at e
    omega
  have m0 := (hbX.cell (p := ⟨Bm, 0, none⟩) hMl).trans hM0
  have m1 := (hbX.cell (p := ⟨Bm, 1, none⟩) hMl).trans hM1
  have hsz : (w.alloc (.cells #[.slice none 0 0] 22)).heap.size = w.heap.size + 1 := by simp
  refine callsIn_of_wp_marks Try.func94 rfl trivial ?_ rfl
  simp only [Try.ntmps94, List.size_toArray, List.length_cons, List.length_nil, Nat.reduceAdd, Nat.reduceSub, Array.replicate_succ, Array.replicate_zero, List.push_toArray, List.append_toArray, List.nil_append, List.cons_append]
  gi_wp2_with fail
  obtain ⟨W0, hW0⟩ : ∃ W0, w.alloc (.cells #[.slice none 0 0] 22) = W0 := ⟨_, rfl⟩
  rw [hW0] at hbX bL hrl1 ha1 m0 m1 hsz ⊢
  clear hW0
  have hrow0 : rowOf W0 w.heap.size = none := by unfold rowOf; rw [bL.cell]; rfl
  refine wpIn_rangeFunc_ownH rfl (by omega) (gf := 95) (lb := #[.pointer (some ⟨Bm, 0, none⟩)]) rfl trivial (enters_of Try.func95 (by kernel_rfl) rfl)
    (unread_stops 8 (by omega) Bm w.heap.size gb cp v R at_ (by omega) hal W0 (by omega) hrow0 (by omega) (by omega) hrl1 hib ha1 (by omega) m0 m1) (fun h k => h.trans k) (Kept.put (by omega)) (Below.refl _ _) (fun _ => rfl)
    (fun pre W => (∃ v, Boxed W w.heap.size 22 v ∧ W.ownsRow w.heap.size 3 1 v pre.length (intsV pre) ∧ True) ∧ Below w.heap.size w W)
    (fun _ _ _ => False)
    (OwnFrom.and (Own.from (holdsRow_own w.heap.size w.heap.size 22 3 1 (fun pre => pre.length) (fun pre => intsV pre) (fun _ _ => True)) _) (ownFrom_below (Nat.le_refl _) (by omega)))
    (fun _ _ _ _ _ hs _ _ => hs)
    ⟨⟨_, bL, World.ownsRow_nil _ _ _ _, trivial⟩, hbX⟩
    (fun x a' W => a' = { tmps := #[.slice none 0 0, .func (.func 95) #[] #[.pointer (some ⟨Bm, 0, none⟩)], .pointer (some ⟨w.heap.size, 0, none⟩), undef, .slice none 0 0, .int .i64 (x : Int), .func (.func 95) #[] #[.pointer (some ⟨Bm, 0, none⟩)], .int .i64 (x : Int), undef, undef, undef, undef, undef], defers := [] })
    (fun x a' _ X Y row hs hg hr => hs)
    ?assign ?body ?done ?stop
  case assign =>
    rintro l pre x W K ⟨⟨v, hv, hrow, _⟩, hB⟩ hK
    gi_wp2
    exact hK _ _ ((KeepsOthers.refl _).from _) (Kept.refl _ W) ⟨⟨v, hv, hrow, trivial⟩, hB⟩ rfl
  case body =>
    rintro l pre x a' W hl2 ⟨r, hr⟩ ⟨⟨v, hv, hrow, _⟩, hB⟩ rfl hlt
    have hc := hv.cell
    have hpl : pre.length + 1 ≤ 1001 := by omega
    have hWz : w.heap.size ≤ W.heap.size := Nat.le_of_lt hv.lt
    obtain ⟨g, cap, w2, hrun, hown', hgrow, hl3, hg2⟩ := run_append_lies (P := Try.prog) (W.alloc (.cells #[.int .i64 (x : Int)] 3)) 22 22 w.heap.size 3 i0 (.int .i64 0) 1 8 Try.underlying22 hi hz0 hz1 hz2 rfl (by decide) v pre.length (intsV pre) (hrow.alloc _) ⟨W.heap.size, 0, none⟩ 1 1 (intsV [x]) rfl (cells_new1 W x) (one1 x) (by omega) (by unfold maxLen; omega) (by omega) (by simp; omega) _ rfl
    obtain ⟨hv1, hv2, hr2, hk2, hb2⟩ := hv.appended (by decide) hrow hWz (by omega) hown' hgrow
    have hc1 := hv1.cell
    have hf1 := hv1.frozen
    have hKp := Kept.appended (cap := cap) (m := pre.length + 1) hv hv1 hgrow hl3 hg2
    rw [← intsV_append] at hr2
    have hr3 : (w2.setCell ⟨w.heap.size, 0, none⟩ (.slice (some ⟨g, 0, none⟩) (pre.length + 1) cap)).ownsRow w.heap.size 3 1 (.slice (some ⟨g, 0, none⟩) (pre.length + 1) cap) (pre ++ [x]).length (intsV (pre ++ [x])) := by rw [List.length_append]; exact hr2
    clear hgrow hl3 hg2 hown' hl2 hr hr2
    gi_wp2_with (gi_at_builtin; refine append_ran _ rfl _ _ 22 rfl _ _ rfl rfl _ _ hrun ?_)
    exact ⟨hk2.from _, hKp, ⟨_, hv2, hr3, trivial⟩, hB.trans hb2⟩
  case done =>
    rintro D ys W hD rfl ⟨⟨v, hv, hrow, _⟩, hB⟩ hK
    have hc := hv.cell
    have HB6 : ∀ o', Below w.heap.size w (W.putObj D o') := fun o' => hB.trans (belowK_b (w := w) (Nat.le_refl _) W D _ o' (by omega) hK rfl rfl)
    clear hi hz0 hz1 hz2
    gi_wp2
    refine ⟨by simp, .inl ⟨_, _, rfl, run_takeDeferred hK, ?_⟩⟩
    exact ⟨v, by simp [results, Try.results94, go_sem], v, rfl, ownsRow_putObj hrow _ hK rfl, HB6 _⟩
  case stop =>
    rintro D c pre W _ _ h _
    exact h.elim

set_option maxHeartbeats 2000000 in
theorem collectInt_any (Bm gb cp : Nat) (v : Value) (R : List (List It)) (at_ : List Nat) (w : World) (hl : R.length ≤ 1000) (hal : at_.length = R.length) (hrl : RL w v R) (ha : AT w gb at_) (hMl : Bm < w.heap.size)
    (hM0 : w.cell? ⟨Bm, 0, none⟩ = some v) (hM1 : w.cell? ⟨Bm, 1, none⟩ = some (.slice (some ⟨gb, 0, none⟩) R.length cp)) :
    Calls Try.prog 82 #[.func (.func 95) #[] #[.pointer (some ⟨Bm, 0, none⟩)]] w fun e w' => ∃ u, e = .returned u ∧ w'.ownsRow w.heap.size 3 1 u (opnTo R at_ R.length).length (intsV (opnTo R at_ R.length)) ∧ Below w.heap.size w w' := by
  have K := callsIn_wide.1 (appendInt_in Bm gb cp v R at_ w hl hal hrl ha hMl hM0 hM1)
  generalize opnTo R at_ R.length = Z at *
  clear hM0 hM1 hrl ha
  go_enter Try.func82, Try.ntmps82
  go_wp2_with fail
  refine K.mono ?_
  rintro e w1 ⟨u, rfl, ho, hb⟩
  clear K
  go_wp2
  go_ret
  exact ⟨_, rfl, ho, hb⟩

set_option maxHeartbeats 4000000 in
theorem minFunc_any (gx cx : Nat) (v : Value) (R : List (List It)) (gb cp : Nat) (at_ : List Nat) (xs : List Nat) (w : World) (hv : RL w v R) (ha : AT w gb at_) (hn : R.length ≤ 1000) (hl : at_.length = R.length) (hs : ∀ i (h : i < R.length), R[i].length ≤ 1048576)
    (hx : AT w gx xs) (hxs : ∀ j ∈ xs, j < R.length ∧ opn R at_ j = true) (hxl : xs.length ≤ 1000) (x : Nat) (r : List Nat) (he : xs = x :: r) :
    Calls Try.prog 84 #[.slice (some ⟨gx, 0, none⟩) xs.length cx, .func (.func 85) #[.agg #[v, .slice (some ⟨gb, 0, none⟩) R.length cp]] #[]] w fun e w' => e = .returned (.int .i64 ((r.foldl (stpM R at_) x : Nat) : Int)) ∧ Below w.heap.size w w' := by
  have h1 : 1 ≤ xs.length := by rw [he]; simp
  have x0 : w.cell? ⟨gx, 0, none⟩ = some (.int .i64 (x : Int)) := by have := hx.2 0 (by omega); simp only [he, List.getElem_cons_zero] at this; exact this
  have hgx := hx.1
  go_enter Try.func84, Try.ntmps84
  go_wp2
  go_loopw [5, 6] (fun m i wr => ∃ (k mm : Nat), k ≤ r.length ∧ i = .int .i64 (k + 1 : Nat) ∧ m = .int .i64 (mm : Nat) ∧ mm = (r.take k).foldl (stpM R at_) x ∧ mm < R.length ∧ opn R at_ mm = true ∧ Below w.heap.size w wr) (fun _ i _ => xs.length - (intOf i).toNat)
  case atStart =>
    have := hxs x (by rw [he]; simp)
    exact ⟨0, x, Nat.zero_le _, rfl, rfl, rfl, this.1, this.2, Below.refl _ _⟩
  case round =>
    obtain ⟨k, mm, hk, rfl, rfl, hmm, hmR, hmo, hb⟩ := hrel
    have hrl : xs.length = r.length + 1 := by rw [he]; simp
    have hgW : gx < wr.heap.size := Nat.lt_of_lt_of_le hgx hb.size
    by_cases hlt : k < r.length
    · have hxk : xs[k + 1]'(by omega) = r[k] := by simp [he]
      have c0 : wr.cell? ⟨gx, k + 1, none⟩ = some (.int .i64 (r[k] : Int)) := by
        have := (hb.cell (p := ⟨gx, k + 1, none⟩) hgx).trans (hx.2 (k + 1) (by omega))
        rw [hxk] at this; exact this
      have hrm := hxs r[k] (by rw [he]; exact List.mem_cons_of_mem _ (List.getElem_mem _))
      have KO := orderNext_any v R gb cp at_ r[k] mm wr (hv.below hb) (ha.below hb) (by omega) hl hrm.1 hmR hrm.2 hmo hs
      have HF : Hid ((r.take (k + 1)).foldl (stpM R at_) x = stpM R at_ mm r[k]) := by show _ = _; rw [List.take_succ_eq_append_getElem hlt, List.foldl_append, ← hmm]; rfl
      have HS : Hid (stpM R at_ mm r[k] = if decide (cIt (itAt R at_ r[k]).k (itAt R at_ mm).k (itAt R at_ r[k]).n (itAt R at_ mm).n < 0) = true then r[k] else mm) := rfl
      clear hxs x0 hmm hxk hx
      generalize cIt (itAt R at_ r[k]).k (itAt R at_ mm).k (itAt R at_ r[k]).n (itAt R at_ mm).n = c at *
      obtain ⟨q, HQ⟩ : ∃ q : Nat, Hid (r[k] = q) := ⟨r[k], (rfl : r[k] = r[k])⟩
      rw [HQ.out] at c0 hrm KO HF HS
      have hz := hb.size
      obtain ⟨i1, hi1⟩ : ∃ i1, i1 = k + 1 := ⟨_, rfl⟩
      rw [← hi1] at c0 ⊢
      have hi1l : i1 < xs.length := by omega
      have HI1 : Hid (i1 = k + 1) := hi1
      clear hi1 hrl he
      go_wp2_with fail
      refine KO.mono ?_
      rintro e w1 ⟨rfl, hb1⟩
      have hB1 := hb.trans (hb1.mono hz)
      have c1 := (hb1.cell (p := ⟨gx, i1, none⟩) hgW).trans c0
      have hgW1 := Nat.lt_of_lt_of_le hgW hb1.size
      clear KO hb1 hb c0
      by_cases hc : c < 0
      · have HM : Hid ((r.take (k + 1)).foldl (stpM R at_) x = q) := by show _ = _; rw [HF.out, HS.out, decide_eq_true hc]; rfl
        go_wp2
        go_roundw
        case rel => exact ⟨k + 1, q, by omega, congrArg (Value.int .i64) (by have := HI1.out; omega), rfl, HM.out.symm, hrm.1, hrm.2, hB1⟩
        case measure => simp [intOf]; omega
      · have HM : Hid ((r.take (k + 1)).foldl (stpM R at_) x = mm) := by show _ = _; rw [HF.out, HS.out, decide_eq_false hc]; rfl
        go_wp2
        go_roundw
        case rel => exact ⟨k + 1, mm, by omega, congrArg (Value.int .i64) (by have := HI1.out; omega), rfl, HM.out.symm, hmR, hmo, hB1⟩
        case measure => simp [intOf]; omega
    · obtain rfl : k = r.length := by omega
      rw [List.take_length] at hmm
      have HM : Hid (r.foldl (stpM R at_) x = mm) := hmm.symm
      obtain ⟨i1, hi1⟩ : ∃ i1, i1 = r.length + 1 := ⟨_, rfl⟩
      rw [← hi1]
      have hi1l : i1 = xs.length := by omega
      clear hmm hxs x0 hx hv ha hi1 hrl he
      subst hi1l
      go_wp2
      go_ret
      exact ⟨by rw [HM.out]; rfl, hb⟩

set_option maxHeartbeats 4000000 in
theorem least_any (v : Value) (R : List (List It)) (gb cp : Nat) (at_ : List Nat) (w : World) (hv : RL w v R) (ha : AT w gb at_) (hn : R.length ≤ 1000) (hl : at_.length = R.length) (hs : ∀ i (h : i < R.length), R[i].length ≤ 1048576) :
    Calls Try.prog 75 #[.agg #[v, .slice (some ⟨gb, 0, none⟩) R.length cp]] w fun e w' => e = .returned (.tuple #[.int .i64 (lsI (lst R at_)), .bool (lsB (lst R at_))]) ∧ Below w.heap.size w w' := by
  have hb0 := below_alloc w (.cells #[v, .slice (some ⟨gb, 0, none⟩) R.length cp] 90)
  have X0 := Box.new w #[v, .slice (some ⟨gb, 0, none⟩) R.length cp] 90
  have hb1 : Below w.heap.size w ((w.alloc (.cells #[v, .slice (some ⟨gb, 0, none⟩) R.length cp] 90)).alloc (.cells #[v, .slice (some ⟨gb, 0, none⟩) R.length cp] 90)) := below2 _ _ _
  have X1 := X0.alloc (.cells #[v, .slice (some ⟨gb, 0, none⟩) R.length cp] 90)
  have Y1 := Box.new (w.alloc (.cells #[v, .slice (some ⟨gb, 0, none⟩) R.length cp] 90)) #[v, .slice (some ⟨gb, 0, none⟩) R.length cp] 90
  simp only [World.size_alloc] at Y1
  have KC := collectInt_any (w.heap.size + 1) gb cp v R at_ _ hn hl (hv.below hb1) (ha.below hb1) (by simp) (Y1.2.1 0 _ rfl) (Y1.2.1 1 _ rfl)
  have HO : Hid (minO R at_ (opnTo R at_ R.length) = lst R at_) := opn_min R at_ R.length
  have hmem := fun j hj => opnTo_mem R at_ R.length j hj
  have hOL := opnTo_len R at_ R.length
  have KM := fun gx cx w' (hw : Below w.heap.size w w') (hx : AT w' gx (opnTo R at_ R.length)) x r he => minFunc_any gx cx v R gb cp at_ (opnTo R at_ R.length) w' (hv.below hw) (ha.below hw) hn hl hs hx hmem (by omega) x r he
  have KU := fun w => unread_any v (.slice (some ⟨gb, 0, none⟩) R.length cp) w
  generalize opnTo R at_ R.length = Z at *
  obtain ⟨va, vc, rfl, _⟩ := hv
  clear hs ha hmem Y1 hb0
  go_enter Try.func75, Try.ntmps75
  go_wp2_with fail
  refine (KU _).mono ?_
  rintro e w1 ⟨rfl, rfl⟩
  simp only [World.size_alloc]
  go_wp2_with fail
  refine KC.mono ?_
  rintro e w2 ⟨uz, rfl, oz, hb2⟩
  have X2 := X1.below hb2
  have hB2 := below_then hb1 hb2
  clear KC X1 hb1 X0 hb2 KU
  cases Z with
  | nil =>
    have HL : Hid (lst R at_ = none) := HO.out.symm
    rcases oz.2 with ⟨rfl, _⟩ | ⟨g, cp2, cur, rfl, hbg, hh, _⟩
    · clear KM HO oz
      go_wp2
      exact bodyPost_ret (v := .tuple #[.int .i64 0, .bool false]) (by simp [results, Try.results75, go_sem]) rfl ⟨by rw [HL.out]; rfl, hB2⟩
    · clear KM HO oz hh
      dsimp only [List.length_nil]
      go_wp2
      exact bodyPost_ret (v := .tuple #[.int .i64 0, .bool false]) (by simp [results, Try.results75, go_sem]) rfl ⟨by rw [HL.out]; rfl, hB2⟩
  | cons x r =>
    have HL : Hid (lst R at_ = some (r.foldl (stpM R at_) x)) := HO.out.symm
    rcases oz.2 with ⟨_, h0⟩ | ⟨g, cp2, cur, rfl, hbg, hh, _⟩
    · simp at h0
    · have hAT : AT w2 g (x :: r) := ⟨(owns_lt oz).2, fun i hi => by rw [oz.cellAt i (by simpa using hi)]; unfold intsV; rw [List.getElem?_map, List.getElem?_eq_getElem hi]; rfl⟩
      have KMM := KM g cp2 w2 hB2 hAT x r rfl
      obtain ⟨N, HN⟩ : ∃ N : Nat, Hid ((x :: r).length = N) := ⟨(x :: r).length, (rfl : (x :: r).length = (x :: r).length)⟩
      have hN1 : 1 ≤ N := by rw [← HN.out]; simp
      have hNd : ((N : Int) == 0) = false := by simp; omega
      rw [HN.out] at KMM
      generalize r.foldl (stpM R at_) x = m at *
      have q0 := X2.2.1 0 _ rfl
      have q1 := X2.2.1 1 _ rfl
      have hq := X2.1
      clear KM HO oz hh hAT
      rw [HN.out]
      go_wp2_with fail
      refine KMM.mono ?_
      rintro e w3 ⟨rfl, hb3⟩
      have hB3 := below_then hB2 hb3
      clear KMM X2 hb3 hB2
      go_wp2
      exact bodyPost_ret (v := .tuple #[.int .i64 (m : Int), .bool true]) (by simp [results, Try.results75, go_sem]) rfl ⟨by rw [HL.out]; rfl, hB3⟩
end Go.Proofs.Ytcjkdkaahkphfaa
