/-
  What is seen, one by one: impl's seenAt and its closure, for every loop body.
-/
import Derived.Test.YtjenogmpmkkbiaaS8
import Derived.Test.YtjenogmpmkkbiaaA8
namespace Go.Proofs.Ytjenogmpmkkbiaa
open Go.RowKit Go.Shelf Go.Lib
set_option linter.unusedVariables false
set_option maxRecDepth 100000
attribute [local go_sem] Oper.semAt_some

theorem Kept.refl (B : Nat) (W : World) : Kept B W W := ⟨Nat.le_refl _, fun _ _ h _ _ _ => h, .inl rfl, fun h => h⟩
theorem Kept.of_below {B : Nat} {W W' : World} (hb : Below W.heap.size W W') (hB : B < W.heap.size) : Kept B W W' where
  size := hb.size
  keep k o ho _ _ _ := (hb.block k (Array.getElem?_eq_some_iff.1 ho).1).trans ho
  row := .inl (rowOf_below hb hB)
  sane hs g e := by rw [rowOf_below hb hB] at e; exact Nat.lt_of_lt_of_le (hs g e) hb.size
theorem Kept.cell {B : Nat} {W W' : World} (h : Kept B W W') {b o : Nat} {v : Value} (hc : W.cell? ⟨b, o, none⟩ = some v) (hb : b ≠ B) (hr : rowOf W B = none) : W'.cell? ⟨b, o, none⟩ = some v := by
  obtain ⟨ob, ho, hoc⟩ := cells_of_cell hc
  have hk := h.keep b ob ho hoc hb (by rw [hr]; simp)
  have he : W'.heap[b]? = W.heap[b]? := by rw [hk]; exact ho.symm
  rw [← hc]; simp [World.cell?, he]
theorem seenTo_lt (l : List It) (q : Int) (k : Nat) (hk : k < l.length) (hs : seenB l q k = true) : (seenTo l q k).length < (seenL l q).length := by
  obtain ⟨r, h1, _⟩ := seenTo_pre l q (k + 1) (l.length - (k + 1))
  rw [show k + 1 + (l.length - (k + 1)) = l.length from by omega] at h1
  unfold seenL
  rw [h1, seenTo, if_pos hs]
  simp

set_option maxHeartbeats 4000000 in
theorem seen1_in (n : Nat) (hn : 1 ≤ n) (y Br Bs B : Nat) (v : Value) (l : List It) (q : Int) (hl : l.length ≤ 1048576) (J Jx : List It → World → Prop) (W : World) (hJ : AbidesFrom W.heap.size J) (hBlt : B < W.heap.size) (hrow : rowOf W B = none)
    (hbr : Br ≠ B) (hbs : Bs ≠ B) (hir : IR W v l) (hib : l ≠ [] → ∀ b off len cap, v = .slice (some ⟨b, off, none⟩) len cap → b ≠ B)
    (hY : ∀ pre x W1, J pre W1 → pre.length < (seenL l q).length → YieldAt Fence.wide (n - 1) Try.prog y #[encIt x] W1 fun e W' =>
      (e = .returned (.bool true) ∧ J (pre ++ [x]) W' ∧ Kept B W1 W') ∨ (e = .returned (.bool false) ∧ Jx (pre ++ [x]) W'))
    (hR : W.cell? ⟨Br, 0, none⟩ = some v) (hS : W.cell? ⟨Bs, 0, none⟩ = some (.int .i64 q)) (h0 : J [] W) :
    CallsIn Fence.wide n Try.prog 86 #[.func (.yield y) #[] #[], .pointer (some ⟨Br, 0, none⟩), .pointer (some ⟨Bs, 0, none⟩)] W fun e W' => (∃ v, e = .returned v) ∧
      ((∃ ys, ys = seenL l q ∧ J ys W') ∨ (∃ pre, (∃ k, k < l.length ∧ pre = seenTo l q (k + 1) ∧ seenB l q k = true) ∧ Jx pre W')) := by
  obtain ⟨a, cap, rfl, hc⟩ := hir
  have hRb : Br < W.heap.size := by obtain ⟨o, ho, _⟩ := cells_of_cell hR; exact (Array.getElem?_eq_some_iff.1 ho).1
  have hSb : Bs < W.heap.size := by obtain ⟨o, ho, _⟩ := cells_of_cell hS; exact (Array.getElem?_eq_some_iff.1 ho).1
  refine callsIn_of_wp Try.func86 rfl trivial ?_ rfl
  simp only [Try.ntmps86, List.size_toArray, List.length_cons, List.length_nil, Nat.reduceAdd, Nat.reduceSub, Array.replicate_succ, Array.replicate_zero, List.push_toArray, List.append_toArray, List.nil_append, List.cons_append]
  gi_wp2
  gi_loopw [9] (fun i wr => ∃ k : Nat, k ≤ l.length ∧ i = .int .i64 k ∧ J (seenTo l q k) wr ∧ Kept B W wr) (fun i _ => l.length - (intOf i).toNat)
  case atStart => exact ⟨0, Nat.zero_le _, rfl, h0, Kept.refl _ _⟩
  case round =>
    clear h0
    obtain ⟨k, hk, rfl, hJs, hkp⟩ := hrel
    have hzk := hkp.size
    by_cases hlt : k < l.length
    · obtain ⟨b, off, rfl, hbl, hcell⟩ := hc (by intro e; simp [e] at hlt)
      have hbB := hib (by intro e; simp [e] at hlt) b off _ _ rfl
      have hc0 := hkp.cell (hcell k hlt).1 hbB hrow
      have hc1 := hkp.cell (hcell k hlt).2.1 hbB hrow
      have hc2 := hkp.cell (hcell k hlt).2.2.1 hbB hrow
      have hc3 := hkp.cell (hcell k hlt).2.2.2 hbB hrow
      have hR1 := hkp.cell hR hbr hrow
      have hS1 := hkp.cell hS hbs hrow
      have hir : IR wr (.slice (some ⟨b, off, none⟩) l.length cap) l := ⟨_, cap, rfl, fun _ => ⟨b, off, rfl, by omega, fun i hi => ⟨hkp.cell (hcell i hi).1 hbB hrow, hkp.cell (hcell i hi).2.1 hbB hrow, hkp.cell (hcell i hi).2.2.1 hbB hrow, hkp.cell (hcell i hi).2.2.2 hbB hrow⟩⟩⟩
      have hb1 := below_alloc wr (.cells #[.string l[k].k, .int .i64 l[k].n, .int .i64 l[k].d, .string l[k].v] 83)
      have KS := seen_any _ l k q _ (hir.below hb1) hl hlt
      have hJ1 := abide hJ hJs hb1
      have X1 := Box.new wr #[.string l[k].k, .int .i64 l[k].n, .int .i64 l[k].d, .string l[k].v] 83
      have HT : Hid (seenTo l q (k + 1) = if seenB l q k = true then seenTo l q k ++ [l[k]] else seenTo l q k) := by show _ = _; rw [seenTo, getD_at l k hlt]
      have HE : Hid (∀ W', Kept B wr W' → Kept B W W') := fun W' h => hkp.trans h
      have hbW : b < wr.heap.size := by omega
      have hBW : B < wr.heap.size := by omega
      have HLT : seenB l q k = true → (seenTo l q k).length < (seenL l q).length := seenTo_lt l q k hlt
      have hRw : Br < wr.heap.size := by omega
      have hSw : Bs < wr.heap.size := by omega
      have HB1 := hb1
      clear hcell hc hib hrow hR hS hir hJs hkp hb1
      generalize hsb : seenB l q k = sb at *
      cases sb with
      | false =>
        have HT2 : Hid (seenTo l q (k + 1) = seenTo l q k) := by show _ = _; rw [HT.out]; rfl
        clear HT hY HLT hsb X1
        generalize l[k] = s at *
        obtain ⟨sk, sn, sd, sv⟩ := s
        dsimp only at *
        gi_wp2_with fail
        refine ⟨trivial, ?_⟩
        refine (callsIn_wide.2 KS).mono ?_
        rintro e w2 ⟨rfl, hb2⟩
        have hJ2 := abide hJ hJ1 hb2
        have hbb := below_then HB1 hb2
        clear hJ1 KS hb2 HB1 hc0 hc1 hc2 hc3 hR1 hS1
        gi_wp2
        refine ⟨fun _ h => (by cases h), ?_⟩
        gi_wp2
        go_roundw
        case rel => exact ⟨k + 1, by omega, by go_num, by rw [HT2.out]; exact hJ2, HE.out _ (Kept.of_below hbb hBW)⟩
        case measure => simp [intOf]; omega
      | true =>
        have HT2 : Hid (seenTo l q (k + 1) = seenTo l q k ++ [l[k]]) := by show _ = _; rw [HT.out]; rfl
        have HEX : Hid (∃ k', k' < l.length ∧ seenTo l q k ++ [l[k]] = seenTo l q (k' + 1) ∧ seenB l q k' = true) := ⟨k, hlt, HT2.out.symm, hsb⟩
        have hlen := HLT rfl
        clear HT HLT hsb
        generalize l[k] = s at *
        obtain ⟨sk, sn, sd, sv⟩ := s
        dsimp only at *
        gi_wp2_with fail
        refine ⟨trivial, ?_⟩
        refine (callsIn_wide.2 KS).mono ?_
        rintro e w2 ⟨rfl, hb2⟩
        have hJ2 := abide hJ hJ1 hb2
        have hbb := below_then HB1 hb2
        have hzb := hbb.size
        have X2 := X1.below hb2
        obtain ⟨_, x0, x1, x2, x3⟩ := X2.c4
        obtain ⟨fn, tmps, assign, body, hy, hRR⟩ := hY _ ⟨sk, sn, sd, sv⟩ w2 hJ2 hlen
        unfold encIt at hy
        dsimp only at hy
        clear hJ1 KS hb2 HB1 hc0 hc1 hc2 hc3 hR1 hS1 X1 hY hlen
        gi_wp2_with fail
        refine hRR.mono ?_
        rintro e W3 (⟨rfl, hJ3, hk3⟩ | ⟨rfl, hJx3⟩)
        · clear hy hRR x0 x1 x2 x3 X2
          gi_wp2
          go_roundw
          case rel => exact ⟨k + 1, by omega, by go_num, by rw [HT2.out]; exact hJ3, HE.out _ ((Kept.of_below hbb hBW).trans hk3)⟩
          case measure => simp [intOf]; omega
        · clear hy hRR x0 x1 x2 x3 X2
          gi_wp2
          refine bodyPost_ret (results_none rfl _ _ _) rfl ?_
          exact ⟨⟨_, rfl⟩, .inr ⟨_, HEX.out, hJx3⟩⟩
    · obtain rfl : k = l.length := by omega
      clear hY hc
      gi_wp2
      go_end0
      exact ⟨⟨_, rfl⟩, .inl ⟨_, rfl, hJs⟩⟩

set_option maxHeartbeats 1000000 in
theorem seenAt_any (v : Value) (q : Int) (w : World) :
    Calls Try.prog 57 #[.agg #[v], .int .i64 q] w fun e w' => e = .returned (.func (.func 86) #[] #[.pointer (some ⟨w.heap.size, 0, none⟩), .pointer (some ⟨w.heap.size + 1, 0, none⟩)]) ∧ w' = (w.alloc (.cells #[v] 25)).alloc (.cells #[.int .i64 q] 3) := by
  go_enter Try.func57, Try.ntmps57
  go_wp2
  go_ret
  exact ⟨rfl, rfl⟩
/-- The closure that seenAt hands out. -/
theorem seen_stops (n : Nat) (hn : 1 ≤ n) (Br Bs B : Nat) (v : Value) (l : List It) (q : Int) (hl : l.length ≤ 1048576) (w : World) (hB : B < w.heap.size) (hrow : rowOf w B = none) (hbr : Br ≠ B) (hbs : Bs ≠ B) (hir : IR w v l) (hib : l ≠ [] → ∀ b off len cap, v = .slice (some ⟨b, off, none⟩) len cap → b ≠ B)
    (hRl : Br < w.heap.size) (hSl : Bs < w.heap.size) (hR : w.cell? ⟨Br, 0, none⟩ = some v) (hS : w.cell? ⟨Bs, 0, none⟩ = some (.int .i64 q)) :
    SeqStopsK Fence.wide n Try.prog 86 #[.pointer (some ⟨Br, 0, none⟩), .pointer (some ⟨Bs, 0, none⟩)] (fun x : It => #[encIt x]) (Kept B) (fun ys => ys = seenL l q) (fun pre => ∃ k, k < l.length ∧ pre = seenTo l q (k + 1) ∧ seenB l q k = true) (seenL l q).length w := fun y J Jx W hW hJ _ hY h0 =>
  seen1_in n hn y Br Bs B v l q hl J Jx W hJ (Nat.lt_of_lt_of_le hB hW.size) (by rw [rowOf_below hW hB]; exact hrow) hbr hbs (hir.below hW) hib hY ((hW.cell (p := ⟨Br, 0, none⟩) hRl).trans hR) ((hW.cell (p := ⟨Bs, 0, none⟩) hSl).trans hS) h0
end Go.Proofs.Ytjenogmpmkkbiaa
