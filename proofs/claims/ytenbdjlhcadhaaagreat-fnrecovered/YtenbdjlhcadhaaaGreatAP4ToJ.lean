/-
  Rows put together of parts: slices, and rows appended to rows, nil or not.
  A number comes back from its bytes, whatever stands behind them; what is taken as a number are its bytes: plain facts, no program.
-/
import Derived.Test.YtenbdjlhcadhaaaGreatAP3
import Derived.Test.YtenbdjlhcadhaaaGreatA
namespace Go
theorem wpList_sliceOp {P : Program} (w : World) {ops : Array Oper} {rest : List Oper} {o : Oper} {a : Act} {Q : Exit → Act → World → Prop} (hgd : o.guard = none) (t : TypeId) (x : Operand) (lo hi mx : Option Operand)
    (ho : o.op = .slice t x lo hi mx) (v : Value) (hrun : (Instr.sliceAt t (a.eval x) (lo.map a.eval) (hi.map a.eval) (mx.map a.eval)).run P w = .ok v w)
    (h : wpList P ops Q rest (a.put o.dst v) w) : wpList P ops Q (o :: rest) a w := by
  refine wpList_plain hgd fun K hK' => ?_
  unfold Oper.wp
  simp [execOp, ho, hrun]
  exact hK' _ _ h
end Go
namespace Go.Proofs.YtenbdjlhcadhaaaGreat
open Go.RowKit Go.Maps
set_option linter.unusedVariables false
set_option maxRecDepth 100000

theorem sl_to (a : Option Addr) (n cap p : Nat) (w : World) (hp : p ≤ cap) : (Instr.sliceAt 24 (.slice a n cap) none (some (.int .i64 p)) none).run Tryz.prog w = .ok (.slice a p cap) w := by
  have h1 : (p : Int) ≤ (cap : Int) := by omega
  have h2 : (0 : Int) ≤ (p : Int) := by omega
  have e : a.map (fun x => x.add (0 * 4)) = a := by cases a <;> simp [Addr.add]
  have hA : (Instr.sliceAt 24 (.slice a n cap) none (some (.int .i64 p)) none).run Tryz.prog w = (Instr.slice 24 (.slice a n cap) none (some (.int .i64 p)) none).run Tryz.prog w := by simp [Instr.sliceAt, run_underlying Tryz.underlying24]
  rw [hA]
  simp [Instr.slice, Instr.sliceBounds, Instr.sliceBound, asIntOf, run_underlying Tryz.underlying24, hp, h2, Tryz.sizeOf71]
  cases a <;> simp [Addr.add]
theorem sl_from (w : World) (a : Option Addr) (cap p : Nat) (zs : List Mt) (h : IR w (.slice a zs.length cap) zs) (hc : zs.length ≤ cap) (hp : p ≤ zs.length) : ∃ a2, (∀ w, (Instr.sliceAt 24 (.slice a zs.length cap) (some (.int .i64 p)) none none).run Tryz.prog w = .ok (.slice a2 (zs.length - p) (cap - p)) w) ∧ IR w (.slice a2 (zs.length - p) (cap - p)) (zs.drop p) := by
  refine ⟨if cap = p then a else a.map (fun x => x.add (p * 4)), fun w => ?_, ?_⟩
  · have h1 : (p : Int) ≤ (zs.length : Int) := by omega
    have h2 : (0 : Int) ≤ (p : Int) := by omega
    have hA : (Instr.sliceAt 24 (.slice a zs.length cap) (some (.int .i64 p)) none none).run Tryz.prog w = (Instr.slice 24 (.slice a zs.length cap) (some (.int .i64 p)) none none).run Tryz.prog w := by simp [Instr.sliceAt, run_underlying Tryz.underlying24]
    rw [hA]
    simp [Instr.slice, Instr.sliceBounds, Instr.sliceBound, asIntOf, run_underlying Tryz.underlying24, hp, h2, Tryz.sizeOf71]
  · obtain ⟨a', c', he, hcc⟩ := h
    simp only [Value.slice.injEq, true_and] at he
    obtain ⟨rfl, rfl⟩ := he
    refine ⟨_, _, by rw [List.length_drop], fun hne => ?_⟩
    have hlt : p < zs.length := by
      rcases Nat.lt_or_ge p zs.length with h | h
      · exact h
      · exact absurd (List.drop_eq_nil_of_le h) hne
    obtain ⟨b, off, rfl, hb, hcell⟩ := hcc (by intro e; rw [e] at hlt; simp at hlt)
    rw [if_neg (by omega)]
    refine ⟨b, off + p * 4, by simp [Addr.add], hb, fun i hi => ?_⟩
    rw [List.getElem_drop]
    rw [List.length_drop] at hi
    have hq := hcell (p + i) (by omega)
    rw [show off + (p + i) * 4 = off + p * 4 + i * 4 from by omega] at hq
    exact hq
theorem IR_to {w : World} {a : Option Addr} {cap p : Nat} {zs : List Mt} (h : IR w (.slice a zs.length cap) zs) (hp : p ≤ zs.length) : IR w (.slice a p cap) (zs.take p) := by
  obtain ⟨a', c', he, hc⟩ := h
  simp only [Value.slice.injEq, true_and] at he
  obtain ⟨rfl, rfl⟩ := he
  have hlen : (zs.take p).length = p := by simp; omega
  refine ⟨a, cap, by rw [hlen], fun hne => ?_⟩
  obtain ⟨b, off, rfl, hb, hcell⟩ := hc (by intro e; rw [e] at hne; simp at hne)
  refine ⟨b, off, rfl, hb, fun i hi => ?_⟩
  rw [List.getElem_take]
  exact hcell i (by omega)
theorem run_append_nothing {w : World} {base n : Nat} {v : Value} {xs : List Value} (c : Nat) (h : w.ownsRow base 71 4 v n xs) : (Builtin.append_ #[24, 24] 24 #[v, .slice none 0 c]).run Tryz.prog w = .ok v w := by
  rcases h.2 with ⟨rfl, h0⟩ | ⟨g, cap, cur, rfl, hbase, hb, h1, h2, h3, h4⟩
  · simp [Builtin.append_, run_underlying Tryz.underlying24, Builtin.lenOf, Builtin.firstCells, Tryz.sizeOf71]
  · simp [Builtin.append_, run_underlying Tryz.underlying24, Builtin.lenOf, Builtin.firstCells, Tryz.sizeOf71, h1, storeCells]
/-- A row appended to a row of one's own: nil or not. -/
theorem wpList_append_row (w : World) {ops : Array Oper} {rest : List Oper} {o : Oper} {a : Act} {Q : Exit → Act → World → Prop} (hgd : o.guard = none) (s x : Operand)
    (ho : o.op = .call { callee := .builtin .append, args := #[s, x], argTypes := #[24, 24] }) (hty : o.type = 24)
    (base : Nat) (v : Value) (n : Nat) (zs : List Mt) (hs : a.eval s = v) (hown : w.ownsRow base 71 4 v n (flat4 zs))
    (xv : Value) (ys : List Mt) (hx : a.eval x = xv) (hI : IR w xv ys) (hn : n + ys.length ≤ 100000) (hbase : base ≤ w.heap.size)
    (h : ∀ v' w', w'.ownsRow base 71 4 v' (n + ys.length) (flat4 (zs ++ ys)) → w.grownBy w' v.ownBlock → wpList Tryz.prog ops Q rest (a.put o.dst v') w') : wpList Tryz.prog ops Q (o :: rest) a w := by
  obtain ⟨i0, hi, hz0, hzs, hzb⟩ := info_parts Tryz.info71
  obtain ⟨xa, xc, rfl, hc⟩ := hI
  cases xa with
  | none =>
    have hy : ys = [] := by
      by_cases e : ys = []
      · exact e
      · obtain ⟨b, off, h, _⟩ := hc e; cases h
    subst hy
    refine wpList_plain hgd fun K hK' => ?_
    have hrun := run_append_nothing xc hown
    unfold Oper.wp
    simp [execOp, ho, resolve, invoke, builtin, hs, hx, hty, hrun, Result.andThen]
    exact hK' _ _ (h v w (by simpa using hown) ⟨rfl, rfl, rfl, Nat.le_refl _, fun _ _ _ => rfl⟩)
  | some ad =>
    refine wpList_append_own _ hgd s x 24 ho base 71 i0 (.agg #[.int .i64 0, .int .i64 0, .string ⟨#[]⟩, .string ⟨#[]⟩]) 4 48 Tryz.underlying24 hi hz0 hzs hzb rfl (by decide) v n (flat4 zs) hs hown ad ys.length xc (flat4 ys) hx (flat4_length ys) ?_ ?_ (by unfold maxLen; omega) (by omega) hbase fun v' w' h1 h2 _ => h v' w' (by rw [flat4_append]; exact h1) h2
    · intro j u hj
      have hj4 : j < ys.length * 4 := by rw [← flat4_length ys]; exact (List.getElem?_eq_some_iff.1 hj).1
      obtain ⟨b, off, he, hb, hcell⟩ := hc (by intro e; rw [e] at hj4; simp at hj4)
      injection he with he
      subst he
      have ea : ∀ j, (⟨b, off, none⟩ : Addr).add j = ⟨b, off + j, none⟩ := fun j => by simp [Addr.add]
      obtain ⟨c0, c1, c2, c3⟩ := hcell (j / 4) (by omega)
      obtain ⟨g0, g1, g2, g3⟩ := flat4_get ys (j / 4) (by omega)
      obtain hm | hm | hm | hm : j % 4 = 0 ∨ j % 4 = 1 ∨ j % 4 = 2 ∨ j % 4 = 3 := by omega
      · have e : j = j / 4 * 4 := by omega
        rw [← e] at g0 c0; rw [g0] at hj; injection hj with hj; rw [← hj, ea]; exact c0
      · have e : j = j / 4 * 4 + 1 := by omega
        rw [← e] at g1; rw [g1] at hj; injection hj with hj; rw [← hj, ea, show off + j = off + j / 4 * 4 + 1 from by omega]; exact c1
      · have e : j = j / 4 * 4 + 2 := by omega
        rw [← e] at g2; rw [g2] at hj; injection hj with hj; rw [← hj, ea, show off + j = off + j / 4 * 4 + 2 from by omega]; exact c2
      · have e : j = j / 4 * 4 + 3 := by omega
        rw [← e] at g3; rw [g3] at hj; injection hj with hj; rw [← hj, ea, show off + j = off + j / 4 * 4 + 3 from by omega]; exact c3
    · intro u hu
      obtain ⟨j, hj, e⟩ := List.getElem_of_mem hu
      rw [flat4_length] at hj
      have hj' : (flat4 ys)[j]? = some u := List.getElem?_eq_some_iff.2 ⟨by rw [flat4_length]; exact hj, e⟩
      obtain ⟨g0, g1, g2, g3⟩ := flat4_get ys (j / 4) (by omega)
      obtain hm | hm | hm | hm : j % 4 = 0 ∨ j % 4 = 1 ∨ j % 4 = 2 ∨ j % 4 = 3 := by omega
      · rw [show j = j / 4 * 4 from by omega, g0] at hj'; injection hj' with hj'; rw [← hj']; rfl
      · rw [show j = j / 4 * 4 + 1 from by omega, g1] at hj'; injection hj' with hj'; rw [← hj']; rfl
      · rw [show j = j / 4 * 4 + 2 from by omega, g2] at hj'; injection hj' with hj'; rw [← hj']; rfl
      · rw [show j = j / 4 * 4 + 3 from by omega, g3] at hj'; injection hj' with hj'; rw [← hj']; rfl
end Go.Proofs.YtenbdjlhcadhaaaGreat

namespace Go.Proofs.YtenbdjlhcadhaaaGreat
open Go.RowKit

theorem tk_var : ∀ (m f k acc : Nat) (pre more : List UInt8), pre.length = k → (varL m).length ≤ f → (k = 0 ∨ m ≠ 0) → tk (pre ++ varL m ++ more) f k acc = (acc + m * 128 ^ k, k + (varL m).length) := by
  intro m
  induction m using Nat.strongRecOn with
  | _ m ih =>
    intro f k acc pre more hk hf hm
    obtain ⟨g, rfl⟩ : ∃ g, f = g + 1 := ⟨f - 1, by have := varL_pos m; omega⟩
    by_cases h : m < 128
    · have hl : k < (pre ++ varL m ++ more).length := by rw [varL_lt m h]; simp; omega
      have hg : (pre ++ varL m ++ more)[k] = UInt8.ofNat m := by
        simp only [varL_lt m h]
        rw [List.getElem_append_left (by simp; omega), List.getElem_append_right (by omega)]
        simp [hk]
      have hu : (UInt8.ofNat m).toNat = m := by rw [UInt8.toNat_ofNat']; omega
      rw [tk_some _ _ _ _ hl, hg, hu, if_pos h, if_neg (by omega), varL_lt m h, Nat.mod_eq_of_lt h]
      rfl
    · have hv := varL_ge m h
      have hu : (UInt8.ofNat (m % 128 + 128)).toNat = m % 128 + 128 := by rw [UInt8.toNat_ofNat']; omega
      have hl : k < (pre ++ varL m ++ more).length := by rw [hv]; simp; omega
      have hg : (pre ++ varL m ++ more)[k] = UInt8.ofNat (m % 128 + 128) := by
        simp only [hv]
        rw [List.getElem_append_left (by simp; omega), List.getElem_append_right (by omega)]
        simp [hk]
      rw [tk_some _ _ _ _ hl, hg, hu, if_neg (by omega), show (m % 128 + 128) % 128 = m % 128 from by omega]
      have hs : pre ++ varL m ++ more = (pre ++ [UInt8.ofNat (m % 128 + 128)]) ++ varL (m / 128) ++ more := by rw [hv]; simp
      have hlen : (varL m).length = (varL (m / 128)).length + 1 := by rw [hv]; simp
      rw [hs, ih (m / 128) (by omega) g (k + 1) _ _ more (by simp [hk]) (by omega) (by omega), hlen, Nat.pow_succ]
      have he : m * 128 ^ k = m % 128 * 128 ^ k + m / 128 * (128 ^ k * 128) := by
        have h1 : m % 128 + m / 128 * 128 = m := by omega
        have h2 : (m % 128 + m / 128 * 128) * 128 ^ k = m % 128 * 128 ^ k + m / 128 * (128 ^ k * 128) := by rw [Nat.add_mul, Nat.mul_assoc (m / 128), Nat.mul_comm 128]
        rw [h1] at h2
        exact h2
      rw [he]
      refine Prod.ext ?_ ?_
      · show _ = _; omega
      · show _ = _; omega
theorem take_var (m : Nat) (more : List UInt8) (h : m < 9223372036854775808) : take (varL m ++ more) = (m, (varL m).length) := by
  have := tk_var m 9 0 0 [] more rfl (varL_len 8 m (by simpa using h)) (.inl rfl)
  simpa [take] using this
theorem tk_back (s : List UInt8) : ∀ (f k n : Nat), (tk s f k n).2 ≠ 0 → ∃ q, (tk s f k n).1 = n + q * 128 ^ k ∧ (0 < k → q ≠ 0) ∧ k < (tk s f k n).2 ∧ varL q = (s.drop k).take ((tk s f k n).2 - k) := by
  intro f
  induction f with
  | zero => intro k n h; simp [tk] at h
  | succ f ih =>
    intro k n h
    by_cases h1 : k < s.length
    · have hdrop : s.drop k = s[k] :: s.drop (k + 1) := List.drop_eq_getElem_cons h1
      rw [tk_some s f k n h1] at h ⊢
      by_cases h2 : s[k].toNat < 128
      · rw [if_pos h2] at h ⊢
        by_cases h3 : 0 < k ∧ s[k].toNat = 0
        · rw [if_pos h3] at h; simp at h
        · rw [if_neg h3]
          refine ⟨s[k].toNat, by rw [Nat.mod_eq_of_lt h2], by omega, by simp, ?_⟩
          rw [varL_lt _ h2, hdrop]
          simp only [Nat.add_sub_cancel_left, List.take_succ_cons, List.take_zero, UInt8.ofNat_toNat]
      · rw [if_neg h2] at h ⊢
        obtain ⟨q, e1, e2, e3, e4⟩ := ih _ _ h
        have hc := s[k].toNat_lt
        refine ⟨s[k].toNat % 128 + q * 128, ?_, by omega, by omega, ?_⟩
        · rw [e1, Nat.pow_succ, Nat.add_mul, Nat.mul_assoc q, Nat.mul_comm 128]; omega
        · rw [varL_ge _ (by omega), hdrop, show (tk s f (k + 1) (n + s[k].toNat % 128 * 128 ^ k)).2 - k = ((tk s f (k + 1) (n + s[k].toNat % 128 * 128 ^ k)).2 - (k + 1)) + 1 from by omega, List.take_succ_cons, ← e4, show (s[k].toNat % 128 + q * 128) / 128 = q from by omega, show (s[k].toNat % 128 + q * 128) % 128 + 128 = s[k].toNat from by omega]
          simp
    · rw [tk_none s _ _ _ (by omega)] at h; simp at h
theorem take_back (s : List UInt8) (h : (take s).2 ≠ 0) : varL (take s).1 = s.take (take s).2 := by
  obtain ⟨q, e1, _, _, e4⟩ := tk_back s 9 0 0 h
  unfold take
  rw [e1, show 0 + q * 128 ^ 0 = q from by simp, e4]
  simp
theorem tk_nothing (s : List UInt8) : ∀ (f k n : Nat), (tk s f k n).2 = 0 → (tk s f k n).1 = 0 := by
  intro f
  induction f with
  | zero => intro k n _; rfl
  | succ f ih =>
    intro k n h
    by_cases h1 : k < s.length
    · rw [tk_some s f k n h1] at h ⊢
      by_cases h2 : s[k].toNat < 128
      · rw [if_pos h2] at h ⊢
        by_cases h3 : 0 < k ∧ s[k].toNat = 0
        · rw [if_pos h3]
        · rw [if_neg h3] at h; simp at h
      · rw [if_neg h2] at h ⊢
        exact ih _ _ h
    · rw [tk_none s _ _ _ (by omega)]
end Go.Proofs.YtenbdjlhcadhaaaGreat
