/-
  An index that is read: spec.l7Index.
  An index that is read: spec.l7Index, walked.
-/
import Derived.Test.YtfdaffnkgpdhhaaGreatEz
namespace Go.Proofs.YtfdaffnkgpdhhaaGreat
open Go.RowKit
set_option linter.unusedVariables false
set_option maxRecDepth 100000

/-- The place at the front of a text. -/
def ipA (r : ByteArray) : Nat × Nat := take (bl r)
def ipS (r : ByteArray) : ByteArray := r.extract ((ipA r).2 + (ipA r).1) r.size
def ipB (r : ByteArray) : Nat × Nat := take (bl (ipS r))
def ipC (r : ByteArray) : Nat × Nat := take (bl ((ipS r).extract (ipB r).2 (ipS r).size))
def ipD (r : ByteArray) : Nat × Nat := take (bl ((ipS r).extract ((ipB r).2 + (ipC r).2) (ipS r).size))
def ipP (r : ByteArray) : Pl := ⟨r.extract (ipA r).2 ((ipA r).2 + (ipA r).1), ((ipB r).1 : Nat), ((ipC r).1 : Nat), ((ipD r).1 : Nat)⟩
def ipR (r : ByteArray) : ByteArray := (ipS r).extract ((ipB r).2 + (ipC r).2 + (ipD r).2) (ipS r).size
def ipF (r : ByteArray) : Prop := (ipA r).2 ≠ 0 ∧ (ipA r).1 ≤ r.size - (ipA r).2
def ipO (r : ByteArray) : Prop := ipF r ∧ (ipB r).2 ≠ 0 ∧ (ipC r).2 ≠ 0 ∧ (ipD r).2 ≠ 0
instance (r : ByteArray) : Decidable (ipF r) := by unfold ipF; infer_instance
instance (r : ByteArray) : Decidable (ipO r) := by unfold ipO; infer_instance
theorem take_le (s : ByteArray) : (take (bl s)).2 ≤ s.size ∧ (take (bl s)).2 ≤ 9 ∧ (take (bl s)).1 < 9223372036854775808 := by
  have := take_bound (bl s)
  rw [bl_len] at this
  omega
theorem ip_bounds (r : ByteArray) : (ipA r).2 ≤ r.size ∧ (ipS r).size ≤ r.size - (ipA r).2 ∧ (ipB r).2 ≤ (ipS r).size ∧ (ipB r).2 + (ipC r).2 ≤ (ipS r).size ∧ (ipB r).2 + (ipC r).2 + (ipD r).2 ≤ (ipS r).size := by
  have hA := take_le r
  have hB := take_le (ipS r)
  have hC := take_le ((ipS r).extract (ipB r).2 (ipS r).size)
  have hD := take_le ((ipS r).extract ((ipB r).2 + (ipC r).2) (ipS r).size)
  have hS : (ipS r).size = r.size - ((ipA r).2 + (ipA r).1) := by unfold ipS; rw [ByteArray.size_extract]; omega
  rw [ByteArray.size_extract] at hC hD
  change (ipA r).2 ≤ _ ∧ _ at hA
  change (ipB r).2 ≤ _ ∧ _ at hB
  change (ipC r).2 ≤ _ ∧ _ at hC
  change (ipD r).2 ≤ _ ∧ _ at hD
  omega
theorem ipR_size {r : ByteArray} (h : ipO r) : (ipR r).size < r.size := by
  have hb := ip_bounds r
  have h1 := h.1.1
  have h2 : (ipR r).size = (ipS r).size - ((ipB r).2 + (ipC r).2 + (ipD r).2) := by unfold ipR; rw [ByteArray.size_extract]; omega
  omega
/-- The place of a block is read. -/
theorem ip_place {l : List It} (h : okT l = true) {i : Nat} (hi : i < nb l) {s : ByteArray} {more : List UInt8} (hs : bl s = plcL l i ++ more) : ipO s ∧ ipP s = plc l i ∧ bl (ipR s) = more := by
  obtain ⟨t1, t2, t3, t4, t5, t6⟩ := plc_takes h hi more
  have hp := okT_parts h
  have hok := lastI_ok hp.1 hi
  have hk := okIt_key hok
  have hq := okIt_seq hok
  have v1 := varL_pos (lastI l i).n.toNat
  have v2 := varL_pos (bsL l i).length
  have v3 := varL_pos (blkL (chk l i)).length
  rw [← hs] at t1 t2 t3 t4 t5 t6
  have hA : ipA s = ((lastI l i).k.size, 1) := t1
  have hsz : s.size = (plcL l i).length + more.length := by rw [← bl_len, hs, List.length_append]
  have hpl : (plcL l i).length = 1 + (lastI l i).k.size + (varL (lastI l i).n.toNat).length + (varL (bsL l i).length).length + (varL (blkL (chk l i)).length).length := by
    have := var_small (lastI l i).k.size (by omega)
    simp only [plcL, List.length_append, bl_len, this]
  have hplc : plc l i = ⟨(lastI l i).k, (lastI l i).n, ((bsL l i).length : Nat), ((blkL (chk l i)).length : Nat)⟩ := rfl
  rw [hplc]
  have hn : (lastI l i).n = ((lastI l i).n.toNat : Nat) := by omega
  have hbk : (lastI l i).k = tx ((bl s).drop 1 |>.take (lastI l i).k.size) := by rw [t2, tx_bl]
  rw [hn]
  generalize (lastI l i).n.toNat = N at *
  generalize hK : (lastI l i).k.size = K at *
  generalize (lastI l i).k = kk at *
  generalize (bsL l i).length = Y at *
  generalize (blkL (chk l i)).length = Z at *
  have a1 : (ipA s).1 = K := by rw [hA]
  have a2 : (ipA s).2 = 1 := by rw [hA]
  have hS : bl (ipS s) = (bl s).drop (1 + K) := by unfold ipS; rw [a1, a2, bl_from]
  have hB : ipB s = (N, (varL N).length) := by unfold ipB; rw [hS, t3]
  have b2 : (ipB s).2 = (varL N).length := by rw [hB]
  have hC : ipC s = (Y, (varL Y).length) := by unfold ipC; rw [b2, bl_from, hS, List.drop_drop, t4]
  have c2 : (ipC s).2 = (varL Y).length := by rw [hC]
  have hD : ipD s = (Z, (varL Z).length) := by unfold ipD; rw [b2, c2, bl_from, hS, List.drop_drop, ← Nat.add_assoc, t5]
  have d2 : (ipD s).2 = (varL Z).length := by rw [hD]
  refine ⟨⟨⟨by omega, by omega⟩, by omega, by omega, by omega⟩, ?_, ?_⟩
  · have e0 : s.extract (ipA s).2 ((ipA s).2 + (ipA s).1) = kk := by
      rw [a1, a2, hbk]
      apply bl_inj
      rw [bl_ext, bl_tx, show 1 + K - 1 = K from by omega]
    have b1 : (ipB s).1 = N := by rw [hB]
    have c1 : (ipC s).1 = Y := by rw [hC]
    have d1 : (ipD s).1 = Z := by rw [hD]
    unfold ipP
    rw [e0, b1, c1, d1]
  · unfold ipR
    rw [b2, c2, d2, bl_from, hS, List.drop_drop, ← Nat.add_assoc, ← Nat.add_assoc, t6]
/-- How far an index is read, whatever table's it is. -/
def IxS (s : List UInt8) (r : List UInt8) (acc : List Pl) : Prop := ∀ L, okT L = true → s = ixL L (nb L) → ∃ i, i ≤ nb L ∧ r = ixR L i ∧ acc = plsL L i
theorem IxS.start (s : List UInt8) : IxS s s [] := fun L _ h => ⟨0, Nat.zero_le _, by rw [ixR_zero, h], rfl⟩
theorem IxS.done {s : List UInt8} {acc : List Pl} (h : IxS s [] acc) : ∀ L, okT L = true → s = ixL L (nb L) → acc = plsL L (nb L) := by
  intro L hL hs
  obtain ⟨i, hi, hr, ha⟩ := h L hL hs
  have := ixR_nil hL hi hr.symm
  subst this
  exact ha
theorem IxS.place {s : List UInt8} {r : ByteArray} {acc : List Pl} (h : IxS s (bl r) acc) (hr : r.size ≠ 0) {L : List It} (hL : okT L = true) (hs : s = ixL L (nb L)) : ∃ i, i < nb L ∧ bl r = plcL L i ++ ixR L (i + 1) ∧ acc = plsL L i := by
  obtain ⟨i, hi, hx, ha⟩ := h L hL hs
  have hlt : i < nb L := by
    rcases Nat.lt_or_ge i (nb L) with h1 | h1
    · exact h1
    · obtain rfl : i = nb L := by omega
      rw [ixR_end] at hx
      exact absurd (by rw [← bl_len, hx]; rfl) hr
  exact ⟨i, hlt, by rw [hx, ixR_step hlt], ha⟩
theorem IxS.stop {s : List UInt8} {r : ByteArray} {acc : List Pl} (h : IxS s (bl r) acc) (hr : r.size ≠ 0) (ho : ¬ ipO r) : ∀ L, okT L = true → s = ixL L (nb L) → False := by
  intro L hL hs
  obtain ⟨i, hi, hx, _⟩ := h.place hr hL hs
  exact ho (ip_place hL hi hx).1
theorem IxS.step {s : List UInt8} {r : ByteArray} {acc : List Pl} (h : IxS s (bl r) acc) (hr : r.size ≠ 0) : IxS s (bl (ipR r)) (acc ++ [ipP r]) := by
  intro L hL hs
  obtain ⟨i, hi, hx, ha⟩ := h.place hr hL hs
  obtain ⟨_, h2, h3⟩ := ip_place hL hi hx
  exact ⟨i + 1, hi, h3, by rw [h2, ha, plsL_succ]⟩
/-- What l7Index answers. -/
def NnPl (p : Pl) : Prop := 0 ≤ p.a ∧ p.a < 9223372036854775808 ∧ 0 ≤ p.z ∧ p.z < 9223372036854775808
def IxA (s : ByteArray) (w : World) (e : Ending) (w' : World) : Prop :=
  ∃ v ps ok, e = .returned (.tuple #[v, .bool ok]) ∧ Below w.heap.size w w' ∧ w'.ownsRow w.heap.size 50 4 v ps.length (flatP ps) ∧ ps.length ≤ 1000 ∧ (∀ p ∈ ps, NnPl p) ∧ ∀ L, okT L = true → bl s = ixL L (nb L) → ok = true ∧ ps = plsL L (nb L)
theorem IxA.no {s : ByteArray} {w w' : World} (h : ∀ L, okT L = true → bl s = ixL L (nb L) → False) (hb : Below w.heap.size w w') : IxA s w (.returned (.tuple #[.slice none 0 0, .bool false])) w' :=
  ⟨_, [], false, rfl, hb, World.ownsRow_nil _ _ _ _, by simp, by simp, fun L hL hs => (h L hL hs).elim⟩
end Go.Proofs.YtfdaffnkgpdhhaaGreat

namespace Go.Proofs.YtfdaffnkgpdhhaaGreat
open Go.RowKit
set_option linter.unusedVariables false
set_option maxRecDepth 100000

set_option maxHeartbeats 8000000 in
theorem l7Index_any (s : ByteArray) (w : World) (hs : s.size ≤ 1000) : Calls Tryz.prog 52 #[.string s] w (IxA s w) := by
  obtain ⟨i0, hi, hiz, hzs, hzb⟩ := info_parts Tryz.info50
  have HS0 : Hid (IxS (bl s) (bl s) []) := IxS.start _
  go_enter Tryz.func52, Tryz.ntmps52
  go_wp2_with fail
  go_loopw [0, 4] (fun sv ov wr => ∃ (r : ByteArray) (acc : List Pl), sv = .string r ∧ wr.ownsRow w.heap.size 50 4 ov acc.length (flatP acc) ∧ acc.length + r.size ≤ 1000 ∧ (∀ p ∈ acc, NnPl p) ∧ IxS (bl s) (bl r) acc ∧ Below w.heap.size w wr) (fun sv _ _ => strLen sv)
  case atStart => exact ⟨s, [], rfl, World.ownsRow_nil _ _ _ _, by simp; omega, by simp, HS0.out, Below.refl _ _⟩
  case round =>
    clear HS0
    obtain ⟨r, acc, rfl, hown, hlen, hnn, hst, hB⟩ := hrel
    have HS : Hid (IxS (bl s) (bl r) acc) := hst
    clear hst
    obtain ⟨la, lc, rfl⟩ := slice_form hown
    by_cases hr : r.size = 0
    · obtain rfl := empty_of_size hr
      have HD : Hid _ := HS.out.done
      clear HS
      go_wp2
      go_ret2
      exact ⟨_, acc, true, rfl, hB, hown, by omega, hnn, fun L hL hq => ⟨rfl, HD.out L hL hq⟩⟩
    · have hz' : decide ((0 : Int) < (r.size : Int)) = true := decide_eq_true (by omega)
      obtain ⟨p1, p2, p3, p4, p5⟩ := ip_bounds r
      have KA : ∀ w, Calls Tryz.prog 93 #[.string r] w fun e w' => e = .returned (.tuple #[.int .i64 ((ipA r).1 : Nat), .int .i64 ((ipA r).2 : Nat)]) ∧ w' = w := fun w => l2Take_any r w (by omega)
      have hA := take_le r
      change (ipA r).2 ≤ _ ∧ _ ≤ _ ∧ (ipA r).1 < _ at hA
      by_cases hF : ipF r
      · have KB : ∀ w, Calls Tryz.prog 93 #[.string (ipS r)] w fun e w' => e = .returned (.tuple #[.int .i64 ((ipB r).1 : Nat), .int .i64 ((ipB r).2 : Nat)]) ∧ w' = w := fun w => l2Take_any (ipS r) w (by omega)
        have KC : ∀ w, Calls Tryz.prog 93 #[.string ((ipS r).extract (ipB r).2 (ipS r).size)] w fun e w' => e = .returned (.tuple #[.int .i64 ((ipC r).1 : Nat), .int .i64 ((ipC r).2 : Nat)]) ∧ w' = w := fun w => l2Take_any _ w (by rw [ByteArray.size_extract]; omega)
        have KD : ∀ w, Calls Tryz.prog 93 #[.string ((ipS r).extract ((ipB r).2 + (ipC r).2) (ipS r).size)] w fun e w' => e = .returned (.tuple #[.int .i64 ((ipD r).1 : Nat), .int .i64 ((ipD r).2 : Nat)]) ∧ w' = w := fun w => l2Take_any _ w (by rw [ByteArray.size_extract]; omega)
        have hB1 := take_le (ipS r)
        have hC1 := take_le ((ipS r).extract (ipB r).2 (ipS r).size)
        have hD1 := take_le ((ipS r).extract ((ipB r).2 + (ipC r).2) (ipS r).size)
        change _ ∧ _ ∧ (ipB r).1 < _ at hB1
        change _ ∧ _ ∧ (ipC r).1 < _ at hC1
        change _ ∧ _ ∧ (ipD r).1 < _ at hD1
        have hb9 := hB1.2.2
        have hc9 := hC1.2.2
        have hd9 := hD1.2.2
        clear hB1 hC1 hD1
        have HN : Hid (¬ ipO r → ∀ L, okT L = true → bl s = ixL L (nb L) → False) := HS.out.stop hr
        have HY : Hid (IxS (bl s) (bl (ipR r)) (acc ++ [ipP r])) := HS.out.step hr
        have HZ : Hid (ipO r → (ipR r).size < r.size) := fun h => ipR_size h
        have HO : Hid (ipO r ↔ (ipB r).2 ≠ 0 ∧ (ipC r).2 ≠ 0 ∧ (ipD r).2 ≠ 0) := ⟨fun h => h.2, fun h => ⟨hF, h⟩⟩
        have HP : Hid (ipP r = ⟨r.extract (ipA r).2 ((ipA r).2 + (ipA r).1), ((ipB r).1 : Nat), ((ipC r).1 : Nat), ((ipD r).1 : Nat)⟩) := rfl
        have HR : Hid (ipR r = (ipS r).extract ((ipB r).2 + (ipC r).2 + (ipD r).2) (ipS r).size) := rfl
        have HQ : Hid (ipS r = r.extract ((ipA r).2 + (ipA r).1) r.size) := rfl
        obtain ⟨f1, f2⟩ := hF
        clear HS
        generalize ipO r = OK at *
        generalize ipP r = PP at *
        generalize ipR r = RR at *
        generalize (ipB r).1 = b1 at *
        generalize (ipB r).2 = b2 at *
        generalize (ipC r).1 = c1 at *
        generalize (ipC r).2 = c2 at *
        generalize (ipD r).1 = d1 at *
        generalize (ipD r).2 = d2 at *
        generalize (ipA r).1 = n at *
        generalize (ipA r).2 = a at *
        have hQ2 : r.extract (a + n) r.size = ipS r := HQ.out.symm
        clear HQ
        have g1 : ((a : Int) == 0) = false := by rw [beq_eq_false_iff_ne]; omega
        have g2 : decide ((r.size : Int) - (a : Int) < (n : Int)) = false := decide_eq_false (by omega)
        have sl1 : ∀ w, (Instr.slice 9 (.string r) (some (.int .i64 (a : Int))) (some (.int .i64 ((a : Int) + (n : Int)))) none).run Tryz.prog w = .ok (.string (r.extract a (a + n))) w := fun w => by
          rw [run_slice_string w 9 r .i64 .i64 _ _ Tryz.underlying9 (by omega) (by omega) (by omega)]
          rfl
        generalize ipS r = S at *
        generalize r.extract a (a + n) = K at *
        clear hA f1
        have hrz : r.size ≤ 1000 := by omega
        by_cases ho : b2 ≠ 0 ∧ c2 ≠ 0 ∧ d2 ≠ 0
        · have hm := HZ.out (HO.out.2 ho)
          have k1 : ((b2 : Int) == 0) = false := by rw [beq_eq_false_iff_ne]; omega
          have k2 : ((c2 : Int) == 0) = false := by rw [beq_eq_false_iff_ne]; omega
          have k3 : ((d2 : Int) == 0) = false := by rw [beq_eq_false_iff_ne]; omega
          obtain rfl : PP = ⟨K, b1, c1, d1⟩ := HP.out
          have hnn2 : ∀ p ∈ acc ++ [⟨K, (b1 : Int), (c1 : Int), (d1 : Int)⟩], NnPl p := fun p hp => (List.mem_append.1 hp).elim (hnn p) (fun h => by
            rw [List.mem_singleton.1 h]
            exact ⟨by show (0 : Int) ≤ c1; omega, by show (c1 : Int) < _; omega, by show (0 : Int) ≤ d1; omega, by show (d1 : Int) < _; omega⟩)
          clear HN HZ HO ho hnn HP
          have hRR : S.extract (b2 + c2 + d2) S.size = RR := HR.out.symm
          clear HR
          go_wp2_with fail
          refine (KA _).mono ?_
          rintro e w1 ⟨rfl, hw⟩
          rw [hw]; clear hw KA
          go_wp2_with fail
          rw [hQ2]
          refine (KB _).mono ?_
          rintro e w1 ⟨rfl, hw⟩
          rw [hw]; clear hw KB
          go_wp2_with fail
          refine (KC _).mono ?_
          rintro e w1 ⟨rfl, hw⟩
          rw [hw]; clear hw KC
          go_wp2_with fail
          refine (KD _).mono ?_
          rintro e w1 ⟨rfl, hw⟩
          rw [hw]; clear hw KD
          obtain ⟨W0, hW0⟩ : ∃ W0, W0 = wr.alloc (.cells #[.string K, .int .i64 0, .int .i64 0, .int .i64 0] 50) := ⟨_, rfl⟩
          have X0 : Box W0 wr.heap.size [.string K, .int .i64 0, .int .i64 0, .int .i64 0] := by rw [hW0]; exact Box.new wr #[.string K, .int .i64 0, .int .i64 0, .int .i64 0] 50
          have hb0 : Below wr.heap.size wr W0 := by rw [hW0]; exact below_alloc _ _
          rw [← hW0]
          have hz0 : W0.heap.size = wr.heap.size + 1 := by rw [hW0]; simp
          clear hW0
          obtain ⟨W3, hW3⟩ : ∃ W3, W3 = ((W0.setCell ⟨wr.heap.size, 1, none⟩ (.int .i64 b1)).setCell ⟨wr.heap.size, 2, none⟩ (.int .i64 c1)).setCell ⟨wr.heap.size, 3, none⟩ (.int .i64 d1) := ⟨_, rfl⟩
          have X3 : Box W3 wr.heap.size [.string K, .int .i64 b1, .int .i64 c1, .int .i64 d1] := by
            have := ((X0.set 1 (.int .i64 b1) (by simp)).set 2 (.int .i64 c1) (by simp)).set 3 (.int .i64 d1) (by simp)
            rw [hW3]; simpa using this
          have ch3 : Chg (fun j => j = wr.heap.size) wr W3 := by
            rw [hW3]
            exact Chg.setCell (Chg.setCell (Chg.setCell (S := fun j => j = wr.heap.size) (Chg.of_below hb0) (p := ⟨wr.heap.size, 1, none⟩) rfl _) (p := ⟨wr.heap.size, 2, none⟩) rfl _) (p := ⟨wr.heap.size, 3, none⟩) rfl _
          have hown3 := ch3.owns hown (fun g hg => by have := (hown.lt g hg).2; omega)
          have hB3 : Below w.heap.size w W3 := hB.trans (ch3.below hB.size (fun j hj => by have := hB.size; omega))
          have hz3 : W3.heap.size = W0.heap.size := by rw [hW3]; simp
          have hW0w : w.heap.size ≤ W0.heap.size := by have := hB.size; omega
          obtain ⟨⟨f0, f1', f2', f3⟩, zz, x0, x1, x2, x3⟩ := X0.f4
          have hown4 := hown3.alloc (.cells #[.string K, .int .i64 b1, .int .i64 c1, .int .i64 d1] 50)
          have hcn := cells_newP W3 ⟨K, b1, c1, d1⟩
          dsimp only at hcn
          rw [hz3] at hcn
          have hge := owns_ge hown
          have hzw := hB.size
          have hBz3 : w.heap.size ≤ W3.heap.size := by omega
          obtain ⟨_, y0, y1, y2, y3⟩ := X3.c4
          rw [hW3] at hcn hown4 y0 y1 y2 y3
          have HY2 : Hid (IxS (bl s) (bl RR) (acc ++ [⟨K, (b1 : Int), (c1 : Int), (d1 : Int)⟩])) := HY.out
          clear HY X0 X3 hown3 hb0 ch3 hown hB hz0
          clear hz3
          have HW3 : Hid (W3 = ((W0.setCell ⟨wr.heap.size, 1, none⟩ (.int .i64 b1)).setCell ⟨wr.heap.size, 2, none⟩ (.int .i64 c1)).setCell ⟨wr.heap.size, 3, none⟩ (.int .i64 d1)) := hW3
          clear hW3
          go_wp2_with (at_builtin; refine wpList_append_own _ rfl _ _ 40 rfl w.heap.size 50 i0 (.agg #[.string ⟨#[]⟩, .int .i64 0, .int .i64 0, .int .i64 0]) 4 40 Tryz.underlying40 hi hiz hzs hzb rfl (by decide) _ acc.length (flatP acc) rfl hown4 ⟨W0.heap.size, 0, none⟩ 1 1 [.string K, .int .i64 b1, .int .i64 c1, .int .i64 d1] rfl rfl hcn (by intro u hu; simp at hu; rcases hu with rfl | rfl | rfl | rfl <;> rfl) (by unfold maxLen; omega) (by omega) (by simp; omega) ?_; intro v' w5 hown5 hgrow5 _; refine StopU.go ?_)
          rw [← HW3.out] at hgrow5
          have hB5 : Below w.heap.size w w5 := (hB3.alloc hBz3 _).grown hgrow5 (by simp; omega) hge
          have hown6 : w5.ownsRow w.heap.size 50 4 v' (acc ++ [(⟨K, (b1 : Int), (c1 : Int), (d1 : Int)⟩ : Pl)]).length (flatP (acc ++ [⟨K, (b1 : Int), (c1 : Int), (d1 : Int)⟩])) := by rw [flatP_append, List.length_append]; exact hown5
          have hal : (acc ++ [(⟨K, (b1 : Int), (c1 : Int), (d1 : Int)⟩ : Pl)]).length = acc.length + 1 := by simp
          clear hgrow5 hcn hB3 hown4 hge hown5 y0 y1 y2 y3 x0 x1 x2 x3 f0 f1' f2' f3 hBz3 HW3
          unfold StopU
          go_wp2_with fail
          go_roundw
          case rel =>
            rw [hRR]
            exact ⟨RR, _, rfl, hown6, by omega, hnn2, HY2.out, hB5⟩
          case measure =>
            rw [hRR]
            exact hm
        · have HF : Hid (∀ L, okT L = true → bl s = ixL L (nb L) → False) := HN.out (fun h => ho (HO.out.1 h))
          clear HN HZ HO HY HP HR
          have hbb : ∀ w', Below wr.heap.size wr w' → Below w.heap.size w w' := fun w' h => below_then hB h
          have hb0 := hbb _ (below_alloc wr (.cells #[.string K, .int .i64 0, .int .i64 0, .int .i64 0] 50))
          have hcase : b2 = 0 ∨ (b2 ≠ 0 ∧ c2 = 0) ∨ (b2 ≠ 0 ∧ c2 ≠ 0 ∧ d2 = 0) := by omega
          clear ho hbb
          rcases hcase with rfl | ⟨hb2, rfl⟩ | ⟨hb2, hc2, rfl⟩
          · have hS0 : S.extract 0 S.size = S := by apply bl_inj; rw [bl_from]; simp
            rw [hS0] at KC
            rw [Nat.zero_add] at KD
            clear hS0
            go_wp2_with fail
            refine (KA _).mono ?_
            rintro e w1 ⟨rfl, hw⟩
            rw [hw]; clear hw KA
            go_wp2_with fail
            rw [hQ2]
            refine (KB _).mono ?_
            rintro e w1 ⟨rfl, hw⟩
            rw [hw]; clear hw KB
            go_wp2_with fail
            refine (KC _).mono ?_
            rintro e w1 ⟨rfl, hw⟩
            rw [hw]; clear hw KC
            go_wp2_with fail
            refine (KD _).mono ?_
            rintro e w1 ⟨rfl, hw⟩
            rw [hw]; clear hw KD
            go_wp2
            go_ret2
            exact IxA.no HF.out hb0
          · have k1 : ((b2 : Int) == 0) = false := by rw [beq_eq_false_iff_ne]; omega
            go_wp2_with fail
            refine (KA _).mono ?_
            rintro e w1 ⟨rfl, hw⟩
            rw [hw]; clear hw KA
            go_wp2_with fail
            rw [hQ2]
            refine (KB _).mono ?_
            rintro e w1 ⟨rfl, hw⟩
            rw [hw]; clear hw KB
            go_wp2_with fail
            refine (KC _).mono ?_
            rintro e w1 ⟨rfl, hw⟩
            rw [hw]; clear hw KC
            go_wp2_with fail
            refine (KD _).mono ?_
            rintro e w1 ⟨rfl, hw⟩
            rw [hw]; clear hw KD
            go_wp2
            go_ret2
            exact IxA.no HF.out hb0
          · have k1 : ((b2 : Int) == 0) = false := by rw [beq_eq_false_iff_ne]; omega
            have k2 : ((c2 : Int) == 0) = false := by rw [beq_eq_false_iff_ne]; omega
            go_wp2_with fail
            refine (KA _).mono ?_
            rintro e w1 ⟨rfl, hw⟩
            rw [hw]; clear hw KA
            go_wp2_with fail
            rw [hQ2]
            refine (KB _).mono ?_
            rintro e w1 ⟨rfl, hw⟩
            rw [hw]; clear hw KB
            go_wp2_with fail
            refine (KC _).mono ?_
            rintro e w1 ⟨rfl, hw⟩
            rw [hw]; clear hw KC
            go_wp2_with fail
            refine (KD _).mono ?_
            rintro e w1 ⟨rfl, hw⟩
            rw [hw]; clear hw KD
            go_wp2
            go_ret2
            exact IxA.no HF.out hb0
      · have HF : Hid (∀ L, okT L = true → bl s = ixL L (nb L) → False) := HS.out.stop hr (fun h => hF h.1)
        have hF2 : (ipA r).2 = 0 ∨ ((ipA r).2 ≠ 0 ∧ r.size - (ipA r).2 < (ipA r).1) := by unfold ipF at hF; omega
        clear HS hF p2 p3 p4 p5
        generalize (ipA r).1 = n at *
        generalize (ipA r).2 = a at *
        rcases hF2 with rfl | ⟨h1, h2⟩
        · go_wp2_with fail
          refine (KA _).mono ?_
          rintro e w1 ⟨rfl, hw⟩
          rw [hw]; clear hw KA
          go_wp2
          go_ret2
          exact IxA.no HF.out hB
        · have g1 : ((a : Int) == 0) = false := by rw [beq_eq_false_iff_ne]; omega
          have g2 : decide ((r.size : Int) - (a : Int) < (n : Int)) = true := decide_eq_true (by omega)
          go_wp2_with fail
          refine (KA _).mono ?_
          rintro e w1 ⟨rfl, hw⟩
          rw [hw]; clear hw KA
          go_wp2
          go_ret2
          exact IxA.no HF.out hB
end Go.Proofs.YtfdaffnkgpdhhaaGreat

