/-
  The program's findSession, findCell: comparings, slices.BinarySearchFunc.
-/
import Derived.Test.YthlllegedfjhlaaF0
namespace Go.Proofs.Ythlllegedfjhlaa
open Go.RowKit
set_option linter.unusedVariables false
set_option maxRecDepth 100000

theorem compare_any (a b : ByteArray) (w : World) : Calls Try.prog 51 #[.string a, .string b] w fun e w' => e = .returned (.int .i64 (cB a b)) ∧ w' = w := by
  unfold cB
  go_enter Try.func51, Try.ntmps51
  go_wp2
  rw [run_callFunc_extern Try.func52 (by kernel_rfl) (by kernel_rfl) (by kernel_rfl) (e := Extern.BytealgCompare.compare) (by kernel_rfl), Lib.run_compareString]
  simp only [Result.andThen]
  rw [Oper.upon_value]
  go_wp2
  go_ret
  exact ⟨rfl, rfl⟩
theorem strCompare_any (a b : ByteArray) (w : World) : Calls Try.prog 44 #[.string a, .string b] w fun e w' => e = .returned (.int .i64 (cB a b)) ∧ w' = w := by
  have K := compare_any a b w
  generalize cB a b = c at *
  go_enter Try.func44, Try.ntmps44
  go_wp2_with fail
  refine K.mono ?_
  rintro e w1 ⟨rfl, rfl⟩
  go_wp2
  go_ret
  exact ⟨rfl, rfl⟩
theorem cmpCell_any (k v key : ByteArray) (w : World) : Calls Try.prog 43 #[.agg #[.string k, .string v], .string key] w fun e w' => e = .returned (.int .i64 (cB k key)) ∧ Below w.heap.size w w' := by
  have K := fun W => strCompare_any k key W
  generalize cB k key = c at *
  go_enter Try.func43, Try.ntmps43
  go_wp2_with fail
  refine (K _).mono ?_
  rintro e w1 ⟨rfl, rfl⟩
  go_wp2
  go_ret
  exact ⟨rfl, below_alloc _ _⟩
theorem cmpSes_any (n d c : Int) (v : ByteArray) (id : Int) (w : World) : Calls Try.prog 40 #[.agg #[.int .i64 n, .int .i64 d, .int .i64 c, .string v], .int .i64 id] w fun e w' => e = .returned (.int .i64 (cI n id)) ∧ Below w.heap.size w w' := by
  have K := fun W => cmpI_any n id W
  generalize cI n id = r at *
  go_enter Try.func40, Try.ntmps40
  go_wp2_with fail
  refine (K _).mono ?_
  rintro e w1 ⟨rfl, rfl⟩
  go_wp2
  go_ret
  exact ⟨rfl, below_alloc _ _⟩
set_option maxHeartbeats 16000000 in
theorem searchS_any (v : Value) (l : List Ss) (id : Int) (w : World) (hv : SR w v l) (hn : l.length ≤ 1000) (hsr : ∀ i j (hi : i < l.length) (hj : j < l.length), i < j → l[i].n < l[j].n) :
    Calls Try.prog 39 #[v, .int .i64 id, .func (.func 40) #[] #[]] w fun e w' => e = .returned (.tuple #[.int .i64 (plc (fS id) l : Nat), .bool (hsS l id)]) ∧ Below w.heap.size w w' := by
  obtain ⟨a, cap, rfl, hc⟩ := hv
  obtain ⟨P, HP⟩ : ∃ P, Hid (plc (fS id) l = P) := ⟨plc (fS id) l, rfl⟩
  obtain ⟨R, HR⟩ : ∃ R, Hid (hsS l id = R) := ⟨hsS l id, rfl⟩
  rw [HP.out, HR.out]
  have HSR : Hid (∀ i j (hi : i < l.length) (hj : j < l.length), i < j → l[i].n < l[j].n) := hsr
  clear hsr
  go_enter Try.func39, Try.ntmps39
  go_wp2
  go_loopw [9, 10] (fun i j wr => ∃ lo hi : Nat, lo ≤ hi ∧ hi ≤ l.length ∧ i = .int .i64 lo ∧ j = .int .i64 hi ∧ ((∀ i (h : i < l.length), i < lo → fS id l[i] = true) ∧ ∀ i (h : i < l.length), hi ≤ i → fS id l[i] = false) ∧ Below w.heap.size w wr) (fun i j _ => (intOf j).toNat - (intOf i).toNat)
  case atStart => exact ⟨0, l.length, by omega, by omega, rfl, rfl, ⟨fun i h h2 => by omega, fun i h h2 => by omega⟩, Below.refl _ _⟩
  case round =>
    obtain ⟨lo, hi, hlh, hhl, rfl, rfl, hR, hb⟩ := hrel
    have HB : Hid ((∀ i (h : i < l.length), i < lo → fS id l[i] = true) ∧ ∀ i (h : i < l.length), hi ≤ i → fS id l[i] = false) := hR
    clear hR
    by_cases hlt : lo < hi
    · obtain ⟨b, off, rfl, hbl, hcell⟩ := hc (by intro e; simp [e] at hhl; omega)
      obtain ⟨m, hm⟩ : ∃ m, m = (lo + hi) / 2 := ⟨_, rfl⟩
      have hml : m < l.length := by omega
      have em : ((lo : Int) + hi) / 2 = (m : Int) := by omega
      have em2 : IntKind.i64.wrap (((lo : Int) + hi) / 2) = (m : Int) := by rw [em, IntKind.wrap_i64]; omega
      have hm1 : lo ≤ m := by omega
      have hm2 : m < hi := by omega
      have hz := hb.size
      have q0 := (hb.cell (p := ⟨b, off + m * 4, none⟩) hbl).trans (hcell m hml).1
      have q1 := (hb.cell (p := ⟨b, off + m * 4 + 1, none⟩) hbl).trans (hcell m hml).2.1
      have q2 := (hb.cell (p := ⟨b, off + m * 4 + 2, none⟩) hbl).trans (hcell m hml).2.2.1
      have q3 := (hb.cell (p := ⟨b, off + m * 4 + 3, none⟩) hbl).trans (hcell m hml).2.2.2
      have KO := fun w => cmpSes_any l[m].n l[m].d l[m].c l[m].v id w
      have HCL : cI l[m].n id < 0 ↔ fS id l[m] = true := (cI_lt l[m].n id).trans (by unfold fS; simp)
      cases HF : (fS id l[m]) with
      | true =>
        have hcm : cI l[m].n id < 0 := HCL.2 HF
        have HR2 : Hid ((∀ i (h : i < l.length), i < m + 1 → fS id l[i] = true) ∧ ∀ i (h : i < l.length), hi ≤ i → fS id l[i] = false) := by
          refine ⟨fun i h h2 => ?_, HB.out.2⟩
          rcases Nat.eq_or_lt_of_le (show i ≤ m from by omega) with hh | hh
          · subst hh; exact HF
          · have hsr := HSR.out; exact by unfold fS at HF ⊢; simp only [decide_eq_true_eq] at HF ⊢; have := hsr i m h hml hh; omega
        clear hcell hc HB hm HCL HF
        generalize cI l[m].n id = c at *
        generalize l[m] = s at *
        obtain ⟨sn, sd, sc, sv⟩ := s
        dsimp only at *
        go_wp2_with fail
        refine (KO _).mono ?_
        rintro e w1 ⟨rfl, hb1⟩
        have hB1 := below_then hb hb1
        clear KO hb hb1 q0 q1 q2 q3
        go_wp2
        go_roundw
        case rel => exact ⟨m + 1, hi, by omega, hhl, by go_num, rfl, HR2.out, hB1⟩
        case measure => simp [intOf]; omega
      | false =>
        have hcm : ¬ cI l[m].n id < 0 := fun h => by rw [HCL.1 h] at HF; cases HF
        have HR2 : Hid ((∀ i (h : i < l.length), i < lo → fS id l[i] = true) ∧ ∀ i (h : i < l.length), m ≤ i → fS id l[i] = false) := by
          refine ⟨HB.out.1, fun i h h2 => ?_⟩
          rcases Nat.eq_or_lt_of_le h2 with hh | hh
          · subst hh; exact HF
          · rw [Bool.eq_false_iff]
            intro hy
            have hsr := HSR.out
            exact by unfold fS at HF hy; simp only [decide_eq_true_eq, decide_eq_false_iff_not] at HF hy; have := hsr m i hml h hh; omega
        clear hcell hc HB hm HCL HF
        generalize cI l[m].n id = c at *
        generalize l[m] = s at *
        obtain ⟨sn, sd, sc, sv⟩ := s
        dsimp only at *
        go_wp2_with fail
        refine (KO _).mono ?_
        rintro e w1 ⟨rfl, hb1⟩
        have hB1 := below_then hb hb1
        clear KO hb hb1 q0 q1 q2 q3
        go_wp2
        go_roundw
        case rel => exact ⟨lo, m, by omega, by omega, rfl, by go_num, HR2.out, hB1⟩
        case measure => simp [intOf]; omega
    · obtain rfl : lo = hi := by omega
      have hp : plc (fS id) l = lo := plc_one (fS id) l lo hhl HB.out.1 fun h => HB.out.2 lo h (Nat.le_refl _)
      have HK : Hid (P = lo) := by show _ = _; rw [← HP.out, hp]
      clear HB HP
      have hz := hb.size
      by_cases hll : lo < l.length
      · obtain ⟨b, off, rfl, hbl, hcell⟩ := hc (by intro e; simp [e] at hll)
        have q0 := (hb.cell (p := ⟨b, off + lo * 4, none⟩) hbl).trans (hcell lo hll).1
        have q1 := (hb.cell (p := ⟨b, off + lo * 4 + 1, none⟩) hbl).trans (hcell lo hll).2.1
        have q2 := (hb.cell (p := ⟨b, off + lo * 4 + 2, none⟩) hbl).trans (hcell lo hll).2.2.1
        have q3 := (hb.cell (p := ⟨b, off + lo * 4 + 3, none⟩) hbl).trans (hcell lo hll).2.2.2
        have KO := fun w => cmpSes_any l[lo].n l[lo].d l[lo].c l[lo].v id w
        have HH : Hid ((cI l[lo].n id == 0) = R) := by show _ = _; rw [← HR.out, hsS_at l id lo hp hll, Bool.eq_iff_iff, beq_iff_eq, cI_eq l[lo].n id]; simp
        clear hcell hc HR hp
        generalize cI l[lo].n id = c at *
        generalize l[lo] = s at *
        obtain ⟨sn, sd, sc, sv⟩ := s
        dsimp only at *
        go_wp2_with fail
        refine (KO _).mono ?_
        rintro e w1 ⟨rfl, hb1⟩
        have hB1 := below_then hb hb1
        clear KO hb hb1 q0 q1 q2 q3
        go_wp2
        go_ret2
        exact ⟨by rw [HK.out, ← HH.out]; simp, hB1⟩
      · have HH : Hid (R = false) := by show _ = _; rw [← HR.out, hsS_end l id lo hp hll]
        clear hc HR hp
        go_wp2
        go_ret2
        exact ⟨by rw [HK.out, HH.out]; simp, hb⟩
set_option maxHeartbeats 16000000 in
theorem searchC_any (v : Value) (l : List Pr) (key : ByteArray) (w : World) (hv : PR w v l) (hn : l.length ≤ 1000) (hsr : ∀ i j (hi : i < l.length) (hj : j < l.length), i < j → less l[i].k l[j].k = true) :
    Calls Try.prog 42 #[v, .string key, .func (.func 43) #[] #[]] w fun e w' => e = .returned (.tuple #[.int .i64 (plc (fC key) l : Nat), .bool (hsC l key)]) ∧ Below w.heap.size w w' := by
  obtain ⟨a, cap, rfl, hc⟩ := hv
  obtain ⟨P, HP⟩ : ∃ P, Hid (plc (fC key) l = P) := ⟨plc (fC key) l, rfl⟩
  obtain ⟨R, HR⟩ : ∃ R, Hid (hsC l key = R) := ⟨hsC l key, rfl⟩
  rw [HP.out, HR.out]
  have HSR : Hid (∀ i j (hi : i < l.length) (hj : j < l.length), i < j → less l[i].k l[j].k = true) := hsr
  clear hsr
  go_enter Try.func42, Try.ntmps42
  go_wp2
  go_loopw [9, 10] (fun i j wr => ∃ lo hi : Nat, lo ≤ hi ∧ hi ≤ l.length ∧ i = .int .i64 lo ∧ j = .int .i64 hi ∧ ((∀ i (h : i < l.length), i < lo → fC key l[i] = true) ∧ ∀ i (h : i < l.length), hi ≤ i → fC key l[i] = false) ∧ Below w.heap.size w wr) (fun i j _ => (intOf j).toNat - (intOf i).toNat)
  case atStart => exact ⟨0, l.length, by omega, by omega, rfl, rfl, ⟨fun i h h2 => by omega, fun i h h2 => by omega⟩, Below.refl _ _⟩
  case round =>
    obtain ⟨lo, hi, hlh, hhl, rfl, rfl, hR, hb⟩ := hrel
    have HB : Hid ((∀ i (h : i < l.length), i < lo → fC key l[i] = true) ∧ ∀ i (h : i < l.length), hi ≤ i → fC key l[i] = false) := hR
    clear hR
    by_cases hlt : lo < hi
    · obtain ⟨b, off, rfl, hbl, hcell⟩ := hc (by intro e; simp [e] at hhl; omega)
      obtain ⟨m, hm⟩ : ∃ m, m = (lo + hi) / 2 := ⟨_, rfl⟩
      have hml : m < l.length := by omega
      have em : ((lo : Int) + hi) / 2 = (m : Int) := by omega
      have em2 : IntKind.i64.wrap (((lo : Int) + hi) / 2) = (m : Int) := by rw [em, IntKind.wrap_i64]; omega
      have hm1 : lo ≤ m := by omega
      have hm2 : m < hi := by omega
      have hz := hb.size
      have q0 := (hb.cell (p := ⟨b, off + m * 2, none⟩) hbl).trans (hcell m hml).1
      have q1 := (hb.cell (p := ⟨b, off + m * 2 + 1, none⟩) hbl).trans (hcell m hml).2
      have KO := fun w => cmpCell_any l[m].k l[m].v key w
      have HCL : cB l[m].k key < 0 ↔ fC key l[m] = true := cB_lt l[m].k key
      cases HF : (fC key l[m]) with
      | true =>
        have hcm : cB l[m].k key < 0 := HCL.2 HF
        have HR2 : Hid ((∀ i (h : i < l.length), i < m + 1 → fC key l[i] = true) ∧ ∀ i (h : i < l.length), hi ≤ i → fC key l[i] = false) := by
          refine ⟨fun i h h2 => ?_, HB.out.2⟩
          rcases Nat.eq_or_lt_of_le (show i ≤ m from by omega) with hh | hh
          · subst hh; exact HF
          · have hsr := HSR.out; exact less_trans (hsr i m h hml hh) HF
        clear hcell hc HB hm HCL HF
        generalize cB l[m].k key = c at *
        generalize l[m] = s at *
        obtain ⟨sk, sv⟩ := s
        dsimp only at *
        go_wp2_with fail
        refine (KO _).mono ?_
        rintro e w1 ⟨rfl, hb1⟩
        have hB1 := below_then hb hb1
        clear KO hb hb1 q0 q1
        go_wp2
        go_roundw
        case rel => exact ⟨m + 1, hi, by omega, hhl, by go_num, rfl, HR2.out, hB1⟩
        case measure => simp [intOf]; omega
      | false =>
        have hcm : ¬ cB l[m].k key < 0 := fun h => by rw [HCL.1 h] at HF; cases HF
        have HR2 : Hid ((∀ i (h : i < l.length), i < lo → fC key l[i] = true) ∧ ∀ i (h : i < l.length), m ≤ i → fC key l[i] = false) := by
          refine ⟨HB.out.1, fun i h h2 => ?_⟩
          rcases Nat.eq_or_lt_of_le h2 with hh | hh
          · subst hh; exact HF
          · rw [Bool.eq_false_iff]
            intro hy
            have hsr := HSR.out
            exact by have e := less_trans (hsr m i hml h hh) hy; rw [show fC key l[m] = less l[m].k key from rfl, e] at HF; cases HF
        clear hcell hc HB hm HCL HF
        generalize cB l[m].k key = c at *
        generalize l[m] = s at *
        obtain ⟨sk, sv⟩ := s
        dsimp only at *
        go_wp2_with fail
        refine (KO _).mono ?_
        rintro e w1 ⟨rfl, hb1⟩
        have hB1 := below_then hb hb1
        clear KO hb hb1 q0 q1
        go_wp2
        go_roundw
        case rel => exact ⟨lo, m, by omega, by omega, rfl, by go_num, HR2.out, hB1⟩
        case measure => simp [intOf]; omega
    · obtain rfl : lo = hi := by omega
      have hp : plc (fC key) l = lo := plc_one (fC key) l lo hhl HB.out.1 fun h => HB.out.2 lo h (Nat.le_refl _)
      have HK : Hid (P = lo) := by show _ = _; rw [← HP.out, hp]
      clear HB HP
      have hz := hb.size
      by_cases hll : lo < l.length
      · obtain ⟨b, off, rfl, hbl, hcell⟩ := hc (by intro e; simp [e] at hll)
        have q0 := (hb.cell (p := ⟨b, off + lo * 2, none⟩) hbl).trans (hcell lo hll).1
        have q1 := (hb.cell (p := ⟨b, off + lo * 2 + 1, none⟩) hbl).trans (hcell lo hll).2
        have KO := fun w => cmpCell_any l[lo].k l[lo].v key w
        have HH : Hid ((cB l[lo].k key == 0) = R) := by show _ = _; rw [← HR.out, hsC_at l key lo hp hll, Bool.eq_iff_iff, beq_iff_eq, cB_eq l[lo].k key]; simp
        clear hcell hc HR hp
        generalize cB l[lo].k key = c at *
        generalize l[lo] = s at *
        obtain ⟨sk, sv⟩ := s
        dsimp only at *
        go_wp2_with fail
        refine (KO _).mono ?_
        rintro e w1 ⟨rfl, hb1⟩
        have hB1 := below_then hb hb1
        clear KO hb hb1 q0 q1
        go_wp2
        go_ret2
        exact ⟨by rw [HK.out, ← HH.out]; simp, hB1⟩
      · have HH : Hid (R = false) := by show _ = _; rw [← HR.out, hsC_end l key lo hp hll]
        clear hc HR hp
        go_wp2
        go_ret2
        exact ⟨by rw [HK.out, HH.out]; simp, hb⟩
theorem findSession_any (a c : Value) (C : List Pr) (S : List Ss) (id : Int) (w : World) (h : KR w a c C S) (hn : S.length ≤ 1000) (hsr : ∀ i j (hi : i < S.length) (hj : j < S.length), i < j → S[i].n < S[j].n) :
    Calls Try.prog 27 #[.agg #[a, c], .int .i64 id] w fun e w' => e = .returned (.tuple #[.int .i64 (plc (fS id) S : Nat), .bool (hsS S id)]) ∧ Below w.heap.size w w' := by
  have KS := fun W' (hb : Below w.heap.size w W') => searchS_any c S id W' (h.2.below hb) hn hsr
  obtain ⟨⟨xa, xb, rfl, _⟩, ya, yb, rfl, _⟩ := h
  have B0 := below_alloc w (.cells #[.slice xa C.length xb, .slice ya S.length yb] 31)
  generalize plc (fS id) S = p at *
  generalize hsS S id = hh at *
  go_enter Try.func27, Try.ntmps27
  go_wp2_with fail
  refine (KS _ B0).mono ?_
  rintro e w1 ⟨rfl, hb1⟩
  have B1 := below_then B0 hb1
  clear KS hb1 B0
  go_wp2
  go_ret2
  exact ⟨rfl, B1⟩
theorem findCell_any (a c : Value) (C : List Pr) (S : List Ss) (key : ByteArray) (w : World) (h : KR w a c C S) (hn : C.length ≤ 1000) (hsr : ∀ i j (hi : i < C.length) (hj : j < C.length), i < j → less C[i].k C[j].k = true) :
    Calls Try.prog 30 #[.agg #[a, c], .string key] w fun e w' => e = .returned (.tuple #[.int .i64 (plc (fC key) C : Nat), .bool (hsC C key)]) ∧ Below w.heap.size w w' := by
  have KS := fun W' (hb : Below w.heap.size w W') => searchC_any a C key W' (h.1.below hb) hn hsr
  obtain ⟨⟨xa, xb, rfl, _⟩, ya, yb, rfl, _⟩ := h
  have B0 := below_alloc w (.cells #[.slice xa C.length xb, .slice ya S.length yb] 31)
  generalize plc (fC key) C = p at *
  generalize hsC C key = hh at *
  go_enter Try.func30, Try.ntmps30
  go_wp2_with fail
  refine (KS _ B0).mono ?_
  rintro e w1 ⟨rfl, hb1⟩
  have B1 := below_then B0 hb1
  clear KS hb1 B0
  go_wp2
  go_ret2
  exact ⟨rfl, B1⟩
end Go.Proofs.Ythlllegedfjhlaa
