/-
  A frame that is taken: spec.l2TakeFrame, spec.TakeFrame, impl.TakeFrame.
-/
import Derived.Test.YtenbdjlhcadhaaaGreatV2ToF1
namespace Go.Proofs.YtenbdjlhcadhaaaGreat
open Go.RowKit
set_option maxRecDepth 100000
set_option linter.unusedVariables false

/-- The text of the frame ahead, where there is one. -/
def tfBody (s : ByteArray) : ByteArray := s.extract ((take s.data.toList).2 + 4) ((take s.data.toList).2 + 4 + (take s.data.toList).1)
def tfWord (s : ByteArray) : ByteArray := ⟨(wordL (csum (tfBody s).data.toList)).toArray⟩
def tfSaid (s : ByteArray) : ByteArray := s.extract (take s.data.toList).2 ((take s.data.toList).2 + 4)
def tfFits (s : ByteArray) : Prop := (take s.data.toList).2 ≠ 0 ∧ (take s.data.toList).1 ≤ 1000 ∧ (take s.data.toList).2 + 4 + (take s.data.toList).1 ≤ s.size
instance (s : ByteArray) : Decidable (tfFits s) := by unfold tfFits; infer_instance
def tfOk (s : ByteArray) : Bool := decide (tfFits s) && decide (tfWord s = tfSaid s)
def tfT (s : ByteArray) : ByteArray := if tfOk s then tfBody s else ⟨#[]⟩
def tfN (s : ByteArray) : Nat := if tfOk s then (take s.data.toList).2 + 4 + (take s.data.toList).1 else 0
def tfR (s : ByteArray) : Value := .tuple #[.string (tfT s), .int .i64 (tfN s : Nat), .bool (tfOk s)]
theorem tfR_no (s : ByteArray) (h : tfOk s = false) : tfR s = .tuple #[.string ⟨#[]⟩, .int .i64 0, .bool false] := by simp [tfR, tfT, tfN, h]
theorem tfR_yes (s : ByteArray) (h : tfOk s = true) : tfR s = .tuple #[.string (tfBody s), .int .i64 (((take s.data.toList).2 + 4 + (take s.data.toList).1 : Nat) : Int), .bool true] := by simp [tfR, tfT, tfN, h]
theorem tfBody_size (s : ByteArray) (h : tfFits s) : (tfBody s).size = (take s.data.toList).1 := by
  obtain ⟨_, _, h3⟩ := h
  rw [tfBody, ByteArray.size_extract]; omega

theorem tl_ne {a b : ByteArray} (h : a ≠ b) : (a.toList == b.toList) = false := by
  rw [ByteArray.toList_eq, ByteArray.toList_eq]
  exact beq_false_of_ne fun e => h (ByteArray.ext (by
    have := congrArg List.toArray e
    simpa using this))
theorem tl_eq {a b : ByteArray} (h : a = b) : (a.toList == b.toList) = true := by rw [h]; exact beq_self_eq_true _
theorem sl_body (s : ByteArray) (w : World) (t n : Nat) (h3 : t + 4 + n ≤ s.size) : (Instr.slice 9 (.string s) (some (.int .i64 ((t : Int) + 4))) (some (.int .i64 ((t : Int) + 4 + n))) none).run Tryz.prog w = .ok (.string (s.extract (t + 4) (t + 4 + n))) w := by
  rw [run_slice_string w 9 s .i64 .i64 _ _ Tryz.underlying9 (by omega) (by omega) (by omega)]
  rfl
theorem sl_said (s : ByteArray) (w : World) (t : Nat) (h3 : t + 4 ≤ s.size) : (Instr.slice 9 (.string s) (some (.int .i64 (t : Int))) (some (.int .i64 ((t : Int) + 4))) none).run Tryz.prog w = .ok (.string (s.extract t (t + 4))) w := by
  rw [run_slice_string w 9 s .i64 .i64 _ _ Tryz.underlying9 (by omega) (by omega) (by omega)]
  rfl

set_option maxRecDepth 100000 in
set_option maxHeartbeats 1000000 in
theorem l2TakeFrame_r (s : ByteArray) (w : World) (hs : s.size ≤ 1048576) :
    Calls Tryz.prog 70 #[.string s] w fun e w' => e = .returned (tfR s) ∧ Below w.heap.size w w' := by
  obtain ⟨hb1, hb2, hb3⟩ := take_bound s.data.toList
  have hlen : s.data.toList.length = s.size := by simp
  rw [hlen] at hb3
  go_enter Tryz.func70, Tryz.ntmps70
  go_wp2_with fail
  refine (l2Take_any s _ hs).mono ?_
  rintro e w1 ⟨rfl, rfl⟩
  have hbody := tfBody_size s
  by_cases hf : tfFits s
  · have hbs := hbody hf
    clear hbody
    have HF : Hid (tfFits s) := hf
    obtain ⟨h1, h2, h3⟩ := hf
    have HB : Hid (tfBody s = s.extract ((take s.data.toList).2 + 4) ((take s.data.toList).2 + 4 + (take s.data.toList).1)) := rfl
    have HS : Hid (tfSaid s = s.extract (take s.data.toList).2 ((take s.data.toList).2 + 4)) := rfl
    have HY := fun h => tfR_yes s h
    generalize hn : (take s.data.toList).1 = n at *
    generalize ht : (take s.data.toList).2 = t at *
    clear hn ht
    have g1 : ((t : Int) == 0) = false := by simp; omega
    have g2 : decide (1000 < (n : Int)) = false := by simp; omega
    have g3 : decide ((s.size : Int) < (t : Int) + 4 + n) = false := by simp; omega
    have hsl := sl_body s w1 t n h3
    rw [← HB.out] at hsl
    have p0 : ∀ x : WC w1.heap.size w1, (Instr.slice 9 (.string s) (some (.int .i64 (t : Int))) (some (.int .i64 ((t : Int) + 4))) none).run Tryz.prog x.w = .ok (.string (tfSaid s)) x.w := fun x => by rw [HS.out]; exact sl_said s x.w t (by omega)
    have KA : Hid (∀ x : WC w1.heap.size w1, Calls Tryz.prog 67 #[.string (tfBody s)] x.w fun e w'' => e = .returned (.int .u32 ((csum (tfBody s).data.toList : Nat) : Int)) ∧ ∃ m : WC w1.heap.size w1, w'' = m.w) :=
      fun x => calm_of_below (Nat.le_refl _) (l2Sum_any _ _ (by omega))
    have KB : Hid (∀ x : WC w1.heap.size w1, Calls Tryz.prog 66 #[.int .u32 ((csum (tfBody s).data.toList : Nat) : Int)] x.w fun e w'' => e = .returned (.string (tfWord s)) ∧ ∃ m : WC w1.heap.size w1, w'' = m.w) :=
      fun x => calm_of_below (Nat.le_refl _) (l2Word_any _ _ (csum_lt _))
    have hne : Nonempty (WC w1.heap.size w1) := ⟨⟨_, Below.refl _ _⟩⟩
    by_cases he : tfWord s = tfSaid s
    · have hy := HY (by rw [tfOk, decide_eq_true HF.out, decide_eq_true he]; rfl)
      have g4 := tl_eq he
      go_wp2_with fail
      refine wp_region_calm (B := w1.heap.size) (W := w1) (by kernel_rfl) (by kernel_rfl) (Below.refl _ _) ?_
      repeat (go_big_quiet_step (first | (go_at_call 67; exact KA.out _) | (go_at_call 66; exact KB.out _)))
      refine wpQuiet_nil ?_
      intro _ hw'
      obtain ⟨x, hx⟩ := hw'
      subst hx
      go_wp2
      refine bodyPost_ret (v := tfR s) ?_ rfl ⟨rfl, x.ok⟩
      rw [hy]; simp [results, Tryz.results70, go_sem]
    · have hy := tfR_no s (by rw [tfOk, decide_eq_false he, Bool.and_false])
      have g4 := tl_ne he
      go_wp2_with fail
      refine wp_region_calm (B := w1.heap.size) (W := w1) (by kernel_rfl) (by kernel_rfl) (Below.refl _ _) ?_
      repeat (go_big_quiet_step (first | (go_at_call 67; exact KA.out _) | (go_at_call 66; exact KB.out _)))
      refine wpQuiet_nil ?_
      intro _ hw'
      obtain ⟨x, hx⟩ := hw'
      subst hx
      go_wp2
      refine bodyPost_ret (v := tfR s) ?_ rfl ⟨rfl, x.ok⟩
      rw [hy]; simp [results, Tryz.results70, go_sem]
  · have hy := tfR_no s (by rw [tfOk, decide_eq_false hf, Bool.false_and])
    have HF : Hid (¬ tfFits s) := hf
    have hf' : (take s.data.toList).2 = 0 ∨ 1000 < (take s.data.toList).1 ∨ s.size < (take s.data.toList).2 + 4 + (take s.data.toList).1 := by
      unfold tfFits at hf; omega
    clear hf hbody
    generalize (take s.data.toList).1 = n at *
    generalize (take s.data.toList).2 = t at *
    by_cases c1 : t = 0
    · have g1 : ((t : Int) == 0) = true := by simp; omega
      go_wp2
      refine bodyPost_ret (v := tfR s) ?_ rfl ⟨rfl, Below.refl _ _⟩
      rw [hy]; simp [results, Tryz.results70, go_sem]
    · have g1 : ((t : Int) == 0) = false := by simp; omega
      by_cases c2 : 1000 < n
      · have g2 : decide (1000 < (n : Int)) = true := by simp; omega
        go_wp2
        refine bodyPost_ret (v := tfR s) ?_ rfl ⟨rfl, Below.refl _ _⟩
        rw [hy]; simp [results, Tryz.results70, go_sem]
      · have g2 : decide (1000 < (n : Int)) = false := by simp; omega
        have g3 : decide ((s.size : Int) < (t : Int) + 4 + n) = true := by simp; omega
        go_wp2
        refine bodyPost_ret (v := tfR s) ?_ rfl ⟨rfl, Below.refl _ _⟩
        rw [hy]; simp [results, Tryz.results70, go_sem]

theorem l2TakeFrame_any (s : ByteArray) (w : World) (hs : s.size ≤ 1048576) :
    Calls Tryz.prog 70 #[.string s] w fun e w' => e = .returned (.tuple #[.string (tfT s), .int .i64 (tfN s : Nat), .bool (tfOk s)]) ∧ Below w.heap.size w w' :=
  l2TakeFrame_r s w hs

set_option maxRecDepth 100000 in
set_option maxHeartbeats 1000000 in
theorem implTakeFrame_r (s : ByteArray) (w : World) (hs : s.size ≤ 1048576) :
    Calls Tryz.prog 36 #[.string s] w fun e w' => e = .returned (tfR s) ∧ Below w.heap.size w w' := by
  obtain ⟨hb1, hb2, hb3⟩ := take_bound s.data.toList
  have hlen : s.data.toList.length = s.size := by simp
  rw [hlen] at hb3
  go_enter Tryz.func36, Tryz.ntmps36
  go_wp2_with fail
  refine (implTake_any s _ hs).mono ?_
  rintro e w1 ⟨rfl, rfl⟩
  have hbody := tfBody_size s
  by_cases hf : tfFits s
  · have hbs := hbody hf
    clear hbody
    have HF : Hid (tfFits s) := hf
    obtain ⟨h1, h2, h3⟩ := hf
    have HB : Hid (tfBody s = s.extract ((take s.data.toList).2 + 4) ((take s.data.toList).2 + 4 + (take s.data.toList).1)) := rfl
    have HS : Hid (tfSaid s = s.extract (take s.data.toList).2 ((take s.data.toList).2 + 4)) := rfl
    have HY := fun h => tfR_yes s h
    generalize hn : (take s.data.toList).1 = n at *
    generalize ht : (take s.data.toList).2 = t at *
    clear hn ht
    have g1 : ((t : Int) == 0) = false := by simp; omega
    have g2 : decide (1000 < (n : Int)) = false := by simp; omega
    have g3 : decide ((s.size : Int) < (t : Int) + 4 + n) = false := by simp; omega
    have hsl := sl_body s w1 t n h3
    rw [← HB.out] at hsl
    have p0 : ∀ x : WC w1.heap.size w1, (Instr.slice 9 (.string s) (some (.int .i64 (t : Int))) (some (.int .i64 ((t : Int) + 4))) none).run Tryz.prog x.w = .ok (.string (tfSaid s)) x.w := fun x => by rw [HS.out]; exact sl_said s x.w t (by omega)
    have KA : Hid (∀ x : WC w1.heap.size w1, Calls Tryz.prog 69 #[.string (tfBody s)] x.w fun e w'' => e = .returned (.int .u32 ((csum (tfBody s).data.toList : Nat) : Int)) ∧ ∃ m : WC w1.heap.size w1, w'' = m.w) :=
      fun x => calm_of_below (Nat.le_refl _) (implSum_any _ _ (by omega))
    have KB : Hid (∀ x : WC w1.heap.size w1, Calls Tryz.prog 68 #[.int .u32 ((csum (tfBody s).data.toList : Nat) : Int)] x.w fun e w'' => e = .returned (.string (tfWord s)) ∧ ∃ m : WC w1.heap.size w1, w'' = m.w) :=
      fun x => calm_of_below (Nat.le_refl _) (wordBytes_any _ _ (csum_lt _))
    have hne : Nonempty (WC w1.heap.size w1) := ⟨⟨_, Below.refl _ _⟩⟩
    by_cases he : tfWord s = tfSaid s
    · have hy := HY (by rw [tfOk, decide_eq_true HF.out, decide_eq_true he]; rfl)
      have g4 := tl_eq he.symm
      go_wp2_with fail
      refine wp_region_calm (B := w1.heap.size) (W := w1) (by kernel_rfl) (by kernel_rfl) (Below.refl _ _) ?_
      repeat (go_big_quiet_step (first | (go_at_call 69; exact KA.out _) | (go_at_call 68; exact KB.out _)))
      refine wpQuiet_nil ?_
      intro _ hw'
      obtain ⟨x, hx⟩ := hw'
      subst hx
      go_wp2
      refine bodyPost_ret (v := tfR s) ?_ rfl ⟨rfl, x.ok⟩
      rw [hy]; simp [results, Tryz.results36, go_sem]
    · have hy := tfR_no s (by rw [tfOk, decide_eq_false he, Bool.and_false])
      have g4 := tl_ne (Ne.symm he)
      go_wp2_with fail
      refine wp_region_calm (B := w1.heap.size) (W := w1) (by kernel_rfl) (by kernel_rfl) (Below.refl _ _) ?_
      repeat (go_big_quiet_step (first | (go_at_call 69; exact KA.out _) | (go_at_call 68; exact KB.out _)))
      refine wpQuiet_nil ?_
      intro _ hw'
      obtain ⟨x, hx⟩ := hw'
      subst hx
      go_wp2
      refine bodyPost_ret (v := tfR s) ?_ rfl ⟨rfl, x.ok⟩
      rw [hy]; simp [results, Tryz.results36, go_sem]
  · have hy := tfR_no s (by rw [tfOk, decide_eq_false hf, Bool.false_and])
    have HF : Hid (¬ tfFits s) := hf
    have hf' : (take s.data.toList).2 = 0 ∨ 1000 < (take s.data.toList).1 ∨ s.size < (take s.data.toList).2 + 4 + (take s.data.toList).1 := by
      unfold tfFits at hf; omega
    clear hf hbody
    generalize (take s.data.toList).1 = n at *
    generalize (take s.data.toList).2 = t at *
    by_cases c1 : t = 0
    · have g1 : ((t : Int) == 0) = true := by simp; omega
      go_wp2
      refine bodyPost_ret (v := tfR s) ?_ rfl ⟨rfl, Below.refl _ _⟩
      rw [hy]; simp [results, Tryz.results36, go_sem]
    · have g1 : ((t : Int) == 0) = false := by simp; omega
      by_cases c2 : 1000 < n
      · have g2 : decide (1000 < (n : Int)) = true := by simp; omega
        go_wp2
        refine bodyPost_ret (v := tfR s) ?_ rfl ⟨rfl, Below.refl _ _⟩
        rw [hy]; simp [results, Tryz.results36, go_sem]
      · have g2 : decide (1000 < (n : Int)) = false := by simp; omega
        have g3 : decide ((s.size : Int) < (t : Int) + 4 + n) = true := by simp; omega
        go_wp2
        refine bodyPost_ret (v := tfR s) ?_ rfl ⟨rfl, Below.refl _ _⟩
        rw [hy]; simp [results, Tryz.results36, go_sem]

theorem implTakeFrame_any (s : ByteArray) (w : World) (hs : s.size ≤ 1048576) :
    Calls Tryz.prog 36 #[.string s] w fun e w' => e = .returned (.tuple #[.string (tfT s), .int .i64 (tfN s : Nat), .bool (tfOk s)]) ∧ Below w.heap.size w w' :=
  implTakeFrame_r s w hs

end Go.Proofs.YtenbdjlhcadhaaaGreat
