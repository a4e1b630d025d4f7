/-
  The tail of what is no block; reading a block: spec.l6Read.
-/
import Derived.Test.YtniepppbbkoanaaL7
import Derived.Test.YtniepppbbkoanaaB5
namespace Go.Proofs.Ytniepppbbkoanaa
open Go.RowKit
set_option linter.unusedVariables false
set_option maxRecDepth 100000

set_option maxHeartbeats 4000000 in
theorem l6Tail_no (s : ByteArray) (w : World) (hs : s.size ≤ 1048576) (hno : tlOk s = false) :
    Calls Try.prog 66 #[.string s] w fun e w' => e = .returned (.tuple #[.string ⟨#[]⟩, .slice none 0 0, .bool false]) ∧ Below w.heap.size w w' := by
  have hne : Nonempty (WC w.heap.size w) := ⟨⟨_, Below.refl _ _⟩⟩
  by_cases h6 : 6 ≤ s.size
  · obtain ⟨e, he⟩ : ∃ e, s.size = e + 6 := ⟨s.size - 6, by omega⟩
    obtain ⟨d, hd⟩ : ∃ d, d = e + 2 := ⟨_, rfl⟩
    have hmn : many (bl s) = lo2 (bl s) e := by unfold many; rw [bl_len, he, Nat.add_sub_cancel]
    have HF : Hid ((decide (2 * many (bl s) ≤ e) && decide (tx (wordL (csum (bl (s.extract 0 d)))) = s.extract d s.size)) = false) := by
      show _ = _
      unfold tlOk parts sumOk at hno
      rw [bl_len, show s.size - 6 = e from by omega, show s.size - 4 = d from by omega, decide_eq_true h6, Bool.true_and] at hno
      exact hno
    clear hno
    have E1 : (s.size : Int) - 6 = (e : Int) := by omega
    have E2 : (e : Int) + 2 = (d : Int) := by omega
    have hn0 : decide ((e : Int) < 0) = false := decide_eq_false (by omega)
    have heA : e + 6 ≤ s.size := by omega
    have heB : s.size ≤ e + 6 := by omega
    have hSz : (s.extract 0 d).size ≤ 1048576 := by rw [ByteArray.size_extract]; omega
    have KS := fun w => l2Sum_any (s.extract 0 d) w hSz
    have KW := fun w => l2Word_any (csum (bl (s.extract 0 d))) w (csum_lt _)
    rw [show csum (s.extract 0 d).data.toList = csum (bl (s.extract 0 d)) from rfl] at KS
    rw [show (⟨(wordL (csum (bl (s.extract 0 d)))).toArray⟩ : ByteArray) = tx (wordL (csum (bl (s.extract 0 d)))) from rfl] at KW
    generalize tx (wordL (csum (bl (s.extract 0 d)))) = T at *
    generalize csum (bl (s.extract 0 d)) = cs at *
    have i1 : d ≤ s.size := by omega
    obtain ⟨f, hf⟩ : ∃ f, f = e + 1 := ⟨_, rfl⟩
    have j0 : e < s.size := by omega
    have j1 : f < s.size := by omega
    by_cases hT : T = s.extract d s.size
    · have hm3 : ¬ 2 * many (bl s) ≤ e := fun h => by have := HF.out; rw [decide_eq_true h, decide_eq_true hT] at this; cases this
      have c0 := s[e].toNat_lt
      have c1 := s[f].toNat_lt
      have E3 : (e : Int) + 1 = (f : Int) := by omega
      have V3 : IntKind.i64.wrap (f : Int) = (f : Int) := by rw [IntKind.wrap_i64]; omega
      have V0 : IntKind.i64.wrap (s[e].toNat : Int) = (s[e].toNat : Int) := by rw [IntKind.wrap_i64]; omega
      have V1 : IntKind.i64.wrap (s[f].toNat : Int) = (s[f].toNat : Int) := by rw [IntKind.wrap_i64]; omega
      have V2 : IntKind.i64.wrap ((s[f].toNat : Int) * 256) = (s[f].toNat : Int) * 256 := by rw [IntKind.wrap_i64]; omega
      have V4 : bits BinOp.or IntKind.i64 (s[e].toNat : Int) ((s[f].toNat : Int) * 256) = ((many (bl s) : Nat) : Int) := by subst hf; rw [hmn]; exact lo2_bits s e j1
      have hml := lo2_lt (bl s) e
      rw [← hmn] at hml
      subst hT
      clear hf hmn hd he HF h6
      generalize many (bl s) = m at *
      have F1 : (e : Int) - 2 * (m : Int) < 0 := by omega
      clear hm3
      go_enter Try.func66, Try.ntmps66
      go_wp2_with fail
      refine wp_region_calm (B := w.heap.size) (W := w) (by kernel_rfl) (by kernel_rfl) (Below.refl _ _) ?_
      repeat (go_big_quiet_step (first | (go_at_call 72; with_reducible exact calm_of_below (Nat.le_refl _) (KS _)) | (go_at_call 71; with_reducible exact calm_of_below (Nat.le_refl _) (KW _))))
      refine wpQuiet_nil ?_
      intro _ hw'
      obtain ⟨x, hx⟩ := hw'
      subst hx
      have hB1 := x.ok
      clear KS KW hne
      generalize x.w = w1 at *
      clear x
      go_wp2_with fail
      go_quiet (fail)
      have hB2 := below_drewN hB1 nq
      go_wp2
      refine bodyPost_ret (v := .tuple #[.string ⟨#[]⟩, .slice none 0 0, .bool false]) ?_ rfl ⟨rfl, hB2⟩
      simp [results, Try.results66, go_sem]
    · have hT2 : (T.toList == (s.extract d s.size).toList) = false := by
        rw [Bool.eq_false_iff]
        intro h
        apply hT
        have := eq_of_beq h
        rw [ByteArray.toList_eq, ByteArray.toList_eq] at this
        exact bl_inj this
      clear hf hmn hd he HF h6 hT
      go_enter Try.func66, Try.ntmps66
      go_wp2_with fail
      refine wp_region_calm (B := w.heap.size) (W := w) (by kernel_rfl) (by kernel_rfl) (Below.refl _ _) ?_
      repeat (go_big_quiet_step (first | (go_at_call 72; with_reducible exact calm_of_below (Nat.le_refl _) (KS _)) | (go_at_call 71; with_reducible exact calm_of_below (Nat.le_refl _) (KW _))))
      refine wpQuiet_nil ?_
      intro _ hw'
      obtain ⟨x, hx⟩ := hw'
      subst hx
      have hB1 := x.ok
      clear KS KW hne
      generalize x.w = w1 at *
      clear x
      go_wp2
      refine bodyPost_ret (v := .tuple #[.string ⟨#[]⟩, .slice none 0 0, .bool false]) ?_ rfl ⟨rfl, hB1⟩
      simp [results, Try.results66, go_sem]
  · have E1 : (s.size : Int) - 6 < 0 := by omega
    have E2 : decide ((s.size : Int) - 6 < 0) = true := decide_eq_true E1
    clear hno
    go_enter Try.func66, Try.ntmps66
    go_wp2_with fail
    refine wp_region_calm (B := w.heap.size) (W := w) (by kernel_rfl) (by kernel_rfl) (Below.refl _ _) ?_
    repeat (go_big_quiet_step (fail))
    refine wpQuiet_nil ?_
    intro _ hw'
    obtain ⟨x, hx⟩ := hw'
    subst hx
    have hB1 := x.ok
    clear hne
    generalize x.w = w1 at *
    clear x
    go_wp2
    refine bodyPost_ret (v := .tuple #[.string ⟨#[]⟩, .slice none 0 0, .bool false]) ?_ rfl ⟨rfl, hB1⟩
    simp [results, Try.results66, go_sem]
end Go.Proofs.Ytniepppbbkoanaa
