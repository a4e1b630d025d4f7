/-
  Which items are seen: spec's l8Seen.
-/
import Derived.Test.YtjenogmpmkkbiaaS8
import Derived.Test.YtjenogmpmkkbiaaA8
namespace Go.Proofs.Ytjenogmpmkkbiaa
open Go.RowKit
set_option linter.unusedVariables false
set_option maxRecDepth 100000

theorem last_at (L : List It) (m : Nat) (h : m + 1 = L.length) : L.getLast? = some (L[m]'(by omega)) := by
  rw [List.getLast?_eq_getElem?, show L.length - 1 = m from by omega, List.getElem?_eq_getElem]

set_option maxHeartbeats 4000000 in
theorem l8Seen_any (v : Value) (l : List It) (q : Int) (w : World) (hv : IR w v l) (hn : l.length ≤ 1048576) (hg : goodR l = true) :
    Calls Try.prog 84 #[v, .int .i64 q] w fun e w' => ∃ u, e = .returned u ∧ w'.ownsRow w.heap.size 83 4 u (seenL l q).length (flat4 (seenL l q)) ∧ Below w.heap.size w w' := by
  obtain ⟨a, cap, rfl, hc⟩ := hv
  obtain ⟨i0, hi, hz0, hzs, hzb⟩ := info_parts Try.info83
  go_enter Try.func84, Try.ntmps84
  go_wp2
  go_loopw [5, 10] (fun t i wr => ∃ k : Nat, k ≤ l.length ∧ i = .int .i64 k ∧ wr.ownsRow w.heap.size 83 4 t (seenTo l q k).length (flat4 (seenTo l q k)) ∧ Below w.heap.size w wr) (fun _ i _ => l.length - (intOf i).toNat)
  case atStart => exact ⟨0, Nat.zero_le _, rfl, World.ownsRow_nil _ _ _ _, Below.refl _ _⟩
  case round =>
    obtain ⟨k, hk, rfl, hown, hb⟩ := hrel
    have hz := hb.size
    have hir := IR_of_owns hown rfl
    obtain ⟨av, cv, rfl, hcv⟩ := hir
    by_cases hlt : k < l.length
    · obtain ⟨b, off, rfl, hbl, hcell⟩ := hc (by intro e; simp [e] at hlt)
      have hc0 := (hb.cell (p := ⟨b, off + k * 4, none⟩) hbl).trans (hcell k hlt).1
      have hc1 := (hb.cell (p := ⟨b, off + k * 4 + 1, none⟩) hbl).trans (hcell k hlt).2.1
      have hc2 := (hb.cell (p := ⟨b, off + k * 4 + 2, none⟩) hbl).trans (hcell k hlt).2.2.1
      have hc3 := (hb.cell (p := ⟨b, off + k * 4 + 3, none⟩) hbl).trans (hcell k hlt).2.2.2
      have hbW : b < wr.heap.size := by omega
      have HSB := seen_spec hg q k hlt
      rw [getD_at l k hlt] at HSB
      have HT : Hid (seenTo l q (k + 1) = if seenB l q k = true then seenTo l q k ++ [l[k]] else seenTo l q k) := by show _ = _; rw [seenTo, getD_at l k hlt]
      have hlen := seenTo_len l q k
      clear hcell hc
      generalize hsb : seenB l q k = sb at *
      generalize seenTo l q k = L at *
      generalize l[k] = s at *
      clear hsb
      have hlt7 := owns_below_lt hown
      by_cases hq : s.n ≤ q
      · rw [decide_eq_true hq, Bool.true_and] at HSB
        have hq2 := decide_eq_true hq
        by_cases hL0 : L = []
        · subst hL0
          have HT2 : Hid (seenTo l q (k + 1) = [s]) := by show _ = _; rw [HT.out, HSB]; rfl
          clear HT HSB hcv hlen
          obtain ⟨sk, sn, sd, sv⟩ := s
          dsimp only at *
          obtain ⟨W0, hW0⟩ : ∃ W0, W0 = wr.alloc (.cells #[.string sk, .int .i64 sn, .int .i64 sd, .string sv] 83) := ⟨_, rfl⟩
          go_wp2_with fail
          go_quiet (fail)
          clear hc0 hc1 hc2 hc3
          rw [← hW0]
          have hbX : Below wr.heap.size wr (W0.drewN nq) := by rw [hW0]; exact below_drewN (below_alloc _ _) _
          have X2 : Box (W0.drewN nq) wr.heap.size [.string sk, .int .i64 sn, .int .i64 sd, .string sv] := by rw [hW0]; exact (Box.new wr #[.string sk, .int .i64 sn, .int .i64 sd, .string sv] 83).below (below_drewN (Below.refl _ _) _)
          clear hW0
          generalize W0.drewN nq = w2 at *
          clear W0
          have hown2 := owns_below hown hbX
          have hB2 := hb.trans (hbX.mono hz)
          have hz2 := hB2.size
          have hz3 := hbX.size
          have hlt8 := owns_below_lt hown2
          have hcn := cells_new4 w2 ⟨sk, sn, sd, sv⟩
          obtain ⟨_, x0, x1, x2, x3⟩ := X2.c4
          have hnn : ∀ b, some b = Value.ownBlock (.slice av 0 cv) → b < wr.heap.size := fun b h => hlt7 b h.symm
          clear hown hb
          go_wp2_with (at_builtin; refine wpList_append_own _ rfl _ _ 23 rfl w.heap.size 83 i0 (.agg #[.string ⟨#[]⟩, .int .i64 0, .int .i64 0, .string ⟨#[]⟩]) 4 48 Try.underlying23 hi hz0 hzs hzb rfl (by decide) _ 0 (flat4 []) rfl (owns_below hown2 (below_alloc _ _)) ⟨w2.heap.size, 0, none⟩ 1 1 (flat4 [⟨sk, sn, sd, sv⟩]) rfl rfl hcn (one4 _) (by unfold maxLen; omega) (by omega) (by simp; omega) ?_; intro v' w3 hown3 hgrow3 _)
          go_roundw
          case rel =>
            refine ⟨k + 1, by omega, by go_num, by rw [HT2.out]; exact hown3, (hB2.alloc hz2 _).grown hgrow3 (by simp; omega) (owns_ge hown2)⟩
          case measure => simp [intOf]; omega
        · obtain ⟨m, hm⟩ : ∃ m, m + 1 = L.length := ⟨L.length - 1, by have := List.length_pos_iff.2 hL0; omega⟩
          obtain ⟨g', off', rfl, hgl, hce⟩ := hcv hL0
          have d0 := (hce m (by omega)).1
          have hla := last_at L m hm
          rw [hla] at HSB
          dsimp only at HSB
          have hml : m < L.length := by omega
          have hkq := keyEq L[m].k s.k
          obtain ⟨N, hNL⟩ : ∃ N, N = L.length := ⟨_, rfl⟩
          have n1 : ((N : Int) == 0) = false := by simp; omega
          have n2 : decide ((N : Int) = 0) = false := decide_eq_false (by omega)
          have n3 : (N : Int) - 1 = (m : Int) := by omega
          have n4 : IntKind.i64.wrap ((N : Int) - 1) = (m : Int) := by rw [n3, IntKind.wrap_i64]; omega
          have n5 : IntKind.i64.wrap (m : Int) = (m : Int) := by rw [IntKind.wrap_i64]; omega
          have n6 : m < N := by omega
          have n7 : N ≤ 1048576 := by omega
          obtain ⟨yk, hyk⟩ : ∃ yk, yk = L[m].k := ⟨_, rfl⟩
          rw [← hyk] at d0 HSB hkq
          have HN : Hid (N = L.length) := hNL
          rw [← hNL] at hown
          clear hce hcv hla hm hml hyk hL0 hlen
          rw [← hNL] at hlt7 ⊢
          clear hNL
          by_cases hy : yk = s.k
          · rw [decide_eq_true hy] at HSB hkq
            have HT2 : Hid (seenTo l q (k + 1) = L) := by show _ = _; rw [HT.out, HSB]; rfl
            clear HT HSB hlt7 hi hz0 hzs hzb
            obtain ⟨sk, sn, sd, sv⟩ := s
            dsimp only at *
            subst hy
            go_wp2_with fail
            go_quiet (fail)
            go_wp2
            go_roundw
            case rel => exact ⟨k + 1, by omega, by go_num, by rw [HT2.out, ← HN.out]; exact owns_below hown (below_drewN (below_alloc _ _) _), hb.trans (below_drewN ((below_alloc _ _).mono hz) _)⟩
            case measure => simp [intOf]; omega
          · rw [decide_eq_false hy] at HSB hkq
            have HT2 : Hid (seenTo l q (k + 1) = L ++ [s]) := by show _ = _; rw [HT.out, HSB]; rfl
            clear HT HSB hy
            obtain ⟨sk, sn, sd, sv⟩ := s
            dsimp only at *
            obtain ⟨W0, hW0⟩ : ∃ W0, W0 = wr.alloc (.cells #[.string sk, .int .i64 sn, .int .i64 sd, .string sv] 83) := ⟨_, rfl⟩
            go_wp2_with fail
            go_quiet (fail)
            clear hc0 hc1 hc2 hc3 d0
            rw [← hW0]
            have hbX : Below wr.heap.size wr (W0.drewN nq) := by rw [hW0]; exact below_drewN (below_alloc _ _) _
            have X2 : Box (W0.drewN nq) wr.heap.size [.string sk, .int .i64 sn, .int .i64 sd, .string sv] := by rw [hW0]; exact (Box.new wr #[.string sk, .int .i64 sn, .int .i64 sd, .string sv] 83).below (below_drewN (Below.refl _ _) _)
            clear hW0
            generalize W0.drewN nq = w2 at *
            clear W0
            have hown2 := owns_below hown hbX
            have hB2 := hb.trans (hbX.mono hz)
            have hz2 := hB2.size
            have hz3 := hbX.size
            have hcn := cells_new4 w2 ⟨sk, sn, sd, sv⟩
            obtain ⟨_, x0, x1, x2, x3⟩ := X2.c4
            clear hown hb
            go_wp2_with (at_builtin; refine wpList_append_own _ rfl _ _ 23 rfl w.heap.size 83 i0 (.agg #[.string ⟨#[]⟩, .int .i64 0, .int .i64 0, .string ⟨#[]⟩]) 4 48 Try.underlying23 hi hz0 hzs hzb rfl (by decide) _ N (flat4 L) rfl (owns_below hown2 (below_alloc _ _)) ⟨w2.heap.size, 0, none⟩ 1 1 (flat4 [⟨sk, sn, sd, sv⟩]) rfl rfl hcn (one4 _) (by unfold maxLen; omega) (by omega) (by simp; omega) ?_; intro v' w3 hown3 hgrow3 _)
            go_roundw
            case rel =>
              refine ⟨k + 1, by omega, by go_num, by rw [HT2.out, List.length_append, flat4_append, ← HN.out]; exact hown3, (hB2.alloc hz2 _).grown hgrow3 (by simp; omega) (owns_ge hown2)⟩
            case measure => simp [intOf]; omega
      · rw [decide_eq_false hq, Bool.false_and] at HSB
        have HT2 : Hid (seenTo l q (k + 1) = L) := by show _ = _; rw [HT.out, HSB]; rfl
        have hq2 := decide_eq_false hq
        clear HT HSB hcv hlt7 hi hz0 hzs hzb
        obtain ⟨sk, sn, sd, sv⟩ := s
        dsimp only at *
        go_wp2_with fail
        go_quiet (fail)
        go_wp2
        go_roundw
        case rel => exact ⟨k + 1, by omega, by go_num, by rw [HT2.out]; exact owns_below hown (below_drewN (below_alloc _ _) _), hb.trans (below_drewN ((below_alloc _ _).mono hz) _)⟩
        case measure => simp [intOf]; omega
    · obtain rfl : k = l.length := by omega
      clear hc hcv hi hz0 hzs hzb
      go_wp2
      go_ret
      exact ⟨_, rfl, hown, hb⟩
end Go.Proofs.Ytjenogmpmkkbiaa
