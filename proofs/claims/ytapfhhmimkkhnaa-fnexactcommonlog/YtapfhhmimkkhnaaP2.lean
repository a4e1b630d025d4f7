/-
  slices.Index, slices.Contains, l10Has; goodEntries, l11Entries.
-/
import Derived.Test.YtapfhhmimkkhnaaP1
namespace Go.Proofs.Ytapfhhmimkkhnaa
open Go.RowKit
set_option linter.unusedVariables false
set_option maxRecDepth 100000

theorem index_any (v : Value) (zs : List Int) (x : Int) (w : World) (hv : IL w v zs) (hn : zs.length ≤ 1048576) :
    Calls Try.prog 170 #[v, .int .i64 x] w fun e w' => ∃ r : Int, e = .returned (.int .i64 r) ∧ decide (0 ≤ r) = hsI zs x ∧ w' = w := by
  obtain ⟨a, cap, rfl, hc⟩ := hv
  go_enter Try.func170, Try.ntmps170
  go_wp2
  go_loopw [8] (fun i wr => ∃ k : Nat, k ≤ zs.length ∧ i = .int .i64 k ∧ hsI zs x = hsI (zs.drop k) x ∧ wr = w) (fun i _ => zs.length - (intOf i).toNat)
  case atStart => exact ⟨0, Nat.zero_le _, rfl, rfl, rfl⟩
  case round =>
    obtain ⟨k, hk, rfl, hg, rfl⟩ := hrel
    by_cases hlt : k < zs.length
    · obtain ⟨b, off, rfl, hbl, hcell⟩ := hc (by intro e; simp [e] at hlt)
      have hc0 := hcell k hlt
      have HD : Hid (hsI zs x = (zs[k] == x || hsI (zs.drop (k + 1)) x)) := by show _ = _; rw [hg, hsI_drop zs x k hlt]
      clear hcell hc hg
      generalize zs[k] = s at *
      by_cases hx : x = s
      · go_wp2
        go_ret
        exact ⟨_, rfl, by rw [HD.out, hx]; simp, rfl⟩
      · have hx' : ¬ s = x := fun h => hx h.symm
        go_wp2
        go_roundw
        case rel => exact ⟨k + 1, by omega, by go_num, by rw [HD.out, beq_false_of_ne hx']; rfl, by first | rfl | trivial⟩
        case measure => simp [intOf]; omega
    · obtain rfl : k = zs.length := by omega
      have HD : Hid (hsI zs x = false) := by show _ = _; rw [hg, List.drop_length]; rfl
      clear hc hg
      go_wp2
      go_ret
      exact ⟨_, rfl, by rw [HD.out]; rfl, rfl⟩
theorem contains_any (v : Value) (zs : List Int) (x : Int) (w : World) (hv : IL w v zs) (hn : zs.length ≤ 1048576) :
    Calls Try.prog 158 #[v, .int .i64 x] w fun e w' => e = .returned (.bool (hsI zs x)) ∧ w' = w := by
  have K := index_any v zs x w hv hn
  generalize hsI zs x = R at *
  obtain ⟨a, cap, rfl, hc⟩ := hv
  go_enter Try.func158, Try.ntmps158
  go_wp2_with fail
  refine K.mono ?_
  rintro e w1 ⟨r, rfl, hr, rfl⟩
  clear K hc
  by_cases h : 0 ≤ r
  · have HR : Hid (R = true) := by show _ = _; rw [← hr]; simp [h]
    clear hr
    go_wp2
    go_ret
    exact ⟨by rw [HR.out]; simp <;> omega, rfl⟩
  · have HR : Hid (R = false) := by show _ = _; rw [← hr]; simp; omega
    clear hr
    go_wp2
    go_ret
    exact ⟨by rw [HR.out]; simp <;> omega, rfl⟩
theorem l10Has_any (v : Value) (zs : List Int) (x : Int) (w : World) (hv : IL w v zs) (hn : zs.length ≤ 1048576) :
    Calls Try.prog 116 #[v, .int .i64 x] w fun e w' => e = .returned (.bool (hsI zs x)) ∧ w' = w := by
  obtain ⟨a, cap, rfl, hc⟩ := hv
  go_enter Try.func116, Try.ntmps116
  go_wp2
  go_loopw [9] (fun i wr => ∃ k : Nat, k ≤ zs.length ∧ i = .int .i64 k ∧ hsI zs x = hsI (zs.drop k) x ∧ wr = w) (fun i _ => zs.length - (intOf i).toNat)
  case atStart => exact ⟨0, Nat.zero_le _, rfl, rfl, rfl⟩
  case round =>
    obtain ⟨k, hk, rfl, hg, rfl⟩ := hrel
    by_cases hlt : k < zs.length
    · obtain ⟨b, off, rfl, hbl, hcell⟩ := hc (by intro e; simp [e] at hlt)
      have hc0 := hcell k hlt
      have HD : Hid (hsI zs x = (zs[k] == x || hsI (zs.drop (k + 1)) x)) := by show _ = _; rw [hg, hsI_drop zs x k hlt]
      clear hcell hc hg
      generalize zs[k] = s at *
      by_cases hx : s = x
      · go_wp2
        go_ret
        exact ⟨by rw [HD.out, hx]; simp, rfl⟩
      · go_wp2
        go_roundw
        case rel => exact ⟨k + 1, by omega, by go_num, by rw [HD.out, beq_false_of_ne hx]; rfl, by first | rfl | trivial⟩
        case measure => simp [intOf]; omega
    · obtain rfl : k = zs.length := by omega
      have HD : Hid (hsI zs x = false) := by show _ = _; rw [hg, List.drop_length]; rfl
      clear hc hg
      go_wp2
      go_ret
      exact ⟨by rw [HD.out]; try rfl, by first | rfl | trivial⟩

theorem Box.b2 {w : World} {b : Nat} {v0 v1 : Value} (h : Box w b [v0, v1]) : b < w.heap.size ∧ w.cell? ⟨b, 0, none⟩ = some v0 ∧ w.cell? ⟨b, 1, none⟩ = some v1 := ⟨h.1, h.2.1 0 _ rfl, h.2.1 1 _ rfl⟩
set_option maxHeartbeats 2000000 in
theorem goodEntries_any (v : Value) (l : List En) (T : Int) (w : World) (hv : ER w v l) (hn : l.length ≤ 1048576) (hs : ∀ i (h : i < l.length), l[i].d.size ≤ 1048576) :
    Calls Try.prog 110 #[v, .int .i64 T] w fun e w' => e = .returned (.bool (gE T 0 l)) ∧ Below w.heap.size w w' := by
  obtain ⟨a, cap, rfl, hc⟩ := hv
  go_enter Try.func110, Try.ntmps110
  go_wp2
  go_loopw [5, 10] (fun p i wr => ∃ (k : Nat) (z : Int), k ≤ l.length ∧ i = .int .i64 k ∧ p = .int .i64 z ∧ gE T 0 l = gE T z (l.drop k) ∧ Below w.heap.size w wr) (fun _ i _ => l.length - (intOf i).toNat)
  case atStart => exact ⟨0, 0, Nat.zero_le _, rfl, rfl, rfl, Below.refl _ _⟩
  case round =>
    obtain ⟨k, z, hk, rfl, rfl, hg, hb⟩ := hrel
    by_cases hlt : k < l.length
    · obtain ⟨b, off, rfl, hbl, hcell⟩ := hc (by intro e; simp [e] at hlt)
      have hc0 := (hb.cell (p := ⟨b, off + k * 2, none⟩) hbl).trans (hcell k hlt).1
      have hc1 := (hb.cell (p := ⟨b, off + k * 2 + 1, none⟩) hbl).trans (hcell k hlt).2
      have HD : Hid (gE T 0 l = (goodEn l[k] && decide (z ≤ l[k].t) && decide (l[k].t ≤ T) && gE T l[k].t (l.drop (k + 1)))) := by show _ = _; rw [hg, gE_drop T z l k hlt]
      have hsk := hs k hlt
      clear hcell hc hg hs
      generalize l[k] = s at *
      obtain ⟨st, sd⟩ := s
      dsimp only at hc0 hc1 HD hsk
      have KE := fun w => goodEntry_any st sd w hsk
      have hz := hb.size
      have hB0 := hb.alloc hz (.cells #[.int .i64 st, .string sd] 34)
      have X0 := Box.new wr #[.int .i64 st, .string sd] 34
      generalize goodEn ⟨st, sd⟩ = ge at *
      go_wp2_with fail
      refine (KE _).mono ?_
      rintro e w1 ⟨rfl, hb1⟩
      have hB1 := hB0.trans (hb1.mono hB0.size)
      have X1 := X0.below hb1
      obtain ⟨hx0, x0, x1⟩ := X1.b2
      clear KE hB0 X0 hb1 hb
      cases ge with
      | false =>
        go_wp2
        go_ret
        exact ⟨by rw [HD.out]; rfl, hB1⟩
      | true =>
        by_cases h1 : st < z
        · go_wp2
          go_ret
          exact ⟨by rw [HD.out]; simp <;> omega, hB1⟩
        · by_cases h2 : T < st
          · go_wp2
            go_ret
            exact ⟨by rw [HD.out]; simp <;> omega, hB1⟩
          · have HD2 : Hid (gE T 0 l = gE T st (l.drop (k + 1))) := by
              show _ = _
              rw [HD.out, decide_eq_true (show z ≤ st from by omega), decide_eq_true (show st ≤ T from by omega)]; rfl
            clear HD
            go_wp2
            go_roundw
            case rel => exact ⟨k + 1, st, by omega, by go_num, rfl, HD2.out, hB1⟩
            case measure => simp [intOf]; omega
    · obtain rfl : k = l.length := by omega
      have HD : Hid (gE T 0 l = true) := by show _ = _; rw [hg, List.drop_length]; rfl
      clear hc hg
      go_wp2
      go_ret
      exact ⟨by rw [HD.out]; try rfl, hb⟩
set_option maxHeartbeats 2000000 in
theorem l11Entries_any (v : Value) (l : List En) (T : Int) (w : World) (hv : ER w v l) (hn : l.length ≤ 1048576) (hs : ∀ i (h : i < l.length), l[i].d.size ≤ 1048576) :
    Calls Try.prog 115 #[v, .int .i64 1, .int .i64 T] w fun e w' => e = .returned (.bool (gE T 0 l && decide ((l.length : Int) ≤ 60))) ∧ Below w.heap.size w w' := by
  rw [← gE_one]
  obtain ⟨a, cap, rfl, hc⟩ := hv
  go_enter Try.func115, Try.ntmps115
  go_wp2
  go_loopw [1, 11] (fun p i wr => ∃ (k : Nat) (z : Int), k ≤ l.length ∧ i = .int .i64 k ∧ p = .int .i64 z ∧ gE T 1 l = gE T z (l.drop k) ∧ Below w.heap.size w wr) (fun _ i _ => l.length - (intOf i).toNat)
  case atStart => exact ⟨0, 1, Nat.zero_le _, rfl, rfl, rfl, Below.refl _ _⟩
  case round =>
    obtain ⟨k, z, hk, rfl, rfl, hg, hb⟩ := hrel
    by_cases hlt : k < l.length
    · obtain ⟨b, off, rfl, hbl, hcell⟩ := hc (by intro e; simp [e] at hlt)
      have hc0 := (hb.cell (p := ⟨b, off + k * 2, none⟩) hbl).trans (hcell k hlt).1
      have hc1 := (hb.cell (p := ⟨b, off + k * 2 + 1, none⟩) hbl).trans (hcell k hlt).2
      have HD : Hid (gE T 1 l = (goodEn l[k] && inB l[k].t z T && gE T l[k].t (l.drop (k + 1)))) := by show _ = _; rw [hg, gE_drop T z l k hlt]; unfold inB; simp only [Bool.and_assoc]
      have hsk := hs k hlt
      clear hcell hc hg hs
      generalize l[k] = s at *
      obtain ⟨st, sd⟩ := s
      dsimp only at hc0 hc1 HD hsk
      have KE := fun w => l3Entry_any st sd w hsk
      have KI := fun w => l1In_any st z T w
      have hz := hb.size
      have hB0 := hb.alloc hz (.cells #[.int .i64 st, .string sd] 34)
      have X0 := Box.new wr #[.int .i64 st, .string sd] 34
      generalize goodEn ⟨st, sd⟩ = ge at *
      generalize inB st z T = gi at *
      go_wp2_with fail
      refine (KE _).mono ?_
      rintro e w1 ⟨rfl, hb1⟩
      have hB1 := hB0.trans (hb1.mono hB0.size)
      have X1 := X0.below hb1
      obtain ⟨hx0, x0, x1⟩ := X1.b2
      clear KE hB0 X0 hb1 hb
      cases ge with
      | false =>
        go_wp2
        go_ret
        exact ⟨by rw [HD.out]; rfl, hB1⟩
      | true =>
        go_wp2_with fail
        refine (KI _).mono ?_
        rintro e w2 ⟨rfl, rfl⟩
        clear KI
        cases gi with
        | false =>
          go_wp2
          go_ret
          exact ⟨by rw [HD.out]; rfl, hB1⟩
        | true =>
          go_wp2
          go_roundw
          case rel => exact ⟨k + 1, st, by omega, by go_num, rfl, HD.out, hB1⟩
          case measure => simp [intOf]; omega
    · obtain rfl : k = l.length := by omega
      have HD : Hid (gE T 1 l = true) := by show _ = _; rw [hg, List.drop_length]; rfl
      clear hc hg
      go_wp2
      go_ret
      exact ⟨by rw [HD.out]; simp, hb⟩
end Go.Proofs.Ytapfhhmimkkhnaa
