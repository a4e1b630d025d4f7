/-
  Slices of texts: eqStringS, markStringS, heldStringS.
-/
import Derived.Test.YtoiajjlbajdknaaM2
namespace Go.Proofs.Ytoiajjlbajdknaa
open Go.RowKit
set_option linter.unusedVariables false

/-- The value v is a slice whose elements are the texts l. -/
def SL (w : World) (v : Value) (l : List ByteArray) : Prop :=
  ∃ a cap, v = .slice a l.length cap ∧ (l ≠ [] → ∃ b off, a = some ⟨b, off, none⟩ ∧ b < w.heap.size ∧ ∀ i (h : i < l.length), w.cell? ⟨b, off + i, none⟩ = some (.string l[i]))
theorem SL_of_owns {w : World} {base : Nat} {e : TypeId} {v : Value} {l : List ByteArray} (h : w.ownsRow base e 1 v l.length (l.map Value.string)) : SL w v l := by
  have h' := h
  obtain ⟨hl, h⟩ := h
  rcases h with ⟨rfl, h0⟩ | ⟨g, cap, cur, rfl, hbg, hh, hcap, hm, hsz, htk⟩
  · exact ⟨none, 0, by rw [h0], fun hne => absurd (List.length_eq_zero_iff.1 h0) hne⟩
  · refine ⟨_, cap, rfl, fun _ => ⟨g, 0, rfl, (Array.getElem?_eq_some_iff.1 hh).1, fun i hi => ?_⟩⟩
    rw [Nat.zero_add, h'.cellAt i (by omega)]
    simp [hi]

set_option maxHeartbeats 400000 in
theorem eqStringS_same (u v : Value) (l : List ByteArray) (w : World) (hu : SL w u l) (hv : SL w v l) (hn : l.length ≤ 1048576) :
    Calls Try.prog 39 #[u, v] w fun e w' => e = .returned (.bool true) ∧ Below w.heap.size w w' := by
  obtain ⟨a, cap, rfl, hc⟩ := hu
  obtain ⟨a', cap', rfl, hc'⟩ := hv
  go_enter Try.func39, Try.ntmps39
  go_wp2
  go_loopw [5] (fun i wr => ∃ k : Nat, k ≤ l.length ∧ i = .int .i64 k ∧ Below w.heap.size w wr) (fun i _ => l.length - (intOf i).toNat)
  case atStart => exact ⟨0, Nat.zero_le _, rfl, Below.refl _ _⟩
  case round =>
    obtain ⟨k, hk, rfl, hb⟩ := hrel
    by_cases hlt : k < l.length
    · obtain ⟨b, off, rfl, hbl, hcell⟩ := hc (by intro e; simp [e] at hlt)
      obtain ⟨b', off', rfl, hbl', hcell'⟩ := hc' (by intro e; simp [e] at hlt)
      obtain ⟨s, hse⟩ : ∃ s, s = l[k] := ⟨_, rfl⟩
      have hc0 : wr.cell? ⟨b, off + k, none⟩ = some (.string s) := by rw [hse]; exact (hb.cell (p := ⟨b, off + k, none⟩) hbl).trans (hcell k hlt)
      have hd0 : wr.cell? ⟨b', off' + k, none⟩ = some (.string s) := by rw [hse]; exact (hb.cell (p := ⟨b', off' + k, none⟩) hbl').trans (hcell' k hlt)
      clear hcell hse hc hcell' hc'
      go_wp2_with fail
      go_quiet (fail)
      go_wp2
      go_roundw
      case rel => exact ⟨k + 1, by omega, by go_num, below_drewN hb _⟩
      case measure => simp [intOf]; omega
    · go_wp2
      go_ret
      exact ⟨rfl, hb⟩

/-- Marks of a row of texts. -/
def mkLS (k : Int) (l : List ByteArray) : Nat → List ByteArray
  | 0 => l
  | j + 1 => (mkLS k l j).set j (mkT (k + j))
theorem mkLS_length (k : Int) (l : List ByteArray) (j : Nat) : (mkLS k l j).length = l.length := by
  induction j with
  | zero => rfl
  | succ j ih => simp [mkLS, ih]
theorem mkLS_get (k : Int) (l : List ByteArray) (j i : Nat) (hi : i < l.length) : (mkLS k l j)[i]? = if i < j then some (mkT (k + i)) else l[i]? := by
  induction j with
  | zero => simp [mkLS]
  | succ j ih =>
    simp only [mkLS]
    by_cases h : i = j
    · subst h
      rw [List.getElem?_set_self (by rw [mkLS_length]; exact hi), if_pos (by omega)]
    · rw [List.getElem?_set_ne (by omega), ih]
      by_cases h2 : i < j
      · rw [if_pos h2, if_pos (by omega)]
      · rw [if_neg h2, if_neg (by omega)]
def mkAllS (k : Int) (n : Nat) : List ByteArray := (List.range n).map fun i : Nat => mkT (k + (i : Int))
theorem mkAllS_length (k : Int) (n : Nat) : (mkAllS k n).length = n := by simp [mkAllS]
theorem mkLS_all (k : Int) (l : List ByteArray) : mkLS k l l.length = mkAllS k l.length := by
  apply List.ext_getElem?
  intro i
  by_cases hi : i < l.length
  · rw [mkLS_get k l _ i hi, if_pos hi]; simp [mkAllS, hi]
  · rw [List.getElem?_eq_none (by rw [mkLS_length]; omega), List.getElem?_eq_none (by rw [mkAllS_length]; omega)]

set_option maxRecDepth 100000 in
set_option maxHeartbeats 1000000 in
theorem markStringS_at (g cap base : Nat) (l : List ByteArray) (k : Int) (w : World) (ho : w.ownsRow base 9 1 (.slice (some ⟨g, 0, none⟩) l.length cap) l.length (l.map Value.string)) (hn : l.length ≤ 1048576) (h1 : 1 ≤ k) (h2 : k ≤ 10000000) :
    Calls Try.prog 40 #[.slice (some ⟨g, 0, none⟩) l.length cap, .int .i64 k] w fun e w' => e = .returned (.int .i64 (k + l.length)) ∧ w'.ownsRow base 9 1 (.slice (some ⟨g, 0, none⟩) l.length cap) l.length ((mkAllS k l.length).map Value.string) ∧ Chg (· = g) w w' := by
  go_enter Try.func40, Try.ntmps40
  go_wp2
  go_loopw [1, 5] (fun t i wr => ∃ j : Nat, j ≤ l.length ∧ i = .int .i64 j ∧ t = .int .i64 (k + j) ∧ wr.ownsRow base 9 1 (.slice (some ⟨g, 0, none⟩) l.length cap) l.length ((mkLS k l j).map Value.string) ∧ Chg (· = g) w wr) (fun _ i _ => l.length - (intOf i).toNat)
  case atStart => exact ⟨0, Nat.zero_le _, rfl, by go_num, ho, Chg.refl _ _⟩
  case round =>
    clear ho
    obtain ⟨j, hj, rfl, rfl, hown, hch⟩ := hrel
    by_cases hlt : j < l.length
    · have HL : Hid ((mkLS k l j).length = l.length) := mkLS_length k l j
      have hgl := (owns_lt hown).2
      go_wp2_with fail
      refine (markText_any _ _ (by omega) (by omega)).mono ?_
      rintro e w1 ⟨rfl, hb1⟩
      have hown1 := owns_below hown hb1
      have hc1 : Chg (· = g) w w1 := hch.trans (Chg.of_below hb1)
      have d0 : w1.cell? ⟨g, j, none⟩ = some (.string ((mkLS k l j)[j]'(by rw [HL.out]; exact hlt))) := by
        rw [hown1.cellAt j (by omega)]; simp [HL.out, hlt]
      have f0 := hown1.frozenAt j
      have HO : Hid _ := (hown1.stored j (.string (mkT (k + j)))).1
      have HN : Hid (((mkLS k l j).map Value.string).set j (.string (mkT (k + j))) = (mkLS k l (j + 1)).map Value.string) := by simp [mkLS, List.map_set, Hid]
      generalize mkT (k + j) = tx at *
      clear hown hown1 hb1 hch
      go_wp2
      go_roundw
      case rel => exact ⟨j + 1, by omega, by go_num, by go_num, by rw [← HN.out]; exact HO.out, hc1.setCell rfl _⟩
      case measure => simp [intOf]; omega
    · have hjj : j = l.length := by omega
      subst hjj
      rw [mkLS_all] at hown
      go_wp2
      go_ret
      exact ⟨rfl, hown, hch⟩
theorem markStringS_none (k : Int) (w : World) :
    Calls Try.prog 40 #[.slice none 0 0, .int .i64 k] w fun e w' => e = .returned (.int .i64 k) ∧ Below w.heap.size w w' := by
  go_enter Try.func40, Try.ntmps40
  go_wp2
  refine wp_loop_rounds 1 ?_; rw [rounds_succ]; go_wp2
  go_ret
  exact ⟨rfl, Below.refl _ _⟩
theorem markStringS_own (v : Value) (base : Nat) (l : List ByteArray) (k : Int) (w : World) (ho : w.ownsRow base 9 1 v l.length (l.map Value.string)) (hn : l.length ≤ 1048576) (h1 : 1 ≤ k) (h2 : k ≤ 10000000) :
    Calls Try.prog 40 #[v, .int .i64 k] w fun e w' => e = .returned (.int .i64 (k + l.length)) ∧ w'.ownsRow base 9 1 v l.length ((mkAllS k l.length).map Value.string) ∧ Chg (fun b => v.ownBlock = some b) w w' := by
  rcases ho.2 with ⟨rfl, h0⟩ | ⟨g, cap, cur, rfl, _⟩
  · refine (markStringS_none k w).mono fun e w' ⟨he, hb⟩ => ⟨by rw [he, h0]; simp, ?_, Chg.of_below hb⟩
    have hl : l = [] := List.length_eq_zero_iff.1 h0
    subst hl
    exact owns_below ho hb
  · exact (markStringS_at g cap base l k w ho hn h1 h2).mono fun e w' ⟨he, hw, hc⟩ => ⟨he, hw, hc.mono fun b hb => by rw [hb]; rfl⟩

set_option maxRecDepth 100000 in
set_option maxHeartbeats 1000000 in
theorem heldStringS_any (v : Value) (n : Nat) (k : Int) (w : World) (hv : SL w v (mkAllS k n)) (hn : n ≤ 1048576) (h1 : 1 ≤ k) (h2 : k ≤ 10000000) :
    Calls Try.prog 41 #[v, .int .i64 k] w fun e w' => e = .returned (.int .i64 (k + n)) ∧ Below w.heap.size w w' := by
  obtain ⟨a, cap, rfl, hc⟩ := hv
  rw [mkAllS_length]
  go_enter Try.func41, Try.ntmps41
  go_wp2
  go_loopw [1, 5] (fun t i wr => ∃ j : Nat, j ≤ n ∧ i = .int .i64 j ∧ t = .int .i64 (k + j) ∧ Below w.heap.size w wr) (fun _ i _ => n - (intOf i).toNat)
  case atStart => exact ⟨0, Nat.zero_le _, rfl, by go_num, Below.refl _ _⟩
  case round =>
    obtain ⟨j, hj, rfl, rfl, hb⟩ := hrel
    by_cases hlt : j < n
    · obtain ⟨b, off, rfl, hbl, hcell⟩ := hc (by intro e; rw [← mkAllS_length k n, e] at hlt; simp at hlt)
      have hl : j < (mkAllS k n).length := by rw [mkAllS_length]; exact hlt
      obtain ⟨tx, htx⟩ : ∃ tx, tx = mkT (k + j) := ⟨_, rfl⟩
      have hg : (mkAllS k n)[j] = tx := by rw [htx]; simp [mkAllS]
      have hc0 : wr.cell? ⟨b, off + j, none⟩ = some (.string tx) := by rw [hb.cell (p := ⟨b, off + j, none⟩) hbl, hcell j hl, hg]
      have hz := hb.size
      have hbl' : b < wr.heap.size := by omega
      have p0 : ∀ x : WC wr.heap.size wr, x.w.cell? ⟨b, off + j, none⟩ = some (.string tx) := fun x => (x.ok.cell (p := ⟨b, off + j, none⟩) hbl').trans hc0
      have KT : Hid (∀ x : WC wr.heap.size wr, Calls Try.prog 67 #[.int .i64 (k + j)] x.w fun e w'' => e = .returned (.string tx) ∧ ∃ m : WC wr.heap.size wr, w'' = m.w) :=
        fun x => calm_of_below (Nat.le_refl _) (by rw [htx]; exact markText_any _ _ (by omega) (by omega))
      have hne : Nonempty (WC wr.heap.size wr) := ⟨⟨_, Below.refl _ _⟩⟩
      clear hcell hc htx hg hc0 hl
      go_wp2_with fail
      refine wp_region_calm (B := wr.heap.size) (W := wr) (by kernel_rfl) (by kernel_rfl) (Below.refl _ _) ?_
      repeat (go_big_quiet_step ((go_at_call 67; exact KT.out _)))
      refine wpQuiet_nil ?_
      intro _ hw'
      obtain ⟨x, hx⟩ := hw'
      subst hx
      go_wp2
      go_roundw
      case rel => exact ⟨j + 1, by omega, by go_num, by go_num, hb.trans (x.ok.mono hz)⟩
      case measure => simp [intOf]; omega
    · have hjj : j = n := by omega
      subst hjj
      go_wp2
      go_ret
      exact ⟨rfl, hb⟩
end Go.Proofs.Ytoiajjlbajdknaa
