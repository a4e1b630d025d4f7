/-
  markBlobS, markNameS, heldBlobS, heldNameS; markDisk.
-/
import Derived.Test.YtbgemebpfcbloaaG12ToM1
import Derived.Test.YtbgemebpfcbloaaxV1ToE
import Derived.Test.YtbgemebpfcbloaaxAToxL
namespace Go.Proofs.Ytbgemebpfcbloaa
open Go.RowKit
set_option maxRecDepth 100000
set_option linter.unusedVariables false

/-- The i-th mark of a row of pairs that is marked from k on. -/
def mkP (k : Int) (i : Nat) : ByteArray × Int := (mkT (k + 2 * i), k + 2 * i + 1)
/-- A list whose first j pairs are marked. -/
def mkL (k : Int) (l : List (ByteArray × Int)) : Nat → List (ByteArray × Int)
  | 0 => l
  | j + 1 => (mkL k l j).set j (mkP k j)
theorem mkL_length (k : Int) (l : List (ByteArray × Int)) (j : Nat) : (mkL k l j).length = l.length := by
  induction j with
  | zero => rfl
  | succ j ih => simp [mkL, ih]
theorem mkL_get (k : Int) (l : List (ByteArray × Int)) (j i : Nat) (hi : i < l.length) : (mkL k l j)[i]? = if i < j then some (mkP k i) else l[i]? := by
  induction j with
  | zero => simp [mkL]
  | succ j ih =>
    simp only [mkL]
    by_cases h : i = j
    · subst h
      rw [List.getElem?_set_self (by rw [mkL_length]; exact hi), if_pos (by omega)]
    · rw [List.getElem?_set_ne (by omega), ih]
      by_cases h2 : i < j
      · rw [if_pos h2, if_pos (by omega)]
      · rw [if_neg h2, if_neg (by omega)]
/-- All marks. -/
def mkAll (k : Int) (n : Nat) : List (ByteArray × Int) := (List.range n).map (mkP k)
theorem mkAll_length (k : Int) (n : Nat) : (mkAll k n).length = n := by simp [mkAll]
theorem mkL_all (k : Int) (l : List (ByteArray × Int)) : mkL k l l.length = mkAll k l.length := by
  apply List.ext_getElem?
  intro i
  by_cases hi : i < l.length
  · rw [mkL_get k l _ i hi, if_pos hi]; simp [mkAll, hi]
  · rw [List.getElem?_eq_none (by rw [mkL_length]; omega), List.getElem?_eq_none (by rw [mkAll_length]; omega)]

set_option maxRecDepth 100000 in
set_option maxHeartbeats 1000000 in
theorem markBlobS_at (g cap base : Nat) (l : List (ByteArray × Int)) (k : Int) (w : World) (ho : w.ownsRow base 43 2 (.slice (some ⟨g, 0, none⟩) l.length cap) l.length (flat l)) (hn : l.length ≤ 1048576) (h1 : 1 ≤ k) (h2 : k ≤ 10000000) :
    Calls Try.prog 79 #[.slice (some ⟨g, 0, none⟩) l.length cap, .int .i64 k] w fun e w' => e = .returned (.int .i64 (k + 2 * l.length)) ∧ w'.ownsRow base 43 2 (.slice (some ⟨g, 0, none⟩) l.length cap) l.length (flat (mkAll k l.length)) ∧ Chg (· = g) w w' := by
  go_enter Try.func79, Try.ntmps79
  go_wp2
  go_loopw [1, 5] (fun t i wr => ∃ j : Nat, j ≤ l.length ∧ i = .int .i64 j ∧ t = .int .i64 (k + 2 * j) ∧ wr.ownsRow base 43 2 (.slice (some ⟨g, 0, none⟩) l.length cap) l.length (flat (mkL k l j)) ∧ Chg (· = g) w wr) (fun _ i _ => l.length - (intOf i).toNat)
  case atStart => exact ⟨0, Nat.zero_le _, rfl, by go_num, ho, Chg.refl _ _⟩
  case round =>
    clear ho
    obtain ⟨j, hj, rfl, rfl, hown, hch⟩ := hrel
    by_cases hlt : j < l.length
    · have HL : Hid ((mkL k l j).length = l.length) := mkL_length k l j
      have HN : Hid ((mkL k l j).set j (mkT (k + 2 * j), k + 2 * j + 1) = mkL k l (j + 1)) := rfl
      have hgl := (owns_lt hown).2
      go_wp2_with fail
      refine (markText_any _ _ (by omega) (by omega)).mono ?_
      rintro e w1 ⟨rfl, hb1⟩
      have hown1 := owns_below hown hb1
      have hc1 : Chg (· = g) w w1 := hch.trans (Chg.of_below hb1)
      obtain ⟨d0, d1, f0, f1⟩ := owns_at hown1 j hlt (by rw [HL.out]; omega)
      have HO : Hid _ := owns_set hown1 j (mkT (k + 2 * j)) (k + 2 * j + 1)
      generalize mkT (k + 2 * j) = tx at *
      clear hown hown1 hb1 hch
      go_wp2
      go_roundw
      case rel => exact ⟨j + 1, by omega, by go_num, by go_num, by rw [← HN.out]; exact HO.out, (hc1.setCell rfl _).setCell rfl _⟩
      case measure => simp [intOf]; omega
    · have hjj : j = l.length := by omega
      subst hjj
      rw [mkL_all] at hown
      go_wp2
      go_ret
      exact ⟨rfl, hown, hch⟩

set_option maxRecDepth 100000 in
set_option maxHeartbeats 1000000 in
theorem markNameS_at (g cap base : Nat) (l : List (ByteArray × Int)) (k : Int) (w : World) (ho : w.ownsRow base 39 2 (.slice (some ⟨g, 0, none⟩) l.length cap) l.length (flat l)) (hn : l.length ≤ 1048576) (h1 : 1 ≤ k) (h2 : k ≤ 10000000) :
    Calls Try.prog 80 #[.slice (some ⟨g, 0, none⟩) l.length cap, .int .i64 k] w fun e w' => e = .returned (.int .i64 (k + 2 * l.length)) ∧ w'.ownsRow base 39 2 (.slice (some ⟨g, 0, none⟩) l.length cap) l.length (flat (mkAll k l.length)) ∧ Chg (· = g) w w' := by
  go_enter Try.func80, Try.ntmps80
  go_wp2
  go_loopw [1, 5] (fun t i wr => ∃ j : Nat, j ≤ l.length ∧ i = .int .i64 j ∧ t = .int .i64 (k + 2 * j) ∧ wr.ownsRow base 39 2 (.slice (some ⟨g, 0, none⟩) l.length cap) l.length (flat (mkL k l j)) ∧ Chg (· = g) w wr) (fun _ i _ => l.length - (intOf i).toNat)
  case atStart => exact ⟨0, Nat.zero_le _, rfl, by go_num, ho, Chg.refl _ _⟩
  case round =>
    clear ho
    obtain ⟨j, hj, rfl, rfl, hown, hch⟩ := hrel
    by_cases hlt : j < l.length
    · have HL : Hid ((mkL k l j).length = l.length) := mkL_length k l j
      have HN : Hid ((mkL k l j).set j (mkT (k + 2 * j), k + 2 * j + 1) = mkL k l (j + 1)) := rfl
      have hgl := (owns_lt hown).2
      go_wp2_with fail
      refine (markText_any _ _ (by omega) (by omega)).mono ?_
      rintro e w1 ⟨rfl, hb1⟩
      have hown1 := owns_below hown hb1
      have hc1 : Chg (· = g) w w1 := hch.trans (Chg.of_below hb1)
      obtain ⟨d0, d1, f0, f1⟩ := owns_at hown1 j hlt (by rw [HL.out]; omega)
      have HO : Hid _ := owns_set hown1 j (mkT (k + 2 * j)) (k + 2 * j + 1)
      generalize mkT (k + 2 * j) = tx at *
      clear hown hown1 hb1 hch
      go_wp2
      go_roundw
      case rel => exact ⟨j + 1, by omega, by go_num, by go_num, by rw [← HN.out]; exact HO.out, (hc1.setCell rfl _).setCell rfl _⟩
      case measure => simp [intOf]; omega
    · have hjj : j = l.length := by omega
      subst hjj
      rw [mkL_all] at hown
      go_wp2
      go_ret
      exact ⟨rfl, hown, hch⟩

set_option maxRecDepth 100000 in
set_option maxHeartbeats 1000000 in
theorem heldBlobS_any (v : Value) (n : Nat) (k : Int) (w : World) (hv : PL w v (mkAll k n)) (hn : n ≤ 1048576) (h1 : 1 ≤ k) (h2 : k ≤ 10000000) :
    Calls Try.prog 81 #[v, .int .i64 k] w fun e w' => e = .returned (.int .i64 (k + 2 * n)) ∧ Below w.heap.size w w' := by
  obtain ⟨a, cap, rfl, hc⟩ := hv
  rw [mkAll_length]
  go_enter Try.func81, Try.ntmps81
  go_wp2
  go_loopw [1, 5] (fun t i wr => ∃ j : Nat, j ≤ n ∧ i = .int .i64 j ∧ t = .int .i64 (k + 2 * j) ∧ Below w.heap.size w wr) (fun _ i _ => n - (intOf i).toNat)
  case atStart => exact ⟨0, Nat.zero_le _, rfl, by go_num, Below.refl _ _⟩
  case round =>
    obtain ⟨j, hj, rfl, rfl, hb⟩ := hrel
    by_cases hlt : j < n
    · obtain ⟨b, off, rfl, hbl, hcell⟩ := hc (by intro e; rw [← mkAll_length k n, e] at hlt; simp at hlt)
      have hl : j < (mkAll k n).length := by rw [mkAll_length]; exact hlt
      obtain ⟨tx, htx⟩ : ∃ tx, tx = mkT (k + 2 * j) := ⟨_, rfl⟩
      have hg : (mkAll k n)[j] = (tx, k + 2 * j + 1) := by rw [htx]; simp [mkAll, mkP]
      have hc0 : wr.cell? ⟨b, off + j * 2, none⟩ = some (.string tx) := by rw [hb.cell (p := ⟨b, off + j * 2, none⟩) hbl, (hcell j hl).1, hg]
      have hc1 : wr.cell? ⟨b, off + j * 2 + 1, none⟩ = some (.int .i64 (k + 2 * j + 1)) := by rw [hb.cell (p := ⟨b, off + j * 2 + 1, none⟩) hbl, (hcell j hl).2, hg]
      have hz := hb.size
      have hbl' : b < wr.heap.size := by omega
      have p0 : ∀ x : WC wr.heap.size wr, x.w.cell? ⟨b, off + j * 2, none⟩ = some (.string tx) := fun x => (x.ok.cell (p := ⟨b, off + j * 2, none⟩) hbl').trans hc0
      have p1 : ∀ x : WC wr.heap.size wr, x.w.cell? ⟨b, off + j * 2 + 1, none⟩ = some (.int .i64 (k + 2 * j + 1)) := fun x => (x.ok.cell (p := ⟨b, off + j * 2 + 1, none⟩) hbl').trans hc1
      have KT : Hid (∀ x : WC wr.heap.size wr, Calls Try.prog 86 #[.int .i64 (k + 2 * j)] x.w fun e w'' => e = .returned (.string tx) ∧ ∃ m : WC wr.heap.size wr, w'' = m.w) :=
        fun x => calm_of_below (Nat.le_refl _) (by rw [htx]; exact markText_any _ _ (by omega) (by omega))
      have hne : Nonempty (WC wr.heap.size wr) := ⟨⟨_, Below.refl _ _⟩⟩
      clear hcell hc htx hg hc0 hc1 hl
      go_wp2_with fail
      refine wp_region_calm (B := wr.heap.size) (W := wr) (by kernel_rfl) (by kernel_rfl) (Below.refl _ _) ?_
      repeat (go_big_quiet_step ((go_at_call 86; exact KT.out _)))
      refine wpQuiet_nil ?_
      intro _ hw'
      obtain ⟨x, hx⟩ := hw'
      subst hx
      go_wp2
      go_roundw
      case rel => exact ⟨j + 1, by omega, by go_num, by go_num, hb.trans (x.ok.mono hz)⟩
      case measure => simp [intOf]; omega
    · have hjj : j = n := by omega
      subst hjj
      go_wp2
      go_ret
      exact ⟨rfl, hb⟩

set_option maxRecDepth 100000 in
set_option maxHeartbeats 1000000 in
theorem heldNameS_any (v : Value) (n : Nat) (k : Int) (w : World) (hv : PL w v (mkAll k n)) (hn : n ≤ 1048576) (h1 : 1 ≤ k) (h2 : k ≤ 10000000) :
    Calls Try.prog 82 #[v, .int .i64 k] w fun e w' => e = .returned (.int .i64 (k + 2 * n)) ∧ Below w.heap.size w w' := by
  obtain ⟨a, cap, rfl, hc⟩ := hv
  rw [mkAll_length]
  go_enter Try.func82, Try.ntmps82
  go_wp2
  go_loopw [1, 5] (fun t i wr => ∃ j : Nat, j ≤ n ∧ i = .int .i64 j ∧ t = .int .i64 (k + 2 * j) ∧ Below w.heap.size w wr) (fun _ i _ => n - (intOf i).toNat)
  case atStart => exact ⟨0, Nat.zero_le _, rfl, by go_num, Below.refl _ _⟩
  case round =>
    obtain ⟨j, hj, rfl, rfl, hb⟩ := hrel
    by_cases hlt : j < n
    · obtain ⟨b, off, rfl, hbl, hcell⟩ := hc (by intro e; rw [← mkAll_length k n, e] at hlt; simp at hlt)
      have hl : j < (mkAll k n).length := by rw [mkAll_length]; exact hlt
      obtain ⟨tx, htx⟩ : ∃ tx, tx = mkT (k + 2 * j) := ⟨_, rfl⟩
      have hg : (mkAll k n)[j] = (tx, k + 2 * j + 1) := by rw [htx]; simp [mkAll, mkP]
      have hc0 : wr.cell? ⟨b, off + j * 2, none⟩ = some (.string tx) := by rw [hb.cell (p := ⟨b, off + j * 2, none⟩) hbl, (hcell j hl).1, hg]
      have hc1 : wr.cell? ⟨b, off + j * 2 + 1, none⟩ = some (.int .i64 (k + 2 * j + 1)) := by rw [hb.cell (p := ⟨b, off + j * 2 + 1, none⟩) hbl, (hcell j hl).2, hg]
      have hz := hb.size
      have hbl' : b < wr.heap.size := by omega
      have p0 : ∀ x : WC wr.heap.size wr, x.w.cell? ⟨b, off + j * 2, none⟩ = some (.string tx) := fun x => (x.ok.cell (p := ⟨b, off + j * 2, none⟩) hbl').trans hc0
      have p1 : ∀ x : WC wr.heap.size wr, x.w.cell? ⟨b, off + j * 2 + 1, none⟩ = some (.int .i64 (k + 2 * j + 1)) := fun x => (x.ok.cell (p := ⟨b, off + j * 2 + 1, none⟩) hbl').trans hc1
      have KT : Hid (∀ x : WC wr.heap.size wr, Calls Try.prog 86 #[.int .i64 (k + 2 * j)] x.w fun e w'' => e = .returned (.string tx) ∧ ∃ m : WC wr.heap.size wr, w'' = m.w) :=
        fun x => calm_of_below (Nat.le_refl _) (by rw [htx]; exact markText_any _ _ (by omega) (by omega))
      have hne : Nonempty (WC wr.heap.size wr) := ⟨⟨_, Below.refl _ _⟩⟩
      clear hcell hc htx hg hc0 hc1 hl
      go_wp2_with fail
      refine wp_region_calm (B := wr.heap.size) (W := wr) (by kernel_rfl) (by kernel_rfl) (Below.refl _ _) ?_
      repeat (go_big_quiet_step ((go_at_call 86; exact KT.out _)))
      refine wpQuiet_nil ?_
      intro _ hw'
      obtain ⟨x, hx⟩ := hw'
      subst hx
      go_wp2
      go_roundw
      case rel => exact ⟨j + 1, by omega, by go_num, by go_num, hb.trans (x.ok.mono hz)⟩
      case measure => simp [intOf]; omega
    · have hjj : j = n := by omega
      subst hjj
      go_wp2
      go_ret
      exact ⟨rfl, hb⟩

theorem markBlobS_none (k : Int) (w : World) :
    Calls Try.prog 79 #[.slice none 0 0, .int .i64 k] w fun e w' => e = .returned (.int .i64 k) ∧ Below w.heap.size w w' := by
  go_enter Try.func79, Try.ntmps79
  go_wp2
  refine wp_loop_rounds 1 ?_; rw [rounds_succ]; go_wp2
  go_ret
  exact ⟨rfl, Below.refl _ _⟩
theorem markBlobS_own (v : Value) (base : Nat) (l : List (ByteArray × Int)) (k : Int) (w : World) (ho : w.ownsRow base 43 2 v l.length (flat l)) (hn : l.length ≤ 1048576) (h1 : 1 ≤ k) (h2 : k ≤ 10000000) :
    Calls Try.prog 79 #[v, .int .i64 k] w fun e w' => e = .returned (.int .i64 (k + 2 * l.length)) ∧ w'.ownsRow base 43 2 v l.length (flat (mkAll k l.length)) ∧ Chg (fun b => v.ownBlock = some b) w w' := by
  rcases ho.2 with ⟨rfl, h0⟩ | ⟨g, cap, cur, rfl, _⟩
  · refine (markBlobS_none k w).mono fun e w' ⟨he, hb⟩ => ⟨by rw [he, h0]; simp, ?_, Chg.of_below hb⟩
    have hl : l = [] := List.length_eq_zero_iff.1 h0
    subst hl
    exact owns_below ho hb
  · exact (markBlobS_at g cap base l k w ho hn h1 h2).mono fun e w' ⟨he, hw, hc⟩ => ⟨he, hw, hc.mono fun b hb => by rw [hb]; rfl⟩

theorem markNameS_none (k : Int) (w : World) :
    Calls Try.prog 80 #[.slice none 0 0, .int .i64 k] w fun e w' => e = .returned (.int .i64 k) ∧ Below w.heap.size w w' := by
  go_enter Try.func80, Try.ntmps80
  go_wp2
  refine wp_loop_rounds 1 ?_; rw [rounds_succ]; go_wp2
  go_ret
  exact ⟨rfl, Below.refl _ _⟩
theorem markNameS_own (v : Value) (base : Nat) (l : List (ByteArray × Int)) (k : Int) (w : World) (ho : w.ownsRow base 39 2 v l.length (flat l)) (hn : l.length ≤ 1048576) (h1 : 1 ≤ k) (h2 : k ≤ 10000000) :
    Calls Try.prog 80 #[v, .int .i64 k] w fun e w' => e = .returned (.int .i64 (k + 2 * l.length)) ∧ w'.ownsRow base 39 2 v l.length (flat (mkAll k l.length)) ∧ Chg (fun b => v.ownBlock = some b) w w' := by
  rcases ho.2 with ⟨rfl, h0⟩ | ⟨g, cap, cur, rfl, _⟩
  · refine (markNameS_none k w).mono fun e w' ⟨he, hb⟩ => ⟨by rw [he, h0]; simp, ?_, Chg.of_below hb⟩
    have hl : l = [] := List.length_eq_zero_iff.1 h0
    subst hl
    exact owns_below ho hb
  · exact (markNameS_at g cap base l k w ho hn h1 h2).mono fun e w' ⟨he, hw, hc⟩ => ⟨he, hw, hc.mono fun b hb => by rw [hb]; rfl⟩

set_option maxHeartbeats 1000000 in
theorem markDisk_own (v1 v2 v3 : Value) (b1 b2 b3 : Nat) (bl lv sf : List (ByteArray × Int)) (r k : Int) (w : World)
    (o1 : w.ownsRow b1 43 2 v1 bl.length (flat bl)) (o2 : w.ownsRow b2 39 2 v2 lv.length (flat lv)) (o3 : w.ownsRow b3 39 2 v3 sf.length (flat sf))
    (d12 : ∀ b, v1.ownBlock = some b → v2.ownBlock ≠ some b) (d13 : ∀ b, v1.ownBlock = some b → v3.ownBlock ≠ some b) (d23 : ∀ b, v2.ownBlock = some b → v3.ownBlock ≠ some b)
    (hn1 : bl.length ≤ 1048576) (hn2 : lv.length ≤ 1048576) (hn3 : sf.length ≤ 1048576) (h1 : 1 ≤ k) (h2 : k ≤ 1000) :
    Calls Try.prog 32 #[.agg #[v1, v2, v3, .int .i64 r], .int .i64 k] w fun e w' => e = .returned (.int .i64 (k + 2 * bl.length + 2 * lv.length + 2 * sf.length)) ∧
      w'.ownsRow b1 43 2 v1 bl.length (flat (mkAll k bl.length)) ∧ w'.ownsRow b2 39 2 v2 lv.length (flat (mkAll (k + 2 * bl.length) lv.length)) ∧ w'.ownsRow b3 39 2 v3 sf.length (flat (mkAll (k + 2 * bl.length + 2 * lv.length) sf.length)) ∧
      Chg (fun b => v1.ownBlock = some b ∨ v2.ownBlock = some b ∨ v3.ownBlock = some b) w w' := by
  have lt : ∀ {v : Value} {base : Nat} {e : TypeId} {n : Nat} {xs : List Value}, w.ownsRow base e 2 v n xs → ∀ b, v.ownBlock = some b → b < w.heap.size := by
    intro v base e n xs ho b hb
    rcases ho.2 with ⟨rfl, _⟩ | ⟨g, cap, cur, rfl, _, hh, _⟩
    · simp [Value.ownBlock] at hb
    · simp only [Value.ownBlock, Option.some.injEq] at hb
      rw [← hb]; exact (Array.getElem?_eq_some_iff.1 hh).1
  have l1 := lt o1
  have l2 := lt o2
  have l3 := lt o3
  clear lt
  go_enter Try.func32, Try.ntmps32
  go_wp2_with fail
  refine (markBlobS_own _ b1 bl _ _ (owns_below o1 (below_alloc _ _)) hn1 h1 (by omega)).mono ?_
  rintro e w1 ⟨rfl, p1, hc1⟩
  have C1 := (Chg.of_below (below_alloc w (.cells #[v1, v2, v3, .int .i64 r] 26))).trans hc1
  have X1 := hc1.box (Box.new w #[v1, v2, v3, .int .i64 r] 26) (fun h => by have := l1 _ h; omega)
  have q2 := C1.owns o2 (fun g hg h => d12 g h hg)
  have q3 := C1.owns o3 (fun g hg h => d13 g h hg)
  clear hc1
  obtain ⟨_, x0, x1, x2, x3⟩ := X1.c4
  go_wp2_with fail
  refine (markNameS_own _ b2 lv _ _ q2 hn2 (by omega) (by omega)).mono ?_
  rintro e w2 ⟨rfl, p2, hc2⟩
  have X2 := hc2.box X1 (fun h => by have := l2 _ h; omega)
  have p1' := hc2.owns p1 (fun g hg h => d12 g hg h)
  have q3' := hc2.owns q3 (fun g hg h => d23 g h hg)
  clear X1 x0 x1 x2 x3 p1 q2 q3
  obtain ⟨_, x0, x1, x2, x3⟩ := X2.c4
  go_wp2_with fail
  refine (markNameS_own _ b3 sf _ _ q3' hn3 (by omega) (by omega)).mono ?_
  rintro e w3 ⟨rfl, p3, hc3⟩
  go_wp2
  go_ret
  refine ⟨rfl, hc3.owns p1' (fun g hg h => d13 g hg h), hc3.owns p2 (fun g hg h => d23 g hg h), p3, ?_⟩
  exact ((C1.mono fun b h => .inl h).trans (hc2.mono fun b h => .inr (.inl h))).trans (hc3.mono fun b h => .inr (.inr h))
end Go.Proofs.Ytbgemebpfcbloaa
