/-
  Marks in a list of what is wanted: markWantedS, heldWantedS; rows of chunks marked, nil or not.
-/
import Derived.Test.YtocaigffikdlhaaWC1
import Derived.Test.YtocaigffikdlhaaMQToK9
namespace Go.Proofs.Ytocaigffikdlhaa
open Go.RowKit
set_option linter.unusedVariables false
set_option maxRecDepth 100000

/-- What is wanted, marked from k on; the first j of l marked. -/
def mkW (k : Int) : Wt := ⟨k, k + 1⟩
def mkWs (k : Int) (n : Nat) : List Wt := (List.range n).map fun j : Nat => mkW (k + 2 * (j : Int))
theorem mkWs_length (k : Int) (n : Nat) : (mkWs k n).length = n := by simp [mkWs]
theorem mkWs_at (k : Int) (n j : Nat) (h : j < n) : (mkWs k n)[j]'(by rw [mkWs_length]; exact h) = mkW (k + 2 * (j : Int)) := by simp [mkWs]
def mkPW (l : List Wt) (k : Int) (j : Nat) : List Wt := (mkWs k l.length).take j ++ l.drop j
theorem mkPW_set (l : List Wt) (k : Int) (j : Nat) (h : j < l.length) : (mkPW l k j).set j (mkW (k + 2 * (j : Int))) = mkPW l k (j + 1) := by
  unfold mkPW
  have h1 : ((mkWs k l.length).take j).length = j := by rw [List.length_take, mkWs_length]; omega
  rw [List.set_append_right _ _ (by omega), h1, Nat.sub_self, List.take_succ_eq_append_getElem (by rw [mkWs_length]; exact h), mkWs_at k _ j h, List.drop_eq_getElem_cons h, List.set_cons_zero, List.append_assoc]
  rfl
theorem mkPW_all (l : List Wt) (k : Int) : mkPW l k l.length = mkWs k l.length := by
  unfold mkPW
  rw [List.take_of_length_le (by rw [mkWs_length]; omega), List.drop_eq_nil_of_le (by omega), List.append_nil]
theorem mkPW_zero (l : List Wt) (k : Int) : mkPW l k 0 = l := by simp [mkPW]

set_option maxHeartbeats 4000000 in
theorem markWantedS_at (g cap base : Nat) (l : List Wt) (k : Int) (w : World) (ho : w.ownsRow base 54 2 (.slice (some ⟨g, 0, none⟩) l.length cap) l.length (flat2 l)) (hn : l.length ≤ 1048576) (h1 : 1 ≤ k) (h2 : k ≤ 50000000) :
    Calls Try.prog 37 #[.slice (some ⟨g, 0, none⟩) l.length cap, .int .i64 k] w fun e w' => e = .returned (.int .i64 (k + 2 * l.length)) ∧ w'.ownsRow base 54 2 (.slice (some ⟨g, 0, none⟩) l.length cap) l.length (flat2 (mkWs k l.length)) ∧ Chg (· = g) w w' := by
  go_enter Try.func37, Try.ntmps37
  go_wp2
  go_loopw [1, 5] (fun t i wr => ∃ j : Nat, j ≤ l.length ∧ i = .int .i64 j ∧ t = .int .i64 (k + 2 * j) ∧ wr.ownsRow base 54 2 (.slice (some ⟨g, 0, none⟩) l.length cap) l.length (flat2 (mkPW l k j)) ∧ Chg (· = g) w wr) (fun _ i _ => l.length - (intOf i).toNat)
  case atStart => exact ⟨0, Nat.zero_le _, rfl, by go_num, by rw [mkPW_zero]; exact ho, Chg.refl _ _⟩
  case round =>
    clear ho
    obtain ⟨j, hj, rfl, rfl, hown, hch⟩ := hrel
    by_cases hlt : j < l.length
    · have HS : Hid (flat2 ((mkPW l k j).set j (mkW (k + 2 * (j : Int)))) = flat2 (mkPW l k (j + 1))) := by show _ = _; rw [mkPW_set l k j hlt]
      have HF : Hid (((flat2 (mkPW l k j)).set (j * 2) (.int .i64 (k + 2 * j))).set (j * 2 + 1) (.int .u32 (k + 2 * j + 1)) = flat2 ((mkPW l k j).set j (mkW (k + 2 * (j : Int))))) := flat2_set (mkPW l k j) j (mkW (k + 2 * (j : Int)))
      have HG : Hid (((flat2 (mkPW l k j)).set (j * 2) (.int .i64 (k + 2 * j))).set (j * 2 + 1) (.int .u32 (k + 2 * j + 1)) = flat2 (mkPW l k (j + 1))) := HF.out.trans HS.out
      clear HS HF
      generalize flat2 (mkPW l k j) = ys at *
      have hgl := (owns_lt hown).2
      have o1 := (hown.stored (j * 2) (.int .i64 (k + 2 * j))).1
      obtain ⟨⟨u0, d0⟩, f0⟩ := owns2_at hown j hlt 0 (by omega)
      rw [Nat.add_zero] at d0 f0
      obtain ⟨⟨u1, d1⟩, f1⟩ := owns2_at hown j hlt 1 (by omega)
      have hwr : IntKind.u32.wrap (k + 2 * j + 1) = k + 2 * j + 1 := by rw [wrap_u32]; omega
      have o2 := (o1.stored (j * 2 + 1) (.int .u32 (k + 2 * j + 1))).1
      have C2 := (hch.setCell (p := ⟨g, j * 2, none⟩) rfl (.int .i64 (k + 2 * j))).setCell (p := ⟨g, j * 2 + 1, none⟩) rfl (.int .u32 (k + 2 * j + 1))
      have HO : Hid _ := o2
      clear hown hch o1 o2
      go_wp2
      go_roundw
      case rel => exact ⟨j + 1, by omega, by go_num, by go_num, by rw [← HG.out]; exact HO.out, C2⟩
      case measure => simp [intOf]; omega
    · obtain rfl : j = l.length := by omega
      rw [mkPW_all] at hown
      go_wp2
      go_ret
      exact ⟨rfl, hown, hch⟩

set_option maxHeartbeats 4000000 in
theorem heldWantedS_at (v : Value) (n : Nat) (k : Int) (w : World) (hv : WR w v (mkWs k n)) (hn : n ≤ 1048576) (h1 : 1 ≤ k) (h2 : k ≤ 50000000) :
    Calls Try.prog 38 #[v, .int .i64 k] w fun e w' => e = .returned (.int .i64 (k + 2 * n)) ∧ Below w.heap.size w w' := by
  obtain ⟨a, cap, rfl, hc⟩ := hv
  rw [mkWs_length]
  go_enter Try.func38, Try.ntmps38
  go_wp2
  go_loopw [1, 5] (fun t i wr => ∃ j : Nat, j ≤ n ∧ i = .int .i64 j ∧ t = .int .i64 (k + 2 * j) ∧ Below w.heap.size w wr) (fun _ i _ => n - (intOf i).toNat)
  case atStart => exact ⟨0, Nat.zero_le _, rfl, by go_num, Below.refl _ _⟩
  case round =>
    obtain ⟨j, hj, rfl, rfl, hb⟩ := hrel
    by_cases hlt : j < n
    · obtain ⟨b, off, rfl, hbl, hcell⟩ := hc (by intro e; have := congrArg List.length e; rw [mkWs_length] at this; simp at this; omega)
      obtain ⟨c0, c1⟩ := hcell j (by rw [mkWs_length]; exact hlt)
      rw [mkWs_at k n j hlt] at c0 c1
      have hz := hb.size
      have hbW : b < wr.heap.size := by omega
      replace c0 := (hb.cell (p := ⟨b, off + j * 2, none⟩) hbl).trans c0
      replace c1 := (hb.cell (p := ⟨b, off + j * 2 + 1, none⟩) hbl).trans c1
      unfold mkW at c0 c1
      dsimp only at c0 c1
      have hwr : IntKind.u32.wrap (k + 2 * j + 1) = k + 2 * j + 1 := by rw [wrap_u32]; omega
      clear hcell hc
      go_wp2
      go_roundw
      case rel => exact ⟨j + 1, by omega, by go_num, by go_num, hb⟩
      case measure => simp [intOf]; omega
    · obtain rfl : j = n := by omega
      clear hc
      go_wp2
      go_ret
      exact ⟨rfl, hb⟩
theorem markWantedS_nil (k : Int) (w : World) (h1 : 1 ≤ k) (h2 : k ≤ 50000000) : Calls Try.prog 37 #[.slice none 0 0, .int .i64 k] w fun e w' => e = .returned (.int .i64 k) ∧ w' = w := by
  go_enter Try.func37, Try.ntmps37
  go_wp2
  go_loopw [1, 5] (fun t i wr => i = .int .i64 0 ∧ t = .int .i64 k ∧ wr = w) (fun _ _ _ => 0)
  case atStart => exact ⟨rfl, rfl, rfl⟩
  case round =>
    obtain ⟨rfl, rfl, rfl⟩ := hrel
    go_wp2
    go_ret
    exact ⟨rfl, rfl⟩
theorem markWantedS_own (v : Value) (base : Nat) (l : List Wt) (k : Int) (w : World) (ho : w.ownsRow base 54 2 v l.length (flat2 l)) (hn : l.length ≤ 1048576) (h1 : 1 ≤ k) (h2 : k ≤ 50000000) :
    Calls Try.prog 37 #[v, .int .i64 k] w fun e w' => e = .returned (.int .i64 (k + 2 * l.length)) ∧ w'.ownsRow base 54 2 v l.length (flat2 (mkWs k l.length)) ∧ Chg (fun b => v.ownBlock = some b) w w' := by
  rcases ho.2 with ⟨rfl, h0⟩ | ⟨g, cap, cur, rfl, _⟩
  · rw [h0]
    refine (markWantedS_nil k w h1 h2).mono ?_
    rintro e w' ⟨rfl, rfl⟩
    exact ⟨by simp, World.ownsRow_nil _ _ _ _, Chg.refl _ _⟩
  · refine (markWantedS_at g cap base l k w ho hn h1 h2).mono ?_
    rintro e w' ⟨rfl, h1, h2⟩
    exact ⟨rfl, h1, h2.mono fun b hb => by rw [hb]; rfl⟩
theorem markChunkS_own (v : Value) (base : Nat) (l : List Ck) (k : Int) (w : World) (ho : w.ownsRow base 37 4 v l.length (flat4 l)) (hn : l.length ≤ 1048576) (h1 : 1 ≤ k) (h2 : k ≤ 50000000) :
    Calls Try.prog 40 #[v, .int .i64 k] w fun e w' => e = .returned (.int .i64 (k + 4 * l.length)) ∧ w'.ownsRow base 37 4 v l.length (flat4 (mkIts k l.length)) ∧ Chg (fun b => v.ownBlock = some b) w w' := by
  rcases ho.2 with ⟨rfl, h0⟩ | ⟨g, cap, cur, rfl, _⟩
  · rw [h0]
    refine (markChunkS_nil k w h1 h2).mono ?_
    rintro e w' ⟨rfl, rfl⟩
    exact ⟨by simp, World.ownsRow_nil _ _ _ _, Chg.refl _ _⟩
  · refine (markChunkS_at g cap base l k w ho hn h1 h2).mono ?_
    rintro e w' ⟨rfl, h1, h2⟩
    exact ⟨rfl, h1, h2.mono fun b hb => by rw [hb]; rfl⟩
theorem owns_type_ne {w : World} {b1 b2 : Nat} {e1 e2 : TypeId} {s1 s2 : Nat} {v1 v2 : Value} {n1 n2 : Nat} {x1 x2 : List Value} (h1 : w.ownsRow b1 e1 s1 v1 n1 x1) (h2 : w.ownsRow b2 e2 s2 v2 n2 x2) (hne : e1 ≠ e2) : ∀ g, v1.ownBlock = some g → v2.ownBlock ≠ some g := by
  intro g hg hg2
  rcases h1.2 with ⟨rfl, _⟩ | ⟨g1, c1, cur1, rfl, _, hh1, _⟩
  · simp [Value.ownBlock] at hg
  · rcases h2.2 with ⟨rfl, _⟩ | ⟨g2, c2, cur2, rfl, _, hh2, _⟩
    · simp [Value.ownBlock] at hg2
    · simp only [Value.ownBlock, Option.some.injEq] at hg hg2
      subst hg hg2
      rw [hh1] at hh2
      simp only [Option.some.injEq, Obj.cells.injEq] at hh2
      exact hne hh2.2.1
theorem owns_mono' {w : World} {base base' : Nat} {e : TypeId} {size : Nat} {v : Value} {n : Nat} {xs : List Value} (h : w.ownsRow base e size v n xs) (hb : base' ≤ base) : w.ownsRow base' e size v n xs := by
  refine ⟨h.1, ?_⟩
  rcases h.2 with h0 | ⟨g, cap, cur, hv, hbg, r⟩
  · exact .inl h0
  · exact .inr ⟨g, cap, cur, hv, Nat.le_trans hb hbg, r⟩
end Go.Proofs.Ytocaigffikdlhaa
