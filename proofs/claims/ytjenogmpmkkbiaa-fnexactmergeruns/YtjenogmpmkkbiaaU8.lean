/-
  Pairs in a row: rows of two texts; eqPairS, markPairS, heldPairS.
-/
import Derived.Test.YtjenogmpmkkbiaaM8
import Derived.Test.YtjenogmpmkkbiaaA8
namespace Go.Proofs.Ytjenogmpmkkbiaa
open Go.RowKit
set_option linter.unusedVariables false
set_option maxRecDepth 100000

def flat2 : List (ByteArray × ByteArray) → List Value
  | [] => []
  | s :: r => .string s.1 :: .string s.2 :: flat2 r
theorem flat2_length (l : List (ByteArray × ByteArray)) : (flat2 l).length = l.length * 2 := by
  induction l with
  | nil => rfl
  | cons x r ih => simp only [flat2, List.length_cons, ih]; omega
theorem flat2_append (l m : List (ByteArray × ByteArray)) : flat2 (l ++ m) = flat2 l ++ flat2 m := by
  induction l with
  | nil => rfl
  | cons x r ih => simp only [List.cons_append, flat2, ih]
theorem flat2_get (l : List (ByteArray × ByteArray)) (i : Nat) (h : i < l.length) : (flat2 l)[i * 2]? = some (.string l[i].1) ∧ (flat2 l)[i * 2 + 1]? = some (.string l[i].2) := by
  induction l generalizing i with
  | nil => simp at h
  | cons x r ih =>
    cases i with
    | zero => exact ⟨rfl, rfl⟩
    | succ i =>
      have := ih i (by simpa using h)
      rw [show (i + 1) * 2 = i * 2 + 1 + 1 from by omega, show i * 2 + 1 + 1 + 1 = (i * 2 + 1) + 1 + 1 from by omega]
      simp only [flat2, List.getElem?_cons_succ, List.getElem_cons_succ]
      exact this
theorem flat2_set (l : List (ByteArray × ByteArray)) (i : Nat) (s : ByteArray × ByteArray) : ((flat2 l).set (i * 2) (.string s.1)).set (i * 2 + 1) (.string s.2) = flat2 (l.set i s) := by
  induction l generalizing i with
  | nil => simp [flat2]
  | cons x r ih =>
    cases i with
    | zero => simp [flat2]
    | succ i =>
      rw [show (i + 1) * 2 = i * 2 + 1 + 1 from by omega, show i * 2 + 1 + 1 + 1 = (i * 2 + 1) + 1 + 1 from by omega]
      simp only [flat2, List.set_cons_succ]
      rw [ih i]
/-- The value v is a slice of the pairs l. -/
def PR (w : World) (v : Value) (l : List (ByteArray × ByteArray)) : Prop :=
  ∃ a cap, v = .slice a l.length cap ∧ (l ≠ [] → ∃ b off, a = some ⟨b, off, none⟩ ∧ b < w.heap.size ∧
    ∀ i (h : i < l.length), w.cell? ⟨b, off + i * 2, none⟩ = some (.string l[i].1) ∧ w.cell? ⟨b, off + i * 2 + 1, none⟩ = some (.string l[i].2))
theorem PR.below {w w' : World} {v : Value} {l : List (ByteArray × ByteArray)} (h : PR w v l) (hb : Below w.heap.size w w') : PR w' v l := by
  obtain ⟨a, cap, hv, hc⟩ := h
  refine ⟨a, cap, hv, fun hl => ?_⟩
  obtain ⟨b, off, ha, hbl, hcell⟩ := hc hl
  refine ⟨b, off, ha, Nat.lt_of_lt_of_le hbl hb.size, fun i hi => ?_⟩
  obtain ⟨c0, c1⟩ := hcell i hi
  exact ⟨(hb.cell (p := ⟨b, off + i * 2, none⟩) hbl).trans c0, (hb.cell (p := ⟨b, off + i * 2 + 1, none⟩) hbl).trans c1⟩
theorem PR_nil (w : World) : PR w (.slice none 0 0) [] := ⟨none, 0, rfl, fun h => absurd rfl h⟩
theorem PR_of_owns {w : World} {base n : Nat} {e : TypeId} {v : Value} {l : List (ByteArray × ByteArray)} (h : w.ownsRow base e 2 v n (flat2 l)) (hn : n = l.length) : PR w v l := by
  subst hn
  have h' := h
  obtain ⟨hl, h⟩ := h
  rcases h with ⟨rfl, h0⟩ | ⟨g, cap, cur, rfl, hbg, hh, hcap, hm, hsz, htk⟩
  · exact ⟨none, 0, by rw [h0], fun hne => absurd (List.length_eq_zero_iff.1 h0) hne⟩
  · refine ⟨_, cap, rfl, fun _ => ⟨g, 0, rfl, (Array.getElem?_eq_some_iff.1 hh).1, fun i hi => ?_⟩⟩
    obtain ⟨g0, g1⟩ := flat2_get l i hi
    rw [Nat.zero_add]
    exact ⟨by rw [h'.cellAt (i * 2) (by omega), g0], by rw [h'.cellAt (i * 2 + 1) (by omega), g1]⟩
theorem owns2_at {w : World} {base : Nat} {e : TypeId} {g cap n : Nat} {xs : List Value} (h : w.ownsRow base e 2 (.slice (some ⟨g, 0, none⟩) n cap) n xs) (i : Nat) (hi : i < n) (j : Nat) (hj : j < 2) :
    (∃ u, w.cell? ⟨g, i * 2 + j, none⟩ = some u) ∧ w.frozen? ⟨g, i * 2 + j, none⟩ = false := by
  have hl := h.1
  refine ⟨?_, h.frozenAt _⟩
  rw [h.cellAt (i * 2 + j) (by omega)]
  exact ⟨_, List.getElem?_eq_getElem (by omega)⟩
theorem Try.info45 : (Try.prog.info? 45).map (fun i => (i.zero, i.size, i.bytes)) = some (some (.agg #[.string ⟨#[]⟩, .string ⟨#[]⟩]), 2, 32) := by kernel_rfl
theorem cells_new2 (W : World) (x : ByteArray × ByteArray) : ∀ j u, (flat2 [x])[j]? = some u → (W.alloc (.cells #[.string x.1, .string x.2] 45)).cell? ((⟨W.heap.size, 0, none⟩ : Addr).add j) = some u := by
  intro j u hj
  match j, hj with
  | 0, h => cases h; simp [Addr.add]
  | 1, h => cases h; simp [Addr.add]
  | n + 2, h => simp [flat2] at h
theorem one2 (x : ByteArray × ByteArray) : ∀ u ∈ flat2 [x], u.oneCell' = true := by
  intro u hu
  simp only [flat2, List.mem_cons, List.not_mem_nil, or_false] at hu
  rcases hu with rfl | rfl <;> rfl

theorem eqPair_same (k v : ByteArray) (w : World) :
    Calls Try.prog 78 #[.agg #[.string k, .string v], .agg #[.string k, .string v]] w fun e w' => e = .returned (.bool true) ∧ Below w.heap.size w w' := by
  go_enter Try.func78, Try.ntmps78
  go_wp2
  go_ret
  exact ⟨rfl, below2 _ _ _⟩

set_option maxHeartbeats 2000000 in
theorem eqPairS_same (u v : Value) (l : List (ByteArray × ByteArray)) (w : World) (hu : PR w u l) (hv : PR w v l) (hn : l.length ≤ 1048576) :
    Calls Try.prog 42 #[u, v] w fun e w' => e = .returned (.bool true) ∧ Below w.heap.size w w' := by
  obtain ⟨a, cap, rfl, hc⟩ := hu
  obtain ⟨a', cap', rfl, hc'⟩ := hv
  go_enter Try.func42, Try.ntmps42
  go_wp2
  go_loopw [5] (fun i wr => ∃ k : Nat, k ≤ l.length ∧ i = .int .i64 k ∧ Below w.heap.size w wr) (fun i _ => l.length - (intOf i).toNat)
  case atStart => exact ⟨0, Nat.zero_le _, rfl, Below.refl _ _⟩
  case round =>
    obtain ⟨k, hk, rfl, hb⟩ := hrel
    by_cases hlt : k < l.length
    · obtain ⟨b, off, rfl, hbl, hcell⟩ := hc (by intro e; simp [e] at hlt)
      obtain ⟨b', off', rfl, hbl', hcell'⟩ := hc' (by intro e; simp [e] at hlt)
      obtain ⟨s, hse⟩ : ∃ s, s = l[k] := ⟨_, rfl⟩
      have hc0 := (hb.cell (p := ⟨b, off + k * 2, none⟩) hbl).trans (hcell k hlt).1
      have hc1 := (hb.cell (p := ⟨b, off + k * 2 + 1, none⟩) hbl).trans (hcell k hlt).2
      have hd0 := (hb.cell (p := ⟨b', off' + k * 2, none⟩) hbl').trans (hcell' k hlt).1
      have hd1 := (hb.cell (p := ⟨b', off' + k * 2 + 1, none⟩) hbl').trans (hcell' k hlt).2
      rw [← hse] at hc0 hc1 hd0 hd1
      clear hcell hse hc hcell' hc'
      have hz := hb.size
      obtain ⟨sk, sv⟩ := s
      dsimp only at hc0 hc1 hd0 hd1
      go_wp2_with fail
      go_region_held3 (fun w' => (w'.cell? ⟨b, off + k * 2, none⟩ = some (.string sk) ∧ w'.cell? ⟨b, off + k * 2 + 1, none⟩ = some (.string sv)) ∧ w'.cell? ⟨b', off' + k * 2, none⟩ = some (.string sk) ∧ w'.cell? ⟨b', off' + k * 2 + 1, none⟩ = some (.string sv)) (go_keep)
        (first | (go_at_call 78; refine (eqPair_same _ _ _).mono ?_; rintro e w1 ⟨rfl, hb1'⟩; have hb1 := below_undrew hb1'; have hbl2 : b < wr.heap.size := (by omega); have hbl3 : b' < wr.heap.size := (by omega); replace hc0 := (hb1.cell (p := ⟨b, off + k * 2, none⟩) hbl2).trans hc0; replace hc1 := (hb1.cell (p := ⟨b, off + k * 2 + 1, none⟩) hbl2).trans hc1; replace hd0 := (hb1.cell (p := ⟨b', off' + k * 2, none⟩) hbl3).trans hd0; replace hd1 := (hb1.cell (p := ⟨b', off' + k * 2 + 1, none⟩) hbl3).trans hd1))
      go_wp2
      go_roundw
      case rel => exact ⟨k + 1, by omega, by go_num, hb.trans (hb1.mono hz)⟩
      case measure => simp [intOf]; omega
    · clear hc hc'
      go_wp2
      go_ret
      exact ⟨rfl, hb⟩

def mkPr (k : Int) : ByteArray × ByteArray := (mkT k, mkT (k + 1))
def mkPrs (k : Int) (n : Nat) : List (ByteArray × ByteArray) := (List.range n).map fun j : Nat => mkPr (k + 2 * (j : Int))
theorem mkPrs_length (k : Int) (n : Nat) : (mkPrs k n).length = n := by simp [mkPrs]
theorem mkPrs_at (k : Int) (n j : Nat) (h : j < n) : (mkPrs k n)[j]'(by rw [mkPrs_length]; exact h) = mkPr (k + 2 * (j : Int)) := by simp [mkPrs]
def mkQ (l : List (ByteArray × ByteArray)) (k : Int) (j : Nat) : List (ByteArray × ByteArray) := (mkPrs k l.length).take j ++ l.drop j
theorem mkQ_set (l : List (ByteArray × ByteArray)) (k : Int) (j : Nat) (h : j < l.length) : (mkQ l k j).set j (mkPr (k + 2 * (j : Int))) = mkQ l k (j + 1) := by
  unfold mkQ
  have h1 : ((mkPrs k l.length).take j).length = j := by rw [List.length_take, mkPrs_length]; omega
  rw [List.set_append_right _ _ (by omega), h1, Nat.sub_self, List.take_succ_eq_append_getElem (by rw [mkPrs_length]; exact h), mkPrs_at k _ j h, List.drop_eq_getElem_cons h, List.set_cons_zero, List.append_assoc]
  rfl
theorem mkQ_all (l : List (ByteArray × ByteArray)) (k : Int) : mkQ l k l.length = mkPrs k l.length := by
  unfold mkQ
  rw [List.take_of_length_le (by rw [mkPrs_length]; omega), List.drop_eq_nil_of_le (by omega), List.append_nil]
theorem mkQ_zero (l : List (ByteArray × ByteArray)) (k : Int) : mkQ l k 0 = l := by simp [mkQ]

set_option maxHeartbeats 4000000 in
theorem markPairS_at (g cap base : Nat) (l : List (ByteArray × ByteArray)) (k : Int) (w : World) (ho : w.ownsRow base 45 2 (.slice (some ⟨g, 0, none⟩) l.length cap) l.length (flat2 l)) (hn : l.length ≤ 1000) (h1 : 1 ≤ k) (h2 : k ≤ 1000) :
    Calls Try.prog 43 #[.slice (some ⟨g, 0, none⟩) l.length cap, .int .i64 k] w fun e w' => e = .returned (.int .i64 (k + 2 * l.length)) ∧ w'.ownsRow base 45 2 (.slice (some ⟨g, 0, none⟩) l.length cap) l.length (flat2 (mkPrs k l.length)) ∧ Chg (· = g) w w' := by
  go_enter Try.func43, Try.ntmps43
  go_wp2
  go_loopw [1, 5] (fun t i wr => ∃ j : Nat, j ≤ l.length ∧ i = .int .i64 j ∧ t = .int .i64 (k + 2 * j) ∧ wr.ownsRow base 45 2 (.slice (some ⟨g, 0, none⟩) l.length cap) l.length (flat2 (mkQ l k j)) ∧ Chg (· = g) w wr) (fun _ i _ => l.length - (intOf i).toNat)
  case atStart => exact ⟨0, Nat.zero_le _, rfl, by go_num, by rw [mkQ_zero]; exact ho, Chg.refl _ _⟩
  case round =>
    clear ho
    obtain ⟨j, hj, rfl, rfl, hown, hch⟩ := hrel
    by_cases hlt : j < l.length
    · have HG : Hid (((flat2 (mkQ l k j)).set (j * 2) (.string (mkT (k + 2 * j)))).set (j * 2 + 1) (.string (mkT (k + 2 * j + 1))) = flat2 (mkQ l k (j + 1))) := by
        show _ = _
        rw [← mkQ_set l k j hlt]; exact flat2_set (mkQ l k j) j (mkPr (k + 2 * (j : Int)))
      generalize flat2 (mkQ l k j) = ys at *
      have hgl := (owns_lt hown).2
      go_wp2_with fail
      refine (markText_any _ _ (by omega) (by omega)).mono ?_
      rintro e w1 ⟨rfl, hb1⟩
      replace hown := owns_below hown hb1
      have C1 := hch.trans (Chg.of_below hb1)
      have hgl1 := (owns_lt hown).2
      obtain ⟨⟨u0, d0⟩, f0⟩ := owns2_at hown j hlt 0 (by omega)
      rw [Nat.add_zero] at d0 f0
      have o3 := (hown.stored (j * 2) (.string (mkT (k + 2 * j)))).1
      have C2 := C1.setCell (p := ⟨g, j * 2, none⟩) rfl (.string (mkT (k + 2 * j)))
      clear hown hch C1 hb1
      generalize mkT (k + 2 * j) = t1 at *
      go_wp2_with fail
      refine (markText_any _ _ (by omega) (by omega)).mono ?_
      rintro e w2 ⟨rfl, hb2⟩
      replace o3 := owns_below o3 hb2
      have C3 := C2.trans (Chg.of_below hb2)
      have hgl2 := (owns_lt o3).2
      obtain ⟨⟨u3, d3⟩, f3⟩ := owns2_at o3 j hlt 1 (by omega)
      have o4 := (o3.stored (j * 2 + 1) (.string (mkT (k + 2 * j + 1)))).1
      have C4 := C3.setCell (p := ⟨g, j * 2 + 1, none⟩) rfl (.string (mkT (k + 2 * j + 1)))
      have HO : Hid _ := o4
      clear d0 f0 C2 C3 o3 hb2 o4
      generalize mkT (k + 2 * j + 1) = t2 at *
      go_wp2
      go_roundw
      case rel => exact ⟨j + 1, by omega, by go_num, by go_num, by rw [← HG.out]; exact HO.out, C4⟩
      case measure => simp [intOf]; omega
    · obtain rfl : j = l.length := by omega
      rw [mkQ_all] at hown
      go_wp2
      go_ret
      exact ⟨rfl, hown, hch⟩

set_option maxHeartbeats 4000000 in
theorem heldPairS_at (v : Value) (n : Nat) (k : Int) (w : World) (hv : PR w v (mkPrs k n)) (hn : n ≤ 1000) (h1 : 1 ≤ k) (h2 : k ≤ 1000) :
    Calls Try.prog 44 #[v, .int .i64 k] w fun e w' => e = .returned (.int .i64 (k + 2 * n)) ∧ Below w.heap.size w w' := by
  obtain ⟨a, cap, rfl, hc⟩ := hv
  rw [mkPrs_length]
  go_enter Try.func44, Try.ntmps44
  go_wp2
  go_loopw [1, 5] (fun t i wr => ∃ j : Nat, j ≤ n ∧ i = .int .i64 j ∧ t = .int .i64 (k + 2 * j) ∧ Below w.heap.size w wr) (fun _ i _ => n - (intOf i).toNat)
  case atStart => exact ⟨0, Nat.zero_le _, rfl, by go_num, Below.refl _ _⟩
  case round =>
    obtain ⟨j, hj, rfl, rfl, hb⟩ := hrel
    by_cases hlt : j < n
    · obtain ⟨b, off, rfl, hbl, hcell⟩ := hc (by intro e; have := congrArg List.length e; rw [mkPrs_length] at this; simp at this; omega)
      obtain ⟨c0, c3⟩ := hcell j (by rw [mkPrs_length]; exact hlt)
      rw [mkPrs_at k n j hlt] at c0 c3
      have hz := hb.size
      have hbW : b < wr.heap.size := by omega
      replace c0 := (hb.cell (p := ⟨b, off + j * 2, none⟩) hbl).trans c0
      replace c3 := (hb.cell (p := ⟨b, off + j * 2 + 1, none⟩) hbl).trans c3
      unfold mkPr at c0 c3
      dsimp only at c0 c3
      have KA := fun w => markText_any (k + 2 * j) w (by omega) (by omega)
      have KB := fun w => markText_any (k + 2 * j + 1) w (by omega) (by omega)
      generalize mkT (k + 2 * j) = t1 at *
      generalize mkT (k + 2 * j + 1) = t2 at *
      have q0 := fun x : WC wr.heap.size wr => (x.ok.cell (p := ⟨b, off + j * 2, none⟩) hbW).trans c0
      have hne : Nonempty (WC wr.heap.size wr) := ⟨⟨_, Below.refl _ _⟩⟩
      clear hcell hc
      go_wp2_with fail
      refine wp_region_calm (B := wr.heap.size) (W := wr) (by kernel_rfl) (by kernel_rfl) (Below.refl _ _) ?_
      repeat (go_big_quiet_step (first | (go_at_call 79; with_reducible exact calm_of_below (Nat.le_refl _) (KA _))))
      refine wpQuiet_nil ?_
      intro _ hw'
      obtain ⟨x, hx⟩ := hw'
      subst hx
      have hB1 := hb.trans (x.ok.mono hz)
      replace c3 := (x.ok.cell (p := ⟨b, off + j * 2 + 1, none⟩) hbW).trans c3
      have hzx := x.ok.size
      clear KA q0 hne c0 hb
      generalize x.w = w1 at *
      clear x
      have hbW1 : b < w1.heap.size := by omega
      have q3 := fun x : WC w1.heap.size w1 => (x.ok.cell (p := ⟨b, off + j * 2 + 1, none⟩) hbW1).trans c3
      have hne : Nonempty (WC w1.heap.size w1) := ⟨⟨_, Below.refl _ _⟩⟩
      go_wp2_with fail
      refine wp_region_calm (B := w1.heap.size) (W := w1) (by kernel_rfl) (by kernel_rfl) (Below.refl _ _) ?_
      repeat (go_big_quiet_step (first | (go_at_call 79; with_reducible exact calm_of_below (Nat.le_refl _) (KB _))))
      refine wpQuiet_nil ?_
      intro _ hw'
      obtain ⟨x, hx⟩ := hw'
      subst hx
      have hB2 := hB1.trans (x.ok.mono (by omega))
      clear KB q3 hne c3 hB1
      generalize x.w = w2 at *
      clear x
      go_wp2
      go_roundw
      case rel => exact ⟨j + 1, by omega, by go_num, by go_num, hB2⟩
      case measure => simp [intOf]; omega
    · obtain rfl : j = n := by omega
      clear hc
      go_wp2
      go_ret
      exact ⟨rfl, hb⟩
theorem markPairS_nil (k : Int) (w : World) (h1 : 1 ≤ k) (h2 : k ≤ 1000) : Calls Try.prog 43 #[.slice none 0 0, .int .i64 k] w fun e w' => e = .returned (.int .i64 k) ∧ w' = w := by
  go_enter Try.func43, Try.ntmps43
  go_wp2
  go_loopw [1, 5] (fun t i wr => i = .int .i64 0 ∧ t = .int .i64 k ∧ wr = w) (fun _ _ _ => 0)
  case atStart => exact ⟨rfl, rfl, rfl⟩
  case round =>
    obtain ⟨rfl, rfl, rfl⟩ := hrel
    go_wp2
    go_ret
    exact ⟨rfl, rfl⟩
end Go.Proofs.Ytjenogmpmkkbiaa
