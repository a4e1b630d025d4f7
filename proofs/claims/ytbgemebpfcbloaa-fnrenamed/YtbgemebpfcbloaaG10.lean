/-
  impl.GoodDisk.
-/
import Derived.Test.YtbgemebpfcbloaaG9
import Derived.Test.YtbgemebpfcbloaaxAToxL
namespace Go.Proofs.Ytbgemebpfcbloaa
open Go.RowKit
set_option maxRecDepth 100000
set_option linter.unusedVariables false

/-- A callee answers 'res' in every world that is as W0 was up to block w.heap.size. -/
def KC (w W0 : World) (f : Nat) (args : Array Value) (res : Value) : Prop :=
  ∀ x : WC (w.heap.size + 1) W0, Calls Try.prog f args x.w fun e w'' => e = .returned res ∧ ∃ m : WC (w.heap.size + 1) W0, w'' = m.w
theorem KC.of {w : World} {o : Obj} {f : Nat} {args : Array Value} {res : Value}
    (h : ∀ w', Below w.heap.size w w' → Calls Try.prog f args w' fun e w'' => e = .returned res ∧ Below w'.heap.size w' w'') : KC w (w.alloc o) f args res :=
  fun x => calm_of_below (by simp) (h x.w ((below_alloc _ _).trans (x.ok.mono (by omega))))

set_option maxHeartbeats 4000000 in
theorem implGood_neg (a1 : Option Addr) (n1 c1 : Nat) (v2 v3 : Value) (r : Int) (u : Int) (w : World) (hr0 : r < 0) :
    Calls Try.prog 14 #[.agg #[.slice a1 n1 c1, v2, v3, .int .i64 r]] w fun e w' => e = .returned (.bool false) ∧ Below w.heap.size w w' := by
  have hd0 : decide (0 ≤ r) = false := by simp; omega
  have X : ∀ x : WC (w.heap.size + 1) (w.alloc (.cells #[.slice a1 n1 c1, v2, v3, .int .i64 r] 26)), Box x.w w.heap.size [.slice a1 n1 c1, v2, v3, .int .i64 r] := fun x => (Box.new w #[.slice a1 n1 c1, v2, v3, .int .i64 r] 26).below (by simpa using x.ok)
  have p0 := fun x => (X x).2.1 0 _ rfl
  have p1 := fun x => (X x).2.1 1 _ rfl
  have p2 := fun x => (X x).2.1 2 _ rfl
  have p3 := fun x => (X x).2.1 3 _ rfl
  have hne : Nonempty (WC (w.heap.size + 1) (w.alloc (.cells #[.slice a1 n1 c1, v2, v3, .int .i64 r] 26))) := ⟨⟨_, Below.refl _ _⟩⟩
  go_enter Try.func14, Try.ntmps14
  go_wp2_with fail
  refine wp_region_calm (B := w.heap.size + 1) (W := (w.alloc (.cells #[.slice a1 n1 c1, v2, v3, .int .i64 r] 26))) (by kernel_rfl) (by kernel_rfl) (Below.refl _ _) ?_
  repeat (go_big_quiet_step (fail))
  refine wpQuiet_nil ?_
  intro _ hw'
  obtain ⟨x, hx⟩ := hw'
  subst hx
  go_wp2
  go_ret
  exact ⟨rfl, (below_alloc _ _).trans (x.ok.mono (by omega))⟩

set_option maxHeartbeats 4000000 in
theorem implGood_big (a1 : Option Addr) (n1 c1 : Nat) (v2 v3 : Value) (r : Int) (u : Int) (w : World) (hr0 : 0 ≤ r) (hr1 : 100000 < r) :
    Calls Try.prog 14 #[.agg #[.slice a1 n1 c1, v2, v3, .int .i64 r]] w fun e w' => e = .returned (.bool false) ∧ Below w.heap.size w w' := by
  have hd0 : decide (0 ≤ r) = true := by simp [hr0]
  have hd1 : decide (r ≤ 100000) = false := by simp; omega
  have X : ∀ x : WC (w.heap.size + 1) (w.alloc (.cells #[.slice a1 n1 c1, v2, v3, .int .i64 r] 26)), Box x.w w.heap.size [.slice a1 n1 c1, v2, v3, .int .i64 r] := fun x => (Box.new w #[.slice a1 n1 c1, v2, v3, .int .i64 r] 26).below (by simpa using x.ok)
  have p0 := fun x => (X x).2.1 0 _ rfl
  have p1 := fun x => (X x).2.1 1 _ rfl
  have p2 := fun x => (X x).2.1 2 _ rfl
  have p3 := fun x => (X x).2.1 3 _ rfl
  have hne : Nonempty (WC (w.heap.size + 1) (w.alloc (.cells #[.slice a1 n1 c1, v2, v3, .int .i64 r] 26))) := ⟨⟨_, Below.refl _ _⟩⟩
  go_enter Try.func14, Try.ntmps14
  go_wp2_with fail
  refine wp_region_calm (B := w.heap.size + 1) (W := (w.alloc (.cells #[.slice a1 n1 c1, v2, v3, .int .i64 r] 26))) (by kernel_rfl) (by kernel_rfl) (Below.refl _ _) ?_
  repeat (go_big_quiet_step (fail))
  refine wpQuiet_nil ?_
  intro _ hw'
  obtain ⟨x, hx⟩ := hw'
  subst hx
  go_wp2
  go_ret
  exact ⟨rfl, (below_alloc _ _).trans (x.ok.mono (by omega))⟩

set_option maxHeartbeats 4000000 in
theorem implGood_b (a1 : Option Addr) (n1 c1 : Nat) (v2 v3 : Value) (r : Int) (u : Int) (w : World) (hr0 : 0 ≤ r) (hr1 : r ≤ 100000) (K1 : KC w (w.alloc (.cells #[.slice a1 n1 c1, v2, v3, .int .i64 r] 26)) 61 #[.slice a1 n1 c1] (.bool false)) :
    Calls Try.prog 14 #[.agg #[.slice a1 n1 c1, v2, v3, .int .i64 r]] w fun e w' => e = .returned (.bool false) ∧ Below w.heap.size w w' := by
  have hd0 : decide (0 ≤ r) = true := by simp [hr0]
  have hd1 : decide (r ≤ 100000) = true := by simp [hr1]
  have X : ∀ x : WC (w.heap.size + 1) (w.alloc (.cells #[.slice a1 n1 c1, v2, v3, .int .i64 r] 26)), Box x.w w.heap.size [.slice a1 n1 c1, v2, v3, .int .i64 r] := fun x => (Box.new w #[.slice a1 n1 c1, v2, v3, .int .i64 r] 26).below (by simpa using x.ok)
  have p0 := fun x => (X x).2.1 0 _ rfl
  have p1 := fun x => (X x).2.1 1 _ rfl
  have p2 := fun x => (X x).2.1 2 _ rfl
  have p3 := fun x => (X x).2.1 3 _ rfl
  have hne : Nonempty (WC (w.heap.size + 1) (w.alloc (.cells #[.slice a1 n1 c1, v2, v3, .int .i64 r] 26))) := ⟨⟨_, Below.refl _ _⟩⟩
  go_enter Try.func14, Try.ntmps14
  go_wp2_with fail
  refine wp_region_calm (B := w.heap.size + 1) (W := (w.alloc (.cells #[.slice a1 n1 c1, v2, v3, .int .i64 r] 26))) (by kernel_rfl) (by kernel_rfl) (Below.refl _ _) ?_
  repeat (go_big_quiet_step (((go_at_call 61; exact K1 _))))
  refine wpQuiet_nil ?_
  intro _ hw'
  obtain ⟨x, hx⟩ := hw'
  subst hx
  go_wp2
  go_ret
  exact ⟨rfl, (below_alloc _ _).trans (x.ok.mono (by omega))⟩

set_option maxHeartbeats 4000000 in
theorem implGood_l (a1 : Option Addr) (n1 c1 : Nat) (v2 v3 : Value) (r : Int) (u : Int) (w : World) (hr0 : 0 ≤ r) (hr1 : r ≤ 100000) (K1 : KC w (w.alloc (.cells #[.slice a1 n1 c1, v2, v3, .int .i64 r] 26)) 61 #[.slice a1 n1 c1] (.bool true)) (K2 : KC w (w.alloc (.cells #[.slice a1 n1 c1, v2, v3, .int .i64 r] 26)) 62 #[v2, .int .i64 n1] (.bool false)) :
    Calls Try.prog 14 #[.agg #[.slice a1 n1 c1, v2, v3, .int .i64 r]] w fun e w' => e = .returned (.bool false) ∧ Below w.heap.size w w' := by
  have hd0 : decide (0 ≤ r) = true := by simp [hr0]
  have hd1 : decide (r ≤ 100000) = true := by simp [hr1]
  have X : ∀ x : WC (w.heap.size + 1) (w.alloc (.cells #[.slice a1 n1 c1, v2, v3, .int .i64 r] 26)), Box x.w w.heap.size [.slice a1 n1 c1, v2, v3, .int .i64 r] := fun x => (Box.new w #[.slice a1 n1 c1, v2, v3, .int .i64 r] 26).below (by simpa using x.ok)
  have p0 := fun x => (X x).2.1 0 _ rfl
  have p1 := fun x => (X x).2.1 1 _ rfl
  have p2 := fun x => (X x).2.1 2 _ rfl
  have p3 := fun x => (X x).2.1 3 _ rfl
  have hne : Nonempty (WC (w.heap.size + 1) (w.alloc (.cells #[.slice a1 n1 c1, v2, v3, .int .i64 r] 26))) := ⟨⟨_, Below.refl _ _⟩⟩
  go_enter Try.func14, Try.ntmps14
  go_wp2_with fail
  refine wp_region_calm (B := w.heap.size + 1) (W := (w.alloc (.cells #[.slice a1 n1 c1, v2, v3, .int .i64 r] 26))) (by kernel_rfl) (by kernel_rfl) (Below.refl _ _) ?_
  repeat (go_big_quiet_step ((first | (go_at_call 61; exact K1 _) | (go_at_call_of 62 v2; exact K2 _))))
  refine wpQuiet_nil ?_
  intro _ hw'
  obtain ⟨x, hx⟩ := hw'
  subst hx
  go_wp2
  go_ret
  exact ⟨rfl, (below_alloc _ _).trans (x.ok.mono (by omega))⟩

set_option maxHeartbeats 4000000 in
theorem implGood_s (a1 : Option Addr) (n1 c1 : Nat) (v2 v3 : Value) (r : Int) (u : Int) (w : World) (hr0 : 0 ≤ r) (hr1 : r ≤ 100000) (K1 : KC w (w.alloc (.cells #[.slice a1 n1 c1, v2, v3, .int .i64 r] 26)) 61 #[.slice a1 n1 c1] (.bool true)) (K2 : KC w (w.alloc (.cells #[.slice a1 n1 c1, v2, v3, .int .i64 r] 26)) 62 #[v2, .int .i64 n1] (.bool true)) (K3 : KC w (w.alloc (.cells #[.slice a1 n1 c1, v2, v3, .int .i64 r] 26)) 62 #[v3, .int .i64 n1] (.bool false)) :
    Calls Try.prog 14 #[.agg #[.slice a1 n1 c1, v2, v3, .int .i64 r]] w fun e w' => e = .returned (.bool false) ∧ Below w.heap.size w w' := by
  have hd0 : decide (0 ≤ r) = true := by simp [hr0]
  have hd1 : decide (r ≤ 100000) = true := by simp [hr1]
  have X : ∀ x : WC (w.heap.size + 1) (w.alloc (.cells #[.slice a1 n1 c1, v2, v3, .int .i64 r] 26)), Box x.w w.heap.size [.slice a1 n1 c1, v2, v3, .int .i64 r] := fun x => (Box.new w #[.slice a1 n1 c1, v2, v3, .int .i64 r] 26).below (by simpa using x.ok)
  have p0 := fun x => (X x).2.1 0 _ rfl
  have p1 := fun x => (X x).2.1 1 _ rfl
  have p2 := fun x => (X x).2.1 2 _ rfl
  have p3 := fun x => (X x).2.1 3 _ rfl
  have hne : Nonempty (WC (w.heap.size + 1) (w.alloc (.cells #[.slice a1 n1 c1, v2, v3, .int .i64 r] 26))) := ⟨⟨_, Below.refl _ _⟩⟩
  go_enter Try.func14, Try.ntmps14
  go_wp2_with fail
  refine wp_region_calm (B := w.heap.size + 1) (W := (w.alloc (.cells #[.slice a1 n1 c1, v2, v3, .int .i64 r] 26))) (by kernel_rfl) (by kernel_rfl) (Below.refl _ _) ?_
  repeat (go_big_quiet_step ((first | (go_at_call 61; exact K1 _) | (go_at_call_of 62 v2; exact K2 _) | (go_at_call_of 62 v3; exact K3 _))))
  refine wpQuiet_nil ?_
  intro _ hw'
  obtain ⟨x, hx⟩ := hw'
  subst hx
  go_wp2
  go_ret
  exact ⟨rfl, (below_alloc _ _).trans (x.ok.mono (by omega))⟩

set_option maxHeartbeats 4000000 in
theorem implGood_all (a1 : Option Addr) (n1 c1 : Nat) (v2 v3 : Value) (r : Int) (u : Int) (w : World) (hr0 : 0 ≤ r) (hr1 : r ≤ 100000) (K1 : KC w (w.alloc (.cells #[.slice a1 n1 c1, v2, v3, .int .i64 r] 26)) 61 #[.slice a1 n1 c1] (.bool true)) (K2 : KC w (w.alloc (.cells #[.slice a1 n1 c1, v2, v3, .int .i64 r] 26)) 62 #[v2, .int .i64 n1] (.bool true)) (K3 : KC w (w.alloc (.cells #[.slice a1 n1 c1, v2, v3, .int .i64 r] 26)) 62 #[v3, .int .i64 n1] (.bool true)) (K4 : KC w (w.alloc (.cells #[.slice a1 n1 c1, v2, v3, .int .i64 r] 26)) 63 #[.agg #[.slice a1 n1 c1, v2, v3, .int .i64 r]] (.int .i64 u)) :
    Calls Try.prog 14 #[.agg #[.slice a1 n1 c1, v2, v3, .int .i64 r]] w fun e w' => e = .returned (.bool (decide (u ≤ r))) ∧ Below w.heap.size w w' := by
  have hd0 : decide (0 ≤ r) = true := by simp [hr0]
  have hd1 : decide (r ≤ 100000) = true := by simp [hr1]
  have X : ∀ x : WC (w.heap.size + 1) (w.alloc (.cells #[.slice a1 n1 c1, v2, v3, .int .i64 r] 26)), Box x.w w.heap.size [.slice a1 n1 c1, v2, v3, .int .i64 r] := fun x => (Box.new w #[.slice a1 n1 c1, v2, v3, .int .i64 r] 26).below (by simpa using x.ok)
  have p0 := fun x => (X x).2.1 0 _ rfl
  have p1 := fun x => (X x).2.1 1 _ rfl
  have p2 := fun x => (X x).2.1 2 _ rfl
  have p3 := fun x => (X x).2.1 3 _ rfl
  have hne : Nonempty (WC (w.heap.size + 1) (w.alloc (.cells #[.slice a1 n1 c1, v2, v3, .int .i64 r] 26))) := ⟨⟨_, Below.refl _ _⟩⟩
  go_enter Try.func14, Try.ntmps14
  go_wp2_with fail
  refine wp_region_calm (B := w.heap.size + 1) (W := (w.alloc (.cells #[.slice a1 n1 c1, v2, v3, .int .i64 r] 26))) (by kernel_rfl) (by kernel_rfl) (Below.refl _ _) ?_
  repeat (go_big_quiet_step ((first | (go_at_call 61; exact K1 _) | (go_at_call_of 62 v2; exact K2 _) | (go_at_call_of 62 v3; exact K3 _) | (go_at_call 63; exact K4 _))))
  refine wpQuiet_nil ?_
  intro _ hw'
  obtain ⟨x, hx⟩ := hw'
  subst hx
  go_wp2
  go_ret
  exact ⟨rfl, (below_alloc _ _).trans (x.ok.mono (by omega))⟩

theorem KC.bool {w : World} {W0 : World} {f : Nat} {args : Array Value} {b c : Bool} (h : KC w W0 f args (.bool b)) (e : b = c) : KC w W0 f args (.bool c) := by rw [← e]; exact h

theorem implGood_any (v1 v2 v3 : Value) (bl lv sf : List (ByteArray × Int)) (r : Int) (w : World) (h1 : PL w v1 bl) (h2 : PL w v2 lv) (h3 : PL w v3 sf)
    (hn1 : tot bl + bl.length ≤ 1048576) (hn2 : tot lv + lv.length ≤ 1048576) (hn3 : tot sf + sf.length ≤ 1048576) (hs1 : ∀ i (h : i < bl.length), bl[i].1.size ≤ 1048576) (hs2 : ∀ i (h : i < lv.length), lv[i].1.size ≤ 1048576) (hs3 : ∀ i (h : i < sf.length), sf[i].1.size ≤ 1048576) :
    Calls Try.prog 14 #[.agg #[v1, v2, v3, .int .i64 r]] w fun e w' => e = .returned (.bool (goodD bl lv sf r)) ∧ Below w.heap.size w w' := by
  have hv1 := h1
  obtain ⟨a1, c1, rfl, _⟩ := hv1
  have K1 : KC w (w.alloc (.cells #[.slice a1 bl.length c1, v2, v3, .int .i64 r] 26)) 61 #[.slice a1 bl.length c1] (.bool (okBs bl && decide ((bl.length : Int) ≤ 60))) := KC.of fun w' hb => goodBlobs_any _ bl _ (h1.below hb) (by omega) hs1
  have K2 : KC w (w.alloc (.cells #[.slice a1 bl.length c1, v2, v3, .int .i64 r] 26)) 62 #[v2, .int .i64 bl.length] (.bool (okNs lv bl.length)) := KC.of fun w' hb => goodNames_any _ lv bl.length _ (h2.below hb) (by omega) (by omega) hs2
  have K3 : KC w (w.alloc (.cells #[.slice a1 bl.length c1, v2, v3, .int .i64 r] 26)) 62 #[v3, .int .i64 bl.length] (.bool (okNs sf bl.length)) := KC.of fun w' hb => goodNames_any _ sf bl.length _ (h3.below hb) (by omega) (by omega) hs3
  by_cases hr0 : 0 ≤ r
  · by_cases hr1 : r ≤ 100000
    · cases g1 : (okBs bl && decide ((bl.length : Int) ≤ 60)) with
      | false => exact (implGood_b a1 _ c1 v2 v3 r 0 w hr0 hr1 (K1.bool g1)).mono fun e w' ⟨he, hb⟩ => ⟨by rw [he, goodD, g1]; rfl, hb⟩
      | true =>
        cases g2 : okNs lv bl.length with
        | false => exact (implGood_l a1 _ c1 v2 v3 r 0 w hr0 hr1 (K1.bool g1) (K2.bool g2)).mono fun e w' ⟨he, hb⟩ => ⟨by rw [he, goodD, g1, g2]; rfl, hb⟩
        | true =>
          cases g3 : okNs sf bl.length with
          | false => exact (implGood_s a1 _ c1 v2 v3 r 0 w hr0 hr1 (K1.bool g1) (K2.bool g2) (K3.bool g3)).mono fun e w' ⟨he, hb⟩ => ⟨by rw [he, goodD, g1, g2, g3]; rfl, hb⟩
          | true =>
            have K4 : KC w (w.alloc (.cells #[.slice a1 bl.length c1, v2, v3, .int .i64 r] 26)) 63 #[.agg #[.slice a1 bl.length c1, v2, v3, .int .i64 r]] (.int .i64 (used bl lv sf : Nat)) := KC.of fun w' hb => usedBytes_any _ _ _ bl lv sf r _ (h1.below hb) (h2.below hb) (h3.below hb) hn1 (by omega) (by omega) (okNs_range g2) (okNs_range g3)
            exact (implGood_all a1 _ c1 v2 v3 r _ w hr0 hr1 (K1.bool g1) (K2.bool g2) (K3.bool g3) K4).mono fun e w' ⟨he, hb⟩ => ⟨by rw [he, goodD, g1, g2, g3]; simp [hr0, hr1], hb⟩
    · exact (implGood_big a1 _ c1 v2 v3 r 0 w hr0 (by omega)).mono fun e w' ⟨he, hb⟩ => ⟨by rw [he, goodD]; simp [hr1], hb⟩
  · exact (implGood_neg a1 _ c1 v2 v3 r 0 w (by omega)).mono fun e w' ⟨he, hb⟩ => ⟨by rw [he, goodD]; simp [hr0], hb⟩
end Go.Proofs.Ytbgemebpfcbloaa
