/-
  Looking for an item in a run: slices.BinarySearchFunc at impl.orderOf, spec.l6Seek.
-/
import Derived.Test.YtjenogmpmkkbiaaN1
namespace Go.Proofs.Ytjenogmpmkkbiaa
open Go.RowKit
set_option linter.unusedVariables false
set_option maxRecDepth 100000

/-- Halving: where the first item lies that is not less. -/
def skF (p : Nat → Bool) (lo hi : Nat) : Nat :=
  if h : lo < hi then (if p ((lo + hi) / 2) then skF p ((lo + hi) / 2 + 1) hi else skF p lo ((lo + hi) / 2)) else lo
termination_by hi - lo
decreasing_by all_goals omega
theorem skF_end (p : Nat → Bool) (lo hi : Nat) (h : ¬ lo < hi) : skF p lo hi = lo := by rw [skF, dif_neg h]
theorem skF_yes (p : Nat → Bool) (lo hi : Nat) (h : lo < hi) (hp : p ((lo + hi) / 2) = true) : skF p lo hi = skF p ((lo + hi) / 2 + 1) hi := by rw [skF, dif_pos h, if_pos hp]
theorem skF_no (p : Nat → Bool) (lo hi : Nat) (h : lo < hi) (hp : p ((lo + hi) / 2) = false) : skF p lo hi = skF p lo ((lo + hi) / 2) := by rw [skF, dif_pos h, if_neg (by rw [hp]; simp)]
def lessAt (l : List It) (x : It) (i : Nat) : Bool := decide (lessIt (l.getD i default) x)
def seekF (l : List It) (x : It) : Nat := skF (lessAt l x) 0 l.length
theorem skF_le (p : Nat → Bool) : ∀ n lo hi, hi - lo ≤ n → lo ≤ hi → skF p lo hi ≤ hi := by
  intro n
  induction n with
  | zero => intro lo hi h1 h2; rw [skF_end p lo hi (by omega)]; omega
  | succ n ih =>
    intro lo hi h1 h2
    by_cases h : lo < hi
    · cases hp : p ((lo + hi) / 2) with
      | true => rw [skF_yes p lo hi h hp]; exact ih _ _ (by omega) (by omega)
      | false => rw [skF_no p lo hi h hp]; have := ih lo ((lo + hi) / 2) (by omega) (by omega); omega
    · rw [skF_end p lo hi h]; omega
theorem seekF_le (l : List It) (x : It) : seekF l x ≤ l.length := skF_le _ _ 0 l.length (Nat.le_refl _) (by omega)

set_option maxHeartbeats 2000000 in
theorem l6Seek_any (v : Value) (l : List It) (xk xv : ByteArray) (xn xd : Int) (w : World) (hv : IR w v l) (hn : l.length ≤ 1048576) :
    Calls Try.prog 108 #[v, .agg #[.string xk, .int .i64 xn, .int .i64 xd, .string xv]] w fun e w' => e = .returned (.int .i64 (seekF l ⟨xk, xn, xd, xv⟩ : Nat)) ∧ Below w.heap.size w w' := by
  obtain ⟨a, cap, rfl, hc⟩ := hv
  have HS : Hid (seekF l ⟨xk, xn, xd, xv⟩ = skF (lessAt l ⟨xk, xn, xd, xv⟩) 0 l.length) := rfl
  generalize seekF l ⟨xk, xn, xd, xv⟩ = R at *
  have hb0 := below_alloc w (.cells #[.string xk, .int .i64 xn, .int .i64 xd, .string xv] 83)
  have X0 := Box.new w #[.string xk, .int .i64 xn, .int .i64 xd, .string xv] 83
  go_enter Try.func108, Try.ntmps108
  go_wp2
  go_loopw [5, 6] (fun i j wr => ∃ lo hi : Nat, lo ≤ hi ∧ hi ≤ l.length ∧ i = .int .i64 lo ∧ j = .int .i64 hi ∧ R = skF (lessAt l ⟨xk, xn, xd, xv⟩) lo hi ∧ Below w.heap.size w wr ∧ Box wr w.heap.size [.string xk, .int .i64 xn, .int .i64 xd, .string xv]) (fun i j _ => (intOf j).toNat - (intOf i).toNat)
  case atStart => exact ⟨0, l.length, by omega, by omega, rfl, rfl, HS.out, hb0, X0⟩
  case round =>
    clear HS hb0 X0
    obtain ⟨lo, hi, hlh, hhl, rfl, rfl, hR, hb, X0⟩ := hrel
    have HR : Hid (R = skF (lessAt l ⟨xk, xn, xd, xv⟩) lo hi) := hR
    clear hR
    by_cases hlt : lo < hi
    · obtain ⟨b, off, rfl, hbl, hcell⟩ := hc (by intro e; simp [e] at hhl; omega)
      obtain ⟨m, hm⟩ : ∃ m, m = (lo + hi) / 2 := ⟨_, rfl⟩
      have hml : m < l.length := by omega
      have em : ((lo : Int) + hi) / 2 = (m : Int) := by omega
      have em2 : IntKind.i64.wrap (((lo : Int) + hi) / 2) = (m : Int) := by rw [em, IntKind.wrap_i64]; omega
      have hm1 : lo ≤ m := by omega
      have hm2 : m < hi := by omega
      have hz := hb.size
      have hbW : b < wr.heap.size := by omega
      have q0 := fun x : WC wr.heap.size wr => (x.ok.cell (p := ⟨b, off + m * 4, none⟩) hbW).trans ((hb.cell (p := ⟨b, off + m * 4, none⟩) hbl).trans (hcell m hml).1)
      have q1 := fun x : WC wr.heap.size wr => (x.ok.cell (p := ⟨b, off + m * 4 + 1, none⟩) hbW).trans ((hb.cell (p := ⟨b, off + m * 4 + 1, none⟩) hbl).trans (hcell m hml).2.1)
      have q2 := fun x : WC wr.heap.size wr => (x.ok.cell (p := ⟨b, off + m * 4 + 2, none⟩) hbW).trans ((hb.cell (p := ⟨b, off + m * 4 + 2, none⟩) hbl).trans (hcell m hml).2.2.1)
      have q3 := fun x : WC wr.heap.size wr => (x.ok.cell (p := ⟨b, off + m * 4 + 3, none⟩) hbW).trans ((hb.cell (p := ⟨b, off + m * 4 + 3, none⟩) hbl).trans (hcell m hml).2.2.2)
      have p0 := fun x : WC wr.heap.size wr => (X0.below x.ok).2.1 0 _ rfl
      have p1 := fun x : WC wr.heap.size wr => (X0.below x.ok).2.1 1 _ rfl
      have p2 := fun x : WC wr.heap.size wr => (X0.below x.ok).2.1 2 _ rfl
      have p3 := fun x : WC wr.heap.size wr => (X0.below x.ok).2.1 3 _ rfl
      have hne : Nonempty (WC wr.heap.size wr) := ⟨⟨_, Below.refl _ _⟩⟩
      have KO := fun w => l4Compare_any l[m].k l[m].v xk xv l[m].n l[m].d xn xd w
      have HL : Hid (lessAt l ⟨xk, xn, xd, xv⟩ m = decide (cIt l[m].k xk l[m].n xn < 0)) := by show _ = _; unfold lessAt; rw [getD_at l m hml]; rfl
      by_cases hle : cIt l[m].k xk l[m].n xn < 0
      · have HR2 : Hid (R = skF (lessAt l ⟨xk, xn, xd, xv⟩) (m + 1) hi) := by show _ = _; rw [HR.out, skF_yes _ _ _ hlt (by rw [← hm, HL.out, decide_eq_true hle]), hm]
        clear hcell hc HR HL hm
        generalize cIt l[m].k xk l[m].n xn = c at *
        generalize l[m] = s at *
        obtain ⟨sk, sn, sd, sv⟩ := s
        dsimp only at *
        go_wp2_with fail
        refine wp_region_calm (B := wr.heap.size) (W := wr) (by kernel_rfl) (by kernel_rfl) (Below.refl _ _) ?_
        repeat (go_big_quiet_step (first | (go_at_call 87; with_reducible exact calm_of_below (Nat.le_refl _) (KO _))))
        refine wpQuiet_nil ?_
        intro _ hw'
        obtain ⟨x, hx⟩ := hw'
        subst hx
        have hB1 := hb.trans (x.ok.mono hz)
        have X1 := X0.below x.ok
        clear p0 p1 p2 p3 q0 q1 q2 q3 hne X0 hb KO
        generalize x.w = w3 at *
        clear x
        go_wp2
        go_roundw
        case rel => exact ⟨m + 1, hi, by omega, hhl, by go_num, rfl, HR2.out, hB1, X1⟩
        case measure => simp [intOf]; omega
      · have HR2 : Hid (R = skF (lessAt l ⟨xk, xn, xd, xv⟩) lo m) := by show _ = _; rw [HR.out, skF_no _ _ _ hlt (by rw [← hm, HL.out, decide_eq_false hle]), hm]
        clear hcell hc HR HL hm
        generalize cIt l[m].k xk l[m].n xn = c at *
        generalize l[m] = s at *
        obtain ⟨sk, sn, sd, sv⟩ := s
        dsimp only at *
        go_wp2_with fail
        refine wp_region_calm (B := wr.heap.size) (W := wr) (by kernel_rfl) (by kernel_rfl) (Below.refl _ _) ?_
        repeat (go_big_quiet_step (first | (go_at_call 87; with_reducible exact calm_of_below (Nat.le_refl _) (KO _))))
        refine wpQuiet_nil ?_
        intro _ hw'
        obtain ⟨x, hx⟩ := hw'
        subst hx
        have hB1 := hb.trans (x.ok.mono hz)
        have X1 := X0.below x.ok
        clear p0 p1 p2 p3 q0 q1 q2 q3 hne X0 hb KO
        generalize x.w = w3 at *
        clear x
        go_wp2
        go_roundw
        case rel => exact ⟨lo, m, by omega, by omega, rfl, by go_num, HR2.out, hB1, X1⟩
        case measure => simp [intOf]; omega
    · have HE : Hid (R = lo) := by show _ = _; rw [HR.out, skF_end _ _ _ hlt]
      clear hc HR X0
      go_wp2
      go_ret
      exact ⟨by rw [HE.out]; rfl, hb⟩

end Go.Proofs.Ytjenogmpmkkbiaa
