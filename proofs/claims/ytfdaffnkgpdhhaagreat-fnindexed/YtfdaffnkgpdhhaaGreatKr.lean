/-
  Looking for an item in a run: slices.BinarySearchFunc at impl.orderOf, spec.l6Seek.
  SeekRun, both.
  What is looked for in a table, plainly.
-/
import Derived.Test.YtfdaffnkgpdhhaaGreatN1
import Derived.Test.YtfdaffnkgpdhhaaGreatP7
import Derived.Test.YtfdaffnkgpdhhaaGreatBx
namespace Go.Proofs.YtfdaffnkgpdhhaaGreat
open Go.RowKit
set_option linter.unusedVariables false
set_option maxRecDepth 100000

/-- Halving: where the first item lies that is not less. -/
def skF (p : Nat → Bool) (lo hi : Nat) : Nat :=
  if h : lo < hi then (if p ((lo + hi) / 2) then skF p ((lo + hi) / 2 + 1) hi else skF p lo ((lo + hi) / 2)) else lo
termination_by hi - lo
decreasing_by all_goals omega
theorem skF_end (p : Nat → Bool) (lo hi : Nat) (h : ¬ lo < hi) : skF p lo hi = lo := by rw [skF, dif_neg h]
theorem skF_yes (p : Nat → Bool) (lo hi : Nat) (h : lo < hi) (hp : p ((lo + hi) / 2) = true) : skF p lo hi = skF p ((lo + hi) / 2 + 1) hi := by rw [skF, dif_pos h, if_pos hp]
theorem skF_no (p : Nat → Bool) (lo hi : Nat) (h : lo < hi) (hp : p ((lo + hi) / 2) = false) : skF p lo hi = skF p lo ((lo + hi) / 2) := by rw [skF, dif_pos h, if_neg (by rw [hp]; simp)]
def lessAt (l : List It) (x : It) (i : Nat) : Bool := decide (lessIt (l.getD i default) x)
def seekF (l : List It) (x : It) : Nat := skF (lessAt l x) 0 l.length
theorem skF_le (p : Nat → Bool) : ∀ n lo hi, hi - lo ≤ n → lo ≤ hi → skF p lo hi ≤ hi := by
  intro n
  induction n with
  | zero => intro lo hi h1 h2; rw [skF_end p lo hi (by omega)]; omega
  | succ n ih =>
    intro lo hi h1 h2
    by_cases h : lo < hi
    · cases hp : p ((lo + hi) / 2) with
      | true => rw [skF_yes p lo hi h hp]; exact ih _ _ (by omega) (by omega)
      | false => rw [skF_no p lo hi h hp]; have := ih lo ((lo + hi) / 2) (by omega) (by omega); omega
    · rw [skF_end p lo hi h]; omega
theorem seekF_le (l : List It) (x : It) : seekF l x ≤ l.length := skF_le _ _ 0 l.length (Nat.le_refl _) (by omega)

set_option maxHeartbeats 2000000 in
theorem l6Seek_any (v : Value) (l : List It) (xk xv : ByteArray) (xn xd : Int) (w : World) (hv : IR w v l) (hn : l.length ≤ 1048576) :
    Calls Tryz.prog 48 #[v, .agg #[.string xk, .int .i64 xn, .int .i64 xd, .string xv]] w fun e w' => e = .returned (.int .i64 (seekF l ⟨xk, xn, xd, xv⟩ : Nat)) ∧ Below w.heap.size w w' := by
  obtain ⟨a, cap, rfl, hc⟩ := hv
  have HS : Hid (seekF l ⟨xk, xn, xd, xv⟩ = skF (lessAt l ⟨xk, xn, xd, xv⟩) 0 l.length) := rfl
  generalize seekF l ⟨xk, xn, xd, xv⟩ = R at *
  have hb0 := below_alloc w (.cells #[.string xk, .int .i64 xn, .int .i64 xd, .string xv] 33)
  have X0 := Box.new w #[.string xk, .int .i64 xn, .int .i64 xd, .string xv] 33
  go_enter Tryz.func48, Tryz.ntmps48
  go_wp2
  go_loopw [5, 6] (fun i j wr => ∃ lo hi : Nat, lo ≤ hi ∧ hi ≤ l.length ∧ i = .int .i64 lo ∧ j = .int .i64 hi ∧ R = skF (lessAt l ⟨xk, xn, xd, xv⟩) lo hi ∧ Below w.heap.size w wr ∧ Box wr w.heap.size [.string xk, .int .i64 xn, .int .i64 xd, .string xv]) (fun i j _ => (intOf j).toNat - (intOf i).toNat)
  case atStart => exact ⟨0, l.length, by omega, by omega, rfl, rfl, HS.out, hb0, X0⟩
  case round =>
    clear HS hb0 X0
    obtain ⟨lo, hi, hlh, hhl, rfl, rfl, hR, hb, X0⟩ := hrel
    have HR : Hid (R = skF (lessAt l ⟨xk, xn, xd, xv⟩) lo hi) := hR
    clear hR
    by_cases hlt : lo < hi
    · obtain ⟨b, off, rfl, hbl, hcell⟩ := hc (by intro e; simp [e] at hhl; omega)
      obtain ⟨m, hm⟩ : ∃ m, m = (lo + hi) / 2 := ⟨_, rfl⟩
      have hml : m < l.length := by omega
      have em : ((lo : Int) + hi) / 2 = (m : Int) := by omega
      have em2 : IntKind.i64.wrap (((lo : Int) + hi) / 2) = (m : Int) := by rw [em, IntKind.wrap_i64]; omega
      have hm1 : lo ≤ m := by omega
      have hm2 : m < hi := by omega
      have hz := hb.size
      have hbW : b < wr.heap.size := by omega
      have q0 := fun x : WC wr.heap.size wr => (x.ok.cell (p := ⟨b, off + m * 4, none⟩) hbW).trans ((hb.cell (p := ⟨b, off + m * 4, none⟩) hbl).trans (hcell m hml).1)
      have q1 := fun x : WC wr.heap.size wr => (x.ok.cell (p := ⟨b, off + m * 4 + 1, none⟩) hbW).trans ((hb.cell (p := ⟨b, off + m * 4 + 1, none⟩) hbl).trans (hcell m hml).2.1)
      have q2 := fun x : WC wr.heap.size wr => (x.ok.cell (p := ⟨b, off + m * 4 + 2, none⟩) hbW).trans ((hb.cell (p := ⟨b, off + m * 4 + 2, none⟩) hbl).trans (hcell m hml).2.2.1)
      have q3 := fun x : WC wr.heap.size wr => (x.ok.cell (p := ⟨b, off + m * 4 + 3, none⟩) hbW).trans ((hb.cell (p := ⟨b, off + m * 4 + 3, none⟩) hbl).trans (hcell m hml).2.2.2)
      have p0 := fun x : WC wr.heap.size wr => (X0.below x.ok).2.1 0 _ rfl
      have p1 := fun x : WC wr.heap.size wr => (X0.below x.ok).2.1 1 _ rfl
      have p2 := fun x : WC wr.heap.size wr => (X0.below x.ok).2.1 2 _ rfl
      have p3 := fun x : WC wr.heap.size wr => (X0.below x.ok).2.1 3 _ rfl
      have hne : Nonempty (WC wr.heap.size wr) := ⟨⟨_, Below.refl _ _⟩⟩
      have KO := fun w => l4Compare_any l[m].k l[m].v xk xv l[m].n l[m].d xn xd w
      have HL : Hid (lessAt l ⟨xk, xn, xd, xv⟩ m = decide (cIt l[m].k xk l[m].n xn < 0)) := by show _ = _; unfold lessAt; rw [getD_at l m hml]; rfl
      by_cases hle : cIt l[m].k xk l[m].n xn < 0
      · have HR2 : Hid (R = skF (lessAt l ⟨xk, xn, xd, xv⟩) (m + 1) hi) := by show _ = _; rw [HR.out, skF_yes _ _ _ hlt (by rw [← hm, HL.out, decide_eq_true hle]), hm]
        clear hcell hc HR HL hm
        generalize cIt l[m].k xk l[m].n xn = c at *
        generalize l[m] = s at *
        obtain ⟨sk, sn, sd, sv⟩ := s
        dsimp only at *
        go_wp2_with fail
        refine wp_region_calm (B := wr.heap.size) (W := wr) (by kernel_rfl) (by kernel_rfl) (Below.refl _ _) ?_
        repeat (go_big_quiet_step (first | (go_at_call 90; with_reducible exact calm_of_below (Nat.le_refl _) (KO _))))
        refine wpQuiet_nil ?_
        intro _ hw'
        obtain ⟨x, hx⟩ := hw'
        subst hx
        have hB1 := hb.trans (x.ok.mono hz)
        have X1 := X0.below x.ok
        clear p0 p1 p2 p3 q0 q1 q2 q3 hne X0 hb KO
        generalize x.w = w3 at *
        clear x
        go_wp2
        go_roundw
        case rel => exact ⟨m + 1, hi, by omega, hhl, by go_num, rfl, HR2.out, hB1, X1⟩
        case measure => simp [intOf]; omega
      · have HR2 : Hid (R = skF (lessAt l ⟨xk, xn, xd, xv⟩) lo m) := by show _ = _; rw [HR.out, skF_no _ _ _ hlt (by rw [← hm, HL.out, decide_eq_false hle]), hm]
        clear hcell hc HR HL hm
        generalize cIt l[m].k xk l[m].n xn = c at *
        generalize l[m] = s at *
        obtain ⟨sk, sn, sd, sv⟩ := s
        dsimp only at *
        go_wp2_with fail
        refine wp_region_calm (B := wr.heap.size) (W := wr) (by kernel_rfl) (by kernel_rfl) (Below.refl _ _) ?_
        repeat (go_big_quiet_step (first | (go_at_call 90; with_reducible exact calm_of_below (Nat.le_refl _) (KO _))))
        refine wpQuiet_nil ?_
        intro _ hw'
        obtain ⟨x, hx⟩ := hw'
        subst hx
        have hB1 := hb.trans (x.ok.mono hz)
        have X1 := X0.below x.ok
        clear p0 p1 p2 p3 q0 q1 q2 q3 hne X0 hb KO
        generalize x.w = w3 at *
        clear x
        go_wp2
        go_roundw
        case rel => exact ⟨lo, m, by omega, by omega, rfl, by go_num, HR2.out, hB1, X1⟩
        case measure => simp [intOf]; omega
    · have HE : Hid (R = lo) := by show _ = _; rw [HR.out, skF_end _ _ _ hlt]
      clear hc HR X0
      go_wp2
      go_ret
      exact ⟨by rw [HE.out]; rfl, hb⟩

set_option maxHeartbeats 2000000 in
theorem search_any (v : Value) (l : List It) (xk xv : ByteArray) (xn xd : Int) (w : World) (hv : IR w v l) (hn : l.length ≤ 1048576) :
    Calls Tryz.prog 88 #[v, .agg #[.string xk, .int .i64 xn, .int .i64 xd, .string xv], .func (.func 85) #[] #[]] w fun e w' => (∃ f : Bool, e = .returned (.tuple #[.int .i64 (seekF l ⟨xk, xn, xd, xv⟩ : Nat), .bool f])) ∧ Below w.heap.size w w' := by
  obtain ⟨a, cap, rfl, hc⟩ := hv
  have HS : Hid (seekF l ⟨xk, xn, xd, xv⟩ = skF (lessAt l ⟨xk, xn, xd, xv⟩) 0 l.length) := rfl
  generalize seekF l ⟨xk, xn, xd, xv⟩ = R at *
  have hb0 := below_alloc w (.cells #[.string xk, .int .i64 xn, .int .i64 xd, .string xv] 33)
  have X0 := Box.new w #[.string xk, .int .i64 xn, .int .i64 xd, .string xv] 33
  go_enter Tryz.func88, Tryz.ntmps88
  go_wp2
  go_loopw [9, 10] (fun i j wr => ∃ lo hi : Nat, lo ≤ hi ∧ hi ≤ l.length ∧ i = .int .i64 lo ∧ j = .int .i64 hi ∧ R = skF (lessAt l ⟨xk, xn, xd, xv⟩) lo hi ∧ Below w.heap.size w wr ∧ Box wr w.heap.size [.string xk, .int .i64 xn, .int .i64 xd, .string xv]) (fun i j _ => (intOf j).toNat - (intOf i).toNat)
  case atStart => exact ⟨0, l.length, by omega, by omega, rfl, rfl, HS.out, hb0, X0⟩
  case round =>
    clear HS hb0 X0
    obtain ⟨lo, hi, hlh, hhl, rfl, rfl, hR, hb, X0⟩ := hrel
    have HR : Hid (R = skF (lessAt l ⟨xk, xn, xd, xv⟩) lo hi) := hR
    clear hR
    by_cases hlt : lo < hi
    · obtain ⟨b, off, rfl, hbl, hcell⟩ := hc (by intro e; simp [e] at hhl; omega)
      obtain ⟨m, hm⟩ : ∃ m, m = (lo + hi) / 2 := ⟨_, rfl⟩
      have hml : m < l.length := by omega
      have em : ((lo : Int) + hi) / 2 = (m : Int) := by omega
      have em2 : IntKind.i64.wrap (((lo : Int) + hi) / 2) = (m : Int) := by rw [em, IntKind.wrap_i64]; omega
      have hm1 : lo ≤ m := by omega
      have hm2 : m < hi := by omega
      have hz := hb.size
      have hbW : b < wr.heap.size := by omega
      have q0 := fun x : WC wr.heap.size wr => (x.ok.cell (p := ⟨b, off + m * 4, none⟩) hbW).trans ((hb.cell (p := ⟨b, off + m * 4, none⟩) hbl).trans (hcell m hml).1)
      have q1 := fun x : WC wr.heap.size wr => (x.ok.cell (p := ⟨b, off + m * 4 + 1, none⟩) hbW).trans ((hb.cell (p := ⟨b, off + m * 4 + 1, none⟩) hbl).trans (hcell m hml).2.1)
      have q2 := fun x : WC wr.heap.size wr => (x.ok.cell (p := ⟨b, off + m * 4 + 2, none⟩) hbW).trans ((hb.cell (p := ⟨b, off + m * 4 + 2, none⟩) hbl).trans (hcell m hml).2.2.1)
      have q3 := fun x : WC wr.heap.size wr => (x.ok.cell (p := ⟨b, off + m * 4 + 3, none⟩) hbW).trans ((hb.cell (p := ⟨b, off + m * 4 + 3, none⟩) hbl).trans (hcell m hml).2.2.2)
      have p0 := fun x : WC wr.heap.size wr => (X0.below x.ok).2.1 0 _ rfl
      have p1 := fun x : WC wr.heap.size wr => (X0.below x.ok).2.1 1 _ rfl
      have p2 := fun x : WC wr.heap.size wr => (X0.below x.ok).2.1 2 _ rfl
      have p3 := fun x : WC wr.heap.size wr => (X0.below x.ok).2.1 3 _ rfl
      have hne : Nonempty (WC wr.heap.size wr) := ⟨⟨_, Below.refl _ _⟩⟩
      have KO := fun w => orderOf_any l[m].k l[m].v xk xv l[m].n l[m].d xn xd w
      have HL : Hid (lessAt l ⟨xk, xn, xd, xv⟩ m = decide (cIt l[m].k xk l[m].n xn < 0)) := by show _ = _; unfold lessAt; rw [getD_at l m hml]; rfl
      by_cases hle : cIt l[m].k xk l[m].n xn < 0
      · have HR2 : Hid (R = skF (lessAt l ⟨xk, xn, xd, xv⟩) (m + 1) hi) := by show _ = _; rw [HR.out, skF_yes _ _ _ hlt (by rw [← hm, HL.out, decide_eq_true hle]), hm]
        clear hcell hc HR HL hm
        generalize cIt l[m].k xk l[m].n xn = c at *
        generalize l[m] = s at *
        obtain ⟨sk, sn, sd, sv⟩ := s
        dsimp only at *
        go_wp2_with fail
        refine wp_region_calm (B := wr.heap.size) (W := wr) (by kernel_rfl) (by kernel_rfl) (Below.refl _ _) ?_
        repeat (go_big_quiet_step (first | (go_at_call 85; with_reducible exact calm_of_below (Nat.le_refl _) (KO _))))
        refine wpQuiet_nil ?_
        intro _ hw'
        obtain ⟨x, hx⟩ := hw'
        subst hx
        have hB1 := hb.trans (x.ok.mono hz)
        have X1 := X0.below x.ok
        clear p0 p1 p2 p3 q0 q1 q2 q3 hne X0 hb KO
        generalize x.w = w3 at *
        clear x
        go_wp2
        go_roundw
        case rel => exact ⟨m + 1, hi, by omega, hhl, by go_num, rfl, HR2.out, hB1, X1⟩
        case measure => simp [intOf]; omega
      · have HR2 : Hid (R = skF (lessAt l ⟨xk, xn, xd, xv⟩) lo m) := by show _ = _; rw [HR.out, skF_no _ _ _ hlt (by rw [← hm, HL.out, decide_eq_false hle]), hm]
        clear hcell hc HR HL hm
        generalize cIt l[m].k xk l[m].n xn = c at *
        generalize l[m] = s at *
        obtain ⟨sk, sn, sd, sv⟩ := s
        dsimp only at *
        go_wp2_with fail
        refine wp_region_calm (B := wr.heap.size) (W := wr) (by kernel_rfl) (by kernel_rfl) (Below.refl _ _) ?_
        repeat (go_big_quiet_step (first | (go_at_call 85; with_reducible exact calm_of_below (Nat.le_refl _) (KO _))))
        refine wpQuiet_nil ?_
        intro _ hw'
        obtain ⟨x, hx⟩ := hw'
        subst hx
        have hB1 := hb.trans (x.ok.mono hz)
        have X1 := X0.below x.ok
        clear p0 p1 p2 p3 q0 q1 q2 q3 hne X0 hb KO
        generalize x.w = w3 at *
        clear x
        go_wp2
        go_roundw
        case rel => exact ⟨lo, m, by omega, by omega, rfl, by go_num, HR2.out, hB1, X1⟩
        case measure => simp [intOf]; omega
    · have HE : Hid (R = lo) := by show _ = _; rw [HR.out, skF_end _ _ _ hlt]
      clear HR
      have hz := hb.size
      have hne : Nonempty (WC wr.heap.size wr) := ⟨⟨_, Below.refl _ _⟩⟩
      by_cases hll : lo < l.length
      · obtain ⟨b, off, rfl, hbl, hcell⟩ := hc (by intro e; simp [e] at hll)
        have hbW : b < wr.heap.size := by omega
        have q0 := fun x : WC wr.heap.size wr => (x.ok.cell (p := ⟨b, off + lo * 4, none⟩) hbW).trans ((hb.cell (p := ⟨b, off + lo * 4, none⟩) hbl).trans (hcell lo hll).1)
        have q1 := fun x : WC wr.heap.size wr => (x.ok.cell (p := ⟨b, off + lo * 4 + 1, none⟩) hbW).trans ((hb.cell (p := ⟨b, off + lo * 4 + 1, none⟩) hbl).trans (hcell lo hll).2.1)
        have q2 := fun x : WC wr.heap.size wr => (x.ok.cell (p := ⟨b, off + lo * 4 + 2, none⟩) hbW).trans ((hb.cell (p := ⟨b, off + lo * 4 + 2, none⟩) hbl).trans (hcell lo hll).2.2.1)
        have q3 := fun x : WC wr.heap.size wr => (x.ok.cell (p := ⟨b, off + lo * 4 + 3, none⟩) hbW).trans ((hb.cell (p := ⟨b, off + lo * 4 + 3, none⟩) hbl).trans (hcell lo hll).2.2.2)
        have p0 := fun x : WC wr.heap.size wr => (X0.below x.ok).2.1 0 _ rfl
        have p1 := fun x : WC wr.heap.size wr => (X0.below x.ok).2.1 1 _ rfl
        have p2 := fun x : WC wr.heap.size wr => (X0.below x.ok).2.1 2 _ rfl
        have p3 := fun x : WC wr.heap.size wr => (X0.below x.ok).2.1 3 _ rfl
        have KO := fun w => orderOf_any l[lo].k l[lo].v xk xv l[lo].n l[lo].d xn xd w
        clear hcell hc
        generalize cIt l[lo].k xk l[lo].n xn = c at *
        generalize l[lo] = s at *
        obtain ⟨sk, sn, sd, sv⟩ := s
        dsimp only at *
        go_wp2_with fail
        refine wp_region_calm (B := wr.heap.size) (W := wr) (by kernel_rfl) (by kernel_rfl) (Below.refl _ _) ?_
        repeat (go_big_quiet_step (first | (go_at_call 85; with_reducible exact calm_of_below (Nat.le_refl _) (KO _))))
        refine wpQuiet_nil ?_
        intro _ hw'
        obtain ⟨x, hx⟩ := hw'
        subst hx
        have hB1 := hb.trans (x.ok.mono hz)
        clear p0 p1 p2 p3 q0 q1 q2 q3 hne X0 hb KO
        generalize x.w = w3 at *
        clear x
        go_wp2
        go_ret2
        exact ⟨⟨_, by rw [HE.out]; rfl⟩, hB1⟩
      · clear hc X0
        go_wp2_with fail
        refine wp_region_calm (B := wr.heap.size) (W := wr) (by kernel_rfl) (by kernel_rfl) (Below.refl _ _) ?_
        repeat (go_big_quiet_step (fail))
        refine wpQuiet_nil ?_
        intro _ hw'
        obtain ⟨x, hx⟩ := hw'
        subst hx
        have hB1 := hb.trans (x.ok.mono hz)
        clear hne hb
        generalize x.w = w3 at *
        clear x
        go_wp2
        go_ret2
        exact ⟨⟨_, by rw [HE.out]; rfl⟩, hB1⟩
end Go.Proofs.YtfdaffnkgpdhhaaGreat

namespace Go.Proofs.YtfdaffnkgpdhhaaGreat
open Go.RowKit
set_option linter.unusedVariables false
set_option maxRecDepth 100000

/-- What SeekRun answers. -/
def okSeek (l : List It) (key : ByteArray) (n : Int) : Bool := goodR l && okKey key && okSeq n
def sekF (l : List It) (key : ByteArray) (n : Int) : Int := if okSeek l key n then ((seekF l ⟨key, n, 0, ⟨#[]⟩⟩ : Nat) : Int) else 0
theorem sekF_yes {l : List It} {key : ByteArray} {n : Int} (h : okSeek l key n = true) : sekF l key n = ((seekF l ⟨key, n, 0, ⟨#[]⟩⟩ : Nat) : Int) := by unfold sekF; rw [if_pos h]
theorem sekF_no {l : List It} {key : ByteArray} {n : Int} (h : okSeek l key n = false) : sekF l key n = 0 := by unfold sekF; rw [if_neg (by rw [h]; simp)]

set_option maxHeartbeats 2000000 in
theorem specSeek_any (v : Value) (l : List It) (key : ByteArray) (n : Int) (w : World) (hv : IR w v l) (hn : l.length ≤ 1048576) (hs : ∀ i (h : i < l.length), l[i].k.size ≤ 1048576 ∧ l[i].v.size ≤ 1048576) (hk : key.size ≤ 1048576) :
    Calls Tryz.prog 15 #[v, .string key, .int .i64 n] w fun e w' => e = .returned (.tuple #[.int .i64 (sekF l key n), .bool (okSeek l key n)]) ∧ Below w.heap.size w w' := by
  have G := fun w h => specRun_any v l w h hn hs
  have K := fun w => l4Key_any key w hk
  have S := fun w => l4Seq_any n w
  have HO : Hid (okSeek l key n = (goodR l && okKey key && okSeq n)) := rfl
  have HY : Hid (okSeek l key n = true → sekF l key n = ((seekF l ⟨key, n, 0, ⟨#[]⟩⟩ : Nat) : Int)) := sekF_yes
  have HN : Hid (okSeek l key n = false → sekF l key n = 0) := sekF_no
  have F := fun w h => l6Seek_any v l key ⟨#[]⟩ n 0 w h hn
  generalize okSeek l key n = ok at *
  generalize sekF l key n = R at *
  generalize seekF l ⟨key, n, 0, ⟨#[]⟩⟩ = T at *
  clear hs
  cases hg : goodR l with
  | false =>
    rw [hg] at G HO
    obtain rfl : ok = false := HO.out
    obtain rfl : R = 0 := HN.out rfl
    clear HO HY HN K S F hg
    go_enter Tryz.func15, Tryz.ntmps15
    go_wp2_with fail
    refine (G _ hv).mono ?_
    rintro e w1 ⟨rfl, hb1⟩
    clear G hv
    go_wp2
    go_ret2
    exact ⟨rfl, hb1⟩
  | true =>
    cases hq : okKey key with
    | false =>
      rw [hg, hq] at HO
      rw [hg] at G
      rw [hq] at K
      obtain rfl : ok = false := HO.out
      obtain rfl : R = 0 := HN.out rfl
      clear HO HY HN S F hg hq
      go_enter Tryz.func15, Tryz.ntmps15
      go_wp2_with fail
      refine (G _ hv).mono ?_
      rintro e w1 ⟨rfl, hb1⟩
      clear G hv
      go_wp2_with fail
      refine (K _).mono ?_
      rintro e w2 ⟨rfl, hw⟩
      rw [hw]; clear hw K
      go_wp2
      go_ret2
      exact ⟨rfl, hb1⟩
    | true =>
      cases hr : okSeq n with
      | false =>
        rw [hg, hq, hr] at HO
        rw [hg] at G
        rw [hq] at K
        rw [hr] at S
        obtain rfl : ok = false := HO.out
        obtain rfl : R = 0 := HN.out rfl
        clear HO HY HN F hg hq hr
        go_enter Tryz.func15, Tryz.ntmps15
        go_wp2_with fail
        refine (G _ hv).mono ?_
        rintro e w1 ⟨rfl, hb1⟩
        clear G hv
        go_wp2_with fail
        refine (K _).mono ?_
        rintro e w2 ⟨rfl, hw⟩
        rw [hw]; clear hw K
        go_wp2_with fail
        refine (S _).mono ?_
        rintro e w3 ⟨rfl, hw⟩
        rw [hw]; clear hw S
        go_wp2
        go_ret2
        exact ⟨rfl, hb1⟩
      | true =>
        rw [hg, hq, hr] at HO
        rw [hg] at G
        rw [hq] at K
        rw [hr] at S
        obtain rfl : ok = true := HO.out
        obtain rfl : R = (T : Int) := HY.out rfl
        clear HO HY HN hg hq hr
        go_enter Tryz.func15, Tryz.ntmps15
        go_wp2_with fail
        refine (G _ hv).mono ?_
        rintro e w1 ⟨rfl, hb1⟩
        have hv1 := hv.below hb1
        clear G hv
        go_wp2_with fail
        refine (K _).mono ?_
        rintro e w2 ⟨rfl, hw⟩
        rw [hw]; clear hw K
        go_wp2_with fail
        refine (S _).mono ?_
        rintro e w3 ⟨rfl, hw⟩
        rw [hw]; clear hw S
        go_wp2_with fail
        refine (F _ hv1).mono ?_
        rintro e w4 ⟨rfl, hb4⟩
        have hB4 := below_then hb1 hb4
        clear F hv1 hb1 hb4
        go_wp2
        go_ret2
        exact ⟨rfl, hB4⟩

set_option maxHeartbeats 2000000 in
theorem implSeek_any (v : Value) (l : List It) (key : ByteArray) (n : Int) (w : World) (hv : IR w v l) (hn : l.length ≤ 1048576) (hs : ∀ i (h : i < l.length), l[i].k.size ≤ 1048576 ∧ l[i].v.size ≤ 1048576) (hk : key.size ≤ 1048576) :
    Calls Tryz.prog 44 #[v, .string key, .int .i64 n] w fun e w' => e = .returned (.tuple #[.int .i64 (sekF l key n), .bool (okSeek l key n)]) ∧ Below w.heap.size w w' := by
  have G := fun w h => implRun_any v l w h hn hs
  have K := fun w => goodKey_any key w hk
  have S := fun w => goodSeq_any n w
  have HO : Hid (okSeek l key n = (goodR l && okKey key && okSeq n)) := rfl
  have HY : Hid (okSeek l key n = true → sekF l key n = ((seekF l ⟨key, n, 0, ⟨#[]⟩⟩ : Nat) : Int)) := sekF_yes
  have HN : Hid (okSeek l key n = false → sekF l key n = 0) := sekF_no
  have F := fun w h => search_any v l key ⟨#[]⟩ n 0 w h hn
  generalize okSeek l key n = ok at *
  generalize sekF l key n = R at *
  generalize seekF l ⟨key, n, 0, ⟨#[]⟩⟩ = T at *
  clear hs
  cases hg : goodR l with
  | false =>
    rw [hg] at G HO
    obtain rfl : ok = false := HO.out
    obtain rfl : R = 0 := HN.out rfl
    clear HO HY HN K S F hg
    go_enter Tryz.func44, Tryz.ntmps44
    go_wp2_with fail
    refine (G _ hv).mono ?_
    rintro e w1 ⟨rfl, hb1⟩
    clear G hv
    go_wp2
    go_ret2
    exact ⟨rfl, hb1⟩
  | true =>
    cases hq : okKey key with
    | false =>
      rw [hg, hq] at HO
      rw [hg] at G
      rw [hq] at K
      obtain rfl : ok = false := HO.out
      obtain rfl : R = 0 := HN.out rfl
      clear HO HY HN S F hg hq
      go_enter Tryz.func44, Tryz.ntmps44
      go_wp2_with fail
      refine (G _ hv).mono ?_
      rintro e w1 ⟨rfl, hb1⟩
      clear G hv
      go_wp2_with fail
      refine (K _).mono ?_
      rintro e w2 ⟨rfl, hw⟩
      rw [hw]; clear hw K
      go_wp2
      go_ret2
      exact ⟨rfl, hb1⟩
    | true =>
      cases hr : okSeq n with
      | false =>
        rw [hg, hq, hr] at HO
        rw [hg] at G
        rw [hq] at K
        rw [hr] at S
        obtain rfl : ok = false := HO.out
        obtain rfl : R = 0 := HN.out rfl
        clear HO HY HN F hg hq hr
        go_enter Tryz.func44, Tryz.ntmps44
        go_wp2_with fail
        refine (G _ hv).mono ?_
        rintro e w1 ⟨rfl, hb1⟩
        clear G hv
        go_wp2_with fail
        refine (K _).mono ?_
        rintro e w2 ⟨rfl, hw⟩
        rw [hw]; clear hw K
        go_wp2_with fail
        refine (S _).mono ?_
        rintro e w3 ⟨rfl, hw⟩
        rw [hw]; clear hw S
        go_wp2
        go_ret2
        exact ⟨rfl, hb1⟩
      | true =>
        rw [hg, hq, hr] at HO
        rw [hg] at G
        rw [hq] at K
        rw [hr] at S
        obtain rfl : ok = true := HO.out
        obtain rfl : R = (T : Int) := HY.out rfl
        clear HO HY HN hg hq hr
        go_enter Tryz.func44, Tryz.ntmps44
        go_wp2_with fail
        refine (G _ hv).mono ?_
        rintro e w1 ⟨rfl, hb1⟩
        have hv1 := hv.below hb1
        clear G hv
        go_wp2_with fail
        refine (K _).mono ?_
        rintro e w2 ⟨rfl, hw⟩
        rw [hw]; clear hw K
        go_wp2_with fail
        refine (S _).mono ?_
        rintro e w3 ⟨rfl, hw⟩
        rw [hw]; clear hw S
        go_wp2_with fail
        refine (F _ hv1).mono ?_
        rintro e w4 ⟨⟨f, rfl⟩, hb4⟩
        have hB4 := below_then hb1 hb4
        clear F hv1 hb1 hb4
        go_wp2
        go_ret2
        exact ⟨rfl, hB4⟩
end Go.Proofs.YtfdaffnkgpdhhaaGreat

namespace Go.Proofs.YtfdaffnkgpdhhaaGreat
open Go.RowKit
set_option linter.unusedVariables false
set_option maxRecDepth 100000

theorem bless_iff : ∀ (x y : List UInt8), Op.bytesLess x y = true ↔ x < y
  | [], [] => by simp [Op.bytesLess]
  | _ :: _, [] => by simp [Op.bytesLess]
  | [], _ :: _ => by simp [Op.bytesLess]
  | a :: x, b :: y => by
    have ih := bless_iff x y
    simp only [Op.bytesLess, List.cons_lt_cons_iff, Bool.or_eq_true, Bool.and_eq_true, decide_eq_true_eq, beq_iff_eq, ih]
theorem lessIt_iff (a b : It) : lessIt a b ↔ a.k.toList < b.k.toList ∨ (a.k.toList = b.k.toList ∧ b.n < a.n) := by
  unfold lessIt cIt cI
  by_cases h : Op.bytesLess a.k.toList b.k.toList = true
  · rw [if_pos h]
    exact ⟨fun _ => Or.inl ((bless_iff _ _).1 h), fun _ => by omega⟩
  · rw [if_neg h]
    have hn : ¬ a.k.toList < b.k.toList := fun h' => h ((bless_iff _ _).2 h')
    by_cases e : a.k.toList = b.k.toList
    · rw [if_pos (by simpa using e)]
      constructor
      · intro h1
        refine Or.inr ⟨e, ?_⟩
        split at h1
        · assumption
        · split at h1 <;> omega
      · rintro (h1 | ⟨_, h1⟩)
        · exact absurd h1 hn
        · rw [if_pos h1]; omega
    · rw [if_neg (by simpa using e)]
      constructor
      · intro h1; omega
      · rintro (h1 | ⟨h1, _⟩)
        · exact absurd h1 hn
        · exact absurd h1 e
theorem lessIt_trans {a b c : It} (h1 : lessIt a b) (h2 : lessIt b c) : lessIt a c := by
  rw [lessIt_iff] at *
  rcases h1 with h1 | ⟨e1, h1⟩
  · rcases h2 with h2 | ⟨e2, h2⟩
    · exact Or.inl (List.lt_trans h1 h2)
    · exact Or.inl (e2 ▸ h1)
  · rcases h2 with h2 | ⟨e2, h2⟩
    · exact Or.inl (e1 ▸ h2)
    · exact Or.inr ⟨e1.trans e2, by omega⟩
theorem rising {L : List It} (h : goodR L = true) : ∀ (d i : Nat), i + d + 1 < L.length → lessIt (L.getD i default) (L.getD (i + d + 1) default) := by
  intro d
  induction d with
  | zero =>
    intro i hi
    have := goodR_at h (i := i + 1) (by omega)
    unfold okAt at this
    simp only [Bool.and_eq_true, Bool.or_eq_true, beq_iff_eq, decide_eq_true_eq] at this
    rcases this.2 with h1 | h1
    · omega
    · simpa using h1
  | succ d ih =>
    intro i hi
    have h1 := ih i (by omega)
    have := goodR_at h (i := i + (d + 1) + 1) (by omega)
    unfold okAt at this
    simp only [Bool.and_eq_true, Bool.or_eq_true, beq_iff_eq, decide_eq_true_eq] at this
    rcases this.2 with h2 | h2
    · omega
    · rw [show i + (d + 1) + 1 - 1 = i + d + 1 from by omega] at h2
      exact lessIt_trans h1 h2
theorem skF_right (p : Nat → Bool) (n : Nat) (hm : ∀ i j, i < j → j < n → p j = true → p i = true) : ∀ (f lo hi : Nat), hi - lo ≤ f → lo ≤ hi → hi ≤ n → (∀ i, i < lo → p i = true) → (∀ i, hi ≤ i → i < n → p i = false) → ∀ i, i < n → p i = decide (i < skF p lo hi) := by
  intro f
  induction f with
  | zero =>
    intro lo hi h1 h2 h3 h4 h5 i hi'
    rw [skF_end p lo hi (by omega)]
    by_cases h : i < lo
    · rw [h4 i h, decide_eq_true h]
    · rw [h5 i (by omega) hi', decide_eq_false h]
  | succ f ih =>
    intro lo hi h1 h2 h3 h4 h5 i hi'
    by_cases h : lo < hi
    · cases hp : p ((lo + hi) / 2) with
      | true =>
        rw [skF_yes p lo hi h hp]
        refine ih _ _ (by omega) (by omega) h3 (fun j hj => ?_) h5 i hi'
        by_cases hj2 : j = (lo + hi) / 2
        · rw [hj2]; exact hp
        · exact hm j _ (by omega) (by omega) hp
      | false =>
        rw [skF_no p lo hi h hp]
        refine ih _ _ (by omega) (by omega) (by omega) h4 (fun j hj1 hj2 => ?_) i hi'
        cases hpj : p j with
        | false => rfl
        | true =>
          by_cases he : j = (lo + hi) / 2
          · rw [he] at hpj; rw [hp] at hpj; cases hpj
          · rw [hm ((lo + hi) / 2) j (by omega) hj2 hpj] at hp; cases hp
    · rw [skF_end p lo hi h]
      by_cases h' : i < lo
      · rw [h4 i h', decide_eq_true h']
      · rw [h5 i (by omega) hi', decide_eq_false h']
/-- What is looked for is ahead of none that is less, and behind none that is not. -/
theorem seek_right {L : List It} (h : goodR L = true) (x : It) : ∀ i, i < L.length → lessAt L x i = decide (i < seekF L x) := by
  refine skF_right (lessAt L x) L.length ?_ L.length 0 L.length (by omega) (by omega) (Nat.le_refl _) (fun i hi => by omega) (fun i h1 h2 => by omega)
  intro i j hij hj hp
  unfold lessAt at *
  rw [decide_eq_true_eq] at *
  have := rising h (j - i - 1) i (by omega)
  rw [show i + (j - i - 1) + 1 = j from by omega] at this
  exact lessIt_trans this hp
theorem com_text (a b : ByteArray) : a.extract 0 (com (bl a) (bl b)) = b.extract 0 (com (bl a) (bl b)) := by
  apply bl_inj
  rw [bl_to, bl_to]; exact com_same _ _

theorem lessAt_chk (l : List It) (x : It) (i t : Nat) (h : t < (chk l i).length) : lessAt (chk l i) x t = lessAt l x (8 * i + t) := by unfold lessAt; rw [chk_at l i t h]
theorem lastI_at (l : List It) (i : Nat) (hi : i < nb l) : lastI l i = l.getD (8 * i + ((chk l i).length - 1)) default := by
  have h8 := nb_lt hi
  have hc := chk_len l i
  unfold lastI
  rw [chk_at l i _ (by omega)]
/-- Where the block's last item is not less, and those ahead are, what is looked for is in that block. -/
theorem seek_block {l : List It} (hg : goodR l = true) (x : It) {i : Nat} (hi : i < nb l) (hn : ¬ lessIt (lastI l i) x) (ha : ∀ j, j < i → lessIt (lastI l j) x) :
    seekF (chk l i) x < (chk l i).length ∧ seekF l x = 8 * i + seekF (chk l i) x ∧ seekF l x < l.length := by
  have h8 := nb_lt hi
  have hc := chk_len l i
  have hs := seek_right (chk_good hg i) x
  have hl := seek_right hg x
  have e1 := hs ((chk l i).length - 1) (by omega)
  have e2 : lessAt (chk l i) x ((chk l i).length - 1) = false := by
    unfold lessAt
    exact decide_eq_false (by have := hn; unfold lastI at this; exact this)
  rw [e2] at e1
  have hj : seekF (chk l i) x < (chk l i).length := by
    have : ¬ (chk l i).length - 1 < seekF (chk l i) x := fun h => by rw [decide_eq_true h] at e1; cases e1
    omega
  have e3 := hs (seekF (chk l i) x) hj
  rw [lessAt_chk l x i _ hj, hl _ (by omega), decide_eq_false (Nat.lt_irrefl _), decide_eq_false_iff_not] at e3
  have e4 : 8 * i + seekF (chk l i) x ≤ seekF l x := by
    rcases Nat.eq_zero_or_pos (seekF (chk l i) x) with h0 | h0
    · rcases Nat.eq_zero_or_pos i with h1 | h1
      · omega
      · have h2 := ha (i - 1) (by omega)
        rw [lastI_at l (i - 1) (by omega)] at h2
        have hc2 := chk_len l (i - 1)
        have h3 := hl (8 * (i - 1) + ((chk l (i - 1)).length - 1)) (by omega)
        unfold lessAt at h3
        rw [decide_eq_true h2, Bool.true_eq, decide_eq_true_eq] at h3
        omega
    · have h1 := hs (seekF (chk l i) x - 1) (by omega)
      rw [lessAt_chk l x i _ (by omega), hl _ (by omega), decide_eq_true (show seekF (chk l i) x - 1 < seekF (chk l i) x by omega), decide_eq_true_eq] at h1
      omega
  exact ⟨hj, by omega, by omega⟩
theorem seek_none {l : List It} (hg : goodR l = true) (hl : 1 ≤ l.length) (x : It) (ha : ∀ j, j < nb l → lessIt (lastI l j) x) : seekF l x = l.length := by
  have hs := seek_right hg x
  have hnb : nb l = (l.length + 7) / 8 := rfl
  have h2 := ha (nb l - 1) (by omega)
  rw [lastI_at l _ (by omega)] at h2
  have hc := chk_len l (nb l - 1)
  have h3 := hs (8 * (nb l - 1) + ((chk l (nb l - 1)).length - 1)) (by omega)
  unfold lessAt at h3
  rw [decide_eq_true h2, Bool.true_eq, decide_eq_true_eq] at h3
  have := seekF_le l x
  omega
end Go.Proofs.YtfdaffnkgpdhhaaGreat

