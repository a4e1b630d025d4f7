/-
  What is seen, plainly: of a key at most one; rising keys. samePairs, sameItems of the same.
-/
import Derived.Test.YtjenogmpmkkbiaaX8
import Derived.Test.YtjenogmpmkkbiaaE9
namespace Go.Proofs.Ytjenogmpmkkbiaa
open Go.RowKit
set_option linter.unusedVariables false
set_option maxRecDepth 100000

def ltK (a b : ByteArray) : Prop := Op.bytesLess a.toList b.toList = true
theorem ltK_iff (a b : ByteArray) : ltK a b ↔ a.toList < b.toList := bless_iff _ _
theorem seen_keys {l : List It} (h : goodR l = true) (q : Int) {j i : Nat} (hji : j < i) (hi : i < l.length) (hj : seenB l q j = true) (hs : seenB l q i = true) : ltK (l.getD j default).k (l.getD i default).k := by
  rw [ltK_iff]
  have hr := rise h hji hi
  rw [lessIt_iff] at hr
  rcases hr with hr | ⟨hr, _⟩
  · exact hr
  · exfalso
    obtain ⟨b1, b2⟩ := between h (show j ≤ i - 1 from by omega) (show i - 1 < i from by omega) hi (tl_inj hr)
    unfold seenB at hj hs
    simp only [Bool.and_eq_true, Bool.or_eq_true, beq_iff_eq, decide_eq_true_eq, Bool.not_eq_true', decide_eq_false_iff_not] at hj hs
    have h1 := hj.1
    rcases hs.2 with (h2 | h2) | h2
    · omega
    · exact h2 b1
    · omega
theorem seen_pair {l : List It} (h : goodR l = true) (q : Int) : ∀ i, i ≤ l.length → (seenTo l q i).Pairwise (fun a b => ltK a.k b.k)
  | 0, _ => by simp [seenTo]
  | i + 1, hi => by
    have ih := seen_pair h q i (by omega)
    unfold seenTo
    cases hs : seenB l q i with
    | false => simpa using ih
    | true =>
      rw [if_pos rfl, List.pairwise_append]
      refine ⟨ih, by simp, fun a ha b hb => ?_⟩
      obtain rfl : b = l.getD i default := by simpa using hb
      obtain ⟨j, h1, rfl, h2⟩ := seenTo_mem l q i a ha
      exact seen_keys h q h1 (by omega) h2 hs
theorem ltK_irrefl (a : ByteArray) : ¬ ltK a a := fun h => List.lt_irrefl _ ((ltK_iff a a).1 h)
theorem prs_pair {S : List It} (h : S.Pairwise (fun a b => ltK a.k b.k)) : (prs S).Pairwise (fun a b => ltK a.1 b.1) := by
  unfold prs
  rw [List.pairwise_map]
  exact h.filter _
theorem scan_pair {P : List (ByteArray × ByteArray)} (h : P.Pairwise (fun a b => ltK a.1 b.1)) (f t : ByteArray) : (scanL P f t).Pairwise (fun a b => ltK a.1 b.1) := h.filter _
theorem scan_in {P : List (ByteArray × ByteArray)} {f t : ByteArray} (i : Nat) (hi : i < (scanL P f t).length) : inB f t (scanL P f t)[i].1 = true := by
  have := List.getElem_mem hi
  unfold scanL at this
  exact (List.mem_filter.1 this).2
/-- Whether a pair with the key and the value is among the first k. -/
def fnd (Z : List (ByteArray × ByteArray)) (key v : ByteArray) (k : Nat) : Bool := (Z.take k).any fun p => decide (p.1 = key) && decide (p.2 = v)
theorem fnd_succ (Z : List (ByteArray × ByteArray)) (key v : ByteArray) (k : Nat) (h : k < Z.length) : fnd Z key v (k + 1) = (fnd Z key v k || (decide (Z[k].1 = key) && decide (Z[k].2 = v))) := by
  unfold fnd
  rw [List.take_succ_eq_append_getElem h, List.any_append]
  simp
theorem found_eq {l : List It} (hg : goodR l = true) (q : Int) (key : ByteArray) {x : It} (hx : lookL l q key = some x) : fnd (prs (seenL l q)) key x.v (prs (seenL l q)).length = decide (x.d = 1) := by
  unfold lookL at hx
  have hxk : x.k = key := by have := List.find?_some hx; simpa using this
  have hxm := List.mem_of_find?_eq_some hx
  have hp : (seenL l q).Pairwise (fun a b => ltK a.k b.k) := seen_pair hg q l.length (Nat.le_refl _)
  unfold fnd
  rw [List.take_length, Bool.eq_iff_iff, List.any_eq_true, decide_eq_true_eq]
  constructor
  · rintro ⟨p, hp1, hp2⟩
    simp only [Bool.and_eq_true, decide_eq_true_eq] at hp2
    unfold prs at hp1
    rw [List.mem_map] at hp1
    obtain ⟨y, hy, rfl⟩ := hp1
    rw [List.mem_filter, decide_eq_true_eq] at hy
    have : y = x := by
      have huniq : ∀ (a b : It), a ∈ seenL l q → b ∈ seenL l q → a.k = b.k → a = b := by
        intro a b ha hb hab
        obtain ⟨i, hi, rfl⟩ := List.getElem_of_mem ha
        obtain ⟨j, hj, rfl⟩ := List.getElem_of_mem hb
        rcases Nat.lt_trichotomy i j with h | h | h
        · have := List.pairwise_iff_getElem.1 hp i j hi hj h
          rw [hab] at this; exact absurd this (ltK_irrefl _)
        · subst h; rfl
        · have := List.pairwise_iff_getElem.1 hp j i hj hi h
          rw [hab] at this; exact absurd this (ltK_irrefl _)
      exact huniq y x hy.1 hxm (hp2.1.trans hxk.symm)
    rw [← this]; exact hy.2
  · intro hd
    refine ⟨(x.k, x.v), ?_, by simp [hxk]⟩
    unfold prs
    rw [List.mem_map]
    exact ⟨x, List.mem_filter.2 ⟨hxm, decide_eq_true hd⟩, rfl⟩

theorem eqG45 : Try.prog.eqGuardType Try.prog.depth 45 = false := by kernel_rfl
theorem stood45 : Try.prog.stoodInHeld 45 = false := by kernel_rfl
def gK : Field := { name := "Key", type := 9, offset := 0, embedded := false, tag := "", pkgPath := "", byteOffset := 0 }
def gV : Field := { name := "Value", type := 9, offset := 1, embedded := false, tag := "", pkgPath := "", byteOffset := 16 }
theorem fields45 : Try.prog.fieldsOf 45 = #[gK, gV] := by unfold Program.fieldsOf; rw [Try.underlying45]; rfl
theorem neqPairV (k v : ByteArray) (w : World) :
    (binOp .neq 45 (.agg #[.string k, .string v]) (.agg #[.string k, .string v])).run Try.prog w = .ok (.bool false) w := by
  have hu : Try.prog.underlying 45 = some (.struct (Try.prog.fieldsOf 45)) := by rw [fields45]; exact Try.underlying45
  have H : (Op.equalIn (9999 + 1) 45 (.agg #[.string k, .string v]) (.agg #[.string k, .string v])).run Try.prog w = .ok true w := by
    rw [run_equalIn_struct w 9999 45 _ _ hu stood45, fields45]
    have h1 := eqFields_cons (d := 9999) (xs := #[.string k, .string v]) (ys := #[.string k, .string v]) (f := gK) (fs := [gV]) (x := .string k) (y := .string k) (by decide) (part9 _ 0 _ w rfl) (part9 _ 0 _ w rfl) (run_equalIn_string w 9998 9 k k Try.underlying9)
    have h2 := eqFields_cons (d := 9999) (xs := #[.string k, .string v]) (ys := #[.string k, .string v]) (f := gV) (fs := []) (x := .string v) (y := .string v) (by decide) (part9 _ 1 _ w rfl) (part9 _ 1 _ w rfl) (run_equalIn_string w 9998 9 v v Try.underlying9)
    show (Op.eqFields 9999 _ _ [gK, gV]).run Try.prog w = _
    rw [h1, h2, eqFields_nil]
    simp
  rw [run_neq_struct]
  show (Sem.run Try.prog (Op.equalIn (9999 + 1) 45 _ _) w).andThen _ = _
  rw [H]
  rfl
theorem neqItemV (k v : ByteArray) (n d : Int) (w : World) :
    (binOp .neq 83 (.agg #[.string k, .int .i64 n, .int .i64 d, .string v]) (.agg #[.string k, .int .i64 n, .int .i64 d, .string v])).run Try.prog w = .ok (.bool false) w := by
  have hu : Try.prog.underlying 83 = some (.struct (Try.prog.fieldsOf 83)) := by rw [fields83]; exact Try.underlying83
  have H : (Op.equalIn (9999 + 1) 83 (.agg #[.string k, .int .i64 n, .int .i64 d, .string v]) (.agg #[.string k, .int .i64 n, .int .i64 d, .string v])).run Try.prog w = .ok ((k.toList == k.toList) && ((n == n) && ((d == d) && (v.toList == v.toList)))) w := by
    rw [run_equalIn_struct w 9999 83 _ _ hu stood83, fields83]
    exact eqFields4 (f0 := fK) (f1 := fN) (f2 := fD) (f3 := fV) (x0 := .string k) (x1 := .int .i64 n) (x2 := .int .i64 d) (x3 := .string v) (y0 := .string k) (y1 := .int .i64 n) (y2 := .int .i64 d) (y3 := .string v) (by decide) (by decide) (by decide) (by decide)
      (part9 _ 0 _ w rfl) (part3 _ 1 _ w rfl) (part3 _ 2 _ w rfl) (part9 _ 3 _ w rfl) (part9 _ 0 _ w rfl) (part3 _ 1 _ w rfl) (part3 _ 2 _ w rfl) (part9 _ 3 _ w rfl)
      (run_equalIn_string w 9998 9 _ _ Try.underlying9) (run_equalIn_int w 9998 3 .i64 .i64 _ _ Try.underlying3) (run_equalIn_int w 9998 3 .i64 .i64 _ _ Try.underlying3) (run_equalIn_string w 9998 9 _ _ Try.underlying9)
  rw [run_neq_struct]
  show (Sem.run Try.prog (Op.equalIn (9999 + 1) 83 _ _) w).andThen _ = _
  rw [H]
  simp

set_option maxHeartbeats 2000000 in
theorem samePairs_same (u v : Value) (l : List (ByteArray × ByteArray)) (w : World) (hu : PR w u l) (hv : PR w v l) (hn : l.length ≤ 1048576) :
    Calls Try.prog 18 #[u, v] w fun e w' => e = .returned (.bool true) ∧ Below w.heap.size w w' := by
  obtain ⟨a, cap, rfl, hc⟩ := hu
  obtain ⟨a', cap', rfl, hc'⟩ := hv
  go_enter Try.func18, Try.ntmps18
  go_wp2
  go_loopw [13] (fun i wr => ∃ k : Nat, k ≤ l.length ∧ i = .int .i64 k ∧ Below w.heap.size w wr) (fun i _ => l.length - (intOf i).toNat)
  case atStart => exact ⟨0, Nat.zero_le _, rfl, Below.refl _ _⟩
  case round =>
    obtain ⟨k, hk, rfl, hb⟩ := hrel
    by_cases hlt : k < l.length
    · obtain ⟨b, off, rfl, hbl, hcell⟩ := hc (by intro e; simp [e] at hlt)
      obtain ⟨b', off', rfl, hbl', hcell'⟩ := hc' (by intro e; simp [e] at hlt)
      obtain ⟨s, hse⟩ : ∃ s, s = l[k] := ⟨_, rfl⟩
      have hc0 := (hb.cell (p := ⟨b, off + k * 2, none⟩) hbl).trans (hcell k hlt).1
      have hc1 := (hb.cell (p := ⟨b, off + k * 2 + 1, none⟩) hbl).trans (hcell k hlt).2
      have hd0 := (hb.cell (p := ⟨b', off' + k * 2, none⟩) hbl').trans (hcell' k hlt).1
      have hd1 := (hb.cell (p := ⟨b', off' + k * 2 + 1, none⟩) hbl').trans (hcell' k hlt).2
      rw [← hse] at hc0 hc1 hd0 hd1
      clear hcell hse hc hcell' hc'
      obtain ⟨sk, sv⟩ := s
      dsimp only at hc0 hc1 hd0 hd1
      have EV := fun w => neqPairV sk sv w
      have EG := eqG45
      go_wp2_with fail
      go_quiet (fail)
      go_wp2
      go_roundw
      case rel => exact ⟨k + 1, by omega, by go_num, below_drewN hb _⟩
      case measure => simp [intOf]; omega
    · clear hc hc'
      go_wp2
      go_ret
      exact ⟨rfl, hb⟩

set_option maxHeartbeats 2000000 in
theorem sameItems_same (u v : Value) (l : List It) (w : World) (hu : IR w u l) (hv : IR w v l) (hn : l.length ≤ 1048576) :
    Calls Try.prog 15 #[u, v] w fun e w' => e = .returned (.bool true) ∧ Below w.heap.size w w' := by
  obtain ⟨a, cap, rfl, hc⟩ := hu
  obtain ⟨a', cap', rfl, hc'⟩ := hv
  go_enter Try.func15, Try.ntmps15
  go_wp2
  go_loopw [13] (fun i wr => ∃ k : Nat, k ≤ l.length ∧ i = .int .i64 k ∧ Below w.heap.size w wr) (fun i _ => l.length - (intOf i).toNat)
  case atStart => exact ⟨0, Nat.zero_le _, rfl, Below.refl _ _⟩
  case round =>
    obtain ⟨k, hk, rfl, hb⟩ := hrel
    by_cases hlt : k < l.length
    · obtain ⟨b, off, rfl, hbl, hcell⟩ := hc (by intro e; simp [e] at hlt)
      obtain ⟨b', off', rfl, hbl', hcell'⟩ := hc' (by intro e; simp [e] at hlt)
      obtain ⟨s, hse⟩ : ∃ s, s = l[k] := ⟨_, rfl⟩
      have hc0 := (hb.cell (p := ⟨b, off + k * 4, none⟩) hbl).trans (hcell k hlt).1
      have hc1 := (hb.cell (p := ⟨b, off + k * 4 + 1, none⟩) hbl).trans (hcell k hlt).2.1
      have hc2 := (hb.cell (p := ⟨b, off + k * 4 + 2, none⟩) hbl).trans (hcell k hlt).2.2.1
      have hc3 := (hb.cell (p := ⟨b, off + k * 4 + 3, none⟩) hbl).trans (hcell k hlt).2.2.2
      have hd0 := (hb.cell (p := ⟨b', off' + k * 4, none⟩) hbl').trans (hcell' k hlt).1
      have hd1 := (hb.cell (p := ⟨b', off' + k * 4 + 1, none⟩) hbl').trans (hcell' k hlt).2.1
      have hd2 := (hb.cell (p := ⟨b', off' + k * 4 + 2, none⟩) hbl').trans (hcell' k hlt).2.2.1
      have hd3 := (hb.cell (p := ⟨b', off' + k * 4 + 3, none⟩) hbl').trans (hcell' k hlt).2.2.2
      rw [← hse] at hc0 hc1 hc2 hc3 hd0 hd1 hd2 hd3
      clear hcell hse hc hcell' hc'
      obtain ⟨sk, sn, sd, sv⟩ := s
      dsimp only at hc0 hc1 hc2 hc3 hd0 hd1 hd2 hd3
      have EV := fun w => neqItemV sk sv sn sd w
      have EG := eqG83
      go_wp2_with fail
      go_quiet (fail)
      go_wp2
      go_roundw
      case rel => exact ⟨k + 1, by omega, by go_num, below_drewN hb _⟩
      case measure => simp [intOf]; omega
    · clear hc hc'
      go_wp2
      go_ret
      exact ⟨rfl, hb⟩
end Go.Proofs.Ytjenogmpmkkbiaa
