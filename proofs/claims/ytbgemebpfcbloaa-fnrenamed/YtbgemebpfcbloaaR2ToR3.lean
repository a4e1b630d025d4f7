/-
  impl.meaningOf: a map of the names, and what is looked up in it.
  Names in rising order: which one is found by going through them, and which one a map of them has.
  What is looked up in the map of the names; spec.l1At; a file's text by its name.
-/
import Derived.Test.YtbgemebpfcbloaaS1ToR1
import Derived.Maps.Own
import Derived.Maps.OwnOps
import Derived.Maps.OwnSet
import Derived.Maps.Views
import Derived.Test.YtbgemebpfcbloaaG4ToD
namespace Go.Proofs.Ytbgemebpfcbloaa
open Go.RowKit Go.Maps
set_option maxRecDepth 100000
set_option linter.unusedVariables false

theorem law9 : Keyed Try.prog 9 := string_keyed Try.underlying9
theorem zero3 (w : World) : (zeroValue 3).run Try.prog w = .ok (.int .i64 0) w := by kernel_rfl

def keyL (s : ByteArray) : Lit := .string s.data.toList
def mapD (l : List (ByteArray × Int)) : DataW Unit := l.foldl (fun m x => m.put (keyL x.1) (.lit (.int .i64 x.2))) (.map [])
theorem mapD_snoc (l : List (ByteArray × Int)) (x : ByteArray × Int) : mapD (l ++ [x]) = (mapD l).put (keyL x.1) (.lit (.int .i64 x.2)) := by simp [mapD, List.foldl_append]
theorem keyL_key (s : ByteArray) : WideAt.IsKeyLit (keyL s) := trivial
theorem keyL_inj {s t : ByteArray} (h : keyL s = keyL t) : s = t := by
  unfold keyL at h
  injection h with h
  cases s; cases t; simp only [Array.toList_inj] at h; rw [h]

set_option maxHeartbeats 1000000 in
theorem meaningOf_any (v : Value) (l : List (ByteArray × Int)) (w : World) (hv : PL w v l) (hn : l.length ≤ 1048576) (hs : ∀ i (h : i < l.length), l[i].1.size ≤ 1048576) (hi2 : ∀ i (h : i < l.length), 0 ≤ l[i].2 ∧ l[i].2 ≤ 1048576) :
    Calls Try.prog 52 #[v] w fun e w' => e = .returned (.map (some w.heap.size)) ∧ w'.ownsMap Try.prog 9 (plainElem Try.prog 3) w.heap.size l.length (mapD l) ∧ Below w.heap.size w w' := by
  obtain ⟨a, cap, rfl, hc⟩ := hv
  have hmm := @run_makeMap Try.prog
  go_enter Try.func52, Try.ntmps52
  go_wp2
  go_loopw [9] (fun i wr => ∃ k : Nat, k ≤ l.length ∧ i = .int .i64 k ∧ wr.ownsMap Try.prog 9 (plainElem Try.prog 3) w.heap.size k (mapD (l.take k)) ∧ Below w.heap.size w wr) (fun i _ => l.length - (intOf i).toNat)
  case atStart => exact ⟨0, Nat.zero_le _, rfl, World.ownsMap_made _ _ _ _, below_alloc _ _⟩
  case round =>
    clear hmm
    obtain ⟨k, hk, rfl, hown, hb⟩ := hrel
    by_cases hlt : k < l.length
    · obtain ⟨b, off, rfl, hbl, hcell⟩ := hc (by intro e; simp [e] at hlt)
      obtain ⟨s, hse⟩ : ∃ s, s = l[k].1 := ⟨_, rfl⟩
      obtain ⟨m, hme⟩ : ∃ m, m = l[k].2 := ⟨_, rfl⟩
      have e0 : wr.cell? ⟨b, off + k * 2, none⟩ = some (.string s) := by rw [hse]; exact (hb.cell (p := ⟨b, off + k * 2, none⟩) hbl).trans (hcell k hlt).1
      have e1 : wr.cell? ⟨b, off + k * 2 + 1, none⟩ = some (.int .i64 m) := by rw [hme]; exact (hb.cell (p := ⟨b, off + k * 2 + 1, none⟩) hbl).trans (hcell k hlt).2
      have hkey : keyOf Try.prog 9 (.string s) = some (keyL s) := WideMaps.keyOf_string_mk Try.underlying9 (by rw [hse]; have := hs k hlt; unfold maxLen; omega)
      have hm0 : 0 ≤ m := by rw [hme]; exact (hi2 k hlt).1
      have hm1 : m ≤ 1048576 := by rw [hme]; exact (hi2 k hlt).2
      have HT : Hid (mapD (l.take (k + 1)) = (mapD (l.take k)).put (keyL s) (.lit (.int .i64 m))) := by
        show _ = _
        rw [hse, hme, List.take_succ_eq_append_getElem hlt, mapD_snoc]
      have hz := hb.size
      have hz' : w.heap.size < wr.heap.size := by
        obtain ⟨es, clock, hh, _⟩ := hown
        exact (Array.getElem?_eq_some_iff.1 hh).1
      clear hcell hse hme hc hs hi2
      generalize mapD (l.take k) = D at *
      go_wp2_with (at_mapUpdate; refine wpList_mapUpdate_own _ rfl _ _ _ 94 rfl 9 3 law9 Try.underlying94 _ w.heap.size k _ rfl (hown.alloc _) (by unfold maxLen; omega) _ _ _ rfl rfl hkey _ [] (plainElem_int Try.underlying3 (WalkArith.wf_i64 (by omega))) ?_; intro w2 hown2 hgrow2)
      go_roundw
      case rel => exact ⟨k + 1, by omega, by go_num, by rw [HT.out]; exact hown2, (hb.alloc hz _).grown hgrow2 (by simp; omega) (fun j hj => by cases hj; exact Nat.le_refl _)⟩
      case measure => simp [intOf]; omega
    · have hkk : k = l.length := by omega
      subst hkk
      rw [List.take_length] at hown
      go_wp2
      go_ret
      exact ⟨rfl, hown, hb⟩
end Go.Proofs.Ytbgemebpfcbloaa

namespace Go.Proofs.Ytbgemebpfcbloaa
open Go.RowKit Go.Maps

theorem bless_iff : ∀ (x y : List UInt8), Op.bytesLess x y = true ↔ x < y
  | [], [] => by simp [Op.bytesLess]
  | _ :: _, [] => by simp [Op.bytesLess]
  | [], _ :: _ => by simp [Op.bytesLess]
  | a :: x, b :: y => by
    have ih := bless_iff x y
    simp only [Op.bytesLess, List.cons_lt_cons_iff, Bool.or_eq_true, Bool.and_eq_true, decide_eq_true_eq, beq_iff_eq, ih]
theorem less_iff (a b : ByteArray) : less a b = true ↔ a.toList < b.toList := bless_iff _ _
theorem less_irrefl (a : ByteArray) : less a a = false := by
  cases h : less a a with
  | false => rfl
  | true => exact absurd ((less_iff a a).1 h) (List.lt_irrefl _)
theorem less_trans {a b c : ByteArray} (h : less a b = true) (k : less b c = true) : less a c = true :=
  (less_iff a c).2 (List.lt_trans ((less_iff a b).1 h) ((less_iff b c).1 k))
theorem toList_inj {a b : ByteArray} (h : a.toList = b.toList) : a = b := by
  rw [ByteArray.toList_eq, ByteArray.toList_eq] at h
  cases a; cases b; simp only [Array.toList_inj] at h; rw [h]

/-- Each name is less than the next. -/
theorem okNs_next {l : List (ByteArray × Int)} {n : Nat} (h : okNs l n = true) (i : Nat) (hi : i + 1 < l.length) : less l[i].1 l[i + 1].1 = true := by
  simp only [okNs, Bool.and_eq_true] at h
  have h1 := h.1
  unfold okEs at h1
  rw [List.all_eq_true] at h1
  have h2 := h1 (i + 1) (by simpa using hi)
  simp only [okE, List.getD_eq_getElem?_getD, Nat.add_sub_cancel, List.getElem?_eq_getElem hi, List.getElem?_eq_getElem (show i < l.length from by omega), Option.getD_some, Bool.and_eq_true, Bool.or_eq_true, decide_eq_true_eq] at h2
  rcases h2.2 with h3 | h3
  · omega
  · exact h3
theorem okNs_less {l : List (ByteArray × Int)} {n : Nat} (h : okNs l n = true) (i d : Nat) (hi : i + (d + 1) < l.length) : less l[i].1 l[i + (d + 1)].1 = true := by
  induction d with
  | zero => exact okNs_next h i hi
  | succ d ih =>
    have h1 := ih (by omega)
    have h2 := okNs_next h (i + (d + 1)) (by omega)
    exact less_trans h1 h2
theorem okNs_lt {l : List (ByteArray × Int)} {n : Nat} (h : okNs l n = true) (i j : Nat) (hij : i < j) (hj : j < l.length) : less l[i].1 l[j].1 = true := by
  obtain ⟨d, rfl⟩ : ∃ d, j = i + (d + 1) := ⟨j - i - 1, by omega⟩
  exact okNs_less h i d hj

/-- What a name means in a list: the last that has it. -/
def lkp (nm : ByteArray) (o : Option Int) : List (ByteArray × Int) → Option Int
  | [] => o
  | x :: r => lkp nm (if x.1.toList == nm.toList then some x.2 else o) r
theorem lkp_none (nm : ByteArray) (o : Option Int) (l : List (ByteArray × Int)) (h : ∀ i (hi : i < l.length), l[i].1 ≠ nm) : lkp nm o l = o := by
  induction l generalizing o with
  | nil => rfl
  | cons x r ih =>
    have h0 : x.1 ≠ nm := h 0 (by simp)
    have hb : (x.1.toList == nm.toList) = false := by
      cases hb : (x.1.toList == nm.toList) with
      | false => rfl
      | true => exact absurd (toList_inj (by simpa using hb)) h0
    simp only [lkp, hb]
    exact ih o fun i hi e => h (i + 1) (by simpa using hi) (by rw [List.getElem_cons_succ]; exact e)
theorem lkp_some (nm : ByteArray) (o : Option Int) (l : List (ByteArray × Int)) (k : Nat) (hk : k < l.length) (he : l[k].1 = nm) (h : ∀ i (hi : i < l.length), l[i].1 = nm → i = k) : lkp nm o l = some l[k].2 := by
  induction l generalizing o k with
  | nil => simp at hk
  | cons x r ih =>
    cases k with
    | zero =>
      have h0 : x.1 = nm := he
      simp only [lkp, h0, beq_self_eq_true, if_true]
      rw [lkp_none nm _ r fun i hi hx => by have := h (i + 1) (by simpa using hi) (by simpa using hx); omega]
      rfl
    | succ k =>
      simp only [lkp]
      exact ih _ k (by simpa using hk) (by simpa using he) fun i hi hx => by have := h (i + 1) (by simpa using hi) (by simpa using hx); omega

/-- Going through rising names: where it stops is the name, or there is none. -/
theorem at_yes {l : List (ByteArray × Int)} {n : Nat} (h : okNs l n = true) (nm : ByteArray) (k : Nat) (hk : k < l.length) (he : l[k].1 = nm) : lkp nm none l = some l[k].2 :=
  lkp_some nm none l k hk he fun i hi hx => by
    rcases Nat.lt_trichotomy i k with h1 | h1 | h1
    · have := okNs_lt h i k h1 hk; rw [hx, he, less_irrefl] at this; cases this
    · exact h1
    · have := okNs_lt h k i h1 hi; rw [hx, he, less_irrefl] at this; cases this
theorem at_no {l : List (ByteArray × Int)} {n : Nat} (h : okNs l n = true) (nm : ByteArray) (k : Nat) (hb : ∀ j (hj : j < l.length), j < k → less l[j].1 nm = true) (ha : ∀ hk : k < l.length, less l[k].1 nm = false ∧ l[k].1 ≠ nm) : lkp nm none l = none :=
  lkp_none nm none l fun i hi hx => by
    rcases Nat.lt_trichotomy i k with h1 | h1 | h1
    · have := hb i hi h1; rw [hx, less_irrefl] at this; cases this
    · subst h1; exact (ha hi).2 hx
    · have h2 := okNs_lt h k i h1 hi
      rw [hx] at h2
      rw [(ha (by omega)).1] at h2; cases h2
end Go.Proofs.Ytbgemebpfcbloaa

namespace Go.Proofs.Ytbgemebpfcbloaa
open Go.RowKit Go.Maps
set_option maxRecDepth 100000
set_option linter.unusedVariables false

theorem fold_lkp (nm : ByteArray) (l : List (ByteArray × Int)) : ∀ (D : DataW Unit) (o : Option Int), IsMap D → Maps.has D (keyL nm) = o.isSome → (∀ z, D.atKey (keyL nm) z = match o with | some c => .lit (.int .i64 c) | none => z) →
    Maps.has (l.foldl (fun m x => m.put (keyL x.1) (.lit (.int .i64 x.2))) D) (keyL nm) = (lkp nm o l).isSome ∧ ∀ z, (l.foldl (fun m x => m.put (keyL x.1) (.lit (.int .i64 x.2))) D).atKey (keyL nm) z = match lkp nm o l with | some c => .lit (.int .i64 c) | none => z := by
  induction l with
  | nil => intro D o _ h1 h2; exact ⟨h1, h2⟩
  | cons x r ih =>
    intro D o hD h1 h2
    simp only [List.foldl_cons, lkp]
    by_cases hx : x.1 = nm
    · subst hx
      rw [beq_self_eq_true, if_pos rfl]
      exact ih _ _ (hD.put _ _) (by rw [has_put_same hD (keyL_key _)]; rfl) (fun z => by rw [atKey_put_same hD (keyL_key _)])
    · have hb : (x.1.toList == nm.toList) = false := by
        cases hb : (x.1.toList == nm.toList) with
        | false => rfl
        | true => exact absurd (toList_inj (by simpa using hb)) hx
      have hk : keyL nm ≠ keyL x.1 := fun e => hx (keyL_inj e).symm
      rw [hb, if_neg (by simp)]
      exact ih _ _ (hD.put _ _) (by rw [has_put_other hk]; exact h1) (fun z => by rw [atKey_put_other hk]; exact h2 z)
theorem mapD_has (nm : ByteArray) (l : List (ByteArray × Int)) : Maps.has (mapD l) (keyL nm) = (lkp nm none l).isSome :=
  (fold_lkp nm l (.map []) none isMap_empty rfl (fun z => rfl)).1
theorem mapD_at (nm : ByteArray) (l : List (ByteArray × Int)) (c : Int) (h : lkp nm none l = some c) (z : DataW Unit) : (mapD l).atKey (keyL nm) z = .lit (.int .i64 c) := by
  have := (fold_lkp nm l (.map []) none isMap_empty rfl (fun z => rfl)).2 z
  rw [h] at this; exact this

set_option maxHeartbeats 1000000 in
theorem l1At_any (v : Value) (l : List (ByteArray × Int)) (nm : ByteArray) (w : World) (hv : PL w v l) (hn : l.length ≤ 1048576) :
    Calls Try.prog 108 #[v, .string nm] w fun e w' => (∃ k : Nat, k ≤ l.length ∧ (∀ j (hj : j < l.length), j < k → less l[j].1 nm = true) ∧ (∀ hk : k < l.length, less l[k].1 nm = false) ∧
      e = .returned (.tuple #[.int .i64 k, .bool (decide (k < l.length) && (l.getD k default).1.toList == nm.toList)])) ∧ Below w.heap.size w w' := by
  obtain ⟨a, cap, rfl, hc⟩ := hv
  go_enter Try.func108, Try.ntmps108
  go_wp2
  go_loopw [6] (fun i wr => ∃ k : Nat, k ≤ l.length ∧ i = .int .i64 k ∧ (∀ j (hj : j < l.length), j < k → less l[j].1 nm = true) ∧ Below w.heap.size w wr) (fun i _ => l.length - (intOf i).toNat)
  case atStart => exact ⟨0, Nat.zero_le _, rfl, fun j _ h => absurd h (by omega), Below.refl _ _⟩
  case round =>
    obtain ⟨k, hk, rfl, hall, hb⟩ := hrel
    have HA : Hid (∀ j (hj : j < l.length), j < k → less l[j].1 nm = true) := hall
    clear hall
    by_cases hlt : k < l.length
    · obtain ⟨b, off, rfl, hbl, hcell⟩ := hc (by intro e; simp [e] at hlt)
      obtain ⟨s, hse⟩ : ∃ s, s = l[k].1 := ⟨_, rfl⟩
      have HSE : Hid (s = l[k].1) := hse
      have e0 : wr.cell? ⟨b, off + k * 2, none⟩ = some (.string s) := by rw [hse]; exact (hb.cell (p := ⟨b, off + k * 2, none⟩) hbl).trans (hcell k hlt).1
      have hd : decide ((k : Int) < (l.length : Int)) = true := by simp [hlt]
      have hd' : decide (k < l.length) = true := by simp [hlt]
      have hGD : (l.getD k default).1 = s := by rw [hse]; simp only [List.getD_eq_getElem?_getD, List.getElem?_eq_getElem hlt, Option.getD_some]
      have HGD : Hid ((l.getD k default).1 = s) := hGD
      clear hcell hc hse hGD
      cases hle : Op.bytesLess s.toList nm.toList with
      | true =>
        go_wp2
        go_roundw
        case rel =>
          refine ⟨k + 1, by omega, by go_num, fun j hj hjk => ?_, hb⟩
          by_cases hjk' : j = k
          · subst hjk'; rw [← HSE.out]; exact hle
          · exact HA.out j hj (by omega)
        case measure => simp [intOf]; omega
      | false =>
        cases heq : (s.toList == nm.toList) with
        | true =>
          go_wp2_with fail
          go_quiet (fail)
          go_wp2
          go_ret2
          exact ⟨⟨k, by omega, HA.out, fun _ => by rw [← HSE.out]; exact hle, by rw [HGD.out, heq, hd']; rfl⟩, below_drewN hb _⟩
        | false =>
          go_wp2_with fail
          go_quiet (fail)
          go_wp2
          go_ret2
          exact ⟨⟨k, by omega, HA.out, fun _ => by rw [← HSE.out]; exact hle, by rw [HGD.out, heq, hd']; rfl⟩, below_drewN hb _⟩
    · have hd : decide ((k : Int) < (l.length : Int)) = false := by simp; omega
      have hd' : decide (k < l.length) = false := by simp; omega
      have hkk : l.length ≤ k := by omega
      go_wp2_with fail
      go_quiet (fail)
      go_wp2
      go_ret2
      exact ⟨⟨k, by omega, HA.out, fun h => absurd h hlt, by rw [hd']; rfl⟩, below_drewN hb _⟩
end Go.Proofs.Ytbgemebpfcbloaa
