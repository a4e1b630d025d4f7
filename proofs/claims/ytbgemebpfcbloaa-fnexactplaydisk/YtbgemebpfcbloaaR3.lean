/-
  What is looked up in the map of the names; spec.l1At; a file's text by its name.
-/
import Derived.Test.YtbgemebpfcbloaaR2
import Derived.Test.YtbgemebpfcbloaaL1
namespace Go.Proofs.Ytbgemebpfcbloaa
open Go.RowKit Go.Maps
set_option maxRecDepth 100000
set_option linter.unusedVariables false

theorem fold_lkp (nm : ByteArray) (l : List (ByteArray × Int)) : ∀ (D : DataW Unit) (o : Option Int), IsMap D → Maps.has D (keyL nm) = o.isSome → (∀ z, D.atKey (keyL nm) z = match o with | some c => .lit (.int .i64 c) | none => z) →
    Maps.has (l.foldl (fun m x => m.put (keyL x.1) (.lit (.int .i64 x.2))) D) (keyL nm) = (lkp nm o l).isSome ∧ ∀ z, (l.foldl (fun m x => m.put (keyL x.1) (.lit (.int .i64 x.2))) D).atKey (keyL nm) z = match lkp nm o l with | some c => .lit (.int .i64 c) | none => z := by
  induction l with
  | nil => intro D o _ h1 h2; exact ⟨h1, h2⟩
  | cons x r ih =>
    intro D o hD h1 h2
    simp only [List.foldl_cons, lkp]
    by_cases hx : x.1 = nm
    · subst hx
      rw [beq_self_eq_true, if_pos rfl]
      exact ih _ _ (hD.put _ _) (by rw [has_put_same hD (keyL_key _)]; rfl) (fun z => by rw [atKey_put_same hD (keyL_key _)])
    · have hb : (x.1.toList == nm.toList) = false := by
        cases hb : (x.1.toList == nm.toList) with
        | false => rfl
        | true => exact absurd (toList_inj (by simpa using hb)) hx
      have hk : keyL nm ≠ keyL x.1 := fun e => hx (keyL_inj e).symm
      rw [hb, if_neg (by simp)]
      exact ih _ _ (hD.put _ _) (by rw [has_put_other hk]; exact h1) (fun z => by rw [atKey_put_other hk]; exact h2 z)
theorem mapD_has (nm : ByteArray) (l : List (ByteArray × Int)) : Maps.has (mapD l) (keyL nm) = (lkp nm none l).isSome :=
  (fold_lkp nm l (.map []) none isMap_empty rfl (fun z => rfl)).1
theorem mapD_at (nm : ByteArray) (l : List (ByteArray × Int)) (c : Int) (h : lkp nm none l = some c) (z : DataW Unit) : (mapD l).atKey (keyL nm) z = .lit (.int .i64 c) := by
  have := (fold_lkp nm l (.map []) none isMap_empty rfl (fun z => rfl)).2 z
  rw [h] at this; exact this

set_option maxHeartbeats 1000000 in
theorem l1At_any (v : Value) (l : List (ByteArray × Int)) (nm : ByteArray) (w : World) (hv : PL w v l) (hn : l.length ≤ 1048576) :
    Calls Try.prog 108 #[v, .string nm] w fun e w' => (∃ k : Nat, k ≤ l.length ∧ (∀ j (hj : j < l.length), j < k → less l[j].1 nm = true) ∧ (∀ hk : k < l.length, less l[k].1 nm = false) ∧
      e = .returned (.tuple #[.int .i64 k, .bool (decide (k < l.length) && (l.getD k default).1.toList == nm.toList)])) ∧ Below w.heap.size w w' := by
  obtain ⟨a, cap, rfl, hc⟩ := hv
  go_enter Try.func108, Try.ntmps108
  go_wp2
  go_loopw [6] (fun i wr => ∃ k : Nat, k ≤ l.length ∧ i = .int .i64 k ∧ (∀ j (hj : j < l.length), j < k → less l[j].1 nm = true) ∧ Below w.heap.size w wr) (fun i _ => l.length - (intOf i).toNat)
  case atStart => exact ⟨0, Nat.zero_le _, rfl, fun j _ h => absurd h (by omega), Below.refl _ _⟩
  case round =>
    obtain ⟨k, hk, rfl, hall, hb⟩ := hrel
    have HA : Hid (∀ j (hj : j < l.length), j < k → less l[j].1 nm = true) := hall
    clear hall
    by_cases hlt : k < l.length
    · obtain ⟨b, off, rfl, hbl, hcell⟩ := hc (by intro e; simp [e] at hlt)
      obtain ⟨s, hse⟩ : ∃ s, s = l[k].1 := ⟨_, rfl⟩
      have HSE : Hid (s = l[k].1) := hse
      have e0 : wr.cell? ⟨b, off + k * 2, none⟩ = some (.string s) := by rw [hse]; exact (hb.cell (p := ⟨b, off + k * 2, none⟩) hbl).trans (hcell k hlt).1
      have hd : decide ((k : Int) < (l.length : Int)) = true := by simp [hlt]
      have hd' : decide (k < l.length) = true := by simp [hlt]
      have hGD : (l.getD k default).1 = s := by rw [hse]; simp only [List.getD_eq_getElem?_getD, List.getElem?_eq_getElem hlt, Option.getD_some]
      have HGD : Hid ((l.getD k default).1 = s) := hGD
      clear hcell hc hse hGD
      cases hle : Op.bytesLess s.toList nm.toList with
      | true =>
        go_wp2
        go_roundw
        case rel =>
          refine ⟨k + 1, by omega, by go_num, fun j hj hjk => ?_, hb⟩
          by_cases hjk' : j = k
          · subst hjk'; rw [← HSE.out]; exact hle
          · exact HA.out j hj (by omega)
        case measure => simp [intOf]; omega
      | false =>
        cases heq : (s.toList == nm.toList) with
        | true =>
          go_wp2_with fail
          go_quiet (fail)
          go_wp2
          go_ret2
          exact ⟨⟨k, by omega, HA.out, fun _ => by rw [← HSE.out]; exact hle, by rw [HGD.out, heq, hd']; rfl⟩, below_drewN hb _⟩
        | false =>
          go_wp2_with fail
          go_quiet (fail)
          go_wp2
          go_ret2
          exact ⟨⟨k, by omega, HA.out, fun _ => by rw [← HSE.out]; exact hle, by rw [HGD.out, heq, hd']; rfl⟩, below_drewN hb _⟩
    · have hd : decide ((k : Int) < (l.length : Int)) = false := by simp; omega
      have hd' : decide (k < l.length) = false := by simp; omega
      have hkk : l.length ≤ k := by omega
      go_wp2_with fail
      go_quiet (fail)
      go_wp2
      go_ret2
      exact ⟨⟨k, by omega, HA.out, fun h => absurd h hlt, by rw [hd']; rfl⟩, below_drewN hb _⟩
end Go.Proofs.Ytbgemebpfcbloaa
