/-
  A map of names and a rising list that has the same: what is put and deleted, how many there are; what was collected going through the map in whatever order, and then sorted, is that list.
-/
import Derived.Test.YtbgemebpfcbloaaR2ToR3
import Derived.Test.YtbgemebpfcbloaaP2
namespace Go.Proofs.Ytbgemebpfcbloaa
open Go.RowKit Go.Maps
set_option linter.unusedVariables false

/-- The map has the names of the list, each with its number. -/
def Mean (D : DataW Unit) (l : List (ByteArray × Int)) : Prop :=
  IsMap D ∧ ∀ nm, Maps.has D (keyL nm) = (lkp nm none l).isSome ∧ ∀ c, lkp nm none l = some c → ∀ z, D.atKey (keyL nm) z = .lit (.int .i64 c)
theorem isMap_mapD (l : List (ByteArray × Int)) : IsMap (mapD l) := by
  unfold mapD
  suffices h : ∀ (l : List (ByteArray × Int)) (D : DataW Unit), IsMap D → IsMap (l.foldl (fun m x => m.put (keyL x.1) (.lit (.int .i64 x.2))) D) from h l _ isMap_empty
  intro l
  induction l with
  | nil => intro D h; exact h
  | cons x r ih => intro D h; exact ih _ (h.put _ _)
theorem mean_mapD (l : List (ByteArray × Int)) : Mean (mapD l) l := ⟨isMap_mapD l, fun nm => ⟨mapD_has nm l, fun c hc z => mapD_at nm l c hc z⟩⟩

theorem lkp_put {l : List (ByteArray × Int)} (h : Ris l) (nm : ByteArray) (c : Int) : lkp nm none (putL l nm c) = some c := (lkp_iff (ris_put h nm c) nm c).2 (mem_put.2 (.inl rfl))
theorem lkp_put_ne {l : List (ByteArray × Int)} (h : Ris l) {nm nm' : ByteArray} (c : Int) (hne : nm' ≠ nm) : lkp nm' none (putL l nm c) = lkp nm' none l := by
  cases hv : lkp nm' none l with
  | some v => exact (lkp_iff (ris_put h nm c) nm' v).2 (mem_put.2 (.inr ⟨(lkp_iff h nm' v).1 hv, hne⟩))
  | none =>
    rw [lkp_iff_none (ris_put h nm c)]
    intro x hx e
    rcases mem_put.1 hx with e' | ⟨e', _⟩
    · rw [e'] at e; exact hne e.symm
    · exact (lkp_iff_none h nm').1 hv x e' e
theorem lkp_wout {l : List (ByteArray × Int)} (h : Ris l) (nm : ByteArray) : lkp nm none (woutL l nm) = none := (lkp_iff_none (ris_wout h nm) nm).2 fun x hx => (mem_wout.1 hx).2
theorem lkp_wout_ne {l : List (ByteArray × Int)} (h : Ris l) {nm nm' : ByteArray} (hne : nm' ≠ nm) : lkp nm' none (woutL l nm) = lkp nm' none l := by
  cases hv : lkp nm' none l with
  | some v => exact (lkp_iff (ris_wout h nm) nm' v).2 (mem_wout.2 ⟨(lkp_iff h nm' v).1 hv, hne⟩)
  | none =>
    rw [lkp_iff_none (ris_wout h nm)]
    intro x hx e
    exact (lkp_iff_none h nm').1 hv x (mem_wout.1 hx).1 e
theorem mean_put {D : DataW Unit} {l : List (ByteArray × Int)} (h : Mean D l) (hr : Ris l) (nm : ByteArray) (c : Int) : Mean (D.put (keyL nm) (.lit (.int .i64 c))) (putL l nm c) := by
  refine ⟨h.1.put _ _, fun nm' => ?_⟩
  by_cases e : nm' = nm
  · subst e
    rw [lkp_put hr, has_put_same h.1 (keyL_key _)]
    exact ⟨rfl, fun c' hc z => by injection hc with hc; rw [← hc, atKey_put_same h.1 (keyL_key _)]⟩
  · have hk : keyL nm' ≠ keyL nm := fun e' => e (keyL_inj e')
    rw [lkp_put_ne hr c e, has_put_other hk]
    exact ⟨(h.2 nm').1, fun c' hc z => by rw [atKey_put_other hk]; exact (h.2 nm').2 c' hc z⟩
theorem mean_del {D : DataW Unit} {l : List (ByteArray × Int)} (h : Mean D l) (hr : Ris l) (nm : ByteArray) : Mean (D.del (keyL nm)) (woutL l nm) := by
  refine ⟨h.1.del _, fun nm' => ?_⟩
  by_cases e : nm' = nm
  · subst e
    rw [lkp_wout hr, has_del_same]
    exact ⟨rfl, fun c' hc z => by cases hc⟩
  · have hk : keyL nm' ≠ keyL nm := fun e' => e (keyL_inj e')
    rw [lkp_wout_ne hr e, has_del_other hk]
    exact ⟨(h.2 nm').1, fun c' hc z => by rw [atKey_del_other hk]; exact (h.2 nm').2 c' hc z⟩

theorem tidy_mapD (l : List (ByteArray × Int)) : Tidy (mapD l) := by
  unfold mapD
  suffices h : ∀ (l : List (ByteArray × Int)) (D : DataW Unit), Tidy D → Tidy (l.foldl (fun m x => m.put (keyL x.1) (.lit (.int .i64 x.2))) D) from h l _ tidy_empty
  intro l
  induction l with
  | nil => intro D h; exact h
  | cons x r ih => intro D h; exact ih _ (h.put (keyL_key _) _)
theorem size_mapD {l : List (ByteArray × Int)} (h : Ris l) : Maps.size (mapD l) = l.length := by
  suffices hs : ∀ k, k ≤ l.length → Maps.size (mapD (l.take k)) = k from by have := hs l.length (Nat.le_refl _); rwa [List.take_length] at this
  intro k
  induction k with
  | zero => intro _; rfl
  | succ k ih =>
    intro hk
    have h1 := ih (by omega)
    have hlt : k < l.length := by omega
    rw [List.take_succ_eq_append_getElem hlt, mapD_snoc, size_put (tidy_mapD _)]
    have h2 : Maps.has (mapD (l.take k)) (keyL l[k].1) = false := by
      rw [mapD_has, lkp_none _ none _ fun i hi e => ?_]
      · rfl
      · rw [List.getElem_take] at e
        simp at hi
        have := ris_one h i k (by omega) hlt e
        omega
    rw [h2, h1]; rfl

theorem sameKey_self (nm : ByteArray) : (keyL nm).sameKey (keyL nm) = true := by simp [keyL, Lit.sameKey]
/-- What was met so far, going through the map. -/
def Coll (D : DataW Unit) (left : Lit → Bool) (ss : List (ByteArray × Int)) : Prop :=
  (ss.Pairwise fun x y => x.1 ≠ y.1) ∧ ∀ nm v, (nm, v) ∈ ss ↔ (Maps.has D (keyL nm) = true ∧ left (keyL nm) = false ∧ ∀ z, D.atKey (keyL nm) z = .lit (.int .i64 v))
theorem coll_start (D : DataW Unit) : Coll D (Maps.has D) [] := ⟨List.Pairwise.nil, fun nm v => ⟨fun h => by simp at h, fun h => by rw [h.1] at h; simp at h⟩⟩
theorem coll_step {D : DataW Unit} {left : Lit → Bool} {ss : List (ByteArray × Int)} (h : Coll D left ss) (nm : ByteArray) (c : Int) (hl : left (keyL nm) = true) (hat : ∀ z, D.atKey (keyL nm) z = .lit (.int .i64 c)) :
    Coll D (fun z => left z && !z.sameKey (keyL nm)) (ss ++ [(nm, c)]) := by
  have hnot : ∀ v, (nm, v) ∉ ss := fun v hm => by have := ((h.2 nm v).1 hm).2.1; rw [hl] at this; cases this
  refine ⟨List.pairwise_append.2 ⟨h.1, List.pairwise_singleton _ _, fun x hx y hy e => ?_⟩, fun nm' v => ?_⟩
  · simp only [List.mem_singleton] at hy
    subst hy
    exact hnot x.2 (by have e' : x.1 = nm := e
                       rw [← e']; exact hx)
  · rw [List.mem_append, List.mem_singleton]
    show _ ↔ (_ ∧ (left (keyL nm') && !(keyL nm').sameKey (keyL nm)) = false ∧ _)
    by_cases e : nm' = nm
    · subst e
      rw [sameKey_self]
      constructor
      · rintro (hm | hm)
        · exact absurd hm (hnot v)
        · injection hm with _ hm
          subst hm
          exact ⟨has_true_of_atKey hat, by simp, hat⟩
      · rintro ⟨_, _, ha⟩
        have := (hat (.lit (.int .i64 0))).symm.trans (ha (.lit (.int .i64 0)))
        injection this with this
        injection this with _ this
        exact .inr (by rw [this])
    · have hk : (keyL nm').sameKey (keyL nm) = false := sameKey_ne fun e' => e (keyL_inj e')
      rw [hk, Bool.not_false, Bool.and_true]
      constructor
      · rintro (hm | hm)
        · exact (h.2 nm' v).1 hm
        · injection hm with hm _; exact absurd hm e
      · intro hm; exact .inl ((h.2 nm' v).2 hm)
theorem coll_end {D : DataW Unit} {left : Lit → Bool} {ss l : List (ByteArray × Int)} (h : Coll D left ss) (hm : Mean D l) (hr : Ris l) (hl : ∀ kl, left kl = false) (x : ByteArray × Int) : x ∈ ss ↔ x ∈ l := by
  obtain ⟨nm, v⟩ := x
  rw [h.2 nm v, ← lkp_iff hr nm v]
  have h1 := hm.2 nm
  constructor
  · rintro ⟨h2, _, h3⟩
    rw [h1.1] at h2
    obtain ⟨c, hc⟩ := Option.isSome_iff_exists.1 h2
    have := (h1.2 c hc (.lit (.int .i64 0))).symm.trans (h3 (.lit (.int .i64 0)))
    injection this with this
    injection this with _ this
    rw [hc, this]
  · intro hv
    exact ⟨by rw [h1.1, hv]; rfl, hl _, h1.2 v hv⟩
/-- .. and sorted: it is the list. -/
theorem coll_sorted {ss l d : List (ByteArray × Int)} (hp : ss.Pairwise fun x y => x.1 ≠ y.1) (hm : ∀ x, x ∈ ss ↔ x ∈ l) (hr : Ris l) (hd : d.Perm ss) (hs : ∀ i j (hj : j < d.length) (hij : i < j), less d[j].1 (d[i]'(by omega)).1 = false) : d = l := by
  refine ris_ext (List.pairwise_iff_getElem.2 fun i j hi hj hij => ?_) hr fun x => (hd.mem_iff).trans (hm x)
  have h1 : d.Pairwise fun x y => x.1 ≠ y.1 := (hd.pairwise_iff (fun {x y} h e => h e.symm)).2 hp
  have h2 := List.pairwise_iff_getElem.1 h1 i j hi hj hij
  cases h3 : less d[i].1 d[j].1 with
  | true => rfl
  | false => exact absurd (less_tri h3 (hs i j hj hij)) h2
end Go.Proofs.Ytbgemebpfcbloaa
