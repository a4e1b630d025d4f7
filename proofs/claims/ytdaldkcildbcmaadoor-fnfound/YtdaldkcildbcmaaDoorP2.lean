/-
  slices.Clone over numbers and over towers.
-/
import Derived.Test.YtdaldkcildbcmaaDoorO1
import Derived.Test.YtdaldkcildbcmaaDoorG2ToG4
import Derived.Shelf.SlicesE.Clone
import Derived.Shelf.Lay
import Derived.Shelf.SlGeneric
import Derived.Ground.SlgnProg
namespace Go.Proofs
open Go.Shelf Go.RowKit Go.Lib
shelf_lay_g SlLaysE0.n41 Slgn 41 at Tryd 82 as Tryd.cloneTowers
shelf_lay_g SlLaysE0.n41 Slgn 41 at Tryd 83 as Tryd.cloneInts
namespace YtdaldkcildbcmaaDoor
set_option linter.unusedVariables false
set_option maxRecDepth 100000

theorem cloneInt_any (v : Value) (zs : List Int) (w : World) (hv : IL w v zs) (hn : zs.length ≤ 1048576) (h0 : 0 < zs.length) :
    Calls Tryd.prog 83 #[v] w fun e w' => ∃ u, e = .returned u ∧ w'.ownsRow w.heap.size 3 1 u zs.length (zs.map (.int .i64)) ∧ Below w.heap.size w w' := by
  obtain ⟨i0, hi, hz0, hzs, hzb⟩ := info_parts Tryd.info3
  obtain ⟨a, cap, rfl, hc⟩ := hv
  obtain ⟨b, off, rfl, hbl, hcell⟩ := hc (by intro e; simp [e] at h0)
  have hcon := AnyE.slices_Clone Tryd.cloneInts i0 (.int .i64 0) 1 8 hi hz0 hzs hzb rfl (by decide) Tryd.sizeOf3 b off zs.length cap (zs.map (.int .i64)) w (by simp) (by unfold maxLen; omega) (by omega) (by
    intro j u hj
    simp only [List.getElem?_map, Option.map_eq_some_iff] at hj
    obtain ⟨z, h1, rfl⟩ := hj
    obtain ⟨h2, h3⟩ := List.getElem?_eq_some_iff.1 h1
    have := hcell j h2
    rw [h3] at this
    exact this) (by intro u hu; simp only [List.mem_map] at hu; obtain ⟨z, _, rfl⟩ := hu; rfl)
  change Calls Tryd.prog 83 _ _ _ at hcon
  exact hcon.mono fun e w' ⟨u, he, ho, _, hb⟩ => ⟨u, he, ho, hb⟩

def rowU (t : Tw) (u : Value) : Tc := ⟨t.key, t.seq, t.kind, t.val, u⟩
theorem zipU_at (ts : List Tw) (us : List Value) (i : Nat) (h : i < ts.length) (h' : i < us.length) : (List.zipWith rowU ts us)[i]? = some (rowU ts[i] us[i]) := by
  simp [List.getElem?_zipWith, h, h']
theorem flat5_one (l : List Tc) (hu : ∀ x ∈ l, x.u.oneCell' = true) : ∀ u ∈ flat5 l, u.oneCell' = true := by
  induction l with
  | nil => intro u h; simp [flat5] at h
  | cons x r ih =>
    intro u h
    simp only [flat5, List.mem_cons] at h
    rcases h with rfl | rfl | rfl | rfl | rfl | h
    · rfl
    · rfl
    · rfl
    · rfl
    · exact hu x (List.mem_cons_self ..)
    · exact ih (fun y hy => hu y (List.mem_cons_of_mem _ hy)) u h
theorem flat5_split (l : List Tc) (j : Nat) (u : Value) (h : (flat5 l)[j]? = some u) : j / 5 < l.length ∧ (flat5 l)[(j / 5) * 5 + j % 5]? = some u := by
  have h1 := (List.getElem?_eq_some_iff.1 h).1
  rw [flat5_length] at h1
  refine ⟨by omega, ?_⟩
  rw [show j / 5 * 5 + j % 5 = j from by omega]; exact h

/-- The towers of a slice with the links that they bear. -/
theorem TW.us {w : World} {b off cap : Nat} {ts : List Tw} (h : TW w (.slice (some ⟨b, off, none⟩) ts.length cap) ts) :
    ∃ us : List Value, us.length = ts.length ∧ (∀ i (hi : i < ts.length) (h' : i < us.length), IL w us[i] ts[i].next) ∧ ∀ j u, (flat5 (List.zipWith rowU ts us))[j]? = some u → w.cell? ⟨b, off + j, none⟩ = some u := by
  obtain ⟨a, c, hv, hc⟩ := h
  by_cases hne : ts = []
  · subst hne
    exact ⟨[], rfl, by intro i hi; simp at hi, by intro j u hj; simp [flat5] at hj⟩
  · obtain ⟨b', off', ha, hbl, hcell⟩ := hc hne
    simp only [Value.slice.injEq, true_and] at hv
    obtain ⟨rfl, rfl⟩ := hv
    simp only [Option.some.injEq, Addr.mk.injEq, and_true] at ha
    obtain ⟨rfl, rfl⟩ := ha
    have all : ∀ i, ∃ u, ∀ h : i < ts.length, (w.cell? ⟨b, off + i * 5, none⟩ = some (.string ts[i].key) ∧ w.cell? ⟨b, off + i * 5 + 1, none⟩ = some (.int .i64 ts[i].seq) ∧ w.cell? ⟨b, off + i * 5 + 2, none⟩ = some (.int .i64 ts[i].kind) ∧ w.cell? ⟨b, off + i * 5 + 3, none⟩ = some (.string ts[i].val) ∧ w.cell? ⟨b, off + i * 5 + 4, none⟩ = some u) ∧ IL w u ts[i].next := fun i => by
      by_cases hi : i < ts.length
      · obtain ⟨u, hu⟩ := hcell i hi
        exact ⟨u, fun _ => hu⟩
      · exact ⟨undef, fun h => absurd h hi⟩
    obtain ⟨F, hF⟩ := Classical.skolem.1 all
    have hlen : ((List.range ts.length).map F).length = ts.length := by simp
    have hg : ∀ i (h' : i < ((List.range ts.length).map F).length), ((List.range ts.length).map F)[i] = F i := fun i h' => by simp
    refine ⟨(List.range ts.length).map F, hlen, fun i hi h' => by rw [hg]; exact (hF i hi).2, fun j u hj => ?_⟩
    obtain ⟨h1, h2⟩ := flat5_split _ j u hj
    have hzl : (List.zipWith rowU ts ((List.range ts.length).map F)).length = ts.length := by simp
    have hi : j / 5 < ts.length := by omega
    have hz := zipU_at ts ((List.range ts.length).map F) (j / 5) hi (by omega)
    have hze := (List.getElem_eq_iff h1).2 hz
    obtain ⟨e0, e1, e2, e3, e4⟩ := flat5_get _ (j / 5) h1
    rw [hze] at e0 e1 e2 e3 e4
    obtain ⟨⟨c0, c1, c2, c3, c4⟩, _⟩ := hF (j / 5) hi
    have hj5 : off + j = off + j / 5 * 5 + j % 5 := by omega
    rw [hj5]
    have hm : j % 5 = 0 ∨ j % 5 = 1 ∨ j % 5 = 2 ∨ j % 5 = 3 ∨ j % 5 = 4 := by omega
    rcases hm with hm | hm | hm | hm | hm <;> rw [hm] at h2 ⊢
    · rw [Nat.add_zero] at h2 ⊢
      rw [e0] at h2; rw [← h2]; exact c0
    · rw [e1] at h2; rw [← h2]; exact c1
    · rw [e2] at h2; rw [← h2]; exact c2
    · rw [e3] at h2; rw [← h2]; exact c3
    · rw [e4] at h2; rw [← h2, show (rowU ts[j / 5] ((List.range ts.length).map F)[j / 5]).u = F (j / 5) from by simp [rowU]]; exact c4

theorem IL_one {w : World} {v : Value} {zs : List Int} (h : IL w v zs) : v.oneCell' = true := by
  obtain ⟨a, c, rfl, _⟩ := h
  rfl
theorem cloneTower_any (b off cap : Nat) (ts : List Tw) (us : List Value) (w : World) (hl : us.length = ts.length) (hu : ∀ i (hi : i < ts.length) (h' : i < us.length), IL w us[i] ts[i].next) (hc : ∀ j u, (flat5 (List.zipWith rowU ts us))[j]? = some u → w.cell? ⟨b, off + j, none⟩ = some u) (hn : ts.length ≤ 1048576) :
    Calls Tryd.prog 82 #[.slice (some ⟨b, off, none⟩) ts.length cap] w fun e w' => ∃ u, e = .returned u ∧ w'.ownsRow w.heap.size 73 5 u ts.length (flat5 (List.zipWith rowU ts us)) ∧ Below w.heap.size w w' := by
  obtain ⟨i0, hi, hz0, hzs, hzb⟩ := info_parts Tryd.info73
  have hzl : (List.zipWith rowU ts us).length = ts.length := by simp; omega
  have hcon := AnyE.slices_Clone Tryd.cloneTowers i0 (.agg #[.string ⟨#[]⟩, .int .i64 0, .int .i64 0, .string ⟨#[]⟩, .slice none 0 0]) 5 72 hi hz0 hzs hzb rfl (by decide) Tryd.sizeOf73 b off ts.length cap (flat5 (List.zipWith rowU ts us)) w (by rw [flat5_length, hzl]) (by unfold maxLen; omega) (by omega) hc (flat5_one _ (fun x hx => by
    obtain ⟨i, hi, rfl⟩ := List.getElem_of_mem hx
    have h1 : i < ts.length := by omega
    have h2 : i < us.length := by omega
    have e := (List.getElem_eq_iff hi).2 (zipU_at ts us i h1 h2)
    rw [e]
    exact IL_one (hu i h1 h2)))
  change Calls Tryd.prog 82 _ _ _ at hcon
  exact hcon.mono fun e w' ⟨u, he, ho, _, hb⟩ => ⟨u, he, ho, hb⟩
end YtdaldkcildbcmaaDoor
end Go.Proofs
