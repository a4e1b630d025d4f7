/-
  What a step does to a good disk: which of the disks that come of it are good.
-/
import Derived.Test.YtbgemebpfcbloaaP1
namespace Go.Proofs.Ytbgemebpfcbloaa
open Go.RowKit

theorem anyK_iff (l : List (ByteArray × Int)) (k : Nat) : anyK l k = true ↔ ∃ x ∈ l, x.2 = (k : Int) := by simp [anyK]
theorem usedTo_mono (bl lv sf bl' lv' sf' : List (ByteArray × Int)) (k : Nat)
    (h : ∀ j, j < k → (anyK lv j || anyK sf j) = true → (anyK lv' j || anyK sf' j) = true ∧ (bl.getD j default).1.size ≤ (bl'.getD j default).1.size) : usedTo bl lv sf k ≤ usedTo bl' lv' sf' k := by
  induction k with
  | zero => simp [usedTo]
  | succ k ih =>
    have h1 := ih fun j hj => h j (by omega)
    simp only [usedTo]
    cases hk : (anyK lv k || anyK sf k) with
    | false => simp; omega
    | true =>
      have h2 := h k (by omega) hk
      rw [h2.1]
      simp only [if_true]
      omega
theorem usedTo_congr (bl lv sf bl' lv' sf' : List (ByteArray × Int)) (k : Nat)
    (h : ∀ j, j < k → (anyK lv j || anyK sf j) = (anyK lv' j || anyK sf' j) ∧ (bl.getD j default).1.size = (bl'.getD j default).1.size) : usedTo bl lv sf k = usedTo bl' lv' sf' k :=
  Nat.le_antisymm (usedTo_mono _ _ _ _ _ _ k fun j hj hn => ⟨(h j hj).1 ▸ hn, by have := (h j hj).2; omega⟩) (usedTo_mono _ _ _ _ _ _ k fun j hj hn => ⟨(h j hj).1.symm ▸ hn, by have := (h j hj).2; omega⟩)
theorem getD_lt (bl : List (ByteArray × Int)) (j : Nat) (h : j < bl.length) : bl.getD j default = bl[j] := by simp [List.getD_eq_getElem?_getD, h]
theorem usedTo_set (bl lv sf : List (ByteArray × Int)) (b : Nat) (x : ByteArray × Int) (hb : b < bl.length) (hn : (anyK lv b || anyK sf b) = true) (k : Nat) :
    usedTo (bl.set b x) lv sf k + (if b < k then bl[b].1.size else 0) = usedTo bl lv sf k + (if b < k then x.1.size else 0) := by
  induction k with
  | zero => simp [usedTo]
  | succ k ih =>
    simp only [usedTo]
    by_cases hbk : b = k
    · subst hbk
      rw [hn, if_pos rfl, if_pos rfl, if_pos (by omega), if_pos (by omega), getD_lt _ _ (by simpa using hb), getD_lt _ _ hb]
      simp only [List.getElem_set_self]
      simp only [Nat.lt_irrefl, if_false, Nat.add_zero] at ih
      omega
    · have e : (bl.set b x).getD k default = bl.getD k default := by
        simp only [List.getD_eq_getElem?_getD, List.getElem?_set_ne hbk]
      rw [e]
      by_cases h : b < k
      · have h' : b < k + 1 := by omega
        simp only [h, h', if_true] at ih ⊢
        omega
      · have h' : ¬ b < k + 1 := by omega
        simp only [h, h', if_false] at ih ⊢
        omega

theorem goodD_iff (bl lv sf : List (ByteArray × Int)) (r : Int) : goodD bl lv sf r = true ↔ okBs bl = true ∧ bl.length ≤ 60 ∧ okNs lv bl.length = true ∧ okNs sf bl.length = true ∧ (0 ≤ r ∧ r ≤ 100000) ∧ (used bl lv sf : Int) ≤ r := by
  simp only [goodD, Bool.and_eq_true, decide_eq_true_eq, and_assoc]
  constructor
  · rintro ⟨a, b, c, d, e, f, g⟩; exact ⟨a, by omega, c, d, e, f, g⟩
  · rintro ⟨a, b, c, d, e, f, g⟩; exact ⟨a, by omega, c, d, e, f, g⟩
theorem okNs_mono {l : List (ByteArray × Int)} {n m : Nat} (h : okNs l n = true) (hm : n ≤ m) : okNs l m = true := by
  rw [okNs_iff] at *
  exact ⟨h.1, fun x hx => ⟨(h.2.1 x hx).1, (h.2.1 x hx).2.1, by have := (h.2.1 x hx).2.2; omega⟩, h.2.2⟩
theorem okBs_iff (l : List (ByteArray × Int)) : okBs l = true ↔ ∀ x ∈ l, x.1.size ≤ 4000 ∧ 0 ≤ x.2 ∧ x.2 ≤ x.1.size := by
  simp only [okBs, List.all_eq_true, okB, Bool.and_eq_true, decide_eq_true_eq]
  exact ⟨fun h x hx => ⟨by have := (h x hx).1; omega, (h x hx).2⟩, fun h x hx => ⟨by have := (h x hx).1; omega, (h x hx).2⟩⟩

/-- A name of a good disk means a blob. -/
theorem blob_of {bl lv sf : List (ByteArray × Int)} {r : Int} (h : goodD bl lv sf r = true) {nm : ByteArray} {c : Int} (hl : lkp nm none lv = some c) : ∃ b : Nat, c = b ∧ b < bl.length ∧ anyK lv b = true := by
  rw [goodD_iff] at h
  have h1 := (okNs_iff _ _).1 h.2.2.1
  have h2 := (lkp_iff h1.1 nm c).1 hl
  have h3 := h1.2.1 _ h2
  simp only at h3
  exact ⟨c.toNat, by omega, by omega, (anyK_iff _ _).2 ⟨_, h2, by simp only; omega⟩⟩

theorem good_create {bl lv sf : List (ByteArray × Int)} {r : Int} (h : goodD bl lv sf r = true) {nm : ByteArray} (hn : okN nm = true) (hl : lkp nm none lv = none) :
    goodD (bl ++ [(⟨#[]⟩, 0)]) (putL lv nm bl.length) sf r = (decide (lv.length < 20) && decide (bl.length < 60)) := by
  have h' := (goodD_iff _ _ _ _).1 h
  obtain ⟨h1, h2, h3, h4, h5, h6⟩ := h'
  have k3 := (okNs_iff _ _).1 h3
  have hlen : (putL lv nm bl.length).length = lv.length + 1 := by rw [put_length, wout_none k3.1 nm hl]
  rw [Bool.eq_iff_iff, goodD_iff]
  simp only [Bool.and_eq_true, decide_eq_true_eq, List.length_append, List.length_cons, List.length_nil]
  constructor
  · rintro ⟨_, a, b, _⟩
    have := ((okNs_iff _ _).1 b).2.2
    omega
  · rintro ⟨a, b⟩
    refine ⟨?_, by omega, ?_, okNs_mono h4 (by omega), h5, ?_⟩
    · rw [okBs_iff] at *
      intro x hx
      rcases List.mem_append.1 hx with e | e
      · exact h1 x e
      · simp only [List.mem_singleton] at e; subst e; decide
    · rw [okNs_iff]
      refine ⟨ris_put k3.1 _ _, fun x hx => ?_, by omega⟩
      rcases mem_put.1 hx with e | ⟨e, _⟩
      · subst e; exact ⟨hn, by simp only; omega, by simp only; omega⟩
      · have := k3.2.1 x e; exact ⟨this.1, this.2.1, by omega⟩
    · have e : used (bl ++ [(⟨#[]⟩, 0)]) (putL lv nm bl.length) sf = used bl lv sf := by
        unfold used
        simp only [List.length_append, List.length_cons, List.length_nil, Nat.zero_add, usedTo]
        have e1 : ((bl ++ [((⟨#[]⟩ : ByteArray), (0 : Int))]).getD bl.length default).1.size = 0 := by
          rw [getD_lt _ _ (by simp)]; simp; rfl
        rw [e1, ite_self, Nat.add_zero]
        refine usedTo_congr _ _ _ _ _ _ _ fun j hj => ⟨?_, ?_⟩
        · congr 1
          rw [Bool.eq_iff_iff, anyK_iff, anyK_iff]
          constructor
          · rintro ⟨x, hx, e⟩
            rcases mem_put.1 hx with e' | ⟨e', _⟩
            · subst e'; simp only at e; omega
            · exact ⟨x, e', e⟩
          · rintro ⟨x, hx, e⟩
            exact ⟨x, mem_put.2 (.inr ⟨hx, (lkp_iff_none k3.1 nm).1 hl x hx⟩), e⟩
        · rw [getD_lt _ _ (by simp; omega), getD_lt _ _ hj, List.getElem_append_left hj]
      rw [e]; exact h6

theorem okBs_set {bl : List (ByteArray × Int)} (h : okBs bl = true) (b : Nat) (x : ByteArray × Int) (hb : b < bl.length) : okBs (bl.set b x) = okB x := by
  cases hx : okB x with
  | false =>
    unfold okBs; rw [List.all_eq_false]
    exact ⟨x, List.mem_iff_getElem.2 ⟨b, by simpa using hb, by simp⟩, by simp [hx]⟩
  | true =>
    unfold okBs at *; rw [List.all_eq_true] at *
    intro y hy
    rcases List.mem_or_eq_of_mem_set hy with e | e
    · exact h y e
    · rw [e]; exact hx

theorem good_append {bl lv sf : List (ByteArray × Int)} {r : Int} (h : goodD bl lv sf r = true) (b : Nat) (hb : b < bl.length) (hn : anyK lv b = true) (da : ByteArray) :
    goodD (bl.set b (bl[b].1 ++ da, bl[b].2)) lv sf r = (decide (bl[b].1.size + da.size ≤ 4000) && decide ((used bl lv sf : Int) + da.size ≤ r)) := by
  obtain ⟨h1, h2, h3, h4, h5, h6⟩ := (goodD_iff _ _ _ _).1 h
  have hB := (okBs_iff _).1 h1 bl[b] (List.getElem_mem _)
  have hU := usedTo_set bl lv sf b (bl[b].1 ++ da, bl[b].2) hb (by rw [hn]; rfl) bl.length
  rw [if_pos hb, if_pos hb] at hU
  simp only [ByteArray.size_append] at hU
  have hU' : used (bl.set b (bl[b].1 ++ da, bl[b].2)) lv sf = used bl lv sf + da.size := by
    unfold used; rw [List.length_set]; omega
  rw [Bool.eq_iff_iff, goodD_iff, okBs_set h1 b _ hb, List.length_set, hU']
  simp only [okB, Bool.and_eq_true, decide_eq_true_eq, ByteArray.size_append]
  constructor
  · rintro ⟨a, _, _, _, _, c⟩; omega
  · rintro ⟨a, c⟩; exact ⟨⟨by omega, hB.2.1, by omega⟩, h2, h3, h4, h5, by omega⟩
theorem good_sync {bl lv sf : List (ByteArray × Int)} {r : Int} (h : goodD bl lv sf r = true) (b : Nat) (hb : b < bl.length) (hn : anyK lv b = true) :
    goodD (bl.set b (bl[b].1, bl[b].1.size)) lv sf r = true := by
  obtain ⟨h1, h2, h3, h4, h5, h6⟩ := (goodD_iff _ _ _ _).1 h
  have hB := (okBs_iff _).1 h1 bl[b] (List.getElem_mem _)
  have hU := usedTo_set bl lv sf b (bl[b].1, bl[b].1.size) hb (by rw [hn]; rfl) bl.length
  simp only [if_pos hb] at hU
  have hU' : used (bl.set b (bl[b].1, bl[b].1.size)) lv sf = used bl lv sf := by
    unfold used; rw [List.length_set]; omega
  rw [goodD_iff, okBs_set h1 b _ hb, List.length_set, hU']
  simp only [okB, Bool.and_eq_true, decide_eq_true_eq]
  exact ⟨⟨by omega, by omega, by omega⟩, h2, h3, h4, h5, h6⟩
/-- Names of blobs that have names. -/
theorem good_names {bl lv sf lv' sf' : List (ByteArray × Int)} {r : Int} (h : goodD bl lv sf r = true) (hl : okNs lv' bl.length = true) (hs : okNs sf' bl.length = true)
    (ha : ∀ x, x ∈ lv' ∨ x ∈ sf' → ∃ y, (y ∈ lv ∨ y ∈ sf) ∧ y.2 = x.2) : goodD bl lv' sf' r = true := by
  obtain ⟨h1, h2, h3, h4, h5, h6⟩ := (goodD_iff _ _ _ _).1 h
  rw [goodD_iff]
  refine ⟨h1, h2, hl, hs, h5, ?_⟩
  have : used bl lv' sf' ≤ used bl lv sf := usedTo_mono _ _ _ _ _ _ _ fun j _ hn => by
    refine ⟨?_, Nat.le_refl _⟩
    simp only [Bool.or_eq_true, anyK_iff] at hn ⊢
    rcases hn with ⟨x, hx, e⟩ | ⟨x, hx, e⟩
    · obtain ⟨y, hy, e'⟩ := ha x (.inl hx)
      rcases hy with hy | hy
      · exact .inl ⟨y, hy, e'.trans e⟩
      · exact .inr ⟨y, hy, e'.trans e⟩
    · obtain ⟨y, hy, e'⟩ := ha x (.inr hx)
      rcases hy with hy | hy
      · exact .inl ⟨y, hy, e'.trans e⟩
      · exact .inr ⟨y, hy, e'.trans e⟩
  omega
theorem good_rename {bl lv sf : List (ByteArray × Int)} {r : Int} (h : goodD bl lv sf r = true) {nm ot : ByteArray} {c : Int} (ho : okN ot = true) (hl : lkp nm none lv = some c) : goodD bl (putL (woutL lv nm) ot c) sf r = true := by
  obtain ⟨h1, h2, h3, h4, h5, h6⟩ := (goodD_iff _ _ _ _).1 h
  have k3 := (okNs_iff _ _).1 h3
  have hm := (lkp_iff k3.1 nm c).1 hl
  refine good_names h ?_ h4 fun x hx => ?_
  · rw [okNs_iff]
    refine ⟨ris_put (ris_wout k3.1 _) _ _, fun x hx => ?_, ?_⟩
    · rcases mem_put.1 hx with e | ⟨e, _⟩
      · subst e; exact ⟨ho, (k3.2.1 _ hm).2⟩
      · exact k3.2.1 x (mem_wout.1 e).1
    · rw [put_length]
      have e1 := wout_length_le _ (ris_wout k3.1 nm) ot
      have e2 : (woutL lv nm).length < lv.length := by
        have e3 : (putL (woutL lv nm) nm c) = lv := ris_ext (ris_put (ris_wout k3.1 _) _ _) k3.1 fun x => by
          rw [mem_put, mem_wout]
          constructor
          · rintro (e | ⟨e, _⟩)
            · rw [e]; exact hm
            · exact e.1
          · intro hx
            by_cases hxn : x.1 = nm
            · left
              have h7 := (lkp_iff k3.1 nm x.2).2 (by rw [← hxn]; exact hx)
              rw [hl] at h7
              have h8 : c = x.2 := by injection h7
              rw [h8, ← hxn]
            · exact .inr ⟨⟨hx, hxn⟩, hxn⟩
        have e4 := congrArg List.length e3
        rw [put_length, wout_none (ris_wout k3.1 nm) nm ((lkp_iff_none (ris_wout k3.1 nm) nm).2 fun x hx => (mem_wout.1 hx).2)] at e4
        omega
      have := k3.2.2
      omega
  · rcases hx with hx | hx
    · rcases mem_put.1 hx with e | ⟨e, _⟩
      · subst e; exact ⟨_, .inl hm, rfl⟩
      · exact ⟨x, .inl (mem_wout.1 e).1, rfl⟩
    · exact ⟨x, .inr hx, rfl⟩
theorem good_link {bl lv sf : List (ByteArray × Int)} {r : Int} (h : goodD bl lv sf r = true) {nm ot : ByteArray} {c : Int} (ho : okN ot = true) (hl : lkp nm none lv = some c) (hn : lkp ot none lv = none) : goodD bl (putL lv ot c) sf r = decide (lv.length < 20) := by
  obtain ⟨h1, h2, h3, h4, h5, h6⟩ := (goodD_iff _ _ _ _).1 h
  have k3 := (okNs_iff _ _).1 h3
  have hm := (lkp_iff k3.1 nm c).1 hl
  have hlen : (putL lv ot c).length = lv.length + 1 := by rw [put_length, wout_none k3.1 ot hn]
  rw [Bool.eq_iff_iff, decide_eq_true_eq]
  constructor
  · intro hg
    have := ((okNs_iff _ _).1 ((goodD_iff _ _ _ _).1 hg).2.2.1).2.2
    omega
  · intro hlt
    refine good_names h ?_ h4 fun x hx => ?_
    · rw [okNs_iff]
      refine ⟨ris_put k3.1 _ _, fun x hx => ?_, by omega⟩
      rcases mem_put.1 hx with e | ⟨e, _⟩
      · subst e; exact ⟨ho, (k3.2.1 _ hm).2⟩
      · exact k3.2.1 x e
    · rcases hx with hx | hx
      · rcases mem_put.1 hx with e | ⟨e, _⟩
        · subst e; exact ⟨_, .inl hm, rfl⟩
        · exact ⟨x, .inl e, rfl⟩
      · exact ⟨x, .inr hx, rfl⟩
theorem good_remove {bl lv sf : List (ByteArray × Int)} {r : Int} (h : goodD bl lv sf r = true) (nm : ByteArray) : goodD bl (woutL lv nm) sf r = true := by
  obtain ⟨h1, h2, h3, h4, h5, h6⟩ := (goodD_iff _ _ _ _).1 h
  have k3 := (okNs_iff _ _).1 h3
  refine good_names h ?_ h4 fun x hx => ?_
  · rw [okNs_iff]
    exact ⟨ris_wout k3.1 _, fun x hx => k3.2.1 x (mem_wout.1 hx).1, by have := wout_length_le _ k3.1 nm; have := k3.2.2; omega⟩
  · rcases hx with hx | hx
    · exact ⟨x, .inl (mem_wout.1 hx).1, rfl⟩
    · exact ⟨x, .inr hx, rfl⟩
theorem good_safe {bl lv sf : List (ByteArray × Int)} {r : Int} (h : goodD bl lv sf r = true) : goodD bl lv lv r = true := by
  obtain ⟨h1, h2, h3, h4, h5, h6⟩ := (goodD_iff _ _ _ _).1 h
  exact good_names h h3 h3 fun x hx => ⟨x, .inl (hx.elim id id), rfl⟩

/-- A blob behind a crash. -/
def crB (keep : Nat) (x : ByteArray × Int) : ByteArray × Int := (x.1.extract 0 (min x.1.size (x.2.toNat + keep)), ((min x.1.size (x.2.toNat + keep) : Nat) : Int))
theorem crB_size (keep : Nat) (x : ByteArray × Int) : (crB keep x).1.size = min x.1.size (x.2.toNat + keep) := by
  simp only [crB, ByteArray.size_extract]; omega
theorem good_crash {bl lv sf : List (ByteArray × Int)} {r : Int} (h : goodD bl lv sf r = true) (keep : Nat) : goodD (bl.map (crB keep)) sf sf r = true := by
  obtain ⟨h1, h2, h3, h4, h5, h6⟩ := (goodD_iff _ _ _ _).1 h
  rw [goodD_iff, List.length_map]
  have hB := (okBs_iff _).1 h1
  refine ⟨?_, h2, h4, h4, h5, ?_⟩
  · rw [okBs_iff]
    intro x hx
    obtain ⟨y, hy, e⟩ := List.mem_map.1 hx
    subst e
    have := hB y hy
    rw [crB_size]
    refine ⟨by omega, ?_, ?_⟩
    · simp only [crB]; omega
    · simp only [crB]; omega
  · have : used (bl.map (crB keep)) sf sf ≤ used bl lv sf := by
      unfold used; rw [List.length_map]
      refine usedTo_mono _ _ _ _ _ _ _ fun j hj hn => ?_
      refine ⟨?_, ?_⟩
      · simp only [Bool.or_eq_true, or_self] at hn ⊢; exact .inr hn
      · rw [getD_lt _ _ (by simpa using hj), getD_lt _ _ hj, List.getElem_map, crB_size]; omega
    omega
end Go.Proofs.Ytbgemebpfcbloaa
