/-
  Rising names: what is put, what goes; two rising lists that have the same pairs are one; good lists of names.
-/
import Derived.Test.YtbgemebpfcbloaaR2ToR3
namespace Go.Proofs.Ytbgemebpfcbloaa
open Go.RowKit

/-- Each name is less than all behind it. -/
def Ris (l : List (ByteArray × Int)) : Prop := l.Pairwise fun x y => less x.1 y.1 = true
theorem ris_of_ok {l : List (ByteArray × Int)} {n : Nat} (h : okNs l n = true) : Ris l := List.pairwise_iff_getElem.2 fun i j _ hj hij => okNs_lt h i j hij hj
theorem less_tri {a b : ByteArray} (h : less a b = false) (k : less b a = false) : a = b := by
  apply toList_inj
  have h1 : ¬ a.toList < b.toList := fun x => by rw [(less_iff a b).2 x] at h; cases h
  have h2 : ¬ b.toList < a.toList := fun x => by rw [(less_iff b a).2 x] at k; cases k
  exact List.le_antisymm (List.not_lt.1 h2) (List.not_lt.1 h1)
theorem less_asymm {a b : ByteArray} (h : less a b = true) : less b a = false := by
  cases k : less b a with
  | false => rfl
  | true => have := less_trans h k; rw [less_irrefl] at this; cases this
theorem ris_ext : ∀ {l m : List (ByteArray × Int)}, Ris l → Ris m → (∀ x, x ∈ l ↔ x ∈ m) → l = m
  | [], [], _, _, _ => rfl
  | x :: r, [], _, _, h => by have := (h x).1 (by simp); simp at this
  | [], y :: s, _, _, h => by have := (h y).2 (by simp); simp at this
  | x :: r, y :: s, hl, hm, h => by
    have hl' := List.pairwise_cons.1 hl
    have hm' := List.pairwise_cons.1 hm
    have hxy : x = y := by
      rcases List.mem_cons.1 ((h x).1 (by simp)) with e | e
      · exact e
      · rcases List.mem_cons.1 ((h y).2 (by simp)) with e' | e'
        · exact e'.symm
        · have h1 := hm'.1 x e
          have h2 := hl'.1 y e'
          have := less_trans h1 h2; rw [less_irrefl] at this; cases this
    subst hxy
    rw [ris_ext hl'.2 hm'.2 fun z => ⟨fun hz => by
      rcases List.mem_cons.1 ((h z).1 (List.mem_cons_of_mem _ hz)) with e | e
      · subst e; have := hl'.1 z hz; rw [less_irrefl] at this; cases this
      · exact e, fun hz => by
      rcases List.mem_cons.1 ((h z).2 (List.mem_cons_of_mem _ hz)) with e | e
      · subst e; have := hm'.1 z hz; rw [less_irrefl] at this; cases this
      · exact e⟩]
/-- In a rising list a name has one place. -/
theorem ris_one {l : List (ByteArray × Int)} (h : Ris l) (i j : Nat) (hi : i < l.length) (hj : j < l.length) (e : l[i].1 = l[j].1) : i = j := by
  have h' := List.pairwise_iff_getElem.1 h
  rcases Nat.lt_trichotomy i j with k | k | k
  · have := h' i j hi hj k; rw [e, less_irrefl] at this; cases this
  · exact k
  · have := h' j i hj hi k; rw [e, less_irrefl] at this; cases this
theorem lkp_iff {l : List (ByteArray × Int)} (h : Ris l) (nm : ByteArray) (v : Int) : lkp nm none l = some v ↔ (nm, v) ∈ l := by
  constructor
  · intro hv
    by_cases hex : ∃ i, ∃ hi : i < l.length, l[i].1 = nm
    · obtain ⟨i, hi, e⟩ := hex
      rw [lkp_some nm none l i hi e fun j hj hx => ris_one h j i hj hi (hx.trans e.symm)] at hv
      have : l[i] = (nm, v) := by
        have e2 : l[i].2 = v := by injection hv
        rw [← e, ← e2]
      rw [← this]; exact List.getElem_mem _
    · rw [lkp_none nm none l fun i hi e => hex ⟨i, hi, e⟩] at hv; cases hv
  · intro hm
    obtain ⟨i, hi, e⟩ := List.getElem_of_mem hm
    rw [lkp_some nm none l i hi (by rw [e]) fun j hj hx => ris_one h j i hj hi (by rw [hx, e]), e]
theorem lkp_iff_none {l : List (ByteArray × Int)} (h : Ris l) (nm : ByteArray) : lkp nm none l = none ↔ ∀ x ∈ l, x.1 ≠ nm := by
  constructor
  · intro hn x hx e
    have := (lkp_iff h nm x.2).2 (by rw [← e]; exact hx)
    rw [hn] at this; cases this
  · intro ha
    cases hv : lkp nm none l with
    | none => rfl
    | some v => exact absurd rfl (ha _ ((lkp_iff h nm v).1 hv))

/-- Those ahead of a name, and those behind it. -/
def lo (nm : ByteArray) (l : List (ByteArray × Int)) : List (ByteArray × Int) := l.filter fun x => less x.1 nm
def hiN (nm : ByteArray) (l : List (ByteArray × Int)) : List (ByteArray × Int) := l.filter fun x => less nm x.1
/-- A name means a blob; a name goes. -/
def putL (l : List (ByteArray × Int)) (nm : ByteArray) (b : Int) : List (ByteArray × Int) := lo nm l ++ (nm, b) :: hiN nm l
def woutL (l : List (ByteArray × Int)) (nm : ByteArray) : List (ByteArray × Int) := lo nm l ++ hiN nm l
theorem ne_of_less {a b : ByteArray} (h : less a b = true) : a ≠ b := fun e => by rw [e, less_irrefl] at h; cases h
theorem mem_wout {l : List (ByteArray × Int)} {nm : ByteArray} {x : ByteArray × Int} : x ∈ woutL l nm ↔ x ∈ l ∧ x.1 ≠ nm := by
  simp only [woutL, lo, hiN, List.mem_append, List.mem_filter]
  constructor
  · rintro (⟨h, k⟩ | ⟨h, k⟩)
    · exact ⟨h, ne_of_less k⟩
    · exact ⟨h, fun e => ne_of_less k e.symm⟩
  · rintro ⟨h, k⟩
    cases h1 : less x.1 nm with
    | true => exact .inl ⟨h, rfl⟩
    | false =>
      cases h2 : less nm x.1 with
      | true => exact .inr ⟨h, rfl⟩
      | false => exact absurd (less_tri h1 h2) k
theorem mem_put {l : List (ByteArray × Int)} {nm : ByteArray} {b : Int} {x : ByteArray × Int} : x ∈ putL l nm b ↔ x = (nm, b) ∨ (x ∈ l ∧ x.1 ≠ nm) := by
  rw [← mem_wout (l := l) (nm := nm)]
  simp only [putL, woutL, List.mem_append, List.mem_cons]
  constructor
  · rintro (h | h | h)
    · exact .inr (.inl h)
    · exact .inl h
    · exact .inr (.inr h)
  · rintro (h | h | h)
    · exact .inr (.inl h)
    · exact .inl h
    · exact .inr (.inr h)
theorem ris_lo {l : List (ByteArray × Int)} (h : Ris l) (nm : ByteArray) : Ris (lo nm l) := List.Pairwise.filter _ h
theorem ris_hi {l : List (ByteArray × Int)} (h : Ris l) (nm : ByteArray) : Ris (hiN nm l) := List.Pairwise.filter _ h
theorem ris_put {l : List (ByteArray × Int)} (h : Ris l) (nm : ByteArray) (b : Int) : Ris (putL l nm b) := by
  refine List.pairwise_append.2 ⟨ris_lo h nm, List.pairwise_cons.2 ⟨fun y hy => (List.mem_filter.1 hy).2, ris_hi h nm⟩, fun x hx y hy => ?_⟩
  have h1 := (List.mem_filter.1 hx).2
  rcases List.mem_cons.1 hy with e | e
  · subst e; exact h1
  · exact less_trans h1 (List.mem_filter.1 e).2
theorem ris_wout {l : List (ByteArray × Int)} (h : Ris l) (nm : ByteArray) : Ris (woutL l nm) :=
  List.pairwise_append.2 ⟨ris_lo h nm, ris_hi h nm, fun _ hx _ hy => less_trans (List.mem_filter.1 hx).2 (List.mem_filter.1 hy).2⟩
theorem wout_none {l : List (ByteArray × Int)} (h : Ris l) (nm : ByteArray) (hn : lkp nm none l = none) : woutL l nm = l :=
  ris_ext (ris_wout h nm) h fun x => by
    rw [mem_wout]
    exact ⟨fun h => h.1, fun hx => ⟨hx, (lkp_iff_none h nm).1 hn x hx⟩⟩
theorem put_length (l : List (ByteArray × Int)) (nm : ByteArray) (b : Int) : (putL l nm b).length = (woutL l nm).length + 1 := by
  simp [putL, woutL]; omega
theorem wout_length_le (l : List (ByteArray × Int)) (h : Ris l) (nm : ByteArray) : (woutL l nm).length ≤ l.length := by
  have e : woutL l nm = l.filter fun x => less x.1 nm || less nm x.1 := by
    refine ris_ext (ris_wout h nm) (List.Pairwise.filter _ h) fun x => ?_
    simp only [woutL, lo, hiN, List.mem_append, List.mem_filter, Bool.or_eq_true]
    constructor
    · rintro (⟨a, b⟩ | ⟨a, b⟩)
      · exact ⟨a, .inl b⟩
      · exact ⟨a, .inr b⟩
    · rintro ⟨a, b | b⟩
      · exact .inl ⟨a, b⟩
      · exact .inr ⟨a, b⟩
  rw [e]; exact List.length_filter_le _ _

/-- Going through rising names: what is ahead of where it stops, and what is behind. -/
theorem take_lo {l : List (ByteArray × Int)} (h : Ris l) (nm : ByteArray) (k : Nat) (hk : k ≤ l.length) (hb : ∀ j (hj : j < l.length), j < k → less l[j].1 nm = true) (ha : ∀ hk : k < l.length, less l[k].1 nm = false) : l.take k = lo nm l := by
  have h1 : (l.take k).filter (fun x => less x.1 nm) = l.take k := List.filter_eq_self.2 fun x hx => by
    obtain ⟨i, hi, e⟩ := List.getElem_of_mem hx
    rw [List.getElem_take] at e
    rw [← e]; exact hb i (by simp at hi; omega) (by simp at hi; omega)
  have h2 : (l.drop k).filter (fun x => less x.1 nm) = [] := List.filter_eq_nil_iff.2 fun x hx => by
    obtain ⟨i, hi, e⟩ := List.getElem_of_mem hx
    rw [List.getElem_drop] at e
    simp at hi
    have hkl : k < l.length := by omega
    have h0 := ha hkl
    rw [← e]
    cases i with
    | zero => simpa using h0
    | succ i =>
      have h3 := List.pairwise_iff_getElem.1 h k (k + (i + 1)) hkl (by omega) (by omega)
      intro h4
      rw [less_trans h3 h4] at h0; cases h0
  unfold lo
  conv => rhs; rw [← List.take_append_drop k l, List.filter_append, h1, h2, List.append_nil]
theorem drop_hi_no {l : List (ByteArray × Int)} (h : Ris l) (nm : ByteArray) (k : Nat) (hk : k ≤ l.length) (hb : ∀ j (hj : j < l.length), j < k → less l[j].1 nm = true) (ha : ∀ hk : k < l.length, less l[k].1 nm = false) (hne : ∀ hk : k < l.length, l[k].1 ≠ nm) : l.drop k = hiN nm l := by
  have h1 : (l.take k).filter (fun x => less nm x.1) = [] := List.filter_eq_nil_iff.2 fun x hx => by
    obtain ⟨i, hi, e⟩ := List.getElem_of_mem hx
    rw [List.getElem_take] at e
    rw [← e, less_asymm (hb i (by simp at hi; omega) (by simp at hi; omega))]; simp
  have h2 : (l.drop k).filter (fun x => less nm x.1) = l.drop k := List.filter_eq_self.2 fun x hx => by
    obtain ⟨i, hi, e⟩ := List.getElem_of_mem hx
    rw [List.getElem_drop] at e
    simp at hi
    have hkl : k < l.length := by omega
    have h0 : less nm l[k].1 = true := by
      cases h5 : less nm l[k].1 with
      | true => rfl
      | false => exact absurd (less_tri (ha hkl) h5) (hne hkl)
    rw [← e]
    cases i with
    | zero => simpa using h0
    | succ i => exact less_trans h0 (List.pairwise_iff_getElem.1 h k (k + (i + 1)) hkl (by omega) (by omega))
  unfold hiN
  conv => rhs; rw [← List.take_append_drop k l, List.filter_append, h1, h2, List.nil_append]
theorem drop_hi_yes {l : List (ByteArray × Int)} (h : Ris l) (nm : ByteArray) (k : Nat) (hk : k < l.length) (hb : ∀ j (hj : j < l.length), j < k → less l[j].1 nm = true) (he : l[k].1 = nm) : l.drop (k + 1) = hiN nm l := by
  have h1 : (l.take (k + 1)).filter (fun x => less nm x.1) = [] := List.filter_eq_nil_iff.2 fun x hx => by
    obtain ⟨i, hi, e⟩ := List.getElem_of_mem hx
    rw [List.getElem_take] at e
    rw [← e]
    by_cases hik : i = k
    · subst hik; rw [he, less_irrefl]; simp
    · rw [less_asymm (hb i (by simp at hi; omega) (by simp at hi; omega))]; simp
  have h2 : (l.drop (k + 1)).filter (fun x => less nm x.1) = l.drop (k + 1) := List.filter_eq_self.2 fun x hx => by
    obtain ⟨i, hi, e⟩ := List.getElem_of_mem hx
    rw [List.getElem_drop] at e
    simp at hi
    rw [← e]
    have := List.pairwise_iff_getElem.1 h k (k + 1 + i) hk (by omega) (by omega)
    rw [he] at this; exact this
  unfold hiN
  conv => rhs; rw [← List.take_append_drop (k + 1) l, List.filter_append, h1, h2, List.nil_append]

/-- Good names, each by itself. -/
theorem okNs_iff (l : List (ByteArray × Int)) (n : Nat) : okNs l n = true ↔ Ris l ∧ (∀ x ∈ l, okN x.1 = true ∧ 0 ≤ x.2 ∧ x.2 < n) ∧ l.length ≤ 20 := by
  constructor
  · intro h
    refine ⟨ris_of_ok h, fun x hx => ?_, ?_⟩
    · obtain ⟨i, hi, e⟩ := List.getElem_of_mem hx
      have h1 := okNs_range h i hi
      simp only [okNs, Bool.and_eq_true] at h
      have h2 := h.1
      unfold okEs at h2
      rw [List.all_eq_true] at h2
      have h3 := h2 i (by simpa using hi)
      simp only [okE, List.getD_eq_getElem?_getD, List.getElem?_eq_getElem hi, Option.getD_some, Bool.and_eq_true] at h3
      rw [← e]; exact ⟨h3.1.1, h1.1, h1.2⟩
    · simp only [okNs, Bool.and_eq_true, decide_eq_true_eq] at h; omega
  · rintro ⟨hr, ha, hl⟩
    simp only [okNs, Bool.and_eq_true, decide_eq_true_eq]
    refine ⟨?_, by omega⟩
    unfold okEs
    rw [List.all_eq_true]
    intro i hi
    have hi' : i < l.length := by simpa using hi
    have h1 := ha l[i] (List.getElem_mem _)
    simp only [okE, List.getD_eq_getElem?_getD, List.getElem?_eq_getElem hi', List.getElem?_eq_getElem (show i - 1 < l.length from by omega), Option.getD_some, Bool.and_eq_true, Bool.or_eq_true, decide_eq_true_eq]
    refine ⟨⟨h1.1, h1.2.1, by omega⟩, ?_⟩
    by_cases h0 : i = 0
    · exact .inl h0
    · exact .inr (List.pairwise_iff_getElem.1 hr (i - 1) i (by omega) hi' (by omega))
end Go.Proofs.Ytbgemebpfcbloaa
