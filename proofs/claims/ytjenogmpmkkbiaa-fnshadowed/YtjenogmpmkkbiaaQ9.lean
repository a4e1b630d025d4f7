/-
  What may go, plainly: what stays is a run, and at that number and later ones the same is seen.
-/
import Derived.Test.YtjenogmpmkkbiaaP9
import Derived.Test.YtjenogmpmkkbiaaY8
import Derived.Test.YtjenogmpmkkbiaaN8
namespace Go.Proofs.Ytjenogmpmkkbiaa
open Go.RowKit
set_option linter.unusedVariables false
set_option maxRecDepth 100000

theorem goodR_iff (L : List It) : goodR L = true ↔ (∀ x ∈ L, okIt x = true) ∧ L.Pairwise lessIt := by
  constructor
  · intro h
    refine ⟨fun x hx => ?_, ?_⟩
    · obtain ⟨i, hi, rfl⟩ := List.getElem_of_mem hx
      have := goodR_at h hi
      unfold okAt at this
      rw [Bool.and_eq_true, getD_at L i hi] at this
      exact this.1
    · rw [List.pairwise_iff_getElem]
      intro i j hi hj hij
      have := rise h hij hj
      rwa [getD_at L i hi, getD_at L j hj] at this
  · rintro ⟨h1, h2⟩
    unfold goodR goodTo
    rw [List.all_eq_true]
    intro i hi
    have hi' : i < L.length := by simpa using hi
    unfold okAt
    rw [getD_at L i hi', h1 _ (List.getElem_mem hi'), Bool.true_and]
    by_cases h0 : i = 0
    · simp [h0]
    · rw [getD_at L (i - 1) (by omega), decide_eq_true (List.pairwise_iff_getElem.1 h2 (i - 1) i (by omega) hi' (by omega))]
      simp
theorem eq_of_mem {α : Type} {r : α → α → Prop} (hir : ∀ a, ¬ r a a) (htr : ∀ a b c, r a b → r b c → r a c) : ∀ (P Q : List α), P.Pairwise r → Q.Pairwise r → (∀ x, x ∈ P ↔ x ∈ Q) → P = Q
  | [], [], _, _, _ => rfl
  | [], b :: Q, _, _, h => by have := (h b).2 (by simp); simp at this
  | a :: P, [], _, _, h => by have := (h a).1 (by simp); simp at this
  | a :: P, b :: Q, hp, hq, h => by
    rw [List.pairwise_cons] at hp hq
    have hab : a = b := by
      rcases List.mem_cons.1 ((h a).1 (by simp)) with e | h1
      · exact e
      · rcases List.mem_cons.1 ((h b).2 (by simp)) with e | h2
        · exact e.symm
        · exact absurd (htr _ _ _ (hq.1 a h1) (hp.1 b h2)) (hir b)
    subst hab
    rw [eq_of_mem hir htr P Q hp.2 hq.2 (fun x => ?_)]
    constructor
    · intro hx
      rcases List.mem_cons.1 ((h x).1 (List.mem_cons_of_mem _ hx)) with e | h1
      · subst e; exact absurd (hp.1 _ hx) (hir _)
      · exact h1
    · intro hx
      rcases List.mem_cons.1 ((h x).2 (List.mem_cons_of_mem _ hx)) with e | h1
      · subst e; exact absurd (hq.1 _ hx) (hir _)
      · exact h1
theorem mem_seenTo (l : List It) (q : Int) (j : Nat) (hs : seenB l q j = true) : ∀ i, j < i → l.getD j default ∈ seenTo l q i
  | 0, h => by omega
  | i + 1, h => by
    unfold seenTo
    rcases Nat.lt_or_ge j i with h1 | h1
    · have ih := mem_seenTo l q j hs i h1
      split
      · exact List.mem_append_left _ ih
      · exact ih
    · obtain rfl : j = i := by omega
      rw [hs, if_pos rfl]; simp
theorem seen_mem {l : List It} (h : goodR l = true) (q : Int) (x : It) : x ∈ seenL l q ↔ x ∈ l ∧ x.n ≤ q ∧ ∀ y ∈ l, y.k = x.k → y.n ≤ q → y.n ≤ x.n := by
  constructor
  · intro hx
    obtain ⟨j, hj, rfl, hs⟩ := seenTo_mem l q l.length x hx
    have hm : l.getD j default ∈ l := by rw [getD_at l j hj]; exact List.getElem_mem hj
    have hs' := hs
    unfold seenB at hs'
    simp only [Bool.and_eq_true, Bool.or_eq_true, beq_iff_eq, decide_eq_true_eq, Bool.not_eq_true', decide_eq_false_iff_not] at hs'
    refine ⟨hm, hs'.1, fun y hy hk hn => ?_⟩
    obtain ⟨i, hi, rfl⟩ := List.getElem_of_mem hy
    rw [← getD_at l i hi] at hk hn ⊢
    rcases Nat.lt_trichotomy i j with h1 | h1 | h1
    · exfalso
      obtain ⟨b1, b2⟩ := between h (show i ≤ j - 1 from by omega) (show j - 1 < j from by omega) hj hk
      rcases hs'.2 with (h2 | h2) | h2
      · omega
      · exact h2 b1
      · omega
    · subst h1; exact Int.le_refl _
    · have hr := rise h h1 hi
      rw [lessIt_iff, hk] at hr
      rcases hr with hr | ⟨_, hr⟩
      · exact absurd hr (List.lt_irrefl _)
      · omega
  · rintro ⟨hx, hn, hmax⟩
    obtain ⟨j, hj, rfl⟩ := List.getElem_of_mem hx
    rw [← getD_at l j hj] at hn hmax ⊢
    refine mem_seenTo l q j ?_ l.length hj
    unfold seenB
    rw [decide_eq_true hn, Bool.true_and]
    by_cases h0 : j = 0
    · simp [h0]
    · by_cases hk : (l.getD (j - 1) default).k = (l.getD j default).k
      · have hq : q < (l.getD (j - 1) default).n := by
          rcases Int.lt_or_le q (l.getD (j - 1) default).n with h1 | h1
          · exact h1
          · exfalso
            have h2 := hmax (l.getD (j - 1) default) (by rw [getD_at l (j - 1) (by omega)]; exact List.getElem_mem _) hk h1
            have hr := rise h (show j - 1 < j from by omega) hj
            rw [lessIt_iff, hk] at hr
            rcases hr with hr | ⟨_, hr⟩
            · exact absurd hr (List.lt_irrefl _)
            · omega
        rw [decide_eq_true hq]; simp
      · rw [decide_eq_false hk]; simp
theorem dropTo_mem (l : List It) (q : Int) (b : Bool) : ∀ i x, x ∈ dropTo l q b i ↔ ∃ j, j < i ∧ x = l.getD j default ∧ stayB l q b j = true
  | 0, x => by simp [dropTo]
  | i + 1, x => by
    have ih := dropTo_mem l q b i x
    unfold dropTo
    cases hs : stayB l q b i with
    | true =>
      rw [if_pos rfl, List.mem_append, ih]
      constructor
      · rintro (⟨j, h1, h2⟩ | h)
        · exact ⟨j, by omega, h2⟩
        · exact ⟨i, by omega, by simpa using h, hs⟩
      · rintro ⟨j, h1, h2, h3⟩
        rcases Nat.lt_or_ge j i with h4 | h4
        · exact .inl ⟨j, h4, h2, h3⟩
        · obtain rfl : j = i := by omega
          exact .inr (by simpa using h2)
    | false =>
      rw [if_neg (by simp), ih]
      constructor
      · rintro ⟨j, h1, h2⟩; exact ⟨j, by omega, h2⟩
      · rintro ⟨j, h1, h2, h3⟩
        rcases Nat.lt_or_ge j i with h4 | h4
        · exact ⟨j, h4, h2, h3⟩
        · obtain rfl : j = i := by omega
          rw [hs] at h3; cases h3
theorem dropTo_sub (l : List It) (q : Int) (b : Bool) : ∀ i, i ≤ l.length → List.Sublist (dropTo l q b i) (l.take i)
  | 0, _ => by simp [dropTo]
  | i + 1, h => by
    have ih := dropTo_sub l q b i (by omega)
    rw [List.take_succ_eq_append_getElem (by omega)]
    unfold dropTo
    rw [getD_at l i (by omega)]
    split
    · exact ih.append (List.Sublist.refl _)
    · exact ih.trans (List.sublist_append_left _ _)
theorem drop_sub (l : List It) (q : Int) (b : Bool) : List.Sublist (dropL l q b) l := by
  have := dropTo_sub l q b l.length (Nat.le_refl _)
  rwa [List.take_length] at this
theorem drop_good {l : List It} (h : goodR l = true) (q : Int) (b : Bool) : goodR (dropL l q b) = true := by
  rw [goodR_iff] at h ⊢
  exact ⟨fun x hx => h.1 x ((drop_sub l q b).mem hx), h.2.sublist (drop_sub l q b)⟩
theorem drop_may {l : List It} (h : mayM l = true) (q : Int) (b : Bool) : mayM (dropL l q b) = true := by
  have hg := mayM_good h
  unfold mayM
  rw [drop_good hg.1, Bool.and_true, decide_eq_true_eq]
  exact Nat.le_trans (drop_sub l q b).length_le hg.2
theorem seenB_mem {l : List It} (h : goodR l = true) (q : Int) {j : Nat} (hj : j < l.length) : seenB l q j = true ↔ l.getD j default ∈ seenL l q := by
  constructor
  · exact fun hs => mem_seenTo l q j hs l.length hj
  · intro hm
    obtain ⟨i, hi, he, hs⟩ := seenTo_mem l q l.length _ hm
    rcases Nat.lt_trichotomy i j with h1 | h1 | h1
    · have := rise h h1 hj
      rw [he] at this; exact absurd this (lessIt_irrefl _)
    · subst h1; exact hs
    · have := rise h h1 hi
      rw [he] at this; exact absurd this (lessIt_irrefl _)
theorem drop_mem {l : List It} (h : goodR l = true) (q : Int) (b : Bool) (x : It) : x ∈ dropL l q b ↔ x ∈ l ∧ (q < x.n ∨ (x ∈ seenL l q ∧ ¬ (b = true ∧ x.d = 0))) := by
  unfold dropL
  rw [dropTo_mem]
  constructor
  · rintro ⟨j, hj, rfl, hs⟩
    have hm : l.getD j default ∈ l := by rw [getD_at l j hj]; exact List.getElem_mem hj
    refine ⟨hm, ?_⟩
    unfold stayB at hs
    rw [Bool.or_eq_true, decide_eq_true_eq, Bool.and_eq_true, seenB_mem h q hj] at hs
    rcases hs with hs | ⟨h1, h2⟩
    · exact .inl hs
    · refine .inr ⟨h1, fun ⟨h3, h4⟩ => ?_⟩
      rw [h3, decide_eq_true h4] at h2; cases h2
  · rintro ⟨hx, hs⟩
    obtain ⟨j, hj, rfl⟩ := List.getElem_of_mem hx
    rw [← getD_at l j hj] at hs ⊢
    refine ⟨j, hj, rfl, ?_⟩
    unfold stayB
    rw [Bool.or_eq_true, decide_eq_true_eq, Bool.and_eq_true, seenB_mem h q hj]
    rcases hs with hs | ⟨h1, h2⟩
    · exact .inl hs
    · refine .inr ⟨h1, ?_⟩
      cases b with
      | false => rfl
      | true => rw [decide_eq_false (fun e => h2 ⟨rfl, e⟩)]; rfl
theorem ltK_trans (a b c : ByteArray) (h1 : ltK a b) (h2 : ltK b c) : ltK a c := by
  rw [ltK_iff] at *; exact List.lt_trans h1 h2
theorem mem_prs (S : List It) (p : ByteArray × ByteArray) : p ∈ prs S ↔ ∃ x ∈ S, x.d = 1 ∧ p = (x.k, x.v) := by
  unfold prs
  rw [List.mem_map]
  constructor
  · rintro ⟨x, hx, rfl⟩
    rw [List.mem_filter, decide_eq_true_eq] at hx
    exact ⟨x, hx.1, hx.2, rfl⟩
  · rintro ⟨x, hx, hd, rfl⟩
    exact ⟨x, List.mem_filter.2 ⟨hx, decide_eq_true hd⟩, rfl⟩
/-- What nobody sees any more may go. -/
theorem drop_seen {l : List It} (h : goodR l = true) (q q' : Int) (b : Bool) (hq : q ≤ q') : prs (seenL l q') = prs (seenL (dropL l q b) q') := by
  have hD := drop_good h q b
  refine eq_of_mem (r := fun a b => ltK a.1 b.1) (fun a => ltK_irrefl _) (fun a b c => ltK_trans _ _ _) _ _ (prs_pair (seen_pair h q' _ (Nat.le_refl _))) (prs_pair (seen_pair hD q' _ (Nat.le_refl _))) (fun p => ?_)
  rw [mem_prs, mem_prs]
  constructor
  · rintro ⟨x, hx, hd, rfl⟩
    refine ⟨x, ?_, hd, rfl⟩
    rw [seen_mem h] at hx
    obtain ⟨h1, h2, h3⟩ := hx
    rw [seen_mem hD]
    refine ⟨?_, h2, fun y hy hk hn => h3 y ((drop_mem h q b y).1 hy).1 hk hn⟩
    rw [drop_mem h]
    refine ⟨h1, ?_⟩
    rcases Int.lt_or_le q x.n with h4 | h4
    · exact .inl h4
    · refine .inr ⟨?_, fun ⟨_, e⟩ => by omega⟩
      rw [seen_mem h]
      exact ⟨h1, h4, fun y hy hk hn => h3 y hy hk (by omega)⟩
  · rintro ⟨x, hx, hd, rfl⟩
    refine ⟨x, ?_, hd, rfl⟩
    rw [seen_mem hD] at hx
    obtain ⟨h1, h2, h3⟩ := hx
    rw [drop_mem h] at h1
    obtain ⟨h1, h4⟩ := h1
    rw [seen_mem h]
    refine ⟨h1, h2, fun y hy hk hn => ?_⟩
    rcases Int.lt_or_le q y.n with h5 | h5
    · exact h3 y ((drop_mem h q b y).2 ⟨hy, .inl h5⟩) hk hn
    · rcases h4 with h4 | ⟨h4, _⟩
      · omega
      · rw [seen_mem h] at h4
        exact h4.2.2 y hy hk h5
theorem newest_ge (l : List It) : ∀ i, i ≤ l.length → ∀ j, j < i → (l.getD j default).n ≤ maxTo l i
  | 0, _, j, hj => by omega
  | i + 1, h, j, hj => by
    unfold maxTo
    rcases Nat.lt_or_ge j i with h1 | h1
    · have := newest_ge l i (by omega) j h1; omega
    · obtain rfl : j = i := by omega
      omega
theorem newest_at (l : List It) : ∀ i, i ≤ l.length → maxTo l i = 0 ∨ ∃ j, j < i ∧ (l.getD j default).n = maxTo l i
  | 0, _ => .inl rfl
  | i + 1, h => by
    unfold maxTo
    rcases Int.le_total (l.getD i default).n (maxTo l i) with h1 | h1
    · rw [Int.max_eq_left h1]
      rcases newest_at l i (by omega) with h2 | ⟨j, h2, h3⟩
      · exact .inl h2
      · exact .inr ⟨j, by omega, h3⟩
    · rw [Int.max_eq_right h1]
      exact .inr ⟨i, by omega, rfl⟩
theorem newest_mem (l : List It) (x : It) (hx : x ∈ l) : x.n ≤ newestL l := by
  obtain ⟨i, hi, rfl⟩ := List.getElem_of_mem hx
  rw [← getD_at l i hi]
  exact newest_ge l l.length (Nat.le_refl _) i hi
theorem newest_some (l : List It) : newestL l = 0 ∨ ∃ x ∈ l, x.n = newestL l := by
  rcases newest_at l l.length (Nat.le_refl _) with h | ⟨j, hj, h⟩
  · exact .inl h
  · exact .inr ⟨l.getD j default, by rw [getD_at l j hj]; exact List.getElem_mem hj, h⟩
theorem drop_newest {l : List It} (h : goodR l = true) (q : Int) (b : Bool) (hq : 0 ≤ q) : newestL (dropL l q b) ≤ newestL l ∧ (newestL l ≤ q ∨ newestL (dropL l q b) = newestL l) := by
  have h1 : newestL (dropL l q b) ≤ newestL l := by
    rcases newest_some (dropL l q b) with e | ⟨x, hx, e⟩
    · rw [e]; exact maxTo_nonneg l l.length
    · rw [← e]; exact newest_mem l x ((drop_sub l q b).mem hx)
  refine ⟨h1, ?_⟩
  rcases Int.lt_or_le q (newestL l) with h2 | h2
  · right
    rcases newest_some l with e | ⟨x, hx, e⟩
    · omega
    · have := newest_mem (dropL l q b) x ((drop_mem h q b x).2 ⟨hx, .inl (by omega)⟩)
      omega
  · exact .inl h2
end Go.Proofs.Ytjenogmpmkkbiaa
