/-
  Lists with towers, plainly: the order of items, the numbers of a level, when a list is good: as the program asks, as the specification asks; the two are one.
-/
import Derived.Test.YtdaldkcildbcmaaDoorI2
import Derived.Test.YtdaldkcildbcmaaDoorT3
namespace Go.Proofs.YtdaldkcildbcmaaDoor
set_option linter.unusedVariables false

/-- A tower, plainly. -/
structure Tw where
  key : ByteArray
  seq : Int
  kind : Int
  val : ByteArray
  next : List Int
instance : Inhabited Tw := ⟨⟨⟨#[]⟩, 0, 0, ⟨#[]⟩, []⟩⟩

theorem bless_iff : ∀ (x y : List UInt8), Op.bytesLess x y = true ↔ x < y
  | [], [] => by simp [Op.bytesLess]
  | _ :: _, [] => by simp [Op.bytesLess]
  | [], _ :: _ => by simp [Op.bytesLess]
  | a :: x, b :: y => by
    have ih := bless_iff x y
    simp only [Op.bytesLess, List.cons_lt_cons_iff, Bool.or_eq_true, Bool.and_eq_true, decide_eq_true_eq, beq_iff_eq, ih]

def cT (a b : Tw) : Int := cIt a.key b.key a.seq b.seq
theorem cT_neg (a b : Tw) : cT a b < 0 ↔ a.key.toList < b.key.toList ∨ (a.key.toList = b.key.toList ∧ b.seq < a.seq) := by
  unfold cT cIt cI
  by_cases h : Op.bytesLess a.key.toList b.key.toList = true
  · rw [if_pos h]
    exact ⟨fun _ => Or.inl ((bless_iff _ _).1 h), fun _ => by omega⟩
  · rw [if_neg h]
    have hn : ¬ a.key.toList < b.key.toList := fun h' => h ((bless_iff _ _).2 h')
    by_cases e : a.key.toList = b.key.toList
    · rw [if_pos (by simpa using e)]
      constructor
      · intro h1
        refine Or.inr ⟨e, ?_⟩
        split at h1
        · assumption
        · split at h1 <;> omega
      · rintro (h1 | ⟨_, h1⟩)
        · exact absurd h1 hn
        · rw [if_pos h1]; omega
    · rw [if_neg (by simpa using e)]
      constructor
      · intro h1; omega
      · rintro (h1 | ⟨h1, _⟩)
        · exact absurd h1 hn
        · exact absurd h1 e
theorem cT_zero (a b : Tw) : cT a b = 0 ↔ a.key.toList = b.key.toList ∧ a.seq = b.seq := by
  unfold cT cIt cI
  by_cases h : Op.bytesLess a.key.toList b.key.toList = true
  · rw [if_pos h]
    refine ⟨fun h1 => by omega, fun ⟨h1, _⟩ => ?_⟩
    rw [h1] at h
    exact absurd ((bless_iff _ _).1 h) (List.lt_irrefl _)
  · rw [if_neg h]
    by_cases e : a.key.toList = b.key.toList
    · rw [if_pos (by simpa using e)]
      constructor
      · intro h1
        refine ⟨e, ?_⟩
        split at h1
        · omega
        · split at h1 <;> omega
      · rintro ⟨_, h1⟩
        rw [if_neg (by omega), if_neg (by omega)]
    · rw [if_neg (by simpa using e)]
      exact ⟨fun h1 => by omega, fun ⟨h1, _⟩ => absurd h1 e⟩
theorem cT_irrefl (a : Tw) : ¬ cT a a < 0 := by
  rw [cT_neg]
  rintro (h | ⟨_, h⟩)
  · exact List.lt_irrefl _ h
  · omega
theorem cT_trans {a b c : Tw} (h1 : cT a b < 0) (h2 : cT b c < 0) : cT a c < 0 := by
  rw [cT_neg] at *
  rcases h1 with h1 | ⟨e1, h1⟩
  · rcases h2 with h2 | ⟨e2, h2⟩
    · exact Or.inl (List.lt_trans h1 h2)
    · exact Or.inl (e2 ▸ h1)
  · rcases h2 with h2 | ⟨e2, h2⟩
    · exact Or.inl (e1 ▸ h2)
    · exact Or.inr ⟨e1.trans e2, by omega⟩
theorem cT_ne {a b : Tw} (h : cT a b < 0 ∨ cT b a < 0) : cT a b ≠ 0 := by
  intro h0
  rw [cT_zero] at h0
  rw [cT_neg, cT_neg, h0.1, h0.2] at h
  rcases h with (h | ⟨_, h⟩) | (h | ⟨_, h⟩)
  · exact List.lt_irrefl _ h
  · omega
  · exact List.lt_irrefl _ h
  · omega

/-- The tower at a number; the link of a tower at a level. -/
def tw (ts : List Tw) (i : Int) : Tw := ts.getD i.toNat default
def nx (ts : List Tw) (i : Int) (lv : Nat) : Int := (tw ts i).next.getD lv 0
def okAt (ts : List Tw) (lv : Nat) (x : Int) : Prop := 0 ≤ x ∧ x < ts.length ∧ lv < (tw ts x).next.length
def mayB (ts : List Tw) (lv : Nat) (ahead x : Int) : Bool := decide (0 ≤ x) && decide (x < ts.length) && decide (lv < (tw ts x).next.length) && (ahead == -1 || decide (cT (tw ts ahead) (tw ts x) < 0))
theorem mayB_iff (ts : List Tw) (lv : Nat) (ahead x : Int) : mayB ts lv ahead x = true ↔ okAt ts lv x ∧ (ahead = -1 ∨ cT (tw ts ahead) (tw ts x) < 0) := by
  unfold mayB okAt
  simp only [Bool.and_eq_true, Bool.or_eq_true, decide_eq_true_eq, beq_iff_eq, and_assoc]
/-- The numbers of a level from x on, as the program goes. -/
def lev (ts : List Tw) (lv : Nat) : Nat → Int → Int → Option (List Int)
  | 0, _, _ => none
  | f + 1, ahead, x => if x = -1 then some [] else if mayB ts lv ahead x then (lev ts lv f x (nx ts x lv)).map (x :: ·) else none
/-- n steps on a level, as the specification goes. -/
def stp (ts : List Tw) (lv : Nat) : Nat → Int → Int → Bool
  | 0, _, x => x == -1
  | n + 1, a, x => decide (0 ≤ x) && decide (lv < (tw ts x).next.length) && (decide (a < 0) || decide (cT (tw ts a) (tw ts x) < 0)) && stp ts lv n x (nx ts x lv)

theorem lev_stp (ts : List Tw) (lv : Nat) : ∀ (f : Nat) (a x : Int) (l : List Int), lev ts lv f a x = some l → stp ts lv l.length a x = true := by
  intro f
  induction f with
  | zero => intro a x l h; cases h
  | succ f ih =>
    intro a x l h
    simp only [lev] at h
    split at h
    · cases h; simp [stp]; assumption
    · split at h
      · rename_i h1 hm
        obtain ⟨l', hl', rfl⟩ := Option.map_eq_some_iff.1 h
        obtain ⟨⟨k0, k1, k2⟩, k3⟩ := (mayB_iff _ _ _ _).1 hm
        simp only [List.length_cons, stp, Bool.and_eq_true, Bool.or_eq_true, decide_eq_true_eq]
        refine ⟨⟨⟨k0, k2⟩, ?_⟩, ih _ _ _ hl'⟩
        rcases k3 with k3 | k3
        · exact Or.inl (by omega)
        · exact Or.inr k3
      · cases h
theorem stp_lev (ts : List Tw) (lv : Nat) (hn : ∀ x, okAt ts lv x → nx ts x lv < ts.length) : ∀ (n : Nat) (a x : Int), (a = -1 ∨ 0 ≤ a) → x < ts.length → stp ts lv n a x = true → ∀ f, n < f → ∃ l, lev ts lv f a x = some l ∧ l.length = n := by
  intro n
  induction n with
  | zero =>
    intro a x ha hx h f hf
    obtain ⟨f, rfl⟩ : ∃ g, f = g + 1 := ⟨f - 1, by omega⟩
    have : x = -1 := by simpa [stp] using h
    exact ⟨[], by simp [lev, this], rfl⟩
  | succ n ih =>
    intro a x ha hx h f hf
    obtain ⟨f, rfl⟩ : ∃ g, f = g + 1 := ⟨f - 1, by omega⟩
    simp only [stp, Bool.and_eq_true, Bool.or_eq_true, decide_eq_true_eq] at h
    obtain ⟨⟨⟨k0, k2⟩, k3⟩, hs⟩ := h
    have ok : okAt ts lv x := ⟨k0, hx, k2⟩
    have hm : mayB ts lv a x = true := by
      rw [mayB_iff]
      refine ⟨ok, ?_⟩
      rcases k3 with k3 | k3
      · exact Or.inl (by omega)
      · exact Or.inr k3
    obtain ⟨l, hl, hll⟩ := ih x _ (Or.inr k0) (hn x ok) hs f (by omega)
    refine ⟨x :: l, ?_, by simp [hll]⟩
    simp only [lev]
    rw [if_neg (by omega), if_pos hm, hl]
    rfl
theorem lev_facts (ts : List Tw) (lv : Nat) : ∀ (f : Nat) (a x : Int) (l : List Int), lev ts lv f a x = some l →
    (x = -1 ∨ okAt ts lv x) ∧ (∀ y ∈ l, okAt ts lv y ∧ (nx ts y lv = -1 ∨ okAt ts lv (nx ts y lv))) ∧ l.Pairwise (fun i j => cT (tw ts i) (tw ts j) < 0) ∧ (a = -1 ∨ ∀ y ∈ l, cT (tw ts a) (tw ts y) < 0) := by
  intro f
  induction f with
  | zero => intro a x l h; cases h
  | succ f ih =>
    intro a x l h
    simp only [lev] at h
    split at h
    · cases h; exact ⟨Or.inl (by assumption), by simp, by simp, Or.inr (by simp)⟩
    · split at h
      · rename_i h1 hm
        obtain ⟨l', hl', rfl⟩ := Option.map_eq_some_iff.1 h
        obtain ⟨ok, k3⟩ := (mayB_iff _ _ _ _).1 hm
        obtain ⟨i1, i2, i3, i4⟩ := ih _ _ _ hl'
        have i4' : ∀ y ∈ l', cT (tw ts x) (tw ts y) < 0 := by
          rcases i4 with i4 | i4
          · have := ok.1; omega
          · exact i4
        refine ⟨Or.inr ok, ?_, List.pairwise_cons.2 ⟨i4', i3⟩, ?_⟩
        · intro y hy
          rcases List.mem_cons.1 hy with rfl | hy
          · exact ⟨ok, i1⟩
          · exact i2 y hy
        · rcases k3 with k3 | k3
          · exact Or.inl k3
          · refine Or.inr fun y hy => ?_
            rcases List.mem_cons.1 hy with rfl | hy
            · exact k3
            · exact cT_trans k3 (i4' y hy)
      · cases h

theorem short_of_subset {α : Type} [DecidableEq α] : ∀ (l s : List α), l.Nodup → (∀ x ∈ l, x ∈ s) → l.length ≤ s.length := by
  intro l
  induction l with
  | nil => intro s _ _; simp
  | cons a l ih =>
    intro s hn hs
    obtain ⟨h1, h2⟩ := List.nodup_cons.1 hn
    have ha := hs a (by simp)
    have := ih (s.erase a) h2 (fun x hx => by
      have hne : x ≠ a := fun e => h1 (e ▸ hx)
      exact (List.mem_erase_of_ne hne).2 (hs x (by simp [hx])))
    rw [List.length_erase_of_mem ha] at this
    have hp : 0 < s.length := List.length_pos_of_mem ha
    simp only [List.length_cons]; omega
theorem nodup_of_rising {ts : List Tw} {l : List Int} (h : l.Pairwise (fun i j => cT (tw ts i) (tw ts j) < 0)) : l.Nodup :=
  h.imp fun {i j} hlt e => by rw [e] at hlt; exact cT_irrefl _ hlt

/-- How many towers are so high. -/
def reach (ts : List Tw) (lv : Nat) : Nat := (ts.filter fun t => decide (lv < t.next.length)).length
/-- Their numbers. -/
def nums (ts : List Tw) (lv : Nat) : List Int := ((List.range ts.length).filter fun i : Nat => decide (lv < (tw ts (i : Int)).next.length)).map fun i : Nat => (i : Int)
theorem range_tw (ts : List Tw) : (List.range ts.length).map (fun i : Nat => tw ts (i : Int)) = ts := by
  apply List.ext_getElem
  · simp
  · intro i h1 h2
    simp [tw, List.getD, h2]
theorem nums_length (ts : List Tw) (lv : Nat) : (nums ts lv).length = reach ts lv := by
  unfold nums reach
  rw [List.length_map]
  have h : (ts.filter fun t => decide (lv < t.next.length)) = (((List.range ts.length).map (fun i : Nat => tw ts (i : Int))).filter fun t => decide (lv < t.next.length)) := by rw [range_tw]
  rw [h, List.filter_map, List.length_map]
  rfl
theorem mem_nums {ts : List Tw} {lv : Nat} {x : Int} : x ∈ nums ts lv ↔ okAt ts lv x := by
  unfold nums okAt
  simp only [List.mem_map, List.mem_filter, List.mem_range, decide_eq_true_eq]
  constructor
  · rintro ⟨i, ⟨h1, h2⟩, rfl⟩
    exact ⟨by omega, by omega, h2⟩
  · rintro ⟨h0, h1, h2⟩
    refine ⟨x.toNat, ⟨by omega, ?_⟩, by omega⟩
    rwa [show ((x.toNat : Nat) : Int) = x from by omega]
theorem reach_le (ts : List Tw) (lv : Nat) : reach ts lv ≤ ts.length := List.length_filter_le _ _
/-- Numbers that rise are not more than the towers. -/
theorem rising_short {ts : List Tw} {lv : Nat} {l : List Int} (h : l.Pairwise (fun i j => cT (tw ts i) (tw ts j) < 0)) (ho : ∀ y ∈ l, okAt ts lv y) : l.length ≤ ts.length := by
  have := short_of_subset l (nums ts lv) (nodup_of_rising h) (fun x hx => mem_nums.2 (ho x hx))
  rw [nums_length] at this
  exact Nat.le_trans this (reach_le _ _)
/-- Where as many rise as there are, every one is there. -/
theorem rising_all {ts : List Tw} {lv : Nat} {l : List Int} (h : l.Pairwise (fun i j => cT (tw ts i) (tw ts j) < 0)) (ho : ∀ y ∈ l, okAt ts lv y) (hl : l.length = reach ts lv) : ∀ y, okAt ts lv y → y ∈ l := by
  intro y hy
  by_cases hm : y ∈ l
  · exact hm
  · have := short_of_subset (y :: l) (nums ts lv) (List.nodup_cons.2 ⟨hm, nodup_of_rising h⟩) (fun x hx => by
      rcases List.mem_cons.1 hx with rfl | hx
      · exact mem_nums.2 hy
      · exact mem_nums.2 (ho x hx))
    rw [nums_length, ← hl, List.length_cons] at this
    omega

/-- Each tower by itself. -/
def okTw (t : Tw) : Bool := okItem t.key t.seq t.kind t.val && (t.next.length : Int) == toN t.key t.seq
theorem okTw_high {t : Tw} (h : okTw t = true) : 0 < t.next.length := by
  unfold okTw okItem at h
  simp only [Bool.and_eq_true, beq_iff_eq] at h
  obtain ⟨⟨⟨hk, hs⟩, _⟩, hn⟩ := h
  have : toOk t.key t.seq = true := by unfold toOk; rw [hk, hs]; rfl
  unfold toN at hn
  rw [if_pos this] at hn
  unfold twN at hn
  omega
/-- A list is good, as the program asks. -/
def GoodI (hs : List Int) (ts : List Tw) : Prop := hs.length = 5 ∧ ts.length ≤ 60 ∧ (∀ t ∈ ts, okTw t = true) ∧ ∀ lv, lv < 5 → ∃ l, lev ts lv (ts.length + 1) (-1) (hs.getD lv 0) = some l ∧ l.length = reach ts lv
/-- A list is good, as the specification asks. -/
def GoodS (hs : List Int) (ts : List Tw) : Prop := hs.length = 5 ∧ ts.length ≤ 60 ∧ (∀ i : Nat, i < ts.length → okTw (tw ts i) = true ∧ (∀ j : Nat, j < i → cT (tw ts j) (tw ts i) ≠ 0) ∧ ∀ k, k < (tw ts i).next.length → -1 ≤ nx ts i k ∧ nx ts i k ≤ (ts.length : Int) - 1) ∧
  ∀ lv, lv < 5 → (-1 ≤ hs.getD lv 0 ∧ hs.getD lv 0 ≤ (ts.length : Int) - 1) ∧ stp ts lv (reach ts lv) (-1) (hs.getD lv 0) = true
theorem tw_mem {ts : List Tw} {i : Nat} (h : i < ts.length) : tw ts i ∈ ts := by
  have : tw ts i = ts[i] := by simp [tw, List.getD, h]
  rw [this]; exact List.getElem_mem h
theorem high_le {t : Tw} (h : okTw t = true) : t.next.length ≤ 5 := by
  have h5 : ∀ f x, twL f x ≤ f := by
    intro f
    induction f with
    | zero => intro x; exact Nat.le_refl _
    | succ f ih => intro x; simp only [twL]; have := ih (x / 4); split <;> omega
  unfold okTw at h
  simp only [Bool.and_eq_true, beq_iff_eq] at h
  have hn := h.2
  unfold toN twN at hn
  split at hn
  · have := h5 4 (csum (twT t.key t.seq.toNat).data.toList); omega
  · omega
theorem good_same (hs : List Int) (ts : List Tw) : GoodI hs ts ↔ GoodS hs ts := by
  constructor
  · rintro ⟨h5, h60, hok, hlv⟩
    have hall : ∀ lv, lv < 5 → ∀ y, okAt ts lv y → (nx ts y lv = -1 ∨ okAt ts lv (nx ts y lv)) := by
      intro lv hl y hy
      obtain ⟨l, e, hn⟩ := hlv lv hl
      obtain ⟨_, f2, f3, _⟩ := lev_facts _ _ _ _ _ _ e
      exact (f2 y (rising_all f3 (fun z hz => (f2 z hz).1) hn y hy)).2
    refine ⟨h5, h60, fun i hi => ⟨hok _ (tw_mem hi), fun j hj => ?_, fun k hk => ?_⟩, fun lv hl => ?_⟩
    · obtain ⟨l, e, hn⟩ := hlv 0 (by omega)
      obtain ⟨_, f2, f3, _⟩ := lev_facts _ _ _ _ _ _ e
      have A := rising_all f3 (fun z hz => (f2 z hz).1) hn
      have a1 := A i ⟨by omega, by omega, okTw_high (hok _ (tw_mem hi))⟩
      have a2 := A j ⟨by omega, by omega, okTw_high (hok _ (tw_mem (show j < ts.length by omega)))⟩
      apply cT_ne
      obtain ⟨p, hp, rp⟩ := List.getElem_of_mem a1
      obtain ⟨q, hq, rq⟩ := List.getElem_of_mem a2
      have F := List.pairwise_iff_getElem.1 f3
      rcases Nat.lt_trichotomy p q with h | h | h
      · have := F p q hp hq h; rw [rp, rq] at this; exact Or.inr this
      · subst h; rw [rp] at rq; omega
      · have := F q p hq hp h; rw [rp, rq] at this; exact Or.inl this
    · have hk5 := high_le (hok _ (tw_mem hi))
      rcases hall k (by omega) i ⟨by omega, by omega, hk⟩ with h | ⟨h0, h1, _⟩ <;> omega
    · obtain ⟨l, e, hn⟩ := hlv lv hl
      obtain ⟨f1, _, _, _⟩ := lev_facts _ _ _ _ _ _ e
      refine ⟨?_, hn ▸ lev_stp _ _ _ _ _ _ e⟩
      rcases f1 with h | ⟨h0, h1, _⟩ <;> omega
  · rintro ⟨h5, h60, hts, hlv⟩
    refine ⟨h5, h60, fun t ht => ?_, fun lv hl => ?_⟩
    · obtain ⟨i, hi, rfl⟩ := List.getElem_of_mem ht
      have := (hts i hi).1
      rwa [show tw ts i = ts[i] from by simp [tw, List.getD, hi]] at this
    · obtain ⟨hb, hs'⟩ := hlv lv hl
      refine stp_lev ts lv (fun x hx => ?_) _ _ _ (Or.inl rfl) (by omega) hs' _ (by have := reach_le ts lv; omega)
      obtain ⟨x0, x1, x2⟩ := hx
      obtain ⟨n, rfl⟩ := Int.eq_ofNat_of_zero_le x0
      have := ((hts n (by omega)).2.2 lv x2).2
      omega
end Go.Proofs.YtdaldkcildbcmaaDoor
