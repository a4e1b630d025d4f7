/-
  What is found in a list with towers, plainly: the looks, the first that is not less, the best of the lowest level.
-/
import Derived.Test.YtdaldkcildbcmaaDoorJ8
import Derived.Test.YtdaldkcildbcmaaDoorO2
namespace Go.Proofs.YtdaldkcildbcmaaDoor
set_option linter.unusedVariables false

/-- Where going on a level ends. -/
theorem go1_stop {hs : List Int} {ts : List Tw} (G : GoodI hs ts) (t : Tw) {lv : Nat} (h : lv < 5) : ∀ (f : Nat) (a : Int) (n : Nat), (a = -1 ∨ okAt ts lv a) → behind ts a < f → NX hs ts (go1 hs ts t lv f a n).1 lv < 0 ∨ ¬ cT (tw ts (NX hs ts (go1 hs ts t lv f a n).1 lv)) t < 0 := by
  intro f
  induction f with
  | zero => intro a n _ h1; omega
  | succ f ih =>
    intro a n ha h1
    simp only [go1]
    split
    · rename_i h3; exact .inl h3
    · rename_i h3
      split
      · rcases good_step G h ha with h4 | ⟨h4, h5⟩
        · omega
        · have hlt := behind_lt h4 (a := a) (by
            rcases ha with rfl | ha
            · exact .inl rfl
            · rcases h5 with rfl | h5
              · exact .inl rfl
              · exact .inr ⟨ha.1, h5⟩)
          exact ih _ _ (.inr h4) (by omega)
      · rename_i h6; exact .inr h6
theorem go1_less (hs : List Int) (ts : List Tw) (t : Tw) (lv : Nat) : ∀ (f : Nat) (a : Int) (n : Nat), (a = -1 ∨ cT (tw ts a) t < 0) → (go1 hs ts t lv f a n).1 = -1 ∨ cT (tw ts (go1 hs ts t lv f a n).1) t < 0 := by
  intro f
  induction f with
  | zero => intro a n ha; exact ha
  | succ f ih =>
    intro a n ha
    simp only [go1]
    split
    · exact ha
    · split
      · rename_i h6; exact ih _ _ (.inr h6)
      · exact ha
theorem go1_looks {hs : List Int} {ts : List Tw} (G : GoodI hs ts) (t : Tw) {lv : Nat} (h : lv < 5) : ∀ (f : Nat) (a : Int) (n : Nat), (a = -1 ∨ okAt ts lv a) → (go1 hs ts t lv f a n).2 + behind ts (go1 hs ts t lv f a n).1 ≤ n + behind ts a + 1 := by
  intro f
  induction f with
  | zero => intro a n ha; simp only [go1]; omega
  | succ f ih =>
    intro a n ha
    simp only [go1]
    split
    · show n + behind ts a ≤ _; omega
    · rename_i h3
      split
      · rcases good_step G h ha with h4 | ⟨h4, h5⟩
        · omega
        · have hlt := behind_lt h4 (a := a) (by
            rcases ha with rfl | ha
            · exact .inl rfl
            · rcases h5 with rfl | h5
              · exact .inl rfl
              · exact .inr ⟨ha.1, h5⟩)
          have := ih (NX hs ts a lv) (n + 1) (.inr h4)
          omega
      · show n + 1 + behind ts a ≤ _; omega
theorem SkS_looks {hs : List Int} {ts : List Tw} (G : GoodI hs ts) (t : Tw) : ∀ k, k ≤ 5 → (SkS hs ts t k).2 + behind ts (SkS hs ts t k).1 ≤ ts.length + k := by
  intro k
  induction k with
  | zero =>
    intro _
    show 0 + behind ts (-1) ≤ _
    have := behind_le ts (-1)
    omega
  | succ k ih =>
    intro hk
    have h1 := ih (by omega)
    have h2 := go1_looks G t (lv := 4 - k) (by omega) (ts.length + 1) (SkS hs ts t k).1 (SkS hs ts t k).2 (SkS_ok G t k (by omega) (4 - k) (by omega))
    simp only [SkS]
    omega
theorem SkS_less (hs : List Int) (ts : List Tw) (t : Tw) : ∀ k, (SkS hs ts t k).1 = -1 ∨ cT (tw ts (SkS hs ts t k).1) t < 0 := by
  intro k
  induction k with
  | zero => exact .inl rfl
  | succ k ih => exact go1_less hs ts t (4 - k) _ _ _ ih
theorem skN_stop {hs : List Int} {ts : List Tw} (G : GoodI hs ts) (t : Tw) : skN hs ts t < 0 ∨ ¬ cT (tw ts (skN hs ts t)) t < 0 := by
  have := go1_stop G t (lv := 0) (by omega) (ts.length + 1) (SkS hs ts t 4).1 (SkS hs ts t 4).2 (SkS_ok G t 4 (by omega) 0 (by omega)) (by have := behind_le ts (SkS hs ts t 4).1; omega)
  exact this
theorem lev_head {ts : List Tw} {lv f : Nat} {a x : Int} {l : List Int} (h : lev ts lv f a x = some l) : ∀ y ∈ l, x ∈ l ∧ (y = x ∨ cT (tw ts x) (tw ts y) < 0) := by
  intro y hy
  obtain ⟨_, _, hp, _⟩ := lev_facts _ _ _ _ _ _ h
  rcases lev_cases h with ⟨_, rfl⟩ | ⟨f', l', _, rfl, _, _⟩
  · cases hy
  · refine ⟨List.mem_cons_self, ?_⟩
    rcases List.mem_cons.1 hy with rfl | hy
    · exact .inl rfl
    · exact .inr ((List.pairwise_cons.1 hp).1 y hy)
theorem lev_split {ts : List Tw} {lv : Nat} : ∀ {f : Nat} {a0 x : Int} {l : List Int}, lev ts lv f a0 x = some l → ∀ a ∈ l, ∀ y ∈ l, (y = a ∨ cT (tw ts y) (tw ts a) < 0) ∨ (nx ts a lv ∈ l ∧ (y = nx ts a lv ∨ cT (tw ts (nx ts a lv)) (tw ts y) < 0))
  | 0, a0, x, l, h => by cases h
  | f + 1, a0, x, l, h => by
    intro a ha y hy
    obtain ⟨_, _, hp, _⟩ := lev_facts _ _ _ _ _ _ h
    rcases lev_cases h with ⟨_, rfl⟩ | ⟨f', l', hf, rfl, hok, h2⟩
    · cases ha
    · obtain rfl : f' = f := by omega
      have hpx := (List.pairwise_cons.1 hp).1
      rcases List.mem_cons.1 ha with e1 | ha1
      · subst e1
        rcases List.mem_cons.1 hy with e2 | hy1
        · exact .inl (.inl e2)
        · obtain ⟨q1, q2⟩ := lev_head h2 y hy1
          exact .inr ⟨List.mem_cons_of_mem _ q1, q2⟩
      · rcases List.mem_cons.1 hy with e2 | hy1
        · rw [e2]; exact .inl (.inr (hpx a ha1))
        · rcases lev_split h2 a ha1 y hy1 with q | ⟨q1, q2⟩
          · exact .inl q
          · exact .inr ⟨List.mem_cons_of_mem _ q1, q2⟩
/-- Each of the lowest level is less than what is looked for, or the first that isn't, or behind it. -/
theorem first_of {hs : List Int} {ts : List Tw} (G : GoodI hs ts) (t : Tw) {l : List Int} (hl : lev ts 0 (ts.length + 1) (-1) (hs.getD 0 0) = some l) (hn : l.length = reach ts 0) : ∀ y ∈ l, cT (tw ts y) t < 0 ∨ (skN hs ts t ∈ l ∧ (y = skN hs ts t ∨ cT (tw ts (skN hs ts t)) (tw ts y) < 0)) := by
  intro y hy
  obtain ⟨_, f2, f3, _⟩ := lev_facts _ _ _ _ _ _ hl
  have A := rising_all f3 (fun z hz => (f2 z hz).1) hn
  have ha := SkS_ok G t 5 (by omega) 0 (by omega)
  have hlt := SkS_less hs ts t 5
  unfold skN
  generalize (SkS hs ts t 5).1 = a at *
  rcases ha with rfl | ha
  · rw [NX_head]
    exact .inr (lev_head hl y hy)
  · have hm := A a ha
    obtain ⟨i, rfl⟩ := Int.eq_ofNat_of_zero_le ha.1
    rw [NX_at]
    rcases hlt with hlt | hlt
    · omega
    · rcases lev_split hl _ hm y hy with (rfl | q) | q
      · exact .inl hlt
      · exact .inl (cT_trans q hlt)
      · exact .inr q
/-- A round of what FnFound asks: the best so far. -/
def bStep (key : ByteArray) (seq : Int) (b : It × Bool) (i : It) : It × Bool := if (i.k.toList == key.toList) && decide (i.n ≤ seq) && (!b.2 || decide (b.1.n < i.n)) then (i, true) else b
def bst (key : ByteArray) (seq : Int) (l : List It) : It × Bool := l.foldl (bStep key seq) (⟨⟨#[]⟩, 0, 0, ⟨#[]⟩⟩, false)
theorem bst_snoc (key : ByteArray) (seq : Int) (l : List It) (i : It) : bst key seq (l ++ [i]) = bStep key seq (bst key seq l) i := by simp [bst]
def hit (key : ByteArray) (seq : Int) (i : It) : Prop := i.k.toList = key.toList ∧ i.n ≤ seq
theorem bst_facts (key : ByteArray) (seq : Int) (l : List It) : ((bst key seq l).2 = false → ∀ i ∈ l, ¬ hit key seq i) ∧ ((bst key seq l).2 = true → (bst key seq l).1 ∈ l ∧ hit key seq (bst key seq l).1 ∧ ∀ i ∈ l, hit key seq i → i.n ≤ (bst key seq l).1.n) := by
  suffices H : ∀ r : List It, ((bst key seq r.reverse).2 = false → ∀ i ∈ r.reverse, ¬ hit key seq i) ∧ ((bst key seq r.reverse).2 = true → (bst key seq r.reverse).1 ∈ r.reverse ∧ hit key seq (bst key seq r.reverse).1 ∧ ∀ i ∈ r.reverse, hit key seq i → i.n ≤ (bst key seq r.reverse).1.n) by
    have := H l.reverse; rwa [List.reverse_reverse] at this
  intro r
  induction r with
  | nil => exact ⟨fun _ i hi => by simp at hi, fun h => by cases h⟩
  | cons x r ih =>
    obtain ⟨i1, i2⟩ := ih
    rw [List.reverse_cons, bst_snoc]
    generalize bst key seq r.reverse = b at *
    by_cases hx : ((x.k.toList == key.toList) && decide (x.n ≤ seq) && (!b.2 || decide (b.1.n < x.n))) = true
    · have e : bStep key seq b x = (x, true) := if_pos hx
      rw [e]
      simp only [Bool.and_eq_true, Bool.or_eq_true, beq_iff_eq, decide_eq_true_eq, Bool.not_eq_true'] at hx
      obtain ⟨⟨h1, h2⟩, h3⟩ := hx
      refine ⟨fun h => (by cases h), fun _ => ⟨by simp, ⟨h1, h2⟩, fun i hi hh => ?_⟩⟩
      rcases List.mem_append.1 hi with hi | hi
      · rcases h3 with h3 | h3
        · exact absurd hh (i1 h3 i hi)
        · cases hb : b.2 with
          | false => exact absurd hh (i1 hb i hi)
          | true => have := (i2 hb).2.2 i hi hh; show i.n ≤ x.n; omega
      · rw [List.mem_singleton.1 hi]; exact Int.le_refl _
    · have e : bStep key seq b x = b := if_neg hx
      rw [e]
      simp only [Bool.and_eq_true, Bool.or_eq_true, beq_iff_eq, decide_eq_true_eq, Bool.not_eq_true'] at hx
      refine ⟨fun h i hi hh => ?_, fun h => ?_⟩
      · rcases List.mem_append.1 hi with hi | hi
        · exact i1 h i hi hh
        · rw [List.mem_singleton.1 hi] at hh; exact hx ⟨hh, .inl h⟩
      · obtain ⟨j1, j2, j3⟩ := i2 h
        refine ⟨List.mem_append_left _ j1, j2, fun i hi hh => ?_⟩
        rcases List.mem_append.1 hi with hi | hi
        · exact j3 i hi hh
        · rw [List.mem_singleton.1 hi] at hh ⊢
          by_cases hn : b.1.n < x.n
          · exact absurd ⟨hh, .inr hn⟩ hx
          · omega
theorem not_less_t {a : Tw} {key : ByteArray} {seq : Int} (h : ¬ cT a (skT key seq) < 0) : ¬ a.key.toList < key.toList ∧ ¬ (a.key.toList = key.toList ∧ seq < a.seq) := by
  rw [cT_neg] at h
  exact ⟨fun q => h (.inl q), fun q => h (.inr q)⟩
/-- What FindSkip finds is the best of the lowest level. -/
theorem found_best {hs : List Int} {ts : List Tw} {key k v : ByteArray} {seq n d : Int} {ok : Bool} {l : List Int} (G : GoodI hs ts) (hk : okKey key = true) (hsq : okSeq seq = true) (hF : FindA hs ts key seq k n d v ok) (hl : lev ts 0 (ts.length + 1) (-1) (hs.getD 0 0) = some l) (hn : l.length = reach ts 0) :
    ok = (bst key seq (lsL ts l)).2 ∧ (ok = true → (bst key seq (lsL ts l)).1 = ⟨k, n, d, v⟩) := by
  have FO := first_of G (skT key seq) hl hn
  have SN := skN_stop G (skT key seq)
  have SO := skN_ok G (skT key seq)
  obtain ⟨_, f2, f3, _⟩ := lev_facts _ _ _ _ _ _ hl
  have A := rising_all f3 (fun z hz => (f2 z hz).1) hn
  obtain ⟨b1, b2⟩ := bst_facts key seq (lsL ts l)
  have hS : SkOk hs ts key seq ↔ skN hs ts (skT key seq) ≠ -1 := ⟨fun h => h.2.2.2, fun h => ⟨G, hk, hsq, h⟩⟩
  -- a hit on the level: then the first is one, and not less than any
  have HH : ∀ y ∈ l, hit key seq (itOf (tw ts y)) → skN hs ts (skT key seq) ∈ l ∧ hit key seq (itOf (tw ts (skN hs ts (skT key seq)))) ∧ (y = skN hs ts (skT key seq) ∨ (tw ts y).seq < (tw ts (skN hs ts (skT key seq))).seq) := by
    intro y hy hh
    obtain ⟨h1, h2⟩ := hh
    replace h1 : (tw ts y).key.toList = key.toList := h1
    replace h2 : (tw ts y).seq ≤ seq := h2
    rcases FO y hy with q | ⟨q1, q2⟩
    · rw [cT_neg] at q
      rcases q with q | ⟨_, q⟩
      · replace q : (tw ts y).key.toList < key.toList := q
        rw [h1] at q; exact absurd q (List.lt_irrefl _)
      · replace q : seq < (tw ts y).seq := q
        omega
    · have z0 := (f2 _ q1).1.1
      rcases SN with SN | SN
      · omega
      · obtain ⟨n1, n2⟩ := not_less_t SN
        rcases q2 with q2 | q2
        · rw [← q2]; exact ⟨hy, ⟨h1, h2⟩, .inl rfl⟩
        · rw [cT_neg] at q2
          rcases q2 with q2 | ⟨q2, q3⟩
          · rw [h1] at q2; exact absurd q2 n1
          · rw [h1] at q2
            exact ⟨q1, ⟨q2, by show (tw ts _).seq ≤ seq; by_cases e : (tw ts (skN hs ts (skT key seq))).seq ≤ seq; exact e; exact absurd ⟨q2, by omega⟩ n2⟩, .inr q3⟩
  obtain ⟨k', n', d', v', m', ok', hA, hQ⟩ := hF
  cases hb : (bst key seq (lsL ts l)).2 with
  | true =>
    obtain ⟨c1, c2, c3⟩ := b2 hb
    obtain ⟨y, hy, hye⟩ := List.mem_map.1 c1
    rw [← hye] at c2 c3
    obtain ⟨z1, z2, z3⟩ := HH y hy c2
    have hz : skN hs ts (skT key seq) ≠ -1 := by have := (f2 _ z1).1.1; omega
    have hyz : y = skN hs ts (skT key seq) := by
      rcases z3 with z3 | z3
      · exact z3
      · have := c3 (itOf (tw ts (skN hs ts (skT key seq)))) (List.mem_map.2 ⟨_, z1, rfl⟩) z2
        replace this : (tw ts (skN hs ts (skT key seq))).seq ≤ (tw ts y).seq := this
        omega
    rcases hA with ⟨ha, _⟩ | ⟨_, rfl, rfl, rfl, rfl, _, rfl⟩
    · exact absurd (hS.2 hz) ha
    · have hkk : ((tw ts (skN hs ts (skT key seq))).key.toList == key.toList) = true := by rw [beq_iff_eq]; exact z2.1
      rcases hQ with ⟨_, rfl, rfl, rfl, rfl, rfl⟩ | ⟨hq, _⟩
      · exact ⟨rfl, fun _ => by rw [← hye, hyz]; rfl⟩
      · rw [hkk] at hq; cases hq
  | false =>
    have hnone := b1 hb
    rcases hQ with ⟨hq, rfl, rfl, rfl, rfl, rfl⟩ | ⟨_, _, _, _, _, rfl⟩
    · exfalso
      rcases hA with ⟨_, _, _, _, _, _, rfl⟩ | ⟨ha, rfl, rfl, rfl, rfl, _, rfl⟩
      · cases hq
      · have hz := ha.2.2.2
        simp only [Bool.true_and, beq_iff_eq] at hq
        rcases SO with SO | SO
        · exact hz SO
        · have hm := A _ SO
          refine hnone (itOf (tw ts (skN hs ts (skT key seq)))) (List.mem_map.2 ⟨_, hm, rfl⟩) ⟨hq, ?_⟩
          rcases SN with SN | SN
          · have := SO.1; omega
          · obtain ⟨_, n2⟩ := not_less_t SN
            show (tw ts _).seq ≤ seq
            by_cases e : (tw ts (skN hs ts (skT key seq))).seq ≤ seq
            · exact e
            · exact absurd ⟨hq, by omega⟩ n2
    · exact ⟨rfl, fun h => by cases h⟩
/-- No more looks than towers and levels. -/
theorem seek_looks {hs : List Int} {ts : List Tw} {key k v : ByteArray} {seq n d m : Int} {ok : Bool} {l : List Int} (G : GoodI hs ts) (hA : SeekA hs ts key seq k n d v m ok) (hl : lev ts 0 (ts.length + 1) (-1) (hs.getD 0 0) = some l) (hn : l.length = reach ts 0) : 0 ≤ m ∧ m ≤ (l.length : Int) + 5 := by
  have hr : reach ts 0 = ts.length := by
    unfold reach
    rw [List.filter_eq_self.2 fun t ht => decide_eq_true (okTw_high (G.2.2.1 t ht))]
  have := SkS_looks G (skT key seq) 5 (by omega)
  rcases hA with ⟨_, _, _, _, _, rfl, _⟩ | ⟨_, _, _, _, _, rfl, _⟩
  · omega
  · omega
end Go.Proofs.YtdaldkcildbcmaaDoor
