/-
  impl.linksFrom on a list of one's own: which slice it answers.
  A list of one's own: what leaves it as it is, a tower put behind the others; a head or a link read.
-/
import Derived.Test.YtdaldkcildbcmaaDoorP6
import Derived.Test.YtdaldkcildbcmaaDoorJ3
namespace Go.Proofs.YtdaldkcildbcmaaDoor
open Go.RowKit
set_option linter.unusedVariables false
set_option maxRecDepth 100000
/-- A row of towers bears these cells. -/
theorem OwnS.cells {w : World} {base : Nat} {H : List Int} {T : List Tw} {a : Option Addr} {n c : Nat} {g1 c1 : Nat} {gs cs : List Nat} (h : OwnS w base H T (.slice a n c) g1 c1 gs cs) (i : Nat) (hi : i < T.length) (h2 : i < gs.length) (h3 : i < cs.length) :
    ∃ gT, a = some ⟨gT, 0, none⟩ ∧ n = T.length ∧ gT < w.heap.size ∧ w.cell? ⟨gT, i * 5, none⟩ = some (.string T[i].key) ∧ w.cell? ⟨gT, i * 5 + 1, none⟩ = some (.int .i64 T[i].seq) ∧ w.cell? ⟨gT, i * 5 + 2, none⟩ = some (.int .i64 T[i].kind) ∧ w.cell? ⟨gT, i * 5 + 3, none⟩ = some (.string T[i].val) ∧ w.cell? ⟨gT, i * 5 + 4, none⟩ = some (lnkV T[i] gs[i] cs[i]) := by
  have ho := h.rows
  rcases ho.2 with ⟨_, h0⟩ | ⟨g, cp, cur, hv, hbg, hh, _⟩
  · omega
  · simp only [Value.slice.injEq] at hv
    obtain ⟨rfl, rfl, rfl⟩ := hv
    have hvl := lnkVs_len T gs cs h.len h.room
    have hzl : i < (List.zipWith rowU T (lnkVs T gs cs)).length := by simp; omega
    have e := (List.getElem_eq_iff hzl).2 (zipU_at T (lnkVs T gs cs) i hi (by omega))
    have eu := (List.getElem_eq_iff (show i < (lnkVs T gs cs).length by omega)).2 (lnkVs_at T gs cs i hi h2 h3)
    rw [eu] at e
    obtain ⟨q0, q1, q2, q3, q4⟩ := flat5_get _ i hzl
    rw [e] at q0 q1 q2 q3 q4
    exact ⟨g, rfl, rfl, (Array.getElem?_eq_some_iff.1 hh).1, (ho.cellAt _ (by omega)).trans q0, (ho.cellAt _ (by omega)).trans q1, (ho.cellAt _ (by omega)).trans q2, (ho.cellAt _ (by omega)).trans q3, (ho.cellAt _ (by omega)).trans q4⟩

theorem OwnS.chg {S : Nat → Prop} {w w' : World} {base : Nat} {H : List Int} {T : List Tw} {vT : Value} {g1 c1 : Nat} {gs cs : List Nat} (h : OwnS w base H T vT g1 c1 gs cs) (c : Chg S w w') (h1 : ∀ b ∈ gs, ¬ S b) (h2 : ¬ S g1) (h3 : ∀ g, vT.ownBlock = some g → ¬ S g) : OwnS w' base H T vT g1 c1 gs cs :=
  ⟨h.len, h.room, c.owns h.rows h3, fun i i1 i2 i3 => c.owns (h.lnk i i1 i2 i3) (fun b hb => by
    have e : b = gs[i] := by simpa [lnkV, Value.ownBlock] using hb.symm
    rw [e]; exact h1 _ (List.getElem_mem _)), h.nd, c.owns h.head (fun b hb => by
    have e : b = g1 := by simpa [Value.ownBlock] using hb.symm
    rw [e]; exact h2), h.d1, h.d2⟩
theorem OwnS.lower {w : World} {base base' : Nat} {H : List Int} {T : List Tw} {vT : Value} {g1 c1 : Nat} {gs cs : List Nat} (h : OwnS w base H T vT g1 c1 gs cs) (hb : base' ≤ base) : OwnS w base' H T vT g1 c1 gs cs :=
  ⟨h.len, h.room, owns_lower h.rows hb, fun i i1 i2 i3 => owns_lower (h.lnk i i1 i2 i3) hb, h.nd, owns_lower h.head hb, h.d1, h.d2⟩
theorem OwnS.lt {w : World} {base : Nat} {H : List Int} {T : List Tw} {vT : Value} {g1 c1 : Nat} {gs cs : List Nat} (h : OwnS w base H T vT g1 c1 gs cs) : (∀ b ∈ gs, base ≤ b ∧ b < w.heap.size) ∧ (base ≤ g1 ∧ g1 < w.heap.size) ∧ ∀ g, vT.ownBlock = some g → base ≤ g ∧ g < w.heap.size := by
  refine ⟨fun b hb => ?_, owns_lt h.head, fun g hg => ⟨owns_ge h.rows g hg, owns_below_lt h.rows g hg⟩⟩
  obtain ⟨i, hi, rfl⟩ := List.getElem_of_mem hb
  exact owns_lt (h.lnk i (by have := h.len; omega) hi (by have := h.room; omega))
/-- The cells of a tower. -/
def twCells (t : Tw) (u : Value) : List Value := [.string t.key, .int .i64 t.seq, .int .i64 t.kind, .string t.val, u]
theorem rows_snoc (T : List Tw) (gs cs : List Nat) (t : Tw) (g c : Nat) (h1 : gs.length = T.length) (h2 : cs.length = gs.length) :
    flat5 (List.zipWith rowU (T ++ [t]) (lnkVs (T ++ [t]) (gs ++ [g]) (cs ++ [c]))) = flat5 (List.zipWith rowU T (lnkVs T gs cs)) ++ twCells t (lnkV t g c) := by
  have e1 : lnkVs (T ++ [t]) (gs ++ [g]) (cs ++ [c]) = lnkVs T gs cs ++ [lnkV t g c] := by
    unfold lnkVs
    rw [List.zip_append h2.symm, List.zipWith_append (by simp; omega)]
    rfl
  rw [e1, List.zipWith_append (by rw [lnkVs_len T gs cs h1 h2])]
  have ap : ∀ (l r : List Tc), flat5 (l ++ r) = flat5 l ++ flat5 r := fun l r => by
    induction l with
    | nil => rfl
    | cons x l ih => simp only [List.cons_append, flat5, ih]
  rw [ap]
  rfl
/-- A tower with a row of its own comes behind the others. -/
theorem OwnS.snoc {w w' : World} {base : Nat} {H : List Int} {T : List Tw} {vT vT' : Value} {g1 c1 : Nat} {gs cs : List Nat} (h : OwnS w base H T vT g1 c1 gs cs) (t : Tw) (go co : Nat)
    (hr : w'.ownsRow base 73 5 vT' (T.length + 1) (flat5 (List.zipWith rowU T (lnkVs T gs cs)) ++ twCells t (lnkV t go co))) (c : Chg (fun b => vT.ownBlock = some b) w w')
    (ho : w'.ownsRow base 3 1 (lnkV t go co) t.next.length (t.next.map (.int .i64))) (hg : go ∉ gs) (hg1 : go ≠ g1) (hv : vT'.ownBlock = vT.ownBlock ∨ ∃ b, vT'.ownBlock = some b ∧ w.heap.size ≤ b) (hgo : go < w.heap.size) (hgT : ∀ g, vT.ownBlock = some g → g ≠ go) :
    OwnS w' base H (T ++ [t]) vT' g1 c1 (gs ++ [go]) (cs ++ [co]) := by
  obtain ⟨l1, l2, l3⟩ := h.lt
  refine ⟨by simp [h.len], by simp [h.room], ?_, fun i i1 i2 i3 => ?_, List.pairwise_append.2 ⟨h.nd, by simp, fun a ha b hb => by rw [List.mem_singleton.1 hb]; intro e; exact hg (e ▸ ha)⟩, c.owns h.head (fun b hb hh => ?_), fun g hg' => ?_, fun hm => ?_⟩
  · rw [rows_snoc T gs cs t go co h.len h.room, List.length_append, List.length_singleton]; exact hr
  · have hl := h.len
    have hr := h.room
    by_cases e : i < T.length
    · rw [List.getElem_append_left e]
      simp only [List.getElem_append_left (show i < gs.length by omega), List.getElem_append_left (show i < cs.length by omega)]
      refine c.owns (h.lnk i e (by omega) (by omega)) (fun b hb hh => ?_)
      have eb : b = gs[i]'(by omega) := by simpa [lnkV, Value.ownBlock] using hb.symm
      exact (h.d1 b hh).1 (by rw [eb]; exact List.getElem_mem _)
    · have hi : i = T.length := by simp at i1; omega
      subst hi
      rw [List.getElem_append_right (by omega)]
      simp only [List.getElem_append_right (show gs.length ≤ T.length by omega), List.getElem_append_right (show cs.length ≤ T.length by omega)]
      simpa [hl, hr] using ho
  · have eb : b = g1 := by simpa [Value.ownBlock] using hb.symm
    exact (h.d1 b hh).2 eb
  · rcases hv with e | ⟨b, e, hb⟩
    · rw [e] at hg'
      have := h.d1 g hg'
      exact ⟨fun hm => (List.mem_append.1 hm).elim this.1 (fun x => hgT g hg' (List.mem_singleton.1 x)), this.2⟩
    · have e2 : b = g := by rw [e] at hg'; simpa using hg'
      subst e2
      refine ⟨?_, by have := l2.2; omega⟩
      rw [List.mem_append, List.mem_singleton]
      rintro (x | x)
      · have := (l1 _ x).2; omega
      · omega
  · rw [List.mem_append, List.mem_singleton] at hm
    rcases hm with x | x
    · exact h.d2 x
    · exact hg1 x.symm

/-- The own links of the new tower, when the levels below n are done. -/
def ownZ (hs : List Int) (ts : List Tw) (L : List Int) (n k : Nat) : List Int := ownL hs ts L k ++ List.replicate (n - k) 0
/-- What is read at a level is what was there, whatever the levels below have turned. -/
theorem insTo_NX (hs : List Int) (ts : List Tw) (L : List Int) (k a : Int) (lv n : Nat) (h : n ≤ lv) (ha : a = -1 ∨ 0 ≤ a) : NX (insTo hs ts L k n).1 (insTo hs ts L k n).2 a lv = NX hs ts a lv := by
  rcases ha with rfl | ha
  · rw [NX_head, NX_head]; exact insTo_head hs ts L k n lv h
  · obtain ⟨i, rfl⟩ := Int.eq_ofNat_of_zero_le ha
    rw [NX_at, NX_at]
    exact insTo_next hs ts L k n i lv h
theorem lastL_at (hs : List Int) (ts : List Tw) (t : Tw) (lv : Nat) (h : lv < 5) : (lastL hs ts t 5).getD lv 0 = (SkS hs ts t (5 - lv)).1 ∧ ((lastL hs ts t 5).map (Value.int .i64))[lv]? = some (.int .i64 (SkS hs ts t (5 - lv)).1) := by
  have e : (lastL hs ts t 5)[lv]? = some (SkS hs ts t (5 - lv)).1 := by simp [lastL, h]
  exact ⟨by rw [List.getD_eq_getElem?_getD, e]; rfl, by rw [List.getElem?_map, e]; rfl⟩
end Go.Proofs.YtdaldkcildbcmaaDoor
