/-
  A list of one's own, whose links may be written.
-/
import Derived.Test.YtdaldkcildbcmaaDoorJ1ToP5
namespace Go.Proofs.YtdaldkcildbcmaaDoor
open Go.RowKit
set_option linter.unusedVariables false
set_option maxRecDepth 100000

def lnkVs (T : List Tw) (gs cs : List Nat) : List Value := List.zipWith (fun t (p : Nat × Nat) => lnkV t p.1 p.2) T (gs.zip cs)
theorem lnkVs_at (T : List Tw) (gs cs : List Nat) (i : Nat) (h1 : i < T.length) (h2 : i < gs.length) (h3 : i < cs.length) : (lnkVs T gs cs)[i]? = some (lnkV T[i] gs[i] cs[i]) := by
  simp [lnkVs, List.getElem?_zipWith, List.zip, h1, h2, h3]
theorem lnkVs_len (T : List Tw) (gs cs : List Nat) (h1 : gs.length = T.length) (h2 : cs.length = gs.length) : (lnkVs T gs cs).length = T.length := by
  simp [lnkVs]; omega
theorem mixU_all (ts : List Tw) (us : List Value) (gs cs : List Nat) (hu : us.length = ts.length) (hg : gs.length = ts.length) : mixU ts us gs cs = lnkVs ts gs cs := by
  unfold mixU lnkVs; rw [List.drop_eq_nil_of_le (by omega), List.append_nil]

structure OwnS (w : World) (base : Nat) (H : List Int) (T : List Tw) (vT : Value) (g1 c1 : Nat) (gs cs : List Nat) : Prop where
  len : gs.length = T.length
  room : cs.length = gs.length
  rows : w.ownsRow base 73 5 vT T.length (flat5 (List.zipWith rowU T (lnkVs T gs cs)))
  lnk : ∀ i (h : i < T.length) (h2 : i < gs.length) (h3 : i < cs.length), w.ownsRow base 3 1 (lnkV T[i] gs[i] cs[i]) T[i].next.length (T[i].next.map (.int .i64))
  nd : gs.Pairwise (· ≠ ·)
  head : w.ownsRow base 3 1 (.slice (some ⟨g1, 0, none⟩) H.length c1) H.length (H.map (.int .i64))
  d1 : ∀ g, vT.ownBlock = some g → g ∉ gs ∧ g ≠ g1
  d2 : g1 ∉ gs
theorem OwnSk.own {w : World} {base : Nat} {hs : List Int} {ts : List Tw} {us : List Value} {vT : Value} {g1 c1 : Nat} {gs cs : List Nat} (h : OwnSk w base hs ts us vT g1 c1 gs cs) (hu : us.length = ts.length) : OwnS w base hs ts vT g1 c1 gs cs where
  len := h.len
  room := h.lnk.2.1
  rows := by have := h.rows; rw [mixU_all ts us gs cs hu h.len] at this; exact this
  lnk i h1 h2 h3 := owns_lower (h.lnk.2.2.2 i h2 h1 h3).2 (by have := (h.lnk.2.2.2 i h2 h1 h3).1; omega)
  nd := h.lnk.2.2.1.imp (fun hlt => by omega)
  head := owns_lower h.head h.lo
  d1 g hg := ⟨fun hm => by have := h.up1 g hg g hm; omega, by have := h.up3 g hg; omega⟩
  d2 hm := by have := h.up2 _ hm; omega
theorem OwnS.below {w w' : World} {base : Nat} {H : List Int} {T : List Tw} {vT : Value} {g1 c1 : Nat} {gs cs : List Nat} (h : OwnS w base H T vT g1 c1 gs cs) (hb : Below w.heap.size w w') : OwnS w' base H T vT g1 c1 gs cs :=
  ⟨h.len, h.room, owns_below h.rows hb, fun i h1 h2 h3 => owns_below (h.lnk i h1 h2 h3) hb, h.nd, owns_below h.head hb, h.d1, h.d2⟩
theorem OwnS.il {w : World} {base : Nat} {H : List Int} {T : List Tw} {vT : Value} {g1 c1 : Nat} {gs cs : List Nat} (h : OwnS w base H T vT g1 c1 gs cs) : IL w (.slice (some ⟨g1, 0, none⟩) H.length c1) H := IL_of_owns h.head rfl
theorem OwnS.tw {w : World} {base : Nat} {H : List Int} {T : List Tw} {vT : Value} {g1 c1 : Nat} {gs cs : List Nat} (h : OwnS w base H T vT g1 c1 gs cs) : TW w vT T := by
  have hvl := lnkVs_len T gs cs h.len h.room
  have hl : (List.zipWith rowU T (lnkVs T gs cs)).length = T.length := by simp; omega
  have F : FL w vT (List.zipWith rowU T (lnkVs T gs cs)) := FL_of_owns (e := 73) (base := base) (by rw [hl]; exact h.rows)
  obtain ⟨a, cap, hv, hc⟩ := F
  refine ⟨a, cap, by rw [hv, hl], fun hne => ?_⟩
  obtain ⟨b, off, ha, hbl, hcell⟩ := hc (by intro e; rw [e] at hl; simp at hl; exact hne (List.length_eq_zero_iff.1 (by omega)))
  refine ⟨b, off, ha, hbl, fun i hi => ?_⟩
  have hi1 : i < (List.zipWith rowU T (lnkVs T gs cs)).length := by omega
  have h2 : i < gs.length := by have := h.len; omega
  have h3 : i < cs.length := by have := h.room; omega
  have hz := (List.getElem_eq_iff hi1).2 (zipU_at T (lnkVs T gs cs) i hi (by omega))
  have hu := (List.getElem_eq_iff (show i < (lnkVs T gs cs).length by omega)).2 (lnkVs_at T gs cs i hi h2 h3)
  have := hcell i hi1
  rw [hz, hu] at this
  exact ⟨_, this, IL_of_owns (h.lnk i hi h2 h3) rfl⟩
/-- A head is written. -/
theorem OwnS.putH {w : World} {base : Nat} {H : List Int} {T : List Tw} {vT : Value} {g1 c1 : Nat} {gs cs : List Nat} (h : OwnS w base H T vT g1 c1 gs cs) (lv : Nat) (k : Int) : OwnS (w.setCell ⟨g1, lv, none⟩ (.int .i64 k)) base (H.set lv k) T vT g1 c1 gs cs := by
  have c : Chg (fun b => b = g1) w (w.setCell ⟨g1, lv, none⟩ (.int .i64 k)) := (Chg.refl (fun b => b = g1) w).setCell (p := ⟨g1, lv, none⟩) rfl _
  refine ⟨h.len, h.room, c.owns h.rows (fun b hb hh => (h.d1 b hb).2 hh), fun i h1 h2 h3 => c.owns (h.lnk i h1 h2 h3) (fun b hb hh => ?_), h.nd, ?_, h.d1, h.d2⟩
  · have e : b = gs[i] := by simpa [lnkV, Value.ownBlock] using hb.symm
    exact h.d2 (by rw [← hh, e]; exact List.getElem_mem _)
  · have := (h.head.stored lv (.int .i64 k)).1
    rw [List.length_set, List.map_set]; exact this
theorem rows_put (T : List Tw) (gs cs : List Nat) (a lv : Nat) (k : Int) (ha : a < T.length) (h1 : gs.length = T.length) (h2 : cs.length = gs.length) :
    List.zipWith rowU (T.set a (putNx T[a] lv k)) (lnkVs (T.set a (putNx T[a] lv k)) gs cs) = List.zipWith rowU T (lnkVs T gs cs) := by
  apply List.ext_getElem?
  intro i
  by_cases hi : i < T.length
  · have hi' : i < (T.set a (putNx T[a] lv k)).length := by rw [List.length_set]; exact hi
    have hl := lnkVs_len T gs cs h1 h2
    have hl' := lnkVs_len (T.set a (putNx T[a] lv k)) gs cs (by rw [List.length_set]; exact h1) h2
    rw [zipU_at _ _ i hi' (by omega), zipU_at _ _ i hi (by omega)]
    rw [(List.getElem_eq_iff (by omega)).2 (lnkVs_at _ gs cs i hi' (by omega) (by omega)), (List.getElem_eq_iff (by omega)).2 (lnkVs_at T gs cs i hi (by omega) (by omega))]
    by_cases e : a = i
    · subst e
      rw [List.getElem_set_self]
      simp [rowU, lnkV, putNx]
    · rw [List.getElem_set_ne e]
  · rw [List.getElem?_eq_none (by simp; omega), List.getElem?_eq_none (by simp; omega)]
/-- A link of a tower is written. -/
theorem OwnS.putT {w : World} {base : Nat} {H : List Int} {T : List Tw} {vT : Value} {g1 c1 : Nat} {gs cs : List Nat} (h : OwnS w base H T vT g1 c1 gs cs) (a : Nat) (ha : a < T.length) (lv : Nat) (k : Int) : OwnS (w.setCell ⟨gs[a]'(by have := h.len; omega), lv, none⟩ (.int .i64 k)) base H (T.set a (putNx T[a] lv k)) vT g1 c1 gs cs := by
  have hag : a < gs.length := by have := h.len; omega
  have hac : a < cs.length := by have := h.room; omega
  have c : Chg (fun b => b = gs[a]) w (w.setCell ⟨gs[a], lv, none⟩ (.int .i64 k)) := (Chg.refl (fun b => b = gs[a]) w).setCell (p := ⟨gs[a], lv, none⟩) rfl _
  refine ⟨by rw [List.length_set]; exact h.len, h.room, ?_, fun i h1 h2 h3 => ?_, h.nd, c.owns h.head (fun b hb hh => ?_), h.d1, h.d2⟩
  · rw [rows_put T gs cs a lv k ha h.len h.room, List.length_set]
    exact c.owns h.rows (fun b hb hh => (h.d1 b hb).1 (by rw [hh]; exact List.getElem_mem _))
  · have h1' : i < T.length := by rw [List.length_set] at h1; exact h1
    by_cases e : a = i
    · subst e
      have := ((h.lnk a ha h2 h3).stored lv (.int .i64 k)).1
      simp only [List.getElem_set_self]
      unfold putNx lnkV
      dsimp only
      rw [List.length_set, List.map_set]; exact this
    · simp only [List.getElem_set_ne e]
      refine c.owns (h.lnk i h1' h2 h3) (fun b hb hh => ?_)
      have eb : b = gs[i] := by simpa [lnkV, Value.ownBlock] using hb.symm
      have hnd := List.pairwise_iff_getElem.1 h.nd
      rcases Nat.lt_or_gt_of_ne e with hlt | hlt
      · exact hnd a i hag h2 hlt (by rw [← eb, hh])
      · exact hnd i a h2 hag hlt (by rw [← eb, hh])
  · have eb : b = g1 := by simpa [Value.ownBlock] using hb.symm
    exact h.d2 (by rw [← eb, hh]; exact List.getElem_mem _)
end Go.Proofs.YtdaldkcildbcmaaDoor
