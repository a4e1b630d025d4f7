/-
  A drawn list with towers in memory.
-/
import Derived.Test.YtdaldkcildbcmaaDoorX4
import Derived.Test.YtdaldkcildbcmaaDoorFK
import Derived.Test.YtdaldkcildbcmaaDoorFQ
namespace Go.Proofs.YtdaldkcildbcmaaDoor
open Go.RowKit
set_option linter.unusedVariables false
set_option maxRecDepth 100000

theorem OwnS.chgD {S : Nat → Prop} {w w' : World} {base : Nat} {H : List Int} {T : List Tw} {vT : Value} {g1 c1 : Nat} {gs cs : List Nat} (h : OwnS w base H T vT g1 c1 gs cs) (hc : Chg S w w') (a : ∀ g, vT.ownBlock = some g → ¬ S g) (b : ¬ S g1) (c : ∀ g ∈ gs, ¬ S g) : OwnS w' base H T vT g1 c1 gs cs :=
  ⟨h.len, h.room, hc.owns h.rows a, fun i h1 h2 h3 => hc.owns (h.lnk i h1 h2 h3) (fun g hg => by
    simp only [lnkV, Value.ownBlock, Option.some.injEq] at hg
    exact hg ▸ c _ (List.getElem_mem h2)), h.nd, hc.owns h.head (fun g hg => by
    simp only [Value.ownBlock, Option.some.injEq] at hg
    exact hg ▸ b), h.d1, h.d2⟩
theorem OwnS.ge {w : World} {base : Nat} {H : List Int} {T : List Tw} {vT : Value} {g1 c1 : Nat} {gs cs : List Nat} (h : OwnS w base H T vT g1 c1 gs cs) : (∀ g, vT.ownBlock = some g → base ≤ g) ∧ base ≤ g1 ∧ ∀ g ∈ gs, base ≤ g := by
  refine ⟨fun g hg => owns_ge h.rows g hg, owns_ge h.head g1 rfl, fun g hg => ?_⟩
  obtain ⟨i, hi, rfl⟩ := List.getElem_of_mem hg
  have := h.len
  have := h.room
  exact owns_ge (h.lnk i (by omega) hi (by omega)) _ rfl
/-- A tower that a drawn list may hold. -/
def FitT (t : Tw) : Prop := t.key.size ≤ 1048576 ∧ t.val.size ≤ 1048576 ∧ 1 ≤ t.next.length ∧ t.next.length ≤ 5
/-- A drawn list in memory: its heads, its towers; none of its blocks is in N. -/
structure SkD (w : World) (lo : Nat) (N : Nat → Prop) (hv tv : Value) (H : List Int) (T : List Tw) : Prop where
  own : ∃ g1 c1 gs cs, hv = .slice (some ⟨g1, 0, none⟩) H.length c1 ∧ OwnS w lo H T tv g1 c1 gs cs ∧ (∀ g, tv.ownBlock = some g → ¬ N g) ∧ ¬ N g1 ∧ ∀ g ∈ gs, ¬ N g
  h5 : H.length = 5
  t60 : T.length ≤ 60
  fit : ∀ i : Nat, i < T.length → FitT (tw T (i : Int))
theorem SkD.chg {S : Nat → Prop} {w w' : World} {lo : Nat} {N : Nat → Prop} {hv tv : Value} {H : List Int} {T : List Tw} (h : SkD w lo N hv tv H T) (hc : Chg S w w') (hs : ∀ g, lo ≤ g → ¬ N g → ¬ S g) : SkD w' lo N hv tv H T := by
  obtain ⟨⟨g1, c1, gs, cs, e, o, a, b, c⟩, h2, h3, h4⟩ := h
  obtain ⟨p, q, r⟩ := o.ge
  exact ⟨⟨g1, c1, gs, cs, e, o.chgD hc (fun g hg => hs g (p g hg) (a g hg)) (hs g1 q b) (fun g hg => hs g (r g hg) (c g hg)), a, b, c⟩, h2, h3, h4⟩
theorem SkD.below {w w' : World} {lo : Nat} {N : Nat → Prop} {hv tv : Value} {H : List Int} {T : List Tw} (h : SkD w lo N hv tv H T) (hb : Below w.heap.size w w') : SkD w' lo N hv tv H T := by
  obtain ⟨⟨g1, c1, gs, cs, e, o, a⟩, h2, h3, h4⟩ := h
  exact ⟨⟨g1, c1, gs, cs, e, o.below hb, a⟩, h2, h3, h4⟩
theorem SkD.more {w : World} {lo : Nat} {N N' : Nat → Prop} {hv tv : Value} {H : List Int} {T : List Tw} (h : SkD w lo N hv tv H T) (hn : ∀ g, N' g → N g ∨ w.heap.size ≤ g) : SkD w lo N' hv tv H T := by
  obtain ⟨⟨g1, c1, gs, cs, e, o, a, b, c⟩, h2, h3, h4⟩ := h
  refine ⟨⟨g1, c1, gs, cs, e, o, fun g hg q => (hn g q).elim (a g hg) fun q => ?_, fun q => (hn g1 q).elim b fun q => ?_, fun g hg q => (hn g q).elim (c g hg) fun q => ?_⟩, h2, h3, h4⟩
  · have := owns_below_lt o.rows g hg; omega
  · have := owns_below_lt o.head g1 rfl; omega
  · obtain ⟨i, hi, rfl⟩ := List.getElem_of_mem hg
    have := o.len
    have := o.room
    have q3 : gs[i] < w.heap.size := owns_below_lt (o.lnk i (by omega) hi (by omega)) _ rfl
    omega
/-- How long the room of a row of one's own is. -/
theorem owns_room {w : World} {base : Nat} {e : TypeId} {size n n' : Nat} {a : Option Addr} {cap : Nat} {xs : List Value} (h : w.ownsRow base e size (.slice a n' cap) n xs) : n' = n ∧ n ≤ cap ∧ cap ≤ 9223372036854775807 := by
  rcases h.2 with ⟨hv, h0⟩ | ⟨g, c, cur, hv, hbg, hh, hcap, hm, hsz, htk⟩
  · simp only [Value.slice.injEq] at hv
    obtain ⟨_, rfl, rfl⟩ := hv
    exact ⟨by omega, by omega, by omega⟩
  · simp only [Value.slice.injEq] at hv
    obtain ⟨_, rfl, rfl⟩ := hv
    unfold maxLen at *
    exact ⟨rfl, by omega, by omega⟩
theorem SkD.shape {w : World} {lo : Nat} {N : Nat → Prop} {hv tv : Value} {H : List Int} {T : List Tw} (h : SkD w lo N hv tv H T) : ∃ a c ay cap, hv = .slice a H.length c ∧ tv = .slice ay T.length cap ∧ T.length ≤ cap ∧ cap ≤ 9223372036854775807 := by
  obtain ⟨⟨g1, c1, gs, cs, e, o, _⟩, _, _, _⟩ := h
  obtain ⟨ay, cap, e2⟩ := slice_of o.rows
  have := owns_room (e2 ▸ o.rows)
  exact ⟨_, _, ay, cap, e, e2, this.2.1, this.2.2⟩
theorem SkD.il {w : World} {lo : Nat} {N : Nat → Prop} {hv tv : Value} {H : List Int} {T : List Tw} (h : SkD w lo N hv tv H T) : IL w hv H := by
  obtain ⟨⟨g1, c1, gs, cs, e, o, _⟩, _, _, _⟩ := h
  rw [e]; exact o.il
theorem SkD.tws {w : World} {lo : Nat} {N : Nat → Prop} {hv tv : Value} {H : List Int} {T : List Tw} (h : SkD w lo N hv tv H T) : TW w tv T := by
  obtain ⟨⟨g1, c1, gs, cs, e, o, _⟩, _, _, _⟩ := h
  exact o.tw
theorem FitT.f3 {T : List Tw} (h : ∀ i : Nat, i < T.length → FitT (tw T (i : Int))) : ∀ i : Nat, i < T.length → (tw T i).next.length ≤ 1048576 ∧ (tw T i).key.size ≤ 1048576 ∧ (tw T i).val.size ≤ 1048576 := fun i hi => by
  obtain ⟨a, b, c, d⟩ := h i hi
  exact ⟨by omega, a, b⟩
/-- A list into which an item was put, as its answer tells. -/
theorem SkD.ins {w : World} {lo : Nat} {N : Nat → Prop} {hs : List Int} {ts : List Tw} {t : Tw} {u1 u2 : Value} {g1 c1 : Nat} {gs cs : List Nat} (h5 : hs.length = 5) (h60 : ts.length ≤ 60) (hf : ∀ i : Nat, i < ts.length → FitT (tw ts (i : Int))) (hI : InsOk hs ts t) (hk : t.key.size ≤ 1048576) (hv : t.val.size ≤ 1048576) (he : u1 = .slice (some ⟨g1, 0, none⟩) hs.length c1) (ho : OwnS w lo (insHs hs ts t) (insTs hs ts t) u2 g1 c1 gs cs) (hsb : ∀ g, N g → g < lo) : SkD w lo N u1 u2 (insHs hs ts t) (insTs hs ts t) := by
  obtain ⟨p, q, r⟩ := ho.ge
  have hl := insTs_len hs ts t
  refine ⟨⟨g1, c1, gs, cs, by rw [he, insHs_len], ho, fun g hg q2 => by have := p g hg; have := hsb g q2; omega, fun q2 => by have := hsb _ q2; omega, fun g hg q2 => by have := r g hg; have := hsb g q2; omega⟩, by rw [insHs_len]; exact h5, by rw [hl]; have := hI.2.2.1; omega, fun i hi => ?_⟩
  rw [hl] at hi
  unfold insTs
  by_cases hlt : i < ts.length
  · have e : tw ((insTo hs ts (lastL hs ts t 5) ts.length (twN t.key t.seq.toNat)).2 ++ [⟨t.key, t.seq, t.kind, t.val, ownL hs ts (lastL hs ts t 5) (twN t.key t.seq.toNat)⟩]) (i : Int) = tw (insTo hs ts (lastL hs ts t 5) ts.length (twN t.key t.seq.toNat)).2 (i : Int) := by
      have := (insTo_len hs ts (lastL hs ts t 5) ts.length (twN t.key t.seq.toNat)).2
      simp [tw, List.getD, List.getElem?_append_left (show i < (insTo hs ts (lastL hs ts t 5) ts.length (twN t.key t.seq.toNat)).2.length by omega)]
    rw [e]
    obtain ⟨k1, _, _, k4, k5⟩ := insTo_keep hs ts (lastL hs ts t 5) ts.length (twN t.key t.seq.toNat) i
    obtain ⟨a, b, c, d⟩ := hf i hlt
    exact ⟨by rw [k1]; exact a, by rw [k4]; exact b, by rw [k5]; exact c, by rw [k5]; exact d⟩
  · obtain rfl : i = ts.length := by omega
    have hl2 := (insTo_len hs ts (lastL hs ts t 5) ts.length (twN t.key t.seq.toNat)).2
    have e : tw ((insTo hs ts (lastL hs ts t 5) ts.length (twN t.key t.seq.toNat)).2 ++ [⟨t.key, t.seq, t.kind, t.val, ownL hs ts (lastL hs ts t 5) (twN t.key t.seq.toNat)⟩]) (ts.length : Int) = ⟨t.key, t.seq, t.kind, t.val, ownL hs ts (lastL hs ts t 5) (twN t.key t.seq.toNat)⟩ := by
      simp [tw, List.getD, hl2]
    rw [e]
    obtain ⟨q1, q2⟩ := twN_le t.key t.seq.toNat
    exact ⟨hk, hv, by show 1 ≤ (ownL _ _ _ _).length; rw [ownL_len]; exact q1, by show (ownL _ _ _ _).length ≤ 5; rw [ownL_len]; exact q2⟩
/-- What a drawn list gives whoever reads it: it stands whatever else is written. -/
structure FinS (w : World) (lo : Nat) (N : Nat → Prop) (hv tv : Value) (H : List Int) (T : List Tw) : Prop where
  sh : ∃ a c ay cap, hv = .slice a H.length c ∧ tv = .slice ay T.length cap ∧ T.length ≤ cap ∧ cap ≤ 9223372036854775807
  h5 : H.length ≤ 5
  t60 : T.length ≤ 60
  fit : ∀ i : Nat, i < T.length → FitT (tw T (i : Int))
  st : ∀ (S : Nat → Prop) (W : World), Chg S w W → (∀ g, lo ≤ g → ¬ N g → ¬ S g) → IL W hv H ∧ TW W tv T
theorem SkD.fin {w : World} {lo : Nat} {N : Nat → Prop} {hv tv : Value} {H : List Int} {T : List Tw} (h : SkD w lo N hv tv H T) : FinS w lo N hv tv H T :=
  ⟨h.shape, by have := h.h5; omega, h.t60, h.fit, fun S W hc hs => ⟨(h.chg hc hs).il, (h.chg hc hs).tws⟩⟩
theorem IL.tail {w : World} {g c : Nat} {x : Int} {r : List Int} (h : IL w (.slice (some ⟨g, 0, none⟩) (r.length + 1) c) (x :: r)) : IL w (.slice (some ⟨g, 1, none⟩) r.length (c - 1)) r := by
  obtain ⟨a, cap, e, hc⟩ := h
  injection e with e1 e2 e3
  subst e1
  obtain ⟨b, off, hb, hlt, hcell⟩ := hc (by simp)
  simp only [Option.some.injEq, Addr.mk.injEq, and_true] at hb
  obtain ⟨rfl, rfl⟩ := hb
  refine ⟨_, _, rfl, fun _ => ⟨g, 1, rfl, hlt, fun i hi => ?_⟩⟩
  have := hcell (i + 1) (by simp; omega)
  rw [show 1 + i = 0 + (i + 1) from by omega]
  simpa using this
theorem sl_from23 (g n cap : Nat) (w : World) (h1 : 1 < cap) (h2 : 1 ≤ n) (h3 : n ≤ cap) : (Instr.sliceAt 23 (.slice (some ⟨g, 0, none⟩) n cap) (some (.int .i64 1)) none none).run Tryd.prog w = .ok (.slice (some ⟨g, 1, none⟩) (n - 1) (cap - 1)) w := by
  have hA : (Instr.sliceAt 23 (.slice (some ⟨g, 0, none⟩) n cap) (some (.int .i64 1)) none none).run Tryd.prog w = (Instr.slice 23 (.slice (some ⟨g, 0, none⟩) n cap) (some (.int .i64 1)) none none).run Tryd.prog w := by simp [Instr.sliceAt, run_underlying Tryd.underlying23]
  rw [hA]
  have q1 : (1 : Int) ≤ (n : Int) := by omega
  have q2 : (n : Int) ≤ (cap : Int) := by omega
  have q3 : ¬ cap = 1 := by omega
  simp [Instr.slice, Instr.sliceBounds, Instr.sliceBound, asIntOf, run_underlying Tryd.underlying23, q1, q3, Tryd.sizeOf3, Addr.add]
theorem ownS_first {w : World} {base gt n cap : Nat} {H : List Int} {t : Tw} {r : List Tw} {g1 c1 : Nat} {gs cs : List Nat} (h : OwnS w base H (t :: r) (.slice (some ⟨gt, 0, none⟩) n cap) g1 c1 gs cs) : ∃ g0 c0, gs[0]? = some g0 ∧ gt < w.heap.size ∧ w.cell? ⟨gt, 4, none⟩ = some (.slice (some ⟨g0, 0, none⟩) t.next.length c0) ∧ (t.next.length ≤ c0) ∧ (∀ j, j < t.next.length → ∃ u, w.cell? ⟨g0, j, none⟩ = some (.int .i64 u)) ∧ ∀ j, w.frozen? ⟨g0, j, none⟩ = false := by
  have hl := h.len
  have hr := h.room
  match gs, cs, hl, hr with
  | g0 :: gs', c0 :: cs', hl, hr =>
    have hlk : w.ownsRow base 3 1 (.slice (some ⟨g0, 0, none⟩) t.next.length c0) t.next.length (t.next.map (.int .i64)) := h.lnk 0 (by simp) (by simp) (by simp)
    refine ⟨g0, c0, rfl, ?_, ?_, ?_, fun j hj => ?_, fun j => hlk.frozenAt j⟩
    · rcases h.rows.2 with ⟨hv, h0⟩ | ⟨g, c, cur, hv, hbg, hh, _⟩
      · simp at h0
      · simp only [Value.slice.injEq, Option.some.injEq, Addr.mk.injEq, and_true] at hv
        rw [hv.1]; exact (Array.getElem?_eq_some_iff.1 hh).1
    · have := owns_room h.rows
      obtain rfl : n = (t :: r).length := this.1
      rw [h.rows.cellAt 4 (by simp; omega)]
      rfl
    · exact (owns_room hlk).2.1
    · refine ⟨t.next[j]'(by simpa using hj), ?_⟩
      rw [hlk.cellAt j (by omega)]
      simp [hj]
end Go.Proofs.YtdaldkcildbcmaaDoor
