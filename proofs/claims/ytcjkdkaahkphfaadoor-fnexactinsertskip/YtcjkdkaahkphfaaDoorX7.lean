/-
  What InsertSkip answers, of one's own or nothing; marked; held.
-/
import Derived.Test.YtcjkdkaahkphfaaDoorX4
import Derived.Test.YtcjkdkaahkphfaaDoorX6
import Derived.Test.YtcjkdkaahkphfaaDoorH5
namespace Go.Proofs.YtcjkdkaahkphfaaDoor
open Go.RowKit
set_option linter.unusedVariables false
set_option maxRecDepth 100000

def ResS (w : World) (lo hi : Nat) (ok : Bool) (H : List Int) (T : List Tw) (u1 u2 : Value) : Prop :=
  (ok = true ∧ ∃ g1 c1 gT cT gs cs, u1 = .slice (some ⟨g1, 0, none⟩) H.length c1 ∧ u2 = .slice (some ⟨gT, 0, none⟩) T.length cT ∧ OwnS w lo H T (.slice (some ⟨gT, 0, none⟩) T.length cT) g1 c1 gs cs ∧ ∀ b, (b = g1 ∨ b = gT ∨ b ∈ gs) → lo ≤ b ∧ b < hi) ∨ (ok = false ∧ u1 = .slice none 0 0 ∧ u2 = .slice none 0 0 ∧ H = [] ∧ T = [])
def ResM (w : World) (lo hi : Nat) (ok : Bool) (H : List Int) (T : List Tw) (u1 u2 : Value) : Prop :=
  (ok = true ∧ ∃ g1 c1 gT cT gs cs, u1 = .slice (some ⟨g1, 0, none⟩) H.length c1 ∧ u2 = .slice (some ⟨gT, 0, none⟩) T.length cT ∧ OwnS w lo (mkH H) (mkTs T 6) (.slice (some ⟨gT, 0, none⟩) T.length cT) g1 c1 gs cs ∧ ∀ b, (b = g1 ∨ b = gT ∨ b ∈ gs) → lo ≤ b ∧ b < hi) ∨ (ok = false ∧ u1 = .slice none 0 0 ∧ u2 = .slice none 0 0 ∧ H = [] ∧ T = [])
def mE (ok : Bool) (T : List Tw) : Int := if ok = true then mkTe T 6 else 1
theorem ResS.chg {S : Nat → Prop} {w w' : World} {lo hi : Nat} {ok : Bool} {H : List Int} {T : List Tw} {u1 u2 : Value} (h : ResS w lo hi ok H T u1 u2) (c : Chg S w w') (hS : ∀ b, lo ≤ b → b < hi → ¬ S b) : ResS w' lo hi ok H T u1 u2 := by
  rcases h with ⟨h1, g1, c1, gT, cT, gs, cs, e1, e2, h2, h3⟩ | h
  · exact .inl ⟨h1, g1, c1, gT, cT, gs, cs, e1, e2, h2.chg c (fun b hb => hS b (h3 b (.inr (.inr hb))).1 (h3 b (.inr (.inr hb))).2) (hS _ (h3 _ (.inl rfl)).1 (h3 _ (.inl rfl)).2) (fun g hg => by
      have := blk_eq hg; subst this; exact hS _ (h3 _ (.inr (.inl rfl))).1 (h3 _ (.inr (.inl rfl))).2), h3⟩
  · exact .inr h
theorem ResM.chg {S : Nat → Prop} {w w' : World} {lo hi : Nat} {ok : Bool} {H : List Int} {T : List Tw} {u1 u2 : Value} (h : ResM w lo hi ok H T u1 u2) (c : Chg S w w') (hS : ∀ b, lo ≤ b → b < hi → ¬ S b) : ResM w' lo hi ok H T u1 u2 := by
  rcases h with ⟨h1, g1, c1, gT, cT, gs, cs, e1, e2, h2, h3⟩ | h
  · exact .inl ⟨h1, g1, c1, gT, cT, gs, cs, e1, e2, h2.chg c (fun b hb => hS b (h3 b (.inr (.inr hb))).1 (h3 b (.inr (.inr hb))).2) (hS _ (h3 _ (.inl rfl)).1 (h3 _ (.inl rfl)).2) (fun g hg => by
      have := blk_eq hg; subst this; exact hS _ (h3 _ (.inr (.inl rfl))).1 (h3 _ (.inr (.inl rfl))).2), h3⟩
  · exact .inr h
theorem ResS.below {w w' : World} {lo hi : Nat} {ok : Bool} {H : List Int} {T : List Tw} {u1 u2 : Value} (h : ResS w lo hi ok H T u1 u2) (hb : Below w.heap.size w w') : ResS w' lo hi ok H T u1 u2 := h.chg (S := fun _ => False) (Chg.of_below hb) (fun _ _ _ x => x)
theorem ResM.below {w w' : World} {lo hi : Nat} {ok : Bool} {H : List Int} {T : List Tw} {u1 u2 : Value} (h : ResM w lo hi ok H T u1 u2) (hb : Below w.heap.size w w') : ResM w' lo hi ok H T u1 u2 := h.chg (S := fun _ => False) (Chg.of_below hb) (fun _ _ _ x => x)
theorem run_neq_bool_same (w : World) (b : Bool) : (binOp .neq 4 (.bool b) (.bool b)).run Tryd.prog w = .ok (.bool false) w := by
  cases b <;> kernel_rfl
theorem IL_none (w : World) : IL w (.slice none 0 0) [] := ⟨none, 0, rfl, fun h => absurd rfl h⟩
theorem TW_none (w : World) : TW w (.slice none 0 0) [] := ⟨none, 0, rfl, fun h => absurd rfl h⟩
theorem ResS.il {w : World} {lo hi : Nat} {ok : Bool} {H : List Int} {T : List Tw} {u1 u2 : Value} (h : ResS w lo hi ok H T u1 u2) : IL w u1 H := by
  rcases h with ⟨_, g1, c1, gT, cT, gs, cs, rfl, _, h2, _⟩ | ⟨_, rfl, _, rfl, _⟩
  · exact h2.il
  · exact IL_none w
theorem ResS.tw {w : World} {lo hi : Nat} {ok : Bool} {H : List Int} {T : List Tw} {u1 u2 : Value} (h : ResS w lo hi ok H T u1 u2) : TW w u2 T := by
  rcases h with ⟨_, g1, c1, gT, cT, gs, cs, _, rfl, h2, _⟩ | ⟨_, _, rfl, _, rfl⟩
  · exact h2.tw
  · exact TW_none w
theorem ResS.shape {w : World} {lo hi : Nat} {ok : Bool} {H : List Int} {T : List Tw} {u1 u2 : Value} (h : ResS w lo hi ok H T u1 u2) : ∃ a1 c1 a2 c2, u1 = .slice a1 H.length c1 ∧ u2 = .slice a2 T.length c2 := by
  rcases h with ⟨_, g1, c1, gT, cT, gs, cs, h1, h2, _⟩ | ⟨_, h1, h2, rfl, rfl⟩
  · exact ⟨_, _, _, _, h1, h2⟩
  · exact ⟨_, _, _, _, h1, h2⟩

noncomputable def insB (hs : List Int) (ts : List Tw) (t : Tw) : Bool := @decide (InsOk hs ts t) (Classical.propDecidable _)
noncomputable def rH (hs : List Int) (ts : List Tw) (t : Tw) : List Int := if insB hs ts t = true then insHs hs ts t else []
noncomputable def rT (hs : List Int) (ts : List Tw) (t : Tw) : List Tw := if insB hs ts t = true then insTs hs ts t else []
theorem insB_iff (hs : List Int) (ts : List Tw) (t : Tw) : insB hs ts t = true ↔ InsOk hs ts t := by unfold insB; exact @decide_eq_true_iff _ (Classical.propDecidable _)
theorem insTs_next {hs : List Int} {ts : List Tw} {t : Tw} (h : InsOk hs ts t) (i : Nat) (hi : i < (insTs hs ts t).length) : (insTs hs ts t)[i].next.length ≤ 5 := by
  have hl := (insTo_len hs ts (lastL hs ts t 5) ts.length (twN t.key t.seq.toNat)).2
  have all : ∀ x ∈ insTs hs ts t, x.next.length ≤ 5 := fun x hx => by
    unfold insTs at hx
    rcases List.mem_append.1 hx with h1 | h1
    · obtain ⟨j, hj, rfl⟩ := List.getElem_of_mem h1
      have h2 := (insTo_keep hs ts (lastL hs ts t 5) ts.length (twN t.key t.seq.toNat) j).2.2.2.2
      rw [tw_at _ j hj, tw_at ts j (by omega)] at h2
      rw [h2]
      exact high_le (h.1.2.2.1 _ (List.getElem_mem (by omega)))
    · rw [List.mem_singleton.1 h1]
      show (ownL hs ts (lastL hs ts t 5) (twN t.key t.seq.toNat)).length ≤ 5
      rw [ownL_len]
      exact (twN_le _ _).2
  exact all _ (List.getElem_mem hi)
theorem res_bounds (hs : List Int) (ts : List Tw) (t : Tw) : (insB hs ts t = true → (rH hs ts t).length = 5 ∧ (rT hs ts t).length ≤ 1000 ∧ ∀ i (hi : i < (rT hs ts t).length), (rT hs ts t)[i].next.length ≤ 5) ∧ (rH hs ts t).length ≤ 1048576 ∧ (rT hs ts t).length ≤ 1048576 ∧ ∀ i (hi : i < (rT hs ts t).length), (rT hs ts t)[i].next.length ≤ 1048576 := by
  by_cases hb : insB hs ts t = true
  · have hI := (insB_iff hs ts t).1 hb
    have e1 : rH hs ts t = insHs hs ts t := by unfold rH; rw [if_pos hb]
    have e2 : rT hs ts t = insTs hs ts t := by unfold rT; rw [if_pos hb]
    rw [e1, e2]
    have l1 := insHs_len hs ts t
    have l2 := insTs_len hs ts t
    have g1 := hI.1.1
    have g2 := hI.1.2.1
    have hx := insTs_next hI
    exact ⟨fun _ => ⟨by omega, by omega, hx⟩, by omega, by omega, fun i hi => by have := hx i hi; omega⟩
  · have e1 : rH hs ts t = [] := by unfold rH; rw [if_neg hb]
    have e2 : rT hs ts t = [] := by unfold rT; rw [if_neg hb]
    rw [e1, e2]
    exact ⟨fun h => absurd h hb, by simp, by simp, fun i hi => by simp at hi⟩
theorem res_of {hs : List Int} {ts : List Tw} {t : Tw} {w' : World} {lo : Nat} {u1 u2 : Value} {ok : Bool}
    (h : (ok = true ∧ InsOk hs ts t ∧ ∃ g1 c1 gs cs, u1 = .slice (some ⟨g1, 0, none⟩) hs.length c1 ∧ OwnS w' lo (insHs hs ts t) (insTs hs ts t) u2 g1 c1 gs cs) ∨ (ok = false ∧ ¬ InsOk hs ts t ∧ u1 = .slice none 0 0 ∧ u2 = .slice none 0 0)) :
    ok = insB hs ts t ∧ ResS w' lo w'.heap.size (insB hs ts t) (rH hs ts t) (rT hs ts t) u1 u2 := by
  rcases h with ⟨rfl, hI, g1, c1, gs, cs, rfl, hO⟩ | ⟨rfl, hI, rfl, rfl⟩
  · have hb := (insB_iff hs ts t).2 hI
    have e1 : rH hs ts t = insHs hs ts t := by unfold rH; rw [if_pos hb]
    have e2 : rT hs ts t = insTs hs ts t := by unfold rT; rw [if_pos hb]
    refine ⟨hb.symm, ?_⟩
    rw [e1, e2, hb]
    obtain ⟨gT, cT, hv, _, _⟩ := some_of hO.rows (by rw [insTs_len]; omega)
    subst hv
    obtain ⟨l1, l2, l3⟩ := hO.lt
    refine .inl ⟨rfl, g1, c1, gT, cT, gs, cs, by rw [insHs_len], rfl, hO, fun b hb => ?_⟩
    rcases hb with rfl | rfl | hb
    · exact l2
    · exact l3 _ rfl
    · exact l1 _ hb
  · have hb : insB hs ts t = false := by
      cases e : insB hs ts t with
      | false => rfl
      | true => exact absurd ((insB_iff hs ts t).1 e) hI
    refine ⟨hb.symm, ?_⟩
    rw [hb]
    exact .inr ⟨rfl, rfl, rfl, by unfold rH; rw [hb]; rfl, by unfold rT; rw [hb]; rfl⟩
theorem mE_ge (ok : Bool) (T : List Tw) (h : ok = true → ∀ i (hi : i < T.length), T[i].next.length ≤ 5) : 0 ≤ mE ok T := by
  unfold mE
  split
  · rename_i e
    have := (mkTe_le T 6 (h e) T.length (Nat.le_refl _)).1
    rw [List.take_length] at this
    omega
  · omega
theorem markRes (w : World) (lo hi : Nat) (ok : Bool) (H : List Int) (T : List Tw) (u1 u2 : Value) (h : ResS w lo hi ok H T u1 u2) (hb : ok = true → H.length = 5 ∧ T.length ≤ 1000 ∧ ∀ i (hi : i < T.length), T[i].next.length ≤ 5) :
    Calls Tryd.prog 11 #[.agg #[u1, u2], .int .i64 1] w fun e w' => e = .returned (.int .i64 (mE ok T)) ∧ ResM w' lo hi ok H T u1 u2 ∧ Chg (fun b => lo ≤ b ∧ b < hi) w w' := by
  rcases h with ⟨rfl, g1, c1, gT, cT, gs, cs, rfl, rfl, h2, h3⟩ | ⟨rfl, rfl, rfl, rfl, rfl⟩
  · obtain ⟨b1, b2, b3⟩ := hb rfl
    refine (markSkip_own gT cT lo H T g1 c1 gs cs w h2 b1 b2 b3).mono fun e w' ⟨he, hS, hc⟩ => ⟨he, .inl ⟨rfl, g1, c1, gT, cT, gs, cs, rfl, rfl, hS, h3⟩, hc.mono (fun b hb => h3 b hb)⟩
  · exact (markSkip_none w).mono fun e w' ⟨he, hb'⟩ => ⟨he, .inr ⟨rfl, rfl, rfl, rfl, rfl⟩, Chg.of_below hb'⟩
theorem heldRes (w : World) (lo hi : Nat) (ok : Bool) (H : List Int) (T : List Tw) (u1 u2 : Value) (h : ResM w lo hi ok H T u1 u2) (hb : ok = true → H.length = 5 ∧ T.length ≤ 1000 ∧ ∀ i (hi : i < T.length), T[i].next.length ≤ 5) :
    Calls Tryd.prog 12 #[.agg #[u1, u2], .int .i64 1] w fun e w' => e = .returned (.int .i64 (mE ok T)) ∧ Below w.heap.size w w' := by
  rcases h with ⟨rfl, g1, c1, gT, cT, gs, cs, rfl, rfl, h2, h3⟩ | ⟨rfl, rfl, rfl, rfl, rfl⟩
  · obtain ⟨b1, b2, b3⟩ := hb rfl
    exact heldSkip_own gT cT lo H T g1 c1 gs cs w h2 b1 b2 b3
  · exact heldSkip_none w
/-- InsertSkip's answers, as one. -/
theorem specRes (x : Value) (b off cap : Nat) (hs : List Int) (ts : List Tw) (t : Tw) (w : World) (hx : IL w x hs) (hy : TW w (.slice (some ⟨b, off, none⟩) ts.length cap) ts) (hbw : b < w.heap.size) (m1 : hs.length ≤ 1048576) (hcy : ts.length ≤ cap) (hcm : cap ≤ 1048576)
    (F3 : ∀ i : Nat, i < ts.length → (tw ts i).next.length ≤ 1048576 ∧ (tw ts i).key.size ≤ 1048576 ∧ (tw ts i).val.size ≤ 1048576) (hk : t.key.size ≤ 1048576) (hv : t.val.size ≤ 1048576) :
    Calls Tryd.prog 6 #[.agg #[x, .slice (some ⟨b, off, none⟩) ts.length cap], .agg #[.string t.key, .int .i64 t.seq, .int .i64 t.kind, .string t.val]] w fun e w' => (∃ u1 u2, e = .returned (.tuple #[.agg #[u1, u2], .bool (insB hs ts t)]) ∧ ResS w' w.heap.size w'.heap.size (insB hs ts t) (rH hs ts t) (rT hs ts t) u1 u2) ∧ Below w.heap.size w w' :=
  (specInsert_any x b off cap hs ts t w hx hy hbw m1 hcy hcm F3 hk hv).mono fun e w' ⟨⟨u1, u2, ok, he, h⟩, hb⟩ => by
    obtain ⟨h1, h2⟩ := res_of h
    exact ⟨⟨u1, u2, by rw [he, h1], h2⟩, hb⟩
theorem implRes (x : Value) (b off cap : Nat) (hs : List Int) (ts : List Tw) (t : Tw) (w : World) (hx : IL w x hs) (hy : TW w (.slice (some ⟨b, off, none⟩) ts.length cap) ts) (hbw : b < w.heap.size) (m1 : hs.length ≤ 1048576) (m2 : ts.length ≤ 1048576) (ht : Tabs w)
    (F3 : ∀ i : Nat, i < ts.length → (tw ts i).next.length ≤ 1048576 ∧ (tw ts i).key.size ≤ 1048576 ∧ (tw ts i).val.size ≤ 1048576) (hk : t.key.size ≤ 1048576) (hv : t.val.size ≤ 1048576) :
    Calls Tryd.prog 9 #[.agg #[x, .slice (some ⟨b, off, none⟩) ts.length cap], .agg #[.string t.key, .int .i64 t.seq, .int .i64 t.kind, .string t.val]] w fun e w' => (∃ u1 u2, e = .returned (.tuple #[.agg #[u1, u2], .bool (insB hs ts t)]) ∧ ResS w' w.heap.size w'.heap.size (insB hs ts t) (rH hs ts t) (rT hs ts t) u1 u2) ∧ Below w.heap.size w w' :=
  (implInsert_any x b off cap hs ts t w hx hy hbw m1 m2 ht F3 hk hv).mono fun e w' ⟨⟨u1, u2, ok, he, h⟩, hb⟩ => by
    obtain ⟨h1, h2⟩ := res_of h
    exact ⟨⟨u1, u2, by rw [he, h1], h2⟩, hb⟩
end Go.Proofs.YtcjkdkaahkphfaaDoor
