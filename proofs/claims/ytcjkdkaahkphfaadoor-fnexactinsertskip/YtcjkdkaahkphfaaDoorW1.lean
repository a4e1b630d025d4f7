/-
  impl: a tower put into a list of one's own (ladder.with).
-/
import Derived.Test.YtcjkdkaahkphfaaDoorP7ToP8
import Derived.Deep.RegionHeld3
import Derived.Maps.AppendAt
namespace Go.Proofs.YtcjkdkaahkphfaaDoor
open Go.RowKit
set_option linter.unusedVariables false
set_option maxRecDepth 100000

theorem wp_append_own_at {P : Program} {w : World} {o : Oper} {a : Act} {K : Act → World → Prop} {Q : Exit → Act → World → Prop} (s x : Operand) (t : TypeId)
    (ho : o.op = .call { callee := .builtin .append, args := #[s, x], argTypes := #[t, t] })
    (base : Nat) (e : TypeId) (i : TypeInfo) (z : Value) (size bytes : Nat) (ht : P.underlying t = some (.slice e)) (hi : P.info? e = some i) (hz : i.zero = some z)
    (hsize : i.size = size) (hby : i.bytes = bytes) (hzs : z.cells.size = size) (hsz : 0 < size)
    (v : Value) (n : Nat) (xs : List Value) (hs : a.eval s = v) (hown : w.ownsRow base e size v n xs)
    (ad : Addr) (m c : Nat) (news : List Value) (hx : a.eval x = .slice (some ad) m c) (hl : news.length = m * size) (hnews : ∀ j u, news[j]? = some u → w.cell? (ad.add j) = some u) (h1 : ∀ u ∈ news, u.oneCell' = true)
    (h63 : n + m ≤ maxLen) (hbytes : (n + m) * bytes ≤ 140737488355328) (hbase : base ≤ w.heap.size)
    (h : ∀ v' w', w'.ownsRow base e size v' (n + m) (xs ++ news) → w.grownBy w' v.ownBlock → (v'.ownBlock = v.ownBlock ∨ v'.ownBlock = some w.heap.size) → K (a.put o.dst v') w') : o.wp P a w K Q := by
  obtain ⟨v', w', hr, h2, h3, h4, h5⟩ := run_append_own_at (P := P) w base t o.type e i z size bytes ht hi hz hsize hby hzs hsz v n xs hown ad m c news hl hnews h1 h63 hbytes hbase
  unfold Oper.wp execOp
  simp only [ho, resolve, invoke, builtin, Sem.run_bind, Sem.run_pure, Result.andThen_ok, List.map_toArray, List.map_cons, List.map_nil, hs, hx, hr]
  exact h v' w' h2 h3 h5

theorem blk_eq {g n c b : Nat} (h : (Value.slice (some ⟨g, 0, none⟩) n c).ownBlock = some b) : b = g := by simpa [Value.ownBlock] using h.symm
theorem Chg.new {S : Nat → Prop} {w a b : World} (h : Chg S w a) (c : Chg (fun k => w.heap.size ≤ k) a b) : Chg S w b :=
  ⟨c.os.trans h.os, c.tape.trans h.tape, c.output.trans h.output, Nat.le_trans h.size c.size, fun k hk hs => (c.block k (Nat.lt_of_lt_of_le hk h.size) (fun x => by omega)).trans (h.block k hk hs)⟩
/-- Which slice linksFrom answers at a level, what stands there, and what it makes of the list when it is turned to the new tower. -/
theorem links_sel (hs : List Int) (ts : List Tw) (L : List Int) (k : Int) (base : Nat) (aT : Option Addr) (cT g1 c1 : Nat) (gs cs : List Nat) (lv : Nat) (w : World)
    (h : OwnS w base (insTo hs ts L k lv).1 (insTo hs ts L k lv).2 (.slice aT ts.length cT) g1 c1 gs cs) (h5 : hs.length = 5) (h60 : ts.length ≤ 60) (hlv : lv < 5) (ha : L.getD lv 0 = -1 ∨ okAt ts lv (L.getD lv 0)) :
    ∃ gk nk ck, lv < nk ∧ (gk = g1 ∨ gk ∈ gs) ∧ (∀ W, OwnS W base (insTo hs ts L k lv).1 (insTo hs ts L k lv).2 (.slice aT ts.length cT) g1 c1 gs cs → W.cell? ⟨gk, lv, none⟩ = some (.int .i64 (NX hs ts (L.getD lv 0) lv)) ∧ W.frozen? ⟨gk, lv, none⟩ = false ∧
      (Calls Tryd.prog 55 #[.agg #[.slice (some ⟨g1, 0, none⟩) hs.length c1, .slice aT ts.length cT], .int .i64 (L.getD lv 0)] W fun e w' => e = .returned (.slice (some ⟨gk, 0, none⟩) nk ck) ∧ Below W.heap.size W w') ∧
      OwnS (W.setCell ⟨gk, lv, none⟩ (.int .i64 k)) base (insTo hs ts L k (lv + 1)).1 (insTo hs ts L k (lv + 1)).2 (.slice aT ts.length cT) g1 c1 gs cs) := by
  have hlen := insTo_len hs ts L k lv
  have hsucc : insTo hs ts L k (lv + 1) = (insH (insTo hs ts L k lv).1 (L.getD lv 0) lv k, insT (insTo hs ts L k lv).2 (L.getD lv 0) lv k) := rfl
  have hN := fun a ha => insTo_NX hs ts L k a lv lv (Nat.le_refl _) ha
  have hK := insTo_keep hs ts L k lv
  rw [hsucc]
  clear hsucc
  generalize insTo hs ts L k lv = p at *
  obtain ⟨H, T⟩ := p
  dsimp only at *
  obtain ⟨hH, hT⟩ := hlen
  rw [← hH] at h5
  rw [← hT] at h60 h
  rw [← hH, ← hT]
  generalize L.getD lv 0 = a at *
  rcases ha with rfl | ⟨a0, a1, a2⟩
  · refine ⟨g1, H.length, c1, by omega, .inl rfl, fun W h => ⟨?_, h.head.frozenAt lv, linksHead_any H T _ g1 c1 base gs cs W h aT T.length cT rfl, ?_⟩⟩
    · rw [h.head.cellAt lv (by omega), ← hN (-1) (.inl rfl), NX_head, List.getElem?_map, List.getElem?_eq_getElem (show lv < H.length by omega)]
      simp [List.getD_eq_getElem?_getD, List.getElem?_eq_getElem (show lv < H.length by omega)]
    · unfold insH insT
      rw [if_pos rfl, if_pos rfl]
      exact h.putH lv k
  · obtain ⟨i, rfl⟩ := Int.eq_ofNat_of_zero_le a0
    have hi : i < T.length := by omega
    have hg := h.len
    have hr := h.room
    have htw : tw T (i : Int) = T[i] := tw_at T i hi
    have hnl : T[i].next.length = (tw ts (i : Int)).next.length := by rw [← htw]; exact (hK i).2.2.2.2
    refine ⟨gs[i]'(by omega), T[i].next.length, cs[i]'(by omega), by omega, .inr (List.getElem_mem _), fun W h => ⟨?_, (h.lnk i hi (by omega) (by omega)).frozenAt lv, linksTower_any H T aT cT g1 c1 base gs cs W h i hi (by omega) (by omega) (by omega), ?_⟩⟩
    · have ho := h.lnk i hi (by omega) (by omega)
      rw [← hN (i : Int) (.inr (by omega)), NX_at]
      have e := ho.cellAt lv (by omega)
      rw [e, List.getElem?_map, List.getElem?_eq_getElem (show lv < T[i].next.length by omega)]
      unfold nx
      rw [htw]
      simp [List.getD_eq_getElem?_getD, List.getElem?_eq_getElem (show lv < T[i].next.length by omega)]
    · unfold insH insT
      rw [if_neg (by omega), if_neg (by omega), htw, Int.toNat_natCast]
      exact h.putT i hi lv k

end Go.Proofs.YtcjkdkaahkphfaaDoor
