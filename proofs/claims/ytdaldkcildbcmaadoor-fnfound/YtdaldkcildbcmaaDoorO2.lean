/-
  Both ListSkips.
-/
import Derived.Test.YtdaldkcildbcmaaDoorO1
import Derived.Test.YtdaldkcildbcmaaDoorH2
import Derived.Test.YtdaldkcildbcmaaDoorH4
namespace Go.Proofs.YtdaldkcildbcmaaDoor
open Go.RowKit
set_option linter.unusedVariables false
set_option maxRecDepth 100000

open Classical in
noncomputable def lkB (hs : List Int) (ts : List Tw) (q : Int) : Bool := decide (GoodI hs ts ∧ 0 ≤ q ∧ q < 5)
noncomputable def lkL (hs : List Int) (ts : List Tw) (q : Int) : List It := if lkB hs ts q then lsL ts ((lev ts q.toNat (ts.length + 1) (-1) (hs.getD q.toNat 0)).getD []) else []
open Classical in
theorem lkB_true {hs : List Int} {ts : List Tw} {q : Int} (G : GoodI hs ts) (h0 : 0 ≤ q) (h1 : q < 5) : lkB hs ts q = true := by
  unfold lkB; exact decide_eq_true ⟨G, h0, h1⟩
open Classical in
theorem lkB_false {hs : List Int} {ts : List Tw} {q : Int} (h : ¬ (GoodI hs ts ∧ 0 ≤ q ∧ q < 5)) : lkB hs ts q = false := by
  unfold lkB; exact decide_eq_false h
theorem lkL_true {hs : List Int} {ts : List Tw} (lv : Nat) (G : GoodI hs ts) (h1 : lv < 5) : ∃ l, lev ts lv (ts.length + 1) (-1) (hs.getD lv 0) = some l ∧ lkL hs ts (lv : Int) = lsL ts l := by
  obtain ⟨l, hl, _⟩ := G.2.2.2 lv h1
  refine ⟨l, hl, ?_⟩
  unfold lkL
  rw [lkB_true G (by omega) (by omega), if_pos rfl, Int.toNat_natCast, hl]
  rfl
theorem lkL_false {hs : List Int} {ts : List Tw} {q : Int} (h : lkB hs ts q = false) : lkL hs ts q = [] := by
  unfold lkL; rw [h]; rfl
theorem lkL_len (hs : List Int) (ts : List Tw) (q : Int) : (lkL hs ts q).length ≤ 60 := by
  by_cases h : GoodI hs ts ∧ 0 ≤ q ∧ q < 5
  · obtain ⟨G, h0, h1⟩ := h
    obtain ⟨lv, rfl⟩ := Int.eq_ofNat_of_zero_le h0
    obtain ⟨l, hl, he⟩ := lkL_true (hs := hs) lv G (by omega)
    have h2 := lev_len hl
    have h3 := G.2.1
    rw [he, lsL_len]
    omega
  · rw [lkL_false (lkB_false h)]
    simp

theorem lev_all {ts : List Tw} {lv : Nat} : ∀ {f : Nat} {a x : Int} {l : List Int}, lev ts lv f a x = some l → ∀ z ∈ l, 0 ≤ z ∧ z < ts.length
  | 0, a, x, l, h => by cases h
  | f + 1, a, x, l, h => by
    rcases lev_cases h with ⟨_, rfl⟩ | ⟨f', l', hf, rfl, hok, h2⟩
    · intro z hz; simp at hz
    · obtain rfl : f = f' := by omega
      intro z hz
      rcases List.mem_cons.1 hz with rfl | hz
      · exact ⟨hok.1, hok.2.1⟩
      · exact lev_all h2 z hz
set_option maxHeartbeats 8000000 in
theorem implList_any (x y : Value) (hs : List Int) (ts : List Tw) (q : Int) (w : World) (hx : IL w x hs) (hy : TW w y ts) (hn : hs.length ≤ 1048576) (hm : ts.length ≤ 1048576) (ht : Tabs w)
    (hf : ∀ i : Nat, i < ts.length → (tw ts i).next.length ≤ 1048576 ∧ (tw ts i).key.size ≤ 1048576 ∧ (tw ts i).val.size ≤ 1048576) :
    Calls Tryd.prog 14 #[.agg #[x, y], .int .i64 q] w fun e w' => ∃ v, e = .returned (.tuple #[v, .bool (lkB hs ts q)]) ∧ w'.ownsRow w.heap.size 28 4 v (lkL hs ts q).length (flat4 (lkL hs ts q)) ∧ Below w.heap.size w w' := by
  obtain ⟨i0, hi, hz0, hzs, hzb⟩ := info_parts Tryd.info28
  obtain ⟨ax, cx, hxe, _⟩ := id hx
  subst hxe
  obtain ⟨ay, cy, hye, hcy⟩ := id hy
  subst hye
  have hb0 := below_alloc w (.cells #[.slice ax hs.length cx, .slice ay ts.length cy] 26)
  have X0 := Box.new w #[.slice ax hs.length cx, .slice ay ts.length cy] 26
  have KG := implGoodSkip_any (.slice ax hs.length cx) (.slice ay ts.length cy) hs ts _ (hx.below hb0) (hy.below hb0) hn hm (ht.below hb0) hf
  have KL := fun (lv : Nat) (w' : World) (hx : IL w' (.slice ax hs.length cx) hs) (hy : TW w' (.slice ay ts.length cy) ts) (G : GoodI hs ts) (hl : lv < 5) => level_any (.slice ax hs.length cx) (.slice ay ts.length cy) hs ts lv w' hx hy G.1 hl G.2.1 (fun i hi => (hf i hi).1)
  have HF : Hid (¬ (GoodI hs ts ∧ 0 ≤ q ∧ q < 5) → lkB hs ts q = false ∧ lkL hs ts q = []) := fun h => ⟨lkB_false h, lkL_false (lkB_false h)⟩
  have HT : Hid (∀ lv : Nat, q = lv → GoodI hs ts → lv < 5 → lkB hs ts q = true ∧ ∃ l, lev ts lv (ts.length + 1) (-1) (hs.getD lv 0) = some l ∧ lkL hs ts q = lsL ts l) := fun lv e G h => by subst e; exact ⟨lkB_true G (by omega) (by omega), lkL_true lv G h⟩
  generalize lkB hs ts q = ok at *
  generalize lkL hs ts q = Z at *
  clear hf
  go_enter Tryd.func14, Tryd.ntmps14
  go_wp2_with fail
  refine KG.mono ?_
  rintro e w1 ⟨⟨c, rfl, hc⟩, hb1⟩
  have hB1 := below_then hb0 hb1
  have X1 := X0.below hb1
  clear KG X0 hb0 hb1
  cases c with
  | false =>
    obtain ⟨rfl, rfl⟩ := HF.out (fun h => by have := hc.2 h.1; cases this)
    clear HF HT KL hc hi hz0 hzs hzb hcy
    go_wp2
    exact bodyPost_ret (v := .tuple #[.slice none 0 0, .bool false]) (by simp [results, Tryd.results14, go_sem]) rfl ⟨_, rfl, World.ownsRow_nil _ _ _ _, hB1⟩
  | true =>
    have G := hc.1 rfl
    clear hc
    obtain ⟨_, x0, x1⟩ := X1.c2
    by_cases hq : 0 ≤ q ∧ q < 5
    · obtain ⟨lv, rfl⟩ := Int.eq_ofNat_of_zero_le hq.1
      obtain ⟨rfl, l, hl, HZ⟩ := HT.out lv rfl G (by omega)
      have KK := KL lv w1 (hx.below hB1) (hy.below hB1) G (by omega)
      rw [hl] at KK
      have hok := lev_all hl
      have hll := lev_len hl
      have h60 := G.2.1
      have hl5 : (lv : Int) < 5 := hq.2
      clear HF HT KL hl G
      go_wp2_with fail
      refine KK.mono ?_
      rintro e w3 ⟨⟨v, b, rfl, hA⟩, hb3⟩
      rcases hA with ⟨h, _⟩ | ⟨l0, h, rfl, ho⟩
      · cases h
      · obtain rfl : l = l0 := by simpa using h
        have hB3 := below_then hB1 hb3
        have X3 := X1.below hb3
        have hz13 := hb3.size
        have hil := IL_of_owns ho rfl
        obtain ⟨av, cv, rfl, hcv⟩ := hil
        clear KK h hb3 X1 x0 x1 hB1 ho
        subst HZ
        go_wp2
        go_loopw [8, 30] (fun v i wr => ∃ k : Nat, k ≤ l.length ∧ i = .int .i64 k ∧ wr.ownsRow w3.heap.size 28 4 v (lsL ts (l.take k)).length (flat4 (lsL ts (l.take k))) ∧ Box wr w.heap.size [.slice ax hs.length cx, .slice ay ts.length cy] ∧ Below w3.heap.size w3 wr) (fun _ i _ => l.length - (intOf i).toNat)
        case atStart => exact ⟨0, Nat.zero_le _, rfl, by simp [lsL]; exact World.ownsRow_nil _ _ _ _, X3, Below.refl _ _⟩
        case round =>
          clear X3
          obtain ⟨k, hk, rfl, hown, X, hb⟩ := hrel
          have p0 := X.2.1 0 _ rfl
          have p1 := X.2.1 1 _ rfl
          have pl := X.1
          have hzb3 := hb.size
          by_cases hlt : k < l.length
          · obtain ⟨gv, ov, rfl, hgv, hvc⟩ := hcv (by intro e; simp [e] at hlt)
            obtain ⟨hz0', hz1'⟩ := hok l[k] (List.getElem_mem _)
            have c0 := (hb.cell (p := ⟨gv, ov + k, none⟩) hgv).trans (hvc k hlt)
            have HPL : Hid (lsL ts (l.take (k + 1)) = lsL ts (l.take k) ++ [itOf (tw ts l[k])]) := by show _ = _; unfold lsL; rw [List.take_succ_eq_append_getElem hlt, List.map_append]; rfl
            have hpl : (lsL ts (l.take k)).length + 1 ≤ 61 := by rw [lsL_len, List.length_take]; omega
            generalize l[k] = z at *
            obtain ⟨j, rfl⟩ := Int.eq_ofNat_of_zero_le hz0'
            have hj : j < ts.length := by omega
            have htw : tw ts (j : Int) = ts[j] := by simp [tw, List.getD_eq_getElem?_getD, hj]
            rw [htw] at HPL
            obtain ⟨b, off, rfl, hbl, hcell⟩ := hcy (by intro e; simp [e] at hj)
            obtain ⟨u, ⟨q0, q1, q2, q3, _⟩, _⟩ := hcell j hj
            have hBw := below_then hB3 hb
            have r0 := (hBw.cell (p := ⟨b, off + j * 5, none⟩) hbl).trans q0
            have r1 := (hBw.cell (p := ⟨b, off + j * 5 + 1, none⟩) hbl).trans q1
            have r2 := (hBw.cell (p := ⟨b, off + j * 5 + 2, none⟩) hbl).trans q2
            have r3 := (hBw.cell (p := ⟨b, off + j * 5 + 3, none⟩) hbl).trans q3
            have hbW : b < wr.heap.size := by have := hBw.size; omega
            have hgW : gv < wr.heap.size := by omega
            clear hcell hcy hcv hvc htw hz0' hz1' hBw hok
            obtain ⟨s, hse⟩ : ∃ s, itOf ts[j] = s := ⟨_, rfl⟩
            have e0 : ts[j].key = s.k := by rw [← hse]; rfl
            have e1 : ts[j].seq = s.n := by rw [← hse]; rfl
            have e2 : ts[j].kind = s.d := by rw [← hse]; rfl
            have e3 : ts[j].val = s.v := by rw [← hse]; rfl
            rw [e0] at r0; rw [e1] at r1; rw [e2] at r2; rw [e3] at r3
            rw [hse] at HPL
            clear e0 e1 e2 e3 hse q0 q1 q2 q3
            have hcn4 := cells_new4 wr s
            obtain ⟨L, HL⟩ : ∃ L, Hid (lsL ts (l.take k) = L) := ⟨lsL ts (l.take k), rfl⟩
            rw [HL.out] at hown hpl HPL
            obtain ⟨sk, sn, sd, sv⟩ := s
            dsimp only at *
            go_wp2_with (at_builtin; refine wpList_append_own _ rfl _ _ 33 rfl w3.heap.size 28 i0 (.agg #[.string ⟨#[]⟩, .int .i64 0, .int .i64 0, .string ⟨#[]⟩]) 4 48 Tryd.underlying33 hi hz0 hzs hzb rfl (by decide) _ L.length (flat4 L) rfl (owns_below hown (below_alloc _ _)) ⟨wr.heap.size, 0, none⟩ 1 1 (flat4 [⟨sk, sn, sd, sv⟩]) rfl rfl hcn4 (one4 _) (by unfold maxLen; omega) (by omega) (by simp; omega) ?_; intro v' w5 hown5 hgrow5 _)
            have hBb : Below w3.heap.size wr w5 := ((Below.refl _ _).alloc (by omega) _).grown hgrow5 (by simp; omega) (owns_ge hown)
            have hO5 : w5.ownsRow w3.heap.size 28 4 v' (L ++ [(⟨sk, sn, sd, sv⟩ : It)]).length (flat4 (L ++ [(⟨sk, sn, sd, sv⟩ : It)])) := by rw [List.length_append, flat4_append]; exact hown5
            go_roundw
            case rel => exact ⟨k + 1, by omega, by go_num, by rw [HPL.out]; exact hO5, X.under hBb (by omega), hb.trans hBb⟩
            case measure => simp [intOf]; omega
          · obtain rfl : k = l.length := by omega
            rw [List.take_length] at hown
            have hBf := below_then hB3 hb
            have hOf := owns_lower hown hB3.size
            obtain ⟨L, HL⟩ : ∃ L, Hid (lsL ts l = L) := ⟨lsL ts l, rfl⟩
            rw [HL.out] at hOf
            clear hown hi hz0 hzs hzb hcv hcy hok
            go_wp2
            exact bodyPost_ret (by simp [results, Tryd.results14, go_sem]; rfl) rfl ⟨_, rfl, by rw [HL.out]; exact hOf, hBf⟩
    · obtain ⟨rfl, rfl⟩ := HF.out (fun h => hq h.2)
      clear HF HT KL hi hz0 hzs hzb hcy
      by_cases hq0 : q < 0
      · go_wp2
        exact bodyPost_ret (v := .tuple #[.slice none 0 0, .bool false]) (by simp [results, Tryd.results14, go_sem]) rfl ⟨_, rfl, World.ownsRow_nil _ _ _ _, hB1⟩
      · have hq5 : 5 ≤ q := by omega
        have hq1 : 0 ≤ q := by omega
        go_wp2
        exact bodyPost_ret (v := .tuple #[.slice none 0 0, .bool false]) (by simp [results, Tryd.results14, go_sem]) rfl ⟨_, rfl, World.ownsRow_nil _ _ _ _, hB1⟩
end Go.Proofs.YtdaldkcildbcmaaDoor
