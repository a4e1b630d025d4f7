/-
  spec.l4Own: a list of one's own.
-/
import Derived.Test.YtdaldkcildbcmaaDoorW1ToX1
namespace Go.Proofs.YtdaldkcildbcmaaDoor
open Go.RowKit
set_option linter.unusedVariables false
set_option maxRecDepth 100000

theorem empty_new (w : World) (e : TypeId) : (w.alloc (.cells #[] e)).ownsRow w.heap.size e 1 (.slice (some ⟨w.heap.size, 0, none⟩) 0 0) 0 [] := by
  have hp : ∀ o : Obj, (w.alloc o).heap[w.heap.size]? = some o := fun o => by unfold World.alloc; simp
  exact ⟨rfl, .inr ⟨w.heap.size, 0, #[], rfl, Nat.le_refl _, hp _, Nat.le_refl _, Nat.zero_le _, rfl, rfl⟩⟩
theorem IL.news {w : World} {b off n c : Nat} {zs : List Int} (h : IL w (.slice (some ⟨b, off, none⟩) n c) zs) : ∀ j u, (zs.map (Value.int .i64))[j]? = some u → w.cell? ((⟨b, off, none⟩ : Addr).add j) = some u := by
  intro j u hj
  obtain ⟨a, cap, hv, hc⟩ := h
  have hjl : j < zs.length := by
    have := (List.getElem?_eq_some_iff.1 hj).1
    simpa using this
  obtain ⟨b', off', ha, _, hcell⟩ := hc (by intro e; simp [e] at hjl)
  simp only [Value.slice.injEq] at hv
  rw [← hv.1] at ha
  simp only [Option.some.injEq, Addr.mk.injEq, and_true] at ha
  obtain ⟨rfl, rfl⟩ := ha
  rw [Addr.add_lit, hcell j hjl]
  rw [List.getElem?_map, List.getElem?_eq_getElem hjl] at hj
  simpa using hj
theorem ints_one (zs : List Int) : ∀ u ∈ zs.map (Value.int .i64), u.oneCell' = true := by
  intro u hu
  obtain ⟨z, _, rfl⟩ := List.mem_map.1 hu
  rfl
theorem chg_of_grown {w w' : World} {v : Value} (h : w.grownBy w' v.ownBlock) : Chg (fun b => v.ownBlock = some b) w w' :=
  ⟨h.os, h.tape, h.output, h.size, fun j hj hs => h.block j hj (fun e => hs e.symm)⟩
theorem slice_of {w : World} {base : Nat} {e : TypeId} {size : Nat} {v : Value} {n : Nat} {xs : List Value} (h : w.ownsRow base e size v n xs) : ∃ a c, v = .slice a n c := by
  rcases h.2 with ⟨h1, h0⟩ | ⟨g, c, cur, h1, _⟩
  · exact ⟨none, 0, by rw [h1, h0]⟩
  · exact ⟨_, _, h1⟩
theorem some_of {w : World} {base : Nat} {e : TypeId} {size : Nat} {v : Value} {n : Nat} {xs : List Value} (h : w.ownsRow base e size v n xs) (hn : 0 < n) : ∃ g c, v = .slice (some ⟨g, 0, none⟩) n c ∧ base ≤ g ∧ g < w.heap.size := by
  rcases h.2 with ⟨h1, h0⟩ | ⟨g, c, cur, h1, hb, hh, _⟩
  · omega
  · exact ⟨_, _, h1, hb, (Array.getElem?_eq_some_iff.1 hh).1⟩
theorem OwnS.none {w : World} {base : Nat} {H : List Int} {g1 c1 : Nat} (h : w.ownsRow base 3 1 (.slice (some ⟨g1, 0, none⟩) H.length c1) H.length (H.map (.int .i64))) : OwnS w base H [] (.slice none 0 0) g1 c1 [] [] :=
  ⟨rfl, rfl, World.ownsRow_nil _ _ _ _, fun i h => by simp at h, List.Pairwise.nil, h, fun g hg => by simp [Value.ownBlock] at hg, by simp⟩

set_option maxHeartbeats 8000000 in
theorem l4Own_any (x : Value) (ay : Option Addr) (cy : Nat) (hs : List Int) (ts : List Tw) (w : World) (hx : IL w x hs) (hy : TW w (.slice ay ts.length cy) ts) (h5 : 0 < hs.length) (m1 : hs.length ≤ 1048576) (hn : ts.length ≤ 1048576)
    (hf : ∀ i (h : i < ts.length), 0 < ts[i].next.length ∧ ts[i].next.length ≤ 1048576) :
    Calls Tryd.prog 47 #[.agg #[x, .slice ay ts.length cy]] w fun e w' => (∃ vT g1 c1 gs cs, e = .returned (.agg #[.slice (some ⟨g1, 0, none⟩) hs.length c1, vT]) ∧ OwnS w' (w.heap.size + 1 + 1) hs ts vT g1 c1 gs cs) ∧ Below w.heap.size w w' := by
  obtain ⟨ax, cx, hxe, hxc⟩ := id hx
  subst hxe
  obtain ⟨bx, ox, rfl, hbx, _⟩ := hxc (by intro e; simp [e] at h5)
  clear hxc
  obtain ⟨i0, hi, hz0, hzs, hzb⟩ := info_parts Tryd.info3
  obtain ⟨j0, hj, jz0, jzs, jzb⟩ := info_parts Tryd.info73
  have hb0 := below3 w (.cells #[.slice (some ⟨bx, ox, none⟩) hs.length cx, .slice ay ts.length cy] 26) (.cells #[.slice none 0 0, .slice none 0 0] 26) (.cells #[] 3)
  have X0 := ((Box.new w #[.slice (some ⟨bx, ox, none⟩) hs.length cx, .slice ay ts.length cy] 26).alloc (.cells #[.slice none 0 0, .slice none 0 0] 26)).alloc (.cells #[] 3)
  have Z0 := (Box.new (w.alloc (.cells #[.slice (some ⟨bx, ox, none⟩) hs.length cx, .slice ay ts.length cy] 26)) #[.slice none 0 0, .slice none 0 0] 26).alloc (.cells #[] 3)
  have E0 := empty_new ((w.alloc (.cells #[.slice (some ⟨bx, ox, none⟩) hs.length cx, .slice ay ts.length cy] 26)).alloc (.cells #[.slice none 0 0, .slice none 0 0] 26)) 3
  simp only [World.size_alloc] at Z0 E0
  have hN := (hx.below hb0).news
  go_enter Tryd.func47, Tryd.ntmps47
  go_wp2_with (at_builtin; refine wpList_append_own_at _ rfl _ _ 23 rfl (w.heap.size + 1 + 1) 3 i0 (.int .i64 0) 1 8 Tryd.underlying23 hi hz0 hzs hzb rfl (by decide) (.slice (some ⟨w.heap.size + 1 + 1, 0, none⟩) 0 0) 0 [] rfl E0 ⟨bx, ox, none⟩ hs.length cx (hs.map (.int .i64)) rfl (by simp) hN (ints_one hs) (by unfold maxLen; omega) (by omega) (by simp) ?_; intro v1 w1 o1 hgr1 _ hat1; refine Stop.go ?_)
  have C1 := chg_of_grown hgr1
  have hz1 := C1.size
  simp only [World.size_alloc] at hz1
  obtain ⟨g1, c1, rfl, hg1b, hg1l⟩ := some_of o1 (by omega)
  simp only [Nat.zero_add, List.nil_append] at o1
  have X1 := C1.box X0 (fun e => by have := blk_eq e; omega)
  have Z1 := C1.box Z0 (fun e => by have := blk_eq e; omega)
  have B1 : Below w.heap.size w w1 := hb0.trans (C1.below (B := w.heap.size) (by simp; omega) (fun b e => by have := blk_eq e; omega))
  clear C1 hgr1 hat1 X0 Z0 E0 hN hb0
  have S1 : OwnS w1 (w.heap.size + 1 + 1) hs (ts.take 0) (.slice none 0 0) g1 c1 [] [] := OwnS.none o1
  obtain ⟨xl, x0, x1⟩ := X1.c2
  have xf0 := X1.2.2 0
  have cc : Chg (· = w.heap.size) w1 (w1.setCell ⟨w.heap.size, 0, none⟩ (.slice (some ⟨g1, 0, none⟩) hs.length c1)) := (Chg.refl (· = w.heap.size) w1).setCell (p := ⟨w.heap.size, 0, none⟩) rfl _
  have X2 := X1.set 0 (.slice (some ⟨g1, 0, none⟩) hs.length c1) (by simp)
  have Z2 := cc.box Z1 (by omega)
  have S2 := S1.chg cc (fun b hb => by simp at hb) (by omega) (fun g hg => by simp [Value.ownBlock] at hg)
  have B2 := B1.trans (cc.below (B := w.heap.size) (by omega) (fun b e => by omega))
  clear cc S1 X1 Z1 B1 o1
  unfold Stop
  simp only [Nat.zero_add]
  go_wp2
  generalize w1.setCell ⟨w.heap.size, 0, none⟩ (.slice (some ⟨g1, 0, none⟩) hs.length c1) = w2 at *
  clear x0 x1 xf0 xl
  go_loopw [3, 14] (fun u i wr => ∃ (k : Nat) (a : Option Addr) (c : Nat) (gs cs : List Nat), k ≤ ts.length ∧ i = .int .i64 k ∧ u = .slice a k c ∧ OwnS wr (w.heap.size + 1 + 1) hs (ts.take k) (.slice a k c) g1 c1 gs cs ∧ Box wr w.heap.size [.slice (some ⟨g1, 0, none⟩) hs.length c1, .slice ay ts.length cy] ∧ Box wr (w.heap.size + 1) [.slice none 0 0, .slice none 0 0] ∧ Below w.heap.size w wr) (fun _ i _ => ts.length - (intOf i).toNat)
  case atStart => exact ⟨0, none, 0, [], [], Nat.zero_le _, rfl, rfl, S2, X2, Z2, B2⟩
  case round =>
    clear S2 X2 Z2 B2
    obtain ⟨k, a, c, gs, cs, hk, rfl, rfl, S, X, Z, hB⟩ := hrel
    by_cases hlt : k < ts.length
    · obtain ⟨b, off, cap, u, hv, hbl, ⟨z0, z1, z2, z3, z4⟩, hu⟩ := hy.cells k hlt
      simp only [Value.slice.injEq, true_and] at hv
      obtain ⟨rfl, rfl⟩ := hv
      have HTK : Hid (ts.take (k + 1) = ts.take k ++ [tw ts k]) := by show _ = _; rw [List.take_succ_eq_append_getElem hlt, tw_at ts k hlt]
      have hfk : 0 < (tw ts k).next.length ∧ (tw ts k).next.length ≤ 1048576 := by rw [tw_at ts k hlt]; exact hf k hlt
      have HKL : Hid ((ts.take k).length = k) := by show _ = _; rw [List.length_take]; omega
      generalize tw ts (k : Int) = tk at *
      obtain ⟨tkk, tks, tkd, tkv, tkx⟩ := tk
      dsimp only at z0 z1 z2 z3 hu hfk
      obtain ⟨ua, uc, rfl, huc⟩ := id hu
      obtain ⟨ub, uo, rfl, hub, _⟩ := huc (by intro e; simp [e] at hfk)
      clear huc
      replace z0 := (hB.cell (p := ⟨b, off + k * 5, none⟩) hbl).trans z0
      replace z1 := (hB.cell (p := ⟨b, off + k * 5 + 1, none⟩) hbl).trans z1
      replace z2 := (hB.cell (p := ⟨b, off + k * 5 + 2, none⟩) hbl).trans z2
      replace z3 := (hB.cell (p := ⟨b, off + k * 5 + 3, none⟩) hbl).trans z3
      replace z4 := (hB.cell (p := ⟨b, off + k * 5 + 4, none⟩) hbl).trans z4
      have hzw := hB.size
      have hzz := Z.1
      have hA := below2 wr (.cells #[.string tkk, .int .i64 tks, .int .i64 tkd, .string tkv, .slice (some ⟨ub, uo, none⟩) tkx.length uc] 73) (.cells #[] 3)
      have T0 := (Box.new wr #[.string tkk, .int .i64 tks, .int .i64 tkd, .string tkv, .slice (some ⟨ub, uo, none⟩) tkx.length uc] 73).alloc (.cells #[] 3)
      have E0 := empty_new (wr.alloc (.cells #[.string tkk, .int .i64 tks, .int .i64 tkd, .string tkv, .slice (some ⟨ub, uo, none⟩) tkx.length uc] 73)) 3
      simp only [World.size_alloc] at E0
      have hN := (hu.below (below_then hB hA)).news
      obtain ⟨l1, l2, l3⟩ := S.lt
      replace S := S.below hA
      replace X := X.below hA
      replace Z := Z.below hA
      replace hB := below_then hB hA
      clear hA
      go_wp2_with (at_builtin; refine wpList_append_own_at _ rfl _ _ 23 rfl (wr.heap.size + 1) 3 i0 (.int .i64 0) 1 8 Tryd.underlying23 hi hz0 hzs hzb rfl (by decide) (.slice (some ⟨wr.heap.size + 1, 0, none⟩) 0 0) 0 [] rfl E0 ⟨ub, uo, none⟩ tkx.length uc (tkx.map (.int .i64)) rfl (by simp) hN (ints_one tkx) (by unfold maxLen; omega) (by omega) (by simp) ?_; intro v3 w3 o3 hgr3 _ hat3; refine Stop.go ?_)
      have C3 := chg_of_grown hgr3
      have hz3 := C3.size
      simp only [World.size_alloc] at hz3
      obtain ⟨go, co, rfl, hgob, hgol⟩ := some_of o3 (by omega)
      simp only [Nat.zero_add, List.nil_append] at o3
      have hNE : ∀ g, (Value.slice (some ⟨wr.heap.size + 1, 0, none⟩) 0 0).ownBlock = some g → g = wr.heap.size + 1 := fun g hg => blk_eq hg
      replace S := S.chg C3 (fun g hg e => by have := hNE g e; have := (l1 g hg).2; omega) (fun e => by have := hNE _ e; omega) (fun g hg e => by have := hNE g e; have := (l3 g hg).2; omega)
      replace X := C3.box X (fun e => by have := hNE _ e; omega)
      replace Z := C3.box Z (fun e => by have := hNE _ e; omega)
      have T3 := C3.box T0 (fun e => by have := hNE _ e; omega)
      replace hB := hB.trans (C3.below (B := w.heap.size) (by have := hB.size; omega) (fun g e => by have := hNE g e; omega))
      clear C3 hgr3 hat3 T0 E0 hN hNE z0 z1 z2 z3 z4
      obtain ⟨tl, t0, t1, t2, t3, t4⟩ := T3.c5
      have tf4 := T3.2.2 4
      have cc : Chg (· = wr.heap.size) w3 (w3.setCell ⟨wr.heap.size, 4, none⟩ (.slice (some ⟨go, 0, none⟩) tkx.length co)) := (Chg.refl (· = wr.heap.size) w3).setCell (p := ⟨wr.heap.size, 4, none⟩) rfl _
      have T4 := T3.set 4 (.slice (some ⟨go, 0, none⟩) tkx.length co) (by simp)
      replace S := S.chg cc (fun g hg e => by have := (l1 g hg).2; omega) (by omega) (fun g hg e => by have := (l3 g hg).2; omega)
      replace X := cc.box X (by omega)
      replace Z := cc.box Z (by omega)
      replace o3 := cc.owns o3 (fun g hg e => by have := blk_eq hg; omega)
      replace hB := hB.trans (cc.below (B := w.heap.size) (by have := hB.size; omega) (fun g e => by omega))
      have hA4 := below_alloc (w3.setCell ⟨wr.heap.size, 4, none⟩ (.slice (some ⟨go, 0, none⟩) tkx.length co)) (.cells #[.string tkk, .int .i64 tks, .int .i64 tkd, .string tkv, .slice (some ⟨go, 0, none⟩) tkx.length co] 73)
      have N4 := Box.new (w3.setCell ⟨wr.heap.size, 4, none⟩ (.slice (some ⟨go, 0, none⟩) tkx.length co)) #[.string tkk, .int .i64 tks, .int .i64 tkd, .string tkv, .slice (some ⟨go, 0, none⟩) tkx.length co] 73
      simp only [World.size_setCell] at N4
      have hsz5 : w3.heap.size ≤ (w3.setCell ⟨wr.heap.size, 4, none⟩ (.slice (some ⟨go, 0, none⟩) tkx.length co)).heap.size := cc.size
      replace S := S.below hA4
      replace X := X.below hA4
      replace Z := Z.below hA4
      replace o3 := owns_below o3 hA4
      replace hB := below_then hB hA4
      have hsz6 := hA4.size
      clear cc T3 hA4
      obtain ⟨_, n0, n1, n2, n3, n4⟩ := N4.c5
      have hrows := S.rows
      rw [HKL.out] at hrows
      unfold Stop
      simp only [Nat.zero_add]
      go_wp2_with (at_builtin; refine wpList_append_own_at _ rfl _ _ 24 rfl (w.heap.size + 1 + 1) 73 j0 (.agg #[.string ⟨#[]⟩, .int .i64 0, .int .i64 0, .string ⟨#[]⟩, .slice none 0 0]) 5 72 Tryd.underlying24 hj jz0 jzs jzb rfl (by decide) (.slice a k c) k (flat5 (List.zipWith rowU (ts.take k) (lnkVs (ts.take k) gs cs))) rfl hrows ⟨w3.heap.size, 0, none⟩ 1 1 (twCells ⟨tkk, tks, tkd, tkv, tkx⟩ (.slice (some ⟨go, 0, none⟩) tkx.length co)) rfl rfl (by intro j u hj; match j, hj with | 0, hj => simp [twCells] at hj; subst hj; simpa [Addr.add] using n0 | 1, hj => simp [twCells] at hj; subst hj; simpa [Addr.add] using n1 | 2, hj => simp [twCells] at hj; subst hj; simpa [Addr.add] using n2 | 3, hj => simp [twCells] at hj; subst hj; simpa [Addr.add] using n3 | 4, hj => simp [twCells] at hj; subst hj; simpa [Addr.add] using n4 | j + 5, hj => simp [twCells] at hj) (by intro u hu; simp [twCells] at hu; rcases hu with rfl | rfl | rfl | rfl | rfl <;> rfl) (by unfold maxLen; omega) (by omega) (by have := hB.size; omega) ?_; intro v5 w5 o5 hgr5 _ hat5; refine Stop.go ?_)
      have C5 := chg_of_grown hgr5
      obtain ⟨a5, c5, rfl⟩ := slice_of o5
      have S5 := S.snoc (vT' := .slice a5 (k + 1) c5) ⟨tkk, tks, tkd, tkv, tkx⟩ go co (by rw [HKL.out]; exact o5) C5 (owns_lower (C5.owns o3 (fun g hg e => by have := blk_eq hg; have := (l3 g e).2; omega)) (by omega)) (fun hm => by have := (l1 _ hm).2; omega) (by omega) (by rcases hat5 with e | e; exact .inl e; exact .inr ⟨_, e, Nat.le_refl _⟩) (by omega) (fun g hg e => by have := (l3 g hg).2; omega)
      replace X := C5.box X (fun e => by have := (l3 _ e).1; omega)
      replace Z := C5.box Z (fun e => by have := (l3 _ e).1; omega)
      replace hB := hB.trans (C5.below (B := w.heap.size) (by have := hB.size; omega) (fun g e => by have := (l3 g e).1; omega))
      have HS5 : Hid (OwnS w5 (w.heap.size + 1 + 1) hs (ts.take (k + 1)) (.slice a5 (k + 1) c5) g1 c1 (gs ++ [go]) (cs ++ [co])) := by show OwnS _ _ _ _ _ _ _ _ _; rw [HTK.out]; exact S5
      clear C5 S5 S o5 o3 hgr5 hat5 hrows N4 n0 n1 n2 n3 n4 T4 t0 t1 t2 t3 t4 tf4 HTK
      unfold Stop
      go_wp2
      go_roundw
      case rel => exact ⟨k + 1, a5, c5, _, _, by omega, by go_num, rfl, HS5.out, X, Z, hB⟩
      case measure => simp [intOf]; omega
    · obtain rfl : k = ts.length := by omega
      rw [List.take_length] at S
      obtain ⟨l1, l2, l3⟩ := S.lt
      obtain ⟨xl, x0, x1⟩ := X.c2
      have xf1 := X.2.2 1
      obtain ⟨zl, z0, z1⟩ := Z.c2
      have zf0 := Z.2.2 0
      have zf1 := Z.2.2 1
      have cc : Chg (fun b => b = w.heap.size ∨ b = w.heap.size + 1) wr (((wr.setCell ⟨w.heap.size, 1, none⟩ (.slice a ts.length c)).setCell ⟨w.heap.size + 1, 0, none⟩ (.slice (some ⟨g1, 0, none⟩) hs.length c1)).setCell ⟨w.heap.size + 1, 1, none⟩ (.slice a ts.length c)) := (((Chg.refl (fun b => b = w.heap.size ∨ b = w.heap.size + 1) wr).setCell (p := ⟨w.heap.size, 1, none⟩) (.inl rfl) _).setCell (p := ⟨w.heap.size + 1, 0, none⟩) (.inr rfl) _).setCell (p := ⟨w.heap.size + 1, 1, none⟩) (.inr rfl) _
      have S6 := S.chg cc (fun g hg e => by have := (l1 g hg).1; omega) (by omega) (fun g hg e => by have := (l3 g hg).1; omega)
      have B6 := hB.trans (cc.below (B := w.heap.size) hB.size (fun g e => by omega))
      have Z6 := ((Z.setOther ⟨w.heap.size, 1, none⟩ (.slice a ts.length c) (by simp)).set 0 (.slice (some ⟨g1, 0, none⟩) hs.length c1) (by simp)).set 1 (.slice a ts.length c) (by simp)
      clear cc S hB
      go_wp2
      obtain ⟨_, q0, q1⟩ := Z6.c2
      exact bodyPost_ret (v := .agg #[.slice (some ⟨g1, 0, none⟩) hs.length c1, .slice a ts.length c]) (by simp [results, Tryd.results47, go_sem, q0, q1]) rfl ⟨⟨_, g1, c1, _, _, rfl, S6⟩, B6⟩
end Go.Proofs.YtdaldkcildbcmaaDoor
