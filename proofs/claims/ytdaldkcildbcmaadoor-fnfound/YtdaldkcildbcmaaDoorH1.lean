/-
  impl: level: the numbers of a level as far as they rise.
-/
import Derived.Test.YtdaldkcildbcmaaDoorG8
import Derived.Test.YtdaldkcildbcmaaDoorH0
namespace Go.Proofs.YtdaldkcildbcmaaDoor
open Go.RowKit
set_option linter.unusedVariables false
set_option maxRecDepth 100000

/-- The walk stands here. -/
def Stop (p : Prop) : Prop := p
theorem Stop.go {p : Prop} (h : Stop p) : p := h
theorem Box.under {w w' : World} {b B : Nat} {vs : List Value} (h : Box w b vs) (hb : Below B w w') (hB : b < B) : Box w' b vs :=
  ⟨Nat.lt_of_lt_of_le h.1 hb.size, fun j v hv => (hb.cell (p := ⟨b, j, none⟩) hB).trans (h.2.1 j v hv), fun j => (hb.frozen (p := ⟨b, j, none⟩) hB).trans (h.2.2 j)⟩
def slLen : Value → Nat
  | .slice _ n _ => n
  | _ => 0
theorem owns_slLen {w : World} {base n : Nat} {e : TypeId} {v : Value} {xs : List Value} (h : w.ownsRow base e 1 v n xs) : slLen v = n := by
  obtain ⟨hl, h⟩ := h
  rcases h with ⟨rfl, h0⟩ | ⟨g, cap, cur, rfl, _⟩
  · exact h0.symm
  · rfl
/-- What level answers: v and b, where o are the numbers. -/
def LevA (w : World) (base : Nat) (o : Option (List Int)) (v : Value) (b : Bool) : Prop :=
  (o = none ∧ v = .slice none 0 0 ∧ b = false) ∨ ∃ l, o = some l ∧ b = true ∧ w.ownsRow base 3 1 v l.length (l.map (.int .i64))
theorem mayFollow_any (x y : Value) (ts : List Tw) (lv : Nat) (ahead at_ : Int) (w : World) (hy : TW w y ts) (hn : ts.length ≤ 1048576) (hl : lv ≤ 5) (ha : ahead = -1 ∨ ∃ j : Nat, ahead = j ∧ j < ts.length) (hf : ∀ i : Nat, i < ts.length → (tw ts i).next.length ≤ 1048576) :
    Calls Tryd.prog 87 #[.agg #[x, y], .int .i64 ahead, .int .i64 at_, .int .i64 lv] w fun e w' => e = .returned (.bool (mayB ts lv ahead at_)) ∧ Below w.heap.size w w' := by
  rcases ha with rfl | ⟨j, rfl, hj⟩
  · exact mayFollow_first x y ts lv at_ w hy hn hl hf
  · exact mayFollow_next x y ts lv j at_ w hy hn hl hj hf

set_option maxHeartbeats 4000000 in
theorem level_any (x y : Value) (hs : List Int) (ts : List Tw) (lv : Nat) (w : World) (hx : IL w x hs) (hy : TW w y ts) (h5 : hs.length = 5) (hl : lv < 5) (hn : ts.length ≤ 60) (hf : ∀ i : Nat, i < ts.length → (tw ts i).next.length ≤ 1048576) :
    Calls Tryd.prog 48 #[.agg #[x, y], .int .i64 lv] w fun e w' => (∃ v b, e = .returned (.tuple #[v, .bool b]) ∧ LevA w' (w.heap.size + 1) (lev ts lv (ts.length + 1) (-1) (hs.getD lv 0)) v b) ∧ Below w.heap.size w w' := by
  obtain ⟨i0, hi, hz0, hzs, hzb⟩ := info_parts Tryd.info3
  obtain ⟨ax, cx, rfl, hcx⟩ := hx
  obtain ⟨bx, ox, rfl, hbx, hcell⟩ := hcx (by intro e; simp [e] at h5)
  have c0 := hcell lv (by omega)
  rw [show hs[lv] = hs.getD lv 0 from by simp [List.getD, h5, hl]] at c0
  clear hcell hcx
  rw [h5]
  generalize hs.getD lv 0 = h at *
  obtain ⟨ty, cy, hye, _⟩ := id hy
  subst hye
  replace c0 := ((below_alloc w (.cells #[.slice (some ⟨bx, ox, none⟩) 5 cx, .slice ty ts.length cy] 74)).cell (p := ⟨bx, ox + lv, none⟩) hbx).trans c0
  go_enter Tryd.func48, Tryd.ntmps48
  go_wp2
  go_loopw [6, 7, 8] (fun n a z wr => ∃ (acc : List Int) (ahead at_ : Int), LvI ts lv h acc ahead at_ ∧ a = .int .i64 ahead ∧ z = .int .i64 at_ ∧ wr.ownsRow (w.heap.size + 1) 3 1 n acc.length (acc.map (.int .i64)) ∧ Box wr w.heap.size [.slice (some ⟨bx, ox, none⟩) 5 cx, .slice ty ts.length cy] ∧ Below w.heap.size w wr) (fun n _ _ _ => 61 - slLen n)
  case atStart =>
    exact ⟨[], -1, h, LvI.start ts lv h, rfl, rfl, World.ownsRow_nil _ _ _ _, Box.new w #[.slice (some ⟨bx, ox, none⟩) 5 cx, .slice ty ts.length cy] 74, below_alloc _ _⟩
  case round =>
    obtain ⟨acc, ahead, at_, HI, rfl, rfl, ho, X, hb⟩ := hrel
    clear c0
    have hsh := HI.short
    have HL : Hid (slLen u6 = acc.length) := owns_slLen ho
    by_cases hend : at_ = -1
    · subst hend
      have HF : Hid (lev ts lv (ts.length + 1) (-1) h = some acc) := HI.fin
      clear HI
      go_wp2
      refine bodyPost_ret (v := .tuple #[u6, .bool true]) ?_ rfl ⟨⟨_, _, rfl, .inr ⟨acc, HF.out, rfl, ho⟩⟩, hb⟩
      simp [results, Tryd.results48, go_sem]
    · have KM := fun w hw => mayFollow_any (.slice (some ⟨bx, ox, none⟩) 5 cx) (.slice ty ts.length cy) ts lv ahead at_ w hw (by omega) (by omega) HI.ahead hf
      obtain ⟨hxl, x0, x1⟩ := X.c2
      cases hm : mayB ts lv ahead at_ with
      | false =>
        have HF : Hid (lev ts lv (ts.length + 1) (-1) h = none) := HI.stop hend hm
        rw [hm] at KM
        clear HI hm
        go_wp2_with fail
        refine (KM _ (hy.below hb)).mono ?_
        rintro e w1 ⟨rfl, hb1⟩
        have hB1 := below_then hb hb1
        clear KM hb1 hb
        go_wp2
        refine bodyPost_ret (v := .tuple #[.slice none 0 0, .bool false]) ?_ rfl ⟨⟨_, _, rfl, .inl ⟨HF.out, rfl, rfl⟩⟩, hB1⟩
        simp [results, Tryd.results48, go_sem]
      | true =>
        have HN := HI.step hend hm
        have hsh2 := HN.short
        obtain ⟨⟨k0, k1, k2⟩, _⟩ := (mayB_iff _ _ _ _).1 hm
        rw [hm] at KM
        clear HI hm
        obtain ⟨i, rfl⟩ := Int.eq_ofNat_of_zero_le k0
        have hit : i < ts.length := by omega
        have hne : ¬ (i : Int) = -1 := hend
        have hneb : ((i : Int) == -1) = false := by simp
        rw [List.length_append, List.length_singleton] at hsh2
        go_wp2_with fail
        refine (KM _ (hy.below hb)).mono ?_
        rintro e w1 ⟨rfl, hb1⟩
        have hB1 := below_then hb hb1
        have o1 := owns_below ho hb1
        have X1 := X.below hb1
        have hz1 : w.heap.size + 1 ≤ w1.heap.size := by have := X1.1; omega
        clear KM hb1 hb ho X x0 x1
        go_wp2_with (at_builtin; refine wpList_append_own _ rfl _ _ 23 rfl (w.heap.size + 1) 3 i0 (.int .i64 0) 1 8 Tryd.underlying23 hi hz0 hzs hzb rfl (by decide) _ acc.length (acc.map (.int .i64)) rfl (owns_below o1 (below_alloc _ _)) ⟨w1.heap.size, 0, none⟩ 1 1 [.int .i64 (i : Int)] rfl rfl (by intro j u hj; match j, hj with | 0, hj => simp at hj; subst hj; simp [Addr.add]) (by intro u hu; simp at hu; subst hu; rfl) (by unfold maxLen; omega) (by omega) (by simp; omega) ?_; intro v' w4 hown4 hgrow4 _; refine Stop.go ?_)
        have hBb : Below (w.heap.size + 1) w1 w4 := ((Below.refl _ _).alloc (by omega) _).grown hgrow4 (by simp; omega) (owns_ge o1)
        have hB4 : Below w.heap.size w w4 := hB1.trans (hBb.mono (by omega))
        have X4 := X1.under hBb (by omega)
        clear hBb X1 o1 hgrow4
        obtain ⟨hx4, x0, x1⟩ := X4.c2
        obtain ⟨b, off, cap, u, hv, hbl, ⟨z0, z1, z2, z3, z4⟩, hu⟩ := (hy.below hB4).cells i hit
        simp only [Value.slice.injEq, true_and] at hv
        obtain ⟨rfl, rfl⟩ := hv
        have HNX : Hid (nx ts (i : Int) lv = (tw ts (i : Int)).next.getD lv 0) := rfl
        generalize nx ts (i : Int) lv = nn at *
        generalize tw ts (i : Int) = s at *
        obtain ⟨sk, sn, sd, sv, sx⟩ := s
        dsimp only at z0 z1 z2 z3 hu k2 HNX
        obtain ⟨a', cap', rfl, hcu⟩ := hu
        obtain ⟨bu, ou, rfl, hbu, hcu⟩ := hcu (by intro e; simp [e] at k2)
        have cu := hcu lv k2
        rw [show sx[lv] = nn from by rw [HNX.out]; simp [List.getD, k2]] at cu
        have k2i : (lv : Int) < sx.length := by omega
        have hmt := method_links sk sv sn sd (.slice (some ⟨bu, ou, none⟩) sx.length cap')
        clear hcu HNX
        unfold Stop
        go_wp2_with fail
        refine (links_any sk sv sn sd (.slice (some ⟨bu, ou, none⟩) sx.length cap') _).mono ?_
        rintro e w5 ⟨rfl, hb5⟩
        have hB5 := below_then hB4 hb5
        have o5 := owns_below hown4 hb5
        have X5 := X4.below hb5
        replace cu := (hb5.cell (p := ⟨bu, ou + lv, none⟩) hbu).trans cu
        clear hb5 hmt z0 z1 z2 z3 z4 x0 x1 X4 hown4
        go_wp2
        go_roundw
        case rel => exact ⟨acc ++ [(i : Int)], i, nn, HN, rfl, rfl, by rw [List.map_append, List.length_append]; exact o5, X5, hB5⟩
        case measure => rw [owns_slLen o5, HL.out]; omega
end Go.Proofs.YtdaldkcildbcmaaDoor
