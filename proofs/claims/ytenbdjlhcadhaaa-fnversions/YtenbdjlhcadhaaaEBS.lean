/-
  EditBetween: the specification's side.
-/
import Derived.Test.YtenbdjlhcadhaaaEBI
namespace Go.Proofs.Ytenbdjlhcadhaaa
open Go.RowKit Go.Maps
set_option linter.unusedVariables false
set_option maxRecDepth 100000

set_option maxHeartbeats 8000000 in
theorem specBetween_any (nx sq nx2 sq2 : Int) (va vb : Value) (la lb : List Mt) (w : World) (HA : IX w va la) (HB : IX w vb lb) (hna : la.length ≤ 1048576) (hnb : lb.length ≤ 1048576) (hsa : ∀ i (h : i < la.length), la[i].k.size ≤ 1048576 ∧ la[i].v.size ≤ 1048576) (hsb : ∀ i (h : i < lb.length), lb[i].k.size ≤ 1048576 ∧ lb[i].v.size ≤ 1048576) :
    Calls Try.prog 15 #[.agg #[.int .i64 nx, .int .i64 sq, va], .agg #[.int .i64 nx2, .int .i64 sq2, vb]] w fun e w' => ∃ u1 u2, e = .returned (.tuple #[.agg #[.int .i64 (ebX nx sq la nx2 sq2 lb), .int .i64 (ebY nx sq la nx2 sq2 lb), u1, u2], .bool (ebB nx sq la nx2 sq2 lb)]) ∧ w'.ownsRow w.heap.size 3 1 u1 (ebD nx sq la nx2 sq2 lb).length ((ebD nx sq la nx2 sq2 lb).map (.int .i64)) ∧ w'.ownsRow w.heap.size 82 4 u2 (ebA nx sq la nx2 sq2 lb).length (flat4 (ebA nx sq la nx2 sq2 lb)) ∧ Below w.heap.size w w' := by
  obtain ⟨i0, hi, hz0, hzs, hzb⟩ := info_parts Try.info3
  obtain ⟨W0, hW0⟩ : ∃ W0, W0 = ((w.alloc (.cells #[.int .i64 nx, .int .i64 sq, va] 25)).alloc (.cells #[.int .i64 nx2, .int .i64 sq2, vb] 25)).alloc (.cells #[.int .i64 0, .int .i64 0, .slice none 0 0, .slice none 0 0] 30) := ⟨_, rfl⟩
  have hB : Below w.heap.size w W0 := by rw [hW0]; exact below3 _ _ _ _
  have X : Box W0 w.heap.size [.int .i64 nx, .int .i64 sq, va] := by rw [hW0]; exact ((Box.new w #[.int .i64 nx, .int .i64 sq, va] 25).alloc _).alloc _
  have Y : Box W0 (w.heap.size + 1) [.int .i64 nx2, .int .i64 sq2, vb] := by
    rw [hW0]
    have := (Box.new (w.alloc (.cells #[.int .i64 nx, .int .i64 sq, va] 25)) #[.int .i64 nx2, .int .i64 sq2, vb] 25).alloc (.cells #[.int .i64 0, .int .i64 0, .slice none 0 0, .slice none 0 0] 30)
    simpa using this
  have R : Box W0 (w.heap.size + 1 + 1) [.int .i64 0, .int .i64 0, .slice none 0 0, .slice none 0 0] := by
    rw [hW0]
    have := Box.new ((w.alloc (.cells #[.int .i64 nx, .int .i64 sq, va] 25)).alloc (.cells #[.int .i64 nx2, .int .i64 sq2, vb] 25)) #[.int .i64 0, .int .i64 0, .slice none 0 0, .slice none 0 0] 30
    simpa using this
  have KA := specGoodV_any nx sq va la _ (HA.below hB) hna hsa
  have KB := fun w h => specGoodV_any nx2 sq2 vb lb w h hnb hsb
  have HP : Hid (ebB nx sq la nx2 sq2 lb = (goodV nx sq la && goodV nx2 sq2 lb && decide (nx ≤ nx2) && decide (sq ≤ sq2)) ∧ ebX nx sq la nx2 sq2 lb = (if ebB nx sq la nx2 sq2 lb then nx2 else 0) ∧ ebY nx sq la nx2 sq2 lb = (if ebB nx sq la nx2 sq2 lb then sq2 else 0) ∧ ebD nx sq la nx2 sq2 lb = (if ebB nx sq la nx2 sq2 lb then (lkL lb la la.length).map (·.n) else []) ∧ ebA nx sq la nx2 sq2 lb = (if ebB nx sq la nx2 sq2 lb then lkL la lb lb.length else [])) := ⟨rfl, rfl, rfl, rfl, rfl⟩
  have HGA : Hid (goodV nx sq la = true → goodMs la = true ∧ la.length ≤ 30) := fun h => ⟨goodV_ms h, goodV_len h⟩
  have HGB : Hid (goodV nx2 sq2 lb = true → goodMs lb = true ∧ lb.length ≤ 30) := fun h => ⟨goodV_ms h, goodV_len h⟩
  generalize ebB nx sq la nx2 sq2 lb = BB at *
  generalize ebX nx sq la nx2 sq2 lb = RX at *
  generalize ebY nx sq la nx2 sq2 lb = RY at *
  generalize ebD nx sq la nx2 sq2 lb = RD at *
  generalize ebA nx sq la nx2 sq2 lb = RA at *
  generalize goodV nx sq la = g1 at *
  generalize goodV nx2 sq2 lb = g2 at *
  have hva := HA.1
  have hvb := HB.1
  obtain ⟨a, ca, hve, _⟩ := id hva
  obtain ⟨a2, cb, hve2, _⟩ := id hvb
  subst hve hve2
  clear hsa hsb HA
  obtain ⟨hp, p0, p1, p2, _⟩ := X.c3
  go_enter Try.func15, Try.ntmps15
  go_wp2_with fail
  rw [← hW0]; clear hW0
  refine KA.mono ?_
  rintro e w1 ⟨rfl, hb1⟩
  replace hB := below_then hB hb1
  replace X := X.below hb1
  replace Y := Y.below hb1
  replace R := R.below hb1
  clear hb1 KA hp p0 p1 p2
  cases g1
  · clear KB
    obtain rfl : BB = false := by rw [HP.out.1]; simp
    obtain ⟨rfl, rfl, rfl, rfl⟩ : RX = 0 ∧ RY = 0 ∧ RD = [] ∧ RA = [] := ⟨HP.out.2.1, HP.out.2.2.1, HP.out.2.2.2.1, HP.out.2.2.2.2⟩
    obtain ⟨hr, r0, r1, r2, r3, f0, f1, f2, f3⟩ := R.e4
    have hBE := hB.trans ((put4_chg _ (w.heap.size + 1 + 1) (.int .i64 0) (.int .i64 0) (.slice none 0 0) (.slice none 0 0)).below (B := w.heap.size) hB.size (fun k hk => by omega))
    clear HP HGA HGB
    go_wp2
    exact bodyPost_ret (v := .tuple #[.agg #[.int .i64 0, .int .i64 0, .slice none 0 0, .slice none 0 0], .bool false]) (by simp [results, Try.results15, go_sem, r0, r1, r2, r3]) rfl ⟨_, _, rfl, World.ownsRow_nil _ _ _ _, World.ownsRow_nil _ _ _ _, hBE⟩
  have KB2 := KB _ (HB.below hB)
  clear KB
  obtain ⟨hp, p0, p1, p2, _⟩ := Y.c3
  go_wp2_with fail
  refine KB2.mono ?_
  rintro e w2 ⟨rfl, hb2⟩
  replace hB := below_then hB hb2
  replace X := X.below hb2
  replace Y := Y.below hb2
  replace R := R.below hb2
  clear hb2 KB2 hp p0 p1 p2
  cases g2
  · obtain rfl : BB = false := by rw [HP.out.1]; simp
    obtain ⟨rfl, rfl, rfl, rfl⟩ : RX = 0 ∧ RY = 0 ∧ RD = [] ∧ RA = [] := ⟨HP.out.2.1, HP.out.2.2.1, HP.out.2.2.2.1, HP.out.2.2.2.2⟩
    obtain ⟨hr, r0, r1, r2, r3, f0, f1, f2, f3⟩ := R.e4
    have hBE := hB.trans ((put4_chg _ (w.heap.size + 1 + 1) (.int .i64 0) (.int .i64 0) (.slice none 0 0) (.slice none 0 0)).below (B := w.heap.size) hB.size (fun k hk => by omega))
    clear HP HGA HGB
    go_wp2
    exact bodyPost_ret (v := .tuple #[.agg #[.int .i64 0, .int .i64 0, .slice none 0 0, .slice none 0 0], .bool false]) (by simp [results, Try.results15, go_sem, r0, r1, r2, r3]) rfl ⟨_, _, rfl, World.ownsRow_nil _ _ _ _, World.ownsRow_nil _ _ _ _, hBE⟩
  obtain ⟨hp, p0, p1, p2, _⟩ := X.c3
  obtain ⟨hq, q0, q1, q2, _⟩ := Y.c3
  by_cases h1 : nx ≤ nx2
  rotate_left
  · obtain rfl : BB = false := by rw [HP.out.1]; simp [h1]
    obtain ⟨rfl, rfl, rfl, rfl⟩ : RX = 0 ∧ RY = 0 ∧ RD = [] ∧ RA = [] := ⟨HP.out.2.1, HP.out.2.2.1, HP.out.2.2.2.1, HP.out.2.2.2.2⟩
    obtain ⟨hr, r0, r1, r2, r3, f0, f1, f2, f3⟩ := R.e4
    have hBE := hB.trans ((put4_chg _ (w.heap.size + 1 + 1) (.int .i64 0) (.int .i64 0) (.slice none 0 0) (.slice none 0 0)).below (B := w.heap.size) hB.size (fun k hk => by omega))
    clear HP HGA HGB
    go_wp2
    exact bodyPost_ret (v := .tuple #[.agg #[.int .i64 0, .int .i64 0, .slice none 0 0, .slice none 0 0], .bool false]) (by simp [results, Try.results15, go_sem, r0, r1, r2, r3]) rfl ⟨_, _, rfl, World.ownsRow_nil _ _ _ _, World.ownsRow_nil _ _ _ _, hBE⟩
  by_cases h2 : sq ≤ sq2
  rotate_left
  · obtain rfl : BB = false := by rw [HP.out.1]; simp [h2]
    obtain ⟨rfl, rfl, rfl, rfl⟩ : RX = 0 ∧ RY = 0 ∧ RD = [] ∧ RA = [] := ⟨HP.out.2.1, HP.out.2.2.1, HP.out.2.2.2.1, HP.out.2.2.2.2⟩
    obtain ⟨hr, r0, r1, r2, r3, f0, f1, f2, f3⟩ := R.e4
    have hBE := hB.trans ((put4_chg _ (w.heap.size + 1 + 1) (.int .i64 0) (.int .i64 0) (.slice none 0 0) (.slice none 0 0)).below (B := w.heap.size) hB.size (fun k hk => by omega))
    clear HP HGA HGB
    go_wp2
    exact bodyPost_ret (v := .tuple #[.agg #[.int .i64 0, .int .i64 0, .slice none 0 0, .slice none 0 0], .bool false]) (by simp [results, Try.results15, go_sem, r0, r1, r2, r3]) rfl ⟨_, _, rfl, World.ownsRow_nil _ _ _ _, World.ownsRow_nil _ _ _ _, hBE⟩
  obtain rfl : BB = true := by rw [HP.out.1]; simp [h1, h2]
  have hRX : nx2 = RX := HP.out.2.1.symm
  have hRY : sq2 = RY := HP.out.2.2.1.symm
  have hRD : Hid (RD = (lkL lb la la.length).map (·.n)) := HP.out.2.2.2.1
  have hRA : Hid (RA = lkL la lb lb.length) := HP.out.2.2.2.2
  subst hRX hRY
  obtain ⟨j0, hj, hj0, hjs, hjb⟩ := info_parts Try.info82
  have h30a := (HGA.out (by trivial)).2
  have h30b := (HGB.out (by trivial)).2
  have hcA := hva
  have hcB := hvb
  obtain ⟨a', ca', hveA, hca⟩ := hcA
  obtain ⟨a2', cb', hveB, hcb⟩ := hcB
  simp only [Value.slice.injEq, true_and] at hveA hveB
  obtain ⟨rfl, rfl⟩ := hveA
  obtain ⟨rfl, rfl⟩ := hveB
  clear HP HGA HGB HB
  obtain ⟨W5, hW5⟩ : ∃ W5, W5 = w2.alloc (.cells #[.int .i64 nx2, .int .i64 sq2, .slice none 0 0, .slice none 0 0] 30) := ⟨_, rfl⟩
  have hb5 : Below w2.heap.size w2 W5 := by rw [hW5]; exact below_alloc _ _
  have Z : Box W5 w2.heap.size [.int .i64 nx2, .int .i64 sq2, .slice none 0 0, .slice none 0 0] := by rw [hW5]; exact Box.new w2 #[.int .i64 nx2, .int .i64 sq2, .slice none 0 0, .slice none 0 0] 30
  have hbR := R.1
  go_wp2
  rw [← hW5]
  clear hp p0 p1 p2 hq q0 q1 q2 hW5
  replace hB := below_then hB hb5
  replace X := X.below hb5
  replace Y := Y.below hb5
  replace R := R.below hb5
  clear hb5
  generalize w2.heap.size = b at *
  have hz5 := hB.size
  have hbl5 := Z.1
  go_loopw [42] (fun i wr => ∃ (k : Nat) (u1 : Value), k ≤ la.length ∧ i = .int .i64 k ∧ Box wr b [.int .i64 nx2, .int .i64 sq2, u1, .slice none 0 0] ∧ wr.ownsRow W5.heap.size 3 1 u1 (lkL lb la k).length (((lkL lb la k).map (·.n)).map (.int .i64)) ∧ Chg (fun j => j = b ∨ W5.heap.size ≤ j) W5 wr) (fun i _ => la.length - (intOf i).toNat)
  case atStart => exact ⟨0, .slice none 0 0, Nat.zero_le _, rfl, Z, World.ownsRow_nil _ _ _ _, Chg.refl _ _⟩
  case round =>
    clear Z
    obtain ⟨k, u1, hk, rfl, Zr, O1, hC⟩ := hrel
    have hBr := hB.trans (hC.below (B := w.heap.size) hz5 (fun j hj => by omega))
    have hzr := hC.size
    have hzw := hBr.size
    have Xr := hC.box X (by omega)
    have Yr := hC.box Y (by omega)
    obtain ⟨v1a, v1c, rfl⟩ := owns_shape O1
    by_cases hlt : k < la.length
    · obtain ⟨b', off, rfl, hbl, hcell⟩ := hca (by intro e; simp [e] at hlt)
      have hc0 := (hBr.cell (p := ⟨b', off + k * 4, none⟩) hbl).trans (hcell k hlt).1
      have hc1 := (hBr.cell (p := ⟨b', off + k * 4 + 1, none⟩) hbl).trans (hcell k hlt).2.1
      have hc2 := (hBr.cell (p := ⟨b', off + k * 4 + 2, none⟩) hbl).trans (hcell k hlt).2.2.1
      have hc3 := (hBr.cell (p := ⟨b', off + k * 4 + 3, none⟩) hbl).trans (hcell k hlt).2.2.2
      have hbl2 : b' < wr.heap.size := by omega
      have HY : Hid (hasM lb la[k] = false → ((lkL lb la (k + 1)).map (·.n)).map (Value.int .i64) = ((lkL lb la k).map (·.n)).map (Value.int .i64) ++ [.int .i64 la[k].n] ∧ (lkL lb la (k + 1)).length = (lkL lb la k).length + 1) := fun h => by rw [lkL_yes lb la k hlt h]; simp
      have HN : Hid (hasM lb la[k] = true → ((lkL lb la (k + 1)).map (·.n)).map (Value.int .i64) = ((lkL lb la k).map (·.n)).map (Value.int .i64) ∧ (lkL lb la (k + 1)).length = (lkL lb la k).length) := fun h => by rw [lkL_no lb la k hlt h]; exact ⟨rfl, rfl⟩
      obtain ⟨W1, hW1⟩ : ∃ W1, W1 = wr.alloc (.cells #[.int .i64 la[k].n, .int .i64 la[k].d, .string la[k].k, .string la[k].v] 82) := ⟨_, rfl⟩
      have hbA : Below wr.heap.size wr W1 := by rw [hW1]; exact below_alloc _ _
      have T1 : Box W1 wr.heap.size [.int .i64 la[k].n, .int .i64 la[k].d, .string la[k].k, .string la[k].v] := by rw [hW1]; exact Box.new wr #[.int .i64 la[k].n, .int .i64 la[k].d, .string la[k].k, .string la[k].v] 82
      have KH := l9Has_any la[k].n la[k].d la[k].k la[k].v (.slice a2 lb.length cb) lb W1 (hvb.below (below_then hBr hbA)) hnb
      have HC : Hid (hasM lb ⟨la[k].n, la[k].d, la[k].k, la[k].v⟩ = hasM lb la[k]) := rfl
      rw [HC.out] at KH
      have hol := lkL_len lb la k
      have hlen : (((lkL lb la k).map (·.n)).map (Value.int .i64)).length = (lkL lb la k).length := by simp
      clear hcell hca HC
      generalize hasM lb la[k] = c at *
      generalize ((lkL lb la k).map (·.n)).map (Value.int .i64) = zs at *
      generalize hN : (lkL lb la k).length = nz at *
      clear hN
      generalize la[k] = t at *
      obtain ⟨tn, td, tk, tv⟩ := t
      dsimp only at *
      obtain ⟨hyl, y0, y1, y2, _⟩ := Yr.c3
      go_wp2_with fail
      rw [← hW1]
      refine KH.mono ?_
      rintro e w3 ⟨rfl, hb3⟩
      have hb4 := below_then hbA hb3
      have T3 := T1.below hb3
      have Z3 := Zr.below hb4
      have O3 := owns_below O1 hb4
      have hC3 := hC.trans (Chg.of_below hb4)
      clear KH hb3 hbA hb4 T1 Zr O1 hC hW1 hyl y0 y1 y2 hc0 hc1 hc2 hc3 Xr Yr
      have hz3 := hC3.size
      cases c
      · have HY2 : Hid (((lkL lb la (k + 1)).map (·.n)).map (Value.int .i64) = zs ++ [.int .i64 tn] ∧ (lkL lb la (k + 1)).length = nz + 1) := HY.out (by trivial)
        clear HY HN
        obtain ⟨ht3, t0, _⟩ := T3.c4
        obtain ⟨hzl, z0, z1, z2, z3, f0, f1, f2, f3⟩ := Z3.e4
        have hgeA := owns_ge O3
        have hC1 : Chg (fun j => j = b ∨ W5.heap.size ≤ j) W5 (w3.alloc (.cells #[.int .i64 tn] 3)) := hC3.trans (Chg.of_below (below_alloc _ _))
        have Z1 := Z3.alloc (.cells #[.int .i64 tn] 3)
        go_wp2_with (at_builtin; refine wpList_append_own _ rfl _ _ 28 rfl W5.heap.size 3 i0 (.int .i64 0) 1 8 Try.underlying28 hi hz0 hzs hzb rfl (by decide) _ nz zs rfl (owns_below O3 (below_alloc _ _)) ⟨w3.heap.size, 0, none⟩ 1 1 [.int .i64 tn] rfl rfl (one_new w3 tn) (by intro u hu; simp at hu; subst hu; rfl) (by unfold maxLen; omega) (by omega) (by simp; omega) ?_; intro v' w7 hown7 hgrow7 _; refine Stop.go ?_)
        have hC7 : Chg (fun j => j = b ∨ W5.heap.size ≤ j) W5 w7 := hC1.trans ⟨hgrow7.os, hgrow7.tape, hgrow7.output, hgrow7.size, fun j hj hs => hgrow7.block j hj (fun e => hs (.inr (hgeA j e.symm)))⟩
        have Z7 : Box w7 b [.int .i64 nx2, .int .i64 sq2, .slice v1a nz v1c, .slice none 0 0] := Chg.box (S := fun j => (Value.slice v1a nz v1c).ownBlock = some j) ⟨hgrow7.os, hgrow7.tape, hgrow7.output, hgrow7.size, fun j hj hs => hgrow7.block j hj (fun e => hs e.symm)⟩ Z1 (fun e => by have := hgeA b e; omega)
        obtain ⟨v2a, v2c, rfl⟩ := owns_shape hown7
        have hbl7 := Z7.1
        have hge7 := owns_ge hown7
        clear z0 z1 z2 z3 f0 f1 f2 f3 t0
        obtain ⟨_, z0, z1, z2, z3, f0, f1, f2, f3⟩ := Z7.e4
        have Zn := Z7.set 2 (.slice v2a (nz + 1) v2c) (by simp)
        have On := (show Chg (fun j => j = b) w7 (w7.setCell ⟨b, 2, none⟩ (.slice v2a (nz + 1) v2c)) from Chg.setCell (S := fun j => j = b) (p := ⟨b, 2, none⟩) (Chg.refl _ _) rfl _).owns hown7 (fun g hg hh => by have := hge7 g hg; omega)
        have hCn := hC7.setCell (p := ⟨b, 2, none⟩) (.inl rfl) (.slice v2a (nz + 1) v2c)
        clear Z7 hown7 hC7 Z1 hC1 hgrow7 O3 Z3 T3 hC3
        unfold Stop
        go_wp2
        go_roundw
        case rel => exact ⟨k + 1, .slice v2a (nz + 1) v2c, by omega, by go_num, Zn, by rw [HY2.out.1, HY2.out.2]; exact On, hCn⟩
        case measure => simp [intOf]; omega
      · have HN2 : Hid (((lkL lb la (k + 1)).map (·.n)).map (Value.int .i64) = zs ∧ (lkL lb la (k + 1)).length = nz) := HN.out (by trivial)
        clear HY HN T3
        go_wp2
        go_roundw
        case rel => exact ⟨k + 1, .slice v1a nz v1c, by omega, by go_num, Z3, by rw [HN2.out.1, HN2.out.2]; exact O3, hC3⟩
        case measure => simp [intOf]; omega
    · obtain rfl : k = la.length := by omega
      have hlD : (lkL lb la la.length).length ≤ 30 := Nat.le_trans (lkL_len lb la la.length) h30a
      generalize lkL lb la la.length = ZD at *
      have hml : ((ZD.map (·.n)).map (Value.int .i64)).length = ZD.length := by simp
      generalize hzz : (ZD.map (·.n)).map (Value.int .i64) = zs at *
      have HZS : Hid (zs = (ZD.map (·.n)).map (Value.int .i64)) := hzz.symm
      clear hzz
      generalize hnd : ZD.length = nd at *
      have HND : Hid (nd = ZD.length) := hnd.symm
      clear hnd hca
      obtain ⟨hyl, y0, y1, y2, _⟩ := Yr.c3
      go_wp2
      clear hyl y0 y1 y2 Xr Yr
      go_loopw [62] (fun i wr => ∃ (k : Nat) (u2 : Value), k ≤ lb.length ∧ i = .int .i64 k ∧ Box wr b [.int .i64 nx2, .int .i64 sq2, .slice v1a nd v1c, u2] ∧ wr.ownsRow W5.heap.size 3 1 (.slice v1a nd v1c) nd zs ∧ wr.ownsRow W5.heap.size 82 4 u2 (lkL la lb k).length (flat4 (lkL la lb k)) ∧ Chg (fun j => j = b ∨ W5.heap.size ≤ j) W5 wr) (fun i _ => lb.length - (intOf i).toNat)
      case atStart => exact ⟨0, .slice none 0 0, Nat.zero_le _, rfl, Zr, O1, World.ownsRow_nil _ _ _ _, hC⟩
      case round =>
        clear Zr O1 hC hBr hzr hzw
        obtain ⟨k, u2, hk, rfl, Zr, O1, O2, hC⟩ := hrel
        have hBr := hB.trans (hC.below (B := w.heap.size) hz5 (fun j hj => by omega))
        have hzr := hC.size
        have hzw := hBr.size
        have Xr := hC.box X (by omega)
        obtain ⟨va2, vc2, rfl⟩ := owns_shape O2
        by_cases hlt : k < lb.length
        · obtain ⟨b', off, rfl, hbl, hcell⟩ := hcb (by intro e; simp [e] at hlt)
          have hc0 := (hBr.cell (p := ⟨b', off + k * 4, none⟩) hbl).trans (hcell k hlt).1
          have hc1 := (hBr.cell (p := ⟨b', off + k * 4 + 1, none⟩) hbl).trans (hcell k hlt).2.1
          have hc2 := (hBr.cell (p := ⟨b', off + k * 4 + 2, none⟩) hbl).trans (hcell k hlt).2.2.1
          have hc3 := (hBr.cell (p := ⟨b', off + k * 4 + 3, none⟩) hbl).trans (hcell k hlt).2.2.2
          have hbl2 : b' < wr.heap.size := by omega
          have HY : Hid (hasM la lb[k] = false → flat4 (lkL la lb (k + 1)) = flat4 (lkL la lb k) ++ [.int .i64 lb[k].n, .int .i64 lb[k].d, .string lb[k].k, .string lb[k].v] ∧ (lkL la lb (k + 1)).length = (lkL la lb k).length + 1) := fun h => by rw [lkL_yes la lb k hlt h, flat4_append]; exact ⟨rfl, by simp⟩
          have HN : Hid (hasM la lb[k] = true → flat4 (lkL la lb (k + 1)) = flat4 (lkL la lb k) ∧ (lkL la lb (k + 1)).length = (lkL la lb k).length) := fun h => by rw [lkL_no la lb k hlt h]; exact ⟨rfl, rfl⟩
          obtain ⟨W1, hW1⟩ : ∃ W1, W1 = wr.alloc (.cells #[.int .i64 lb[k].n, .int .i64 lb[k].d, .string lb[k].k, .string lb[k].v] 82) := ⟨_, rfl⟩
          have hbA : Below wr.heap.size wr W1 := by rw [hW1]; exact below_alloc _ _
          have T1 : Box W1 wr.heap.size [.int .i64 lb[k].n, .int .i64 lb[k].d, .string lb[k].k, .string lb[k].v] := by rw [hW1]; exact Box.new wr #[.int .i64 lb[k].n, .int .i64 lb[k].d, .string lb[k].k, .string lb[k].v] 82
          have KH := l9Has_any lb[k].n lb[k].d lb[k].k lb[k].v (.slice a la.length ca) la W1 (hva.below (below_then hBr hbA)) hna
          have HC : Hid (hasM la ⟨lb[k].n, lb[k].d, lb[k].k, lb[k].v⟩ = hasM la lb[k]) := rfl
          rw [HC.out] at KH
          have hol := lkL_len la lb k
          have hfl := flat4_length (lkL la lb k)
          clear hcell hcb HC
          generalize hasM la lb[k] = c at *
          generalize flat4 (lkL la lb k) = fs at *
          generalize hN : (lkL la lb k).length = nz at *
          clear hN
          generalize lb[k] = t at *
          obtain ⟨tn, td, tk, tv⟩ := t
          dsimp only at *
          obtain ⟨hyl, y0, y1, y2, _⟩ := Xr.c3
          go_wp2_with fail
          rw [← hW1]
          refine KH.mono ?_
          rintro e w3 ⟨rfl, hb3⟩
          have hb4 := below_then hbA hb3
          have T3 := T1.below hb3
          have Z3 := Zr.below hb4
          have O13 := owns_below O1 hb4
          have O3 := owns_below O2 hb4
          have hC3 := hC.trans (Chg.of_below hb4)
          clear KH hb3 hbA hb4 T1 Zr O1 O2 hC hW1 hyl y0 y1 y2 hc0 hc1 hc2 hc3 Xr
          have hz3 := hC3.size
          cases c
          · have HY2 : Hid (flat4 (lkL la lb (k + 1)) = fs ++ [.int .i64 tn, .int .i64 td, .string tk, .string tv] ∧ (lkL la lb (k + 1)).length = nz + 1) := HY.out (by trivial)
            clear HY HN
            obtain ⟨ht3, t0, t1, t2, t3⟩ := T3.c4
            obtain ⟨hzl, z0, z1, z2, z3, f0, f1, f2, f3⟩ := Z3.e4
            have hgeA := owns_ge O3
            have hne := owns_type_ne O13 O3 (by decide)
            have hC1 : Chg (fun j => j = b ∨ W5.heap.size ≤ j) W5 (w3.alloc (.cells #[.int .i64 tn, .int .i64 td, .string tk, .string tv] 82)) := hC3.trans (Chg.of_below (below_alloc _ _))
            have Z1 := Z3.alloc (.cells #[.int .i64 tn, .int .i64 td, .string tk, .string tv] 82)
            have O11 := owns_below O13 (below_alloc w3 (.cells #[.int .i64 tn, .int .i64 td, .string tk, .string tv] 82))
            go_wp2_with (at_builtin; refine wpList_append_own _ rfl _ _ 23 rfl W5.heap.size 82 j0 (.agg #[.int .i64 0, .int .i64 0, .string ⟨#[]⟩, .string ⟨#[]⟩]) 4 48 Try.underlying23 hj hj0 hjs hjb rfl (by decide) _ nz fs rfl (owns_below O3 (below_alloc _ _)) ⟨w3.heap.size, 0, none⟩ 1 1 [.int .i64 tn, .int .i64 td, .string tk, .string tv] rfl rfl (four_new w3 tn td tk tv) (flat4_ones tn td tk tv) (by unfold maxLen; omega) (by omega) (by simp; omega) ?_; intro v' w7 hown7 hgrow7 _; refine Stop.go ?_)
            have hG : Chg (fun j => (Value.slice va2 nz vc2).ownBlock = some j) (w3.alloc (.cells #[.int .i64 tn, .int .i64 td, .string tk, .string tv] 82)) w7 := ⟨hgrow7.os, hgrow7.tape, hgrow7.output, hgrow7.size, fun j hj hs => hgrow7.block j hj (fun e => hs e.symm)⟩
            have hC7 : Chg (fun j => j = b ∨ W5.heap.size ≤ j) W5 w7 := hC1.trans (hG.mono fun j hj => .inr (hgeA j hj))
            have Z7 := hG.box Z1 (fun e => by have := hgeA b e; omega)
            have O17 := hG.owns O11 (fun g hg hh => hne g hg hh)
            have hge1 := owns_ge O13
            obtain ⟨v2a, v2c, rfl⟩ := owns_shape hown7
            have hbl7 := Z7.1
            have hge7 := owns_ge hown7
            clear z0 z1 z2 z3 f0 f1 f2 f3 t0 t1 t2 t3
            obtain ⟨_, z0, z1, z2, z3, f0, f1, f2, f3⟩ := Z7.e4
            have Zn := Z7.set 3 (.slice v2a (nz + 1) v2c) (by simp)
            have hS : Chg (fun j => j = b) w7 (w7.setCell ⟨b, 3, none⟩ (.slice v2a (nz + 1) v2c)) := Chg.setCell (S := fun j => j = b) (p := ⟨b, 3, none⟩) (Chg.refl _ _) rfl _
            have On := hS.owns hown7 (fun g hg hh => by have := hge7 g hg; omega)
            have O1n := hS.owns O17 (fun g hg hh => by have := hge1 g hg; omega)
            have hCn := hC7.setCell (p := ⟨b, 3, none⟩) (.inl rfl) (.slice v2a (nz + 1) v2c)
            clear Z7 hown7 hC7 Z1 hC1 hgrow7 O3 Z3 T3 hC3 hG hS O17 O11 O13
            unfold Stop
            go_wp2
            go_roundw
            case rel => exact ⟨k + 1, .slice v2a (nz + 1) v2c, by omega, by go_num, Zn, O1n, by rw [HY2.out.1, HY2.out.2]; exact On, hCn⟩
            case measure => simp [intOf]; omega
          · have HN2 : Hid (flat4 (lkL la lb (k + 1)) = fs ∧ (lkL la lb (k + 1)).length = nz) := HN.out (by trivial)
            clear HY HN T3
            go_wp2
            go_roundw
            case rel => exact ⟨k + 1, .slice va2 nz vc2, by omega, by go_num, Z3, O13, by rw [HN2.out.1, HN2.out.2]; exact O3, hC3⟩
            case measure => simp [intOf]; omega
        · obtain rfl : k = lb.length := by omega
          have Rr := hC.box R (by omega)
          have hge1 := owns_ge O1
          have hge2 := owns_ge O2
          generalize lkL la lb lb.length = ZA at *
          obtain ⟨_, z0, z1, z2, z3, _⟩ := Zr.e4
          obtain ⟨hrl, r0, r1, r2, r3, f0, f1, f2, f3⟩ := Rr.e4
          have hCE := put4_chg wr (w.heap.size + 1 + 1) (.int .i64 nx2) (.int .i64 sq2) (.slice v1a nd v1c) (.slice va2 ZA.length vc2)
          have OE1 := hCE.owns (owns_mono O1 hz5) (fun g hg hh => by have := hge1 g hg; omega)
          have OE2 := hCE.owns (owns_mono O2 hz5) (fun g hg hh => by have := hge2 g hg; omega)
          have hBE := hBr.trans (hCE.below (B := w.heap.size) (by omega) (fun j hj => by omega))
          clear hCE hcb
          go_wp2
          refine bodyPost_ret (v := .tuple #[.agg #[.int .i64 nx2, .int .i64 sq2, .slice v1a nd v1c, .slice va2 ZA.length vc2], .bool true]) (by simp [results, Try.results15, go_sem, r0, r1, r2, r3]) rfl ⟨_, _, rfl, ?_, ?_, hBE⟩
          · rw [hRD.out, List.length_map, ← HZS.out, ← HND.out]; exact OE1
          · rw [hRA.out]; exact OE2
end Go.Proofs.Ytenbdjlhcadhaaa
