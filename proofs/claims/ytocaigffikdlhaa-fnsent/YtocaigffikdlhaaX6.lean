/-
  What is wanted, as said: goodWant, l13Want; both NewTaking.
-/
import Derived.Test.YtocaigffikdlhaaCL
import Derived.Test.YtocaigffikdlhaaX3
namespace Go.Proofs.Ytocaigffikdlhaa
open Go.RowKit Go.Maps
set_option linter.unusedVariables false
set_option maxRecDepth 100000

theorem l1In_any (x lo hi : Int) (w : World) :
    Calls Try.prog 65 #[.int .i64 x, .int .i64 lo, .int .i64 hi] w fun e w' => e = .returned (.bool (decide (lo ≤ x) && decide (x ≤ hi))) ∧ w' = w := by
  generalize hb : (decide (lo ≤ x) && decide (x ≤ hi)) = b
  by_cases h : lo ≤ x
  · by_cases h2 : x ≤ hi
    · obtain rfl : b = true := by rw [← hb]; simp [h, h2]
      clear hb
      go_enter Try.func65, Try.ntmps65
      go_wp2
      go_ret
      exact ⟨rfl, rfl⟩
    · obtain rfl : b = false := by rw [← hb]; simp [h2]
      clear hb
      go_enter Try.func65, Try.ntmps65
      go_wp2
      go_ret
      exact ⟨rfl, rfl⟩
  · obtain rfl : b = false := by rw [← hb]; simp [h]
    clear hb
    go_enter Try.func65, Try.ntmps65
    go_wp2
    go_ret
    exact ⟨rfl, rfl⟩

def gwB (W : List Wt) : Bool := decide (W.length ≤ 12) && W.all fun x => decide (0 ≤ x.t) && decide (x.t ≤ 4000)
theorem gwB_iff (W : List Wt) : gwB W = true ↔ wOk W := by
  unfold gwB wOk
  simp only [Bool.and_eq_true, decide_eq_true_eq, List.all_eq_true]
  constructor
  · rintro ⟨h1, h2⟩
    exact ⟨h1, fun i h => h2 _ (List.getElem_mem h)⟩
  · rintro ⟨h1, h2⟩
    refine ⟨h1, fun x hx => ?_⟩
    obtain ⟨i, hi, rfl⟩ := List.getElem_of_mem hx
    exact h2 i hi
theorem gwB_no {W : List Wt} (i : Nat) (h : i < W.length) (hb : ¬ (0 ≤ W[i].t ∧ W[i].t ≤ 4000)) : gwB W = false := by
  rw [Bool.eq_false_iff]
  intro hg
  exact hb (((gwB_iff W).1 hg).2 i h)
theorem gwB_long {W : List Wt} (h : ¬ W.length ≤ 12) : gwB W = false := by
  rw [Bool.eq_false_iff]
  intro hg
  exact h ((gwB_iff W).1 hg).1

set_option maxHeartbeats 4000000 in
theorem goodWant_any (v : Value) (L : List Wt) (w : World) (hv : WR w v L) (hn : L.length ≤ 1048576) :
    Calls Try.prog 77 #[v] w fun e w' => e = .returned (.bool (gwB L)) ∧ Below w.heap.size w w' := by
  obtain ⟨a, cap, rfl, hc⟩ := hv
  by_cases h12 : L.length ≤ 12
  · go_enter Try.func77, Try.ntmps77
    go_wp2
    go_loopw [10] (fun i wr => ∃ k : Nat, k ≤ L.length ∧ i = .int .i64 k ∧ (∀ j (h : j < L.length), j < k → 0 ≤ L[j].t ∧ L[j].t ≤ 4000) ∧ Below w.heap.size w wr) (fun i _ => L.length - (intOf i).toNat)
    case atStart => exact ⟨0, Nat.zero_le _, rfl, fun j h h0 => by omega, Below.refl _ _⟩
    case round =>
      obtain ⟨k, hk, rfl, hok, hb⟩ := hrel
      by_cases hlt : k < L.length
      · obtain ⟨b, off, rfl, hbl, hcell⟩ := hc (by intro e; simp [e] at hlt)
        have hc0 := (hb.cell (p := ⟨b, off + k * 2, none⟩) hbl).trans (hcell k hlt).1
        have hc1 := (hb.cell (p := ⟨b, off + k * 2 + 1, none⟩) hbl).trans (hcell k hlt).2
        have hz := hb.size
        by_cases hbig : 0 ≤ L[k].t ∧ L[k].t ≤ 4000
        · have HN : Hid (∀ j (h : j < L.length), j < k + 1 → 0 ≤ L[j].t ∧ L[j].t ≤ 4000) := by
            intro j h hj
            by_cases e : j = k
            · subst e; exact hbig
            · exact hok j h (by omega)
          clear hok hcell hc
          generalize L[k] = s at *
          obtain ⟨t, d⟩ := s
          dsimp only at hc0 hc1 hbig
          obtain ⟨hb1, hb2⟩ := hbig
          go_wp2
          go_roundw
          case rel => exact ⟨k + 1, by omega, by go_num, HN.out, hb.alloc hz _⟩
          case measure => simp [intOf]; omega
        · have HG : Hid (gwB L = false) := gwB_no k hlt hbig
          clear hok hcell hc
          generalize L[k] = s at *
          obtain ⟨t, d⟩ := s
          dsimp only at hc0 hc1 hbig
          by_cases ht : t < 0
          · clear hbig
            go_wp2
            go_ret
            exact ⟨by rw [HG.out]; rfl, hb.alloc hz _⟩
          · have h4 : 4000 < t := by omega
            clear hbig
            go_wp2
            go_ret
            exact ⟨by rw [HG.out]; rfl, hb.alloc hz _⟩
      · have HG : Hid (gwB L = true) := (gwB_iff L).2 ⟨h12, fun i h => hok i h (by omega)⟩
        clear hok hc
        go_wp2
        go_ret
        exact ⟨by rw [HG.out]; rfl, hb⟩
  · have HG : Hid (gwB L = false) := gwB_long h12
    clear hc
    go_enter Try.func77, Try.ntmps77
    go_wp2
    go_ret
    exact ⟨by rw [HG.out]; rfl, Below.refl _ _⟩

set_option maxHeartbeats 4000000 in
theorem l13Want_any (v : Value) (L : List Wt) (w : World) (hv : WR w v L) (hn : L.length ≤ 1048576) :
    Calls Try.prog 87 #[v] w fun e w' => e = .returned (.bool (gwB L)) ∧ Below w.heap.size w w' := by
  obtain ⟨a, cap, rfl, hc⟩ := hv
  go_enter Try.func87, Try.ntmps87
  go_wp2
  go_loopw [7] (fun i wr => ∃ k : Nat, k ≤ L.length ∧ i = .int .i64 k ∧ (∀ j (h : j < L.length), j < k → 0 ≤ L[j].t ∧ L[j].t ≤ 4000) ∧ Below w.heap.size w wr) (fun i _ => L.length - (intOf i).toNat)
  case atStart => exact ⟨0, Nat.zero_le _, rfl, fun j h h0 => by omega, Below.refl _ _⟩
  case round =>
    obtain ⟨k, hk, rfl, hok, hb⟩ := hrel
    by_cases hlt : k < L.length
    · obtain ⟨b, off, rfl, hbl, hcell⟩ := hc (by intro e; simp [e] at hlt)
      have hc0 := (hb.cell (p := ⟨b, off + k * 2, none⟩) hbl).trans (hcell k hlt).1
      have hc1 := (hb.cell (p := ⟨b, off + k * 2 + 1, none⟩) hbl).trans (hcell k hlt).2
      have hz := hb.size
      have KI := fun w => l1In_any L[k].t 0 4000 w
      by_cases hbig : 0 ≤ L[k].t ∧ L[k].t ≤ 4000
      · have HN : Hid (∀ j (h : j < L.length), j < k + 1 → 0 ≤ L[j].t ∧ L[j].t ≤ 4000) := by
          intro j h hj
          by_cases e : j = k
          · subst e; exact hbig
          · exact hok j h (by omega)
        rw [show (decide ((0 : Int) ≤ L[k].t) && decide (L[k].t ≤ 4000)) = true from by simp [hbig]] at KI
        clear hok hcell hc
        generalize L[k] = s at *
        obtain ⟨t, d⟩ := s
        dsimp only at hc0 hc1 hbig KI
        clear hbig
        go_wp2_with fail
        refine (KI _).mono ?_
        rintro e w1 ⟨rfl, hw1⟩
        have hb1 := hb.alloc hz (.cells #[.int .i64 t, .int .u32 d] 54)
        rw [← hw1] at hb1
        clear hw1 KI hb
        go_wp2
        go_roundw
        case rel => exact ⟨k + 1, by omega, by go_num, HN.out, hb1⟩
        case measure => simp [intOf]; omega
      · have HG : Hid (gwB L = false) := gwB_no k hlt hbig
        rw [show (decide ((0 : Int) ≤ L[k].t) && decide (L[k].t ≤ 4000)) = false from by simp only [Bool.and_eq_false_iff, decide_eq_false_iff_not]; omega] at KI
        clear hok hcell hc
        generalize L[k] = s at *
        obtain ⟨t, d⟩ := s
        dsimp only at hc0 hc1 hbig KI
        clear hbig
        go_wp2_with fail
        refine (KI _).mono ?_
        rintro e w1 ⟨rfl, hw1⟩
        have hb1 := hb.alloc hz (.cells #[.int .i64 t, .int .u32 d] 54)
        rw [← hw1] at hb1
        clear hw1 KI hb
        go_wp2
        go_ret
        exact ⟨by rw [HG.out]; rfl, hb1⟩
    · have HG : Hid (gwB L = decide ((L.length : Int) ≤ 12)) := by
        show _ = _
        by_cases h12 : L.length ≤ 12
        · rw [(gwB_iff L).2 ⟨h12, fun i h => hok i h (by omega)⟩]; symm; rw [decide_eq_true_eq]; omega
        · rw [gwB_long h12]; symm; rw [decide_eq_false_iff_not]; omega
      clear hok hc
      go_wp2
      go_ret
      exact ⟨by rw [HG.out]; rfl, hb⟩

def gwR (W : List Wt) : List Wt := if gwB W then W else []
set_option maxHeartbeats 4000000 in
theorem implNew_any (v : Value) (W : List Wt) (w : World) (hv : WR w v W) (hs : Nn v) (hn : W.length ≤ 1048576) :
    Calls Try.prog 47 #[v] w fun e w' => ∃ a c, e = .returned (.tuple #[.agg #[a, c], .bool (gwB W)]) ∧ OT w' w.heap.size a c (gwR W) [] ∧ Below w.heap.size w w' := by
  have KG := fun W' (hb : Below w.heap.size w W') => goodWant_any v W W' (hv.below hb) hn
  have KC := fun W' (hb : Below w.heap.size w W') => cloneW_any v W W' (hv.below hb) hs hn
  obtain ⟨a, cap, rfl, _⟩ := hv
  have B0 := below_alloc w (.cells #[.slice none 0 0, .slice none 0 0] 41)
  have X0 := Box.new w #[.slice none 0 0, .slice none 0 0] 41
  clear hs
  cases hg : gwB W with
  | false =>
    have HR : Hid (gwR W = []) := by show _ = _; unfold gwR; rw [hg]; rfl
    rw [HR.out]
    rw [hg] at KG
    clear KC
    go_enter Try.func47, Try.ntmps47
    go_wp2_with fail
    refine (KG _ B0).mono ?_
    rintro e w1 ⟨rfl, hb1⟩
    replace B0 := below_then B0 hb1
    replace X0 := X0.below hb1
    clear KG hb1 hg
    obtain ⟨hx, x0, x1⟩ := X0.c2
    have xf0 := X0.2.2 0
    have xf1 := X0.2.2 1
    clear X0
    go_wp2
    exact bodyPost_ret (v := .tuple #[.agg #[.slice none 0 0, .slice none 0 0], .bool false]) (by simp [results, Try.results47, go_sem, x0, x1]) rfl ⟨_, _, rfl, OT.nil _ _, (B0.setCell (by simp) _).setCell (by simp) _⟩
  | true =>
    have HR : Hid (gwR W = W) := by show _ = _; unfold gwR; rw [hg]; rfl
    rw [HR.out]
    rw [hg] at KG
    go_enter Try.func47, Try.ntmps47
    go_wp2_with fail
    refine (KG _ B0).mono ?_
    rintro e w1 ⟨rfl, hb1⟩
    replace B0 := below_then B0 hb1
    replace X0 := X0.below hb1
    have hz1 := hb1.size
    clear KG hb1 hg
    go_wp2_with fail
    refine (KC _ B0).mono ?_
    rintro e w2 ⟨u, rfl, O2, hb2⟩
    replace B0 := below_then B0 hb2
    replace X0 := X0.below hb2
    simp only [World.size_alloc] at hz1
    clear KC hb2
    obtain ⟨ua, uc, rfl⟩ := owns_shape O2
    obtain ⟨hx, x0, x1⟩ := X0.c2
    have xf0 := X0.2.2 0
    have xf1 := X0.2.2 1
    have O3 := ownsRow_setCell_below (ownsRow_setCell_below O2 (a := ⟨w.heap.size, 0, none⟩) (by simp; omega) (.slice ua W.length uc)) (a := ⟨w.heap.size, 1, none⟩) (by simp; omega) (.slice none 0 0)
    have HO : Hid _ := O3
    clear X0 O2 O3
    go_wp2
    exact bodyPost_ret (v := .tuple #[.agg #[.slice ua W.length uc, .slice none 0 0], .bool true]) (by simp [results, Try.results47, go_sem, x0, x1]) rfl ⟨_, _, rfl, ⟨owns_mono' HO.out (by omega), World.ownsRow_nil _ _ _ _⟩, (B0.setCell (by simp) _).setCell (by simp) _⟩

set_option maxHeartbeats 4000000 in
theorem specNew_any (v : Value) (W : List Wt) (w : World) (hv : WR w v W) (hn : W.length ≤ 1048576) :
    Calls Try.prog 45 #[v] w fun e w' => ∃ a c, e = .returned (.tuple #[.agg #[a, c], .bool (gwB W)]) ∧ OT w' w.heap.size a c (gwR W) [] ∧ Below w.heap.size w w' := by
  have KG := fun W' (hb : Below w.heap.size w W') => l13Want_any v W W' (hv.below hb) hn
  have HV := fun W' (hb : Below w.heap.size w W') => hv.below hb
  obtain ⟨a, cap, rfl, _⟩ := hv
  have B0 := below_alloc w (.cells #[.slice none 0 0, .slice none 0 0] 41)
  have X0 := Box.new w #[.slice none 0 0, .slice none 0 0] 41
  cases hg : gwB W with
  | false =>
    have HR : Hid (gwR W = []) := by show _ = _; unfold gwR; rw [hg]; rfl
    rw [HR.out]
    rw [hg] at KG
    clear HV
    go_enter Try.func45, Try.ntmps45
    go_wp2_with fail
    refine (KG _ B0).mono ?_
    rintro e w1 ⟨rfl, hb1⟩
    replace B0 := below_then B0 hb1
    replace X0 := X0.below hb1
    clear KG hb1 hg
    obtain ⟨hx, x0, x1⟩ := X0.c2
    have xf0 := X0.2.2 0
    have xf1 := X0.2.2 1
    clear X0
    go_wp2
    exact bodyPost_ret (v := .tuple #[.agg #[.slice none 0 0, .slice none 0 0], .bool false]) (by simp [results, Try.results45, go_sem, x0, x1]) rfl ⟨_, _, rfl, OT.nil _ _, (B0.setCell (by simp) _).setCell (by simp) _⟩
  | true =>
    have HR : Hid (gwR W = W) := by show _ = _; unfold gwR; rw [hg]; rfl
    rw [HR.out]
    rw [hg] at KG
    go_enter Try.func45, Try.ntmps45
    go_wp2_with fail
    refine (KG _ B0).mono ?_
    rintro e w1 ⟨rfl, hb1⟩
    replace B0 := below_then B0 hb1
    replace X0 := X0.below hb1
    have hz1 := hb1.size
    simp only [World.size_alloc] at hz1
    clear KG hb1 hg
    have o0 : (w1.alloc (.cells #[] 54)).ownsRow w1.heap.size 54 2 (.slice (some ⟨w1.heap.size, 0, none⟩) 0 0) 0 (flat2 []) := World.ownsRow_lit w1 #[] 0 (Nat.le_refl _) (by simp [maxLen]) (by simp)
    have h1 := HV _ (below_then B0 (below_alloc w1 (.cells #[] 54)))
    have X1 := X0.below (below_alloc w1 (.cells #[] 54))
    have B1 := below_then B0 (below_alloc w1 (.cells #[] 54))
    go_wp2_with (at_builtin; refine wpList_append_wts _ rfl _ _ rfl rfl w1.heap.size _ 0 [] rfl o0 _ W rfl h1 (by omega) (by simp) ?_; intro v' w2 O2 hgr; refine StopA.go ?_)
    simp only [Nat.zero_add, List.nil_append] at O2
    obtain ⟨ua, uc, rfl⟩ := owns_shape O2
    have B2 := B1.grown hgr (by simp; omega) (fun k hk => by cases hk; show w.heap.size ≤ w1.heap.size; omega)
    have X2 : Box w2 w.heap.size [.slice none 0 0, .slice none 0 0] := X1.under ((Below.refl w1.heap.size _).grown hgr (by simp) (fun k hk => by cases hk; exact Nat.le_refl _)) (by omega)
    obtain ⟨hx, x0, x1⟩ := X2.c2
    have xf0 := X2.2.2 0
    have xf1 := X2.2.2 1
    have O3 := ownsRow_setCell_below (ownsRow_setCell_below O2 (a := ⟨w.heap.size, 0, none⟩) (by simp; omega) (.slice ua W.length uc)) (a := ⟨w.heap.size, 1, none⟩) (by simp; omega) (.slice none 0 0)
    have HO : Hid _ := O3
    clear X0 X1 X2 O2 O3 hgr h1 o0 B0 B1 HV
    unfold StopA
    go_wp2
    exact bodyPost_ret (v := .tuple #[.agg #[.slice ua W.length uc, .slice none 0 0], .bool true]) (by simp [results, Try.results45, go_sem, x0, x1]) rfl ⟨_, _, rfl, ⟨owns_mono' HO.out (by omega), World.ownsRow_nil _ _ _ _⟩, (B2.setCell (by simp) _).setCell (by simp) _⟩
end Go.Proofs.Ytocaigffikdlhaa
