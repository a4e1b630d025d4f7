/-
  Rows marked and held, nil or not; an edit as a struct: the law's own szEdit, toEdit, eqEdit, markEdit, heldEdit.
-/
import Derived.Test.YtenbdjlhcadhaaaA9
import Derived.Test.YtenbdjlhcadhaaaQ9
namespace Go.Proofs.Ytenbdjlhcadhaaa
open Go.RowKit
set_option linter.unusedVariables false
set_option maxRecDepth 100000

theorem owns_type_ne {w : World} {b1 b2 : Nat} {e1 e2 : TypeId} {s1 s2 : Nat} {v1 v2 : Value} {n1 n2 : Nat} {x1 x2 : List Value} (h1 : w.ownsRow b1 e1 s1 v1 n1 x1) (h2 : w.ownsRow b2 e2 s2 v2 n2 x2) (hne : e1 ≠ e2) : ∀ g, v1.ownBlock = some g → v2.ownBlock ≠ some g := by
  intro g hg hg2
  rcases h1.2 with ⟨rfl, _⟩ | ⟨g1, c1, cur1, rfl, _, hh1, _⟩
  · simp [Value.ownBlock] at hg
  · rcases h2.2 with ⟨rfl, _⟩ | ⟨g2, c2, cur2, rfl, _, hh2, _⟩
    · simp [Value.ownBlock] at hg2
    · simp only [Value.ownBlock, Option.some.injEq] at hg hg2
      subst hg hg2
      rw [hh1] at hh2
      simp only [Option.some.injEq, Obj.cells.injEq] at hh2
      exact hne hh2.2.1
theorem owns_mono' {w : World} {base base' : Nat} {e : TypeId} {size : Nat} {v : Value} {n : Nat} {xs : List Value} (h : w.ownsRow base e size v n xs) (hb : base' ≤ base) : w.ownsRow base' e size v n xs := by
  refine ⟨h.1, ?_⟩
  rcases h.2 with h0 | ⟨g, cap, cur, hv, hbg, r⟩
  · exact .inl h0
  · exact .inr ⟨g, cap, cur, hv, Nat.le_trans hb hbg, r⟩
theorem ownB_slice (g n cap : Nat) : (Value.slice (some ⟨g, 0, none⟩) n cap).ownBlock = some g := rfl

theorem markIntS_own (v : Value) (base n : Nat) (l : List Value) (k : Int) (w : World) (ho : w.ownsRow base 3 1 v n l) (hl : l.length = n) (hn : n ≤ 1048576) (hk0 : 0 ≤ k) (hk1 : k ≤ 1073741824) :
    Calls Try.prog 46 #[v, .int .i64 k] w fun e w' => e = .returned (.int .i64 (k + n)) ∧ w'.ownsRow base 3 1 v n (mkI k n) ∧ Chg (fun b => v.ownBlock = some b) w w' := by
  rcases ho.2 with ⟨rfl, h0⟩ | ⟨g, cap, cur, rfl, _⟩
  · subst h0
    refine (markIntS_nil k w).mono ?_
    rintro e w' ⟨rfl, rfl⟩
    exact ⟨by simp, World.ownsRow_nil _ _ _ _, Chg.refl _ _⟩
  · subst hl
    refine (markIntS_at g cap base l k w ho hn hk0 hk1).mono ?_
    rintro e w' ⟨rfl, h1, h2⟩
    exact ⟨rfl, h1, h2.mono fun b hb => by rw [hb]; rfl⟩
theorem heldIntS_own (v : Value) (base n : Nat) (k : Int) (w : World) (ho : w.ownsRow base 3 1 v n (mkI k n)) (hn : n ≤ 1048576) (hk0 : 0 ≤ k) (hk1 : k ≤ 1073741824) :
    Calls Try.prog 47 #[v, .int .i64 k] w fun e w' => e = .returned (.int .i64 (k + n)) ∧ w' = w := by
  rcases ho.2 with ⟨rfl, h0⟩ | ⟨g, cap, cur, rfl, _⟩
  · subst h0
    refine (heldIntS_nil k w).mono ?_
    rintro e w' ⟨rfl, rfl⟩
    exact ⟨by simp, rfl⟩
  · exact heldIntS_at g cap base n k w ho hn hk0 hk1
theorem markMetaS_own (v : Value) (base : Nat) (l : List Mt) (k : Int) (w : World) (ho : w.ownsRow base 82 4 v l.length (flat4 l)) (hn : l.length ≤ 1048576) (h1 : 1 ≤ k) (h2 : k ≤ 50000000) :
    Calls Try.prog 70 #[v, .int .i64 k] w fun e w' => e = .returned (.int .i64 (k + 4 * l.length)) ∧ w'.ownsRow base 82 4 v l.length (flat4 (mkIts k l.length)) ∧ Chg (fun b => v.ownBlock = some b) w w' := by
  rcases ho.2 with ⟨rfl, h0⟩ | ⟨g, cap, cur, rfl, _⟩
  · rw [h0]
    refine (markMetaS_nil k w h1 h2).mono ?_
    rintro e w' ⟨rfl, rfl⟩
    exact ⟨by simp, World.ownsRow_nil _ _ _ _, Chg.refl _ _⟩
  · refine (markMetaS_at g cap base l k w ho hn h1 h2).mono ?_
    rintro e w' ⟨rfl, h1, h2⟩
    exact ⟨rfl, h1, h2.mono fun b hb => by rw [hb]; rfl⟩
theorem markVersion_own (x y : Int) (v : Value) (base : Nat) (l : List Mt) (k : Int) (w : World) (ho : w.ownsRow base 82 4 v l.length (flat4 l)) (hn : l.length ≤ 1048576) (h1 : 1 ≤ k) (h2 : k ≤ 50000000) :
    Calls Try.prog 28 #[.agg #[.int .i64 x, .int .i64 y, v], .int .i64 k] w fun e w' => e = .returned (.int .i64 (k + 4 * l.length)) ∧ w'.ownsRow base 82 4 v l.length (flat4 (mkIts k l.length)) ∧ Chg (fun b => v.ownBlock = some b ∨ w.heap.size ≤ b) w w' := by
  rcases ho.2 with ⟨rfl, h0⟩ | ⟨g, cap, cur, rfl, _⟩
  · rw [h0]
    refine (markVersion_nil x y k w h1 h2).mono ?_
    rintro e w' ⟨rfl, hb⟩
    exact ⟨by simp, World.ownsRow_nil _ _ _ _, Chg.of_below hb⟩
  · refine (markVersion_at x y g cap base l k w ho hn h1 h2).mono ?_
    rintro e w' ⟨rfl, h1, h2⟩
    exact ⟨rfl, h1, h2.mono fun b hb => by rcases hb with hb | hb; exact .inl (by rw [hb]; rfl); exact .inr hb⟩

set_option maxHeartbeats 1000000 in
theorem szEdit_any (x y : Int) (q v : Value) (dr : List Int) (l : List Mt) (left : Int) (w : World) (hq : IL w q dr) (hv : IR w v l) (h0 : 0 ≤ left) (h1 : left ≤ 1048576) (hd : dr.length ≤ maxLen) (hn : l.length ≤ maxLen) (hs : ∀ i (h : i < l.length), l[i].k.size ≤ maxLen ∧ l[i].v.size ≤ maxLen) :
    Calls Try.prog 34 #[.agg #[.int .i64 x, .int .i64 y, q, v], .int .i64 left] w fun e w' => (∃ r : Int, e = .returned (.int .i64 r) ∧ (r = -1 ∨ (0 ≤ r ∧ (dr.length : Int) + tot4 l + l.length + r = left))) ∧ Below w.heap.size w w' := by
  have hB := below_alloc w (.cells #[.int .i64 x, .int .i64 y, q, v] 55)
  have X := Box.new w #[.int .i64 x, .int .i64 y, q, v] 55
  have K1 := szIntS_any q dr left _ (hq.below hB) h0 h1 hd
  have K2 := fun left h0 h1 => szMetaS_any v l left _ (hv.below hB) h0 h1 hn hs
  obtain ⟨qa, qc, rfl, _⟩ := hq
  obtain ⟨a, cap, rfl, _⟩ := hv
  clear hs
  go_enter Try.func34, Try.ntmps34
  go_wp2_with fail
  refine K1.mono ?_
  rintro e w1 ⟨rfl, rfl⟩
  by_cases hle : (dr.length : Int) ≤ left
  · rw [if_pos hle]
    have K := K2 (left - dr.length) (by omega) (by omega)
    clear K2 K1
    go_wp2_with fail
    refine K.mono ?_
    rintro e w1 ⟨⟨r, rfl, hr⟩, hb⟩
    have hb1 := below_then hB hb
    clear hb K
    rcases hr with rfl | ⟨hr, he⟩
    · go_wp2
      go_ret
      exact ⟨⟨-1, rfl, .inl rfl⟩, hb1⟩
    · have HE : Hid ((tot4 l : Int) + l.length + r = left - dr.length) := he
      clear he
      go_wp2
      go_ret
      exact ⟨⟨r, rfl, .inr ⟨hr, by have := HE.out; omega⟩⟩, hb1⟩
  · rw [if_neg hle]
    clear K2 K1
    go_wp2
    go_ret
    exact ⟨⟨-1, rfl, .inl rfl⟩, hB⟩

set_option maxHeartbeats 2000000 in
theorem toEdit_any (x y : Int) (q v : Value) (dr : List Int) (l : List Mt) (w : World) (hq : IL w q dr) (hv : IR w v l) (hd : dr.length ≤ 1048576) (hn : l.length ≤ 1048576) :
    Calls Try.prog 35 #[.agg #[.int .i64 x, .int .i64 y, q, v]] w fun e w' => ∃ g1 g2, e = .returned (.agg #[.int .i64 x, .int .i64 y, .slice (some ⟨g1, 0, none⟩) dr.length dr.length, .slice (some ⟨g2, 0, none⟩) l.length l.length]) ∧ w'.ownsRow w.heap.size 3 1 (.slice (some ⟨g1, 0, none⟩) dr.length dr.length) dr.length (dr.map (.int .i64)) ∧ w'.ownsRow w.heap.size 82 4 (.slice (some ⟨g2, 0, none⟩) l.length l.length) l.length (flat4 l) ∧ Below w.heap.size w w' := by
  obtain ⟨W0, hW0⟩ : ∃ W0, W0 = ((w.alloc (.cells #[.int .i64 x, .int .i64 y, q, v] 55)).alloc (.cells #[.int .i64 0, .int .i64 0, .slice none 0 0, .slice none 0 0] 30)).alloc (.cells #[.int .i64 x, .int .i64 y, .slice none 0 0, .slice none 0 0] 30) := ⟨_, rfl⟩
  have hB : Below w.heap.size w W0 := by rw [hW0]; exact below3 _ _ _ _
  have hv1 := hv
  have K := toIntS_any q dr _ (hq.below hB) hd
  have K2 := fun w h => toMetaS_any v l w h hn
  obtain ⟨qa, qc, rfl, _⟩ := hq
  obtain ⟨a, cap, rfl, _⟩ := hv
  have X0 : Box W0 w.heap.size [.int .i64 x, .int .i64 y, .slice qa dr.length qc, .slice a l.length cap] := by
    rw [hW0]
    exact ((Box.new w #[.int .i64 x, .int .i64 y, .slice qa dr.length qc, .slice a l.length cap] 55).alloc _).alloc _
  have X1 : Box W0 (w.heap.size + 1) [.int .i64 0, .int .i64 0, .slice none 0 0, .slice none 0 0] := by
    rw [hW0]
    have := (Box.new (w.alloc (.cells #[.int .i64 x, .int .i64 y, .slice qa dr.length qc, .slice a l.length cap] 55)) #[.int .i64 0, .int .i64 0, .slice none 0 0, .slice none 0 0] 30).alloc (.cells #[.int .i64 x, .int .i64 y, .slice none 0 0, .slice none 0 0] 30)
    simpa using this
  have X2 : Box W0 (w.heap.size + 1 + 1) [.int .i64 x, .int .i64 y, .slice none 0 0, .slice none 0 0] := by
    rw [hW0]
    have := Box.new ((w.alloc (.cells #[.int .i64 x, .int .i64 y, .slice qa dr.length qc, .slice a l.length cap] 55)).alloc (.cells #[.int .i64 0, .int .i64 0, .slice none 0 0, .slice none 0 0] 30)) #[.int .i64 x, .int .i64 y, .slice none 0 0, .slice none 0 0] 30
    simpa using this
  have hz0 : W0.heap.size = w.heap.size + 1 + 1 + 1 := by rw [hW0]; simp
  rw [hz0] at K
  go_enter Try.func35, Try.ntmps35
  go_wp2_with fail
  rw [← hW0]
  refine K.mono ?_
  rintro e w1 ⟨rfl, ho, hb⟩
  rw [← hz0] at hb
  replace X0 := X0.below hb
  replace X1 := X1.below hb
  replace X2 := X2.below hb
  have hB1 := below_then hB hb
  clear hb hB K hz0 hW0 W0
  have hg := (owns_lt ho).2
  have hz1 := hB1.size
  obtain ⟨hp, p0, p1, p2, p3, e0, e1, e2, e3⟩ := X2.e4
  obtain ⟨S1, hS1⟩ : ∃ S1, S1 = Value.slice (some ⟨w.heap.size + 1 + 1 + 1, 0, none⟩) dr.length dr.length := ⟨_, rfl⟩
  obtain ⟨W1, hW1⟩ : ∃ W1, W1 = w1.setCell ⟨w.heap.size + 1 + 1, 2, none⟩ S1 := ⟨_, rfl⟩
  have hC1 : Chg (fun k => k = w.heap.size + 1 + 1) w1 W1 := by rw [hW1]; exact Chg.setCell (S := fun k => k = w.heap.size + 1 + 1) (p := ⟨w.heap.size + 1 + 1, 2, none⟩) (Chg.refl _ _) rfl _
  have hBs : Below w.heap.size w W1 := by rw [hW1]; exact hB1.setCell (by simp; omega) _
  have K := K2 W1 (hv1.below hBs)
  have hzS : W1.heap.size = w1.heap.size := by rw [hW1]; simp
  rw [hzS] at K
  have X0s := hC1.box X0 (by omega)
  have X1s := hC1.box X1 (by omega)
  have X2s : Box W1 (w.heap.size + 1 + 1) [.int .i64 x, .int .i64 y, S1, .slice none 0 0] := by rw [hW1]; exact X2.set 2 S1 (by simp)
  have hos : W1.ownsRow (w.heap.size + 1 + 1 + 1) 3 1 S1 dr.length (dr.map (.int .i64)) := by
    rw [hS1]
    refine hC1.owns ho fun b hb hh => ?_
    have : b = w.heap.size + 1 + 1 + 1 := by simpa [Value.ownBlock] using hb.symm
    omega
  obtain ⟨hp0, r0, r1, r2, r3, _⟩ := X0s.e4
  obtain ⟨_, u0, u1, u2, u3, _⟩ := X0.e4
  clear K2 hv1 ho
  rw [hS1] at hW1
  go_wp2_with fail
  rw [← hW1]
  refine K.mono ?_
  rintro e w2 ⟨rfl, ho2, hb2⟩
  rw [← hzS] at hb2
  replace X0s := X0s.below hb2
  replace X1s := X1s.below hb2
  replace X2s := X2s.below hb2
  replace hos := owns_below hos hb2
  have hB2 := below_then hBs hb2
  have hg2 := owns_lt ho2
  have hz12 := hb2.size
  clear K hb2 hBs hB1 X0 X1 X2 hC1 p0 p1 p2 p3 e0 e1 e2 e3 hp r0 r1 r2 r3 hp0 u0 u1 u2 u3 X0s hW1
  obtain ⟨hp, p0, p1, p2, p3, e0, e1, e2, e3⟩ := X2s.e4
  obtain ⟨hq, q0, q1, q2, q3, f0, f1, f2, f3⟩ := X1s.e4
  obtain ⟨S2, hS2⟩ : ∃ S2, S2 = Value.slice (some ⟨w1.heap.size, 0, none⟩) l.length l.length := ⟨_, rfl⟩
  have hC : Chg (fun k => k = w.heap.size + 1 + 1 ∨ k = w.heap.size + 1) w2 (((((w2.setCell ⟨w.heap.size + 1 + 1, 3, none⟩ S2).setCell ⟨w.heap.size + 1, 0, none⟩ (.int .i64 x)).setCell ⟨w.heap.size + 1, 1, none⟩ (.int .i64 y)).setCell ⟨w.heap.size + 1, 2, none⟩ S1).setCell ⟨w.heap.size + 1, 3, none⟩ S2) := (((((Chg.refl _ _).setCell (.inl rfl) _).setCell (.inr rfl) _).setCell (.inr rfl) _).setCell (.inr rfl) _).setCell (.inr rfl) _
  have O1 := hC.owns (owns_mono' hos (show w.heap.size ≤ w.heap.size + 1 + 1 + 1 from by omega)) (by
    intro b hb hh
    have : b = w.heap.size + 1 + 1 + 1 := by rw [hS1] at hb; simpa [Value.ownBlock] using hb.symm
    omega)
  have O2 := hC.owns (owns_mono' ho2 (show w.heap.size ≤ w1.heap.size from hz1)) (by
    intro b hb hh
    have : b = w1.heap.size := by simpa [Value.ownBlock] using hb.symm
    omega)
  have hBE := hB2.trans (hC.below (B := w.heap.size) (by omega) (fun k hk => by omega))
  clear hos ho2 hB2 X1s X2s hC
  subst hS1 hS2
  go_wp2
  exact bodyPost_ret (v := .agg #[.int .i64 x, .int .i64 y, .slice (some ⟨w.heap.size + 1 + 1 + 1, 0, none⟩) dr.length dr.length, .slice (some ⟨w1.heap.size, 0, none⟩) l.length l.length]) (by simp [results, Try.results35, go_sem, q0, q1, q2, q3]) rfl ⟨_, _, rfl, O1, O2, hBE⟩

set_option maxHeartbeats 1000000 in
theorem eqEdit_same (x y : Int) (q q' u v : Value) (dr : List Int) (l : List Mt) (w : World) (hq : IL w q dr) (hq' : IL w q' dr) (hu : IR w u l) (hv : IR w v l) (hd : dr.length ≤ 1048576) (hn : l.length ≤ 1048576) :
    Calls Try.prog 36 #[.agg #[.int .i64 x, .int .i64 y, q, u], .agg #[.int .i64 x, .int .i64 y, q', v]] w fun e w' => e = .returned (.bool true) ∧ Below w.heap.size w w' := by
  obtain ⟨W0, hW0⟩ : ∃ W0, W0 = (w.alloc (.cells #[.int .i64 x, .int .i64 y, q, u] 30)).alloc (.cells #[.int .i64 x, .int .i64 y, q', v] 30) := ⟨_, rfl⟩
  have hB : Below w.heap.size w W0 := by rw [hW0]; exact below2 _ _ _
  have X0 : Box W0 w.heap.size [.int .i64 x, .int .i64 y, q, u] := by rw [hW0]; exact (Box.new w #[.int .i64 x, .int .i64 y, q, u] 30).alloc _
  have X1 : Box W0 (w.heap.size + 1) [.int .i64 x, .int .i64 y, q', v] := by
    rw [hW0]
    have := Box.new (w.alloc (.cells #[.int .i64 x, .int .i64 y, q, u] 30)) #[.int .i64 x, .int .i64 y, q', v] 30
    simpa using this
  have K := eqIntS_same q q' dr _ (hq.below hB) (hq'.below hB) hd
  have K2 := fun w h1 h2 => eqMetaS_same u v l w h1 h2 hn
  obtain ⟨qa, qc, rfl, _⟩ := hq
  obtain ⟨qa', qc', rfl, _⟩ := hq'
  have hu' := hu
  have hv' := hv
  obtain ⟨a, cap, rfl, _⟩ := hu
  obtain ⟨a', cap', rfl, _⟩ := hv
  go_enter Try.func36, Try.ntmps36
  go_wp2_with fail
  rw [← hW0]; clear hW0
  refine K.mono ?_
  rintro e w1 ⟨rfl, hb⟩
  replace hB := below_then hB hb
  replace X0 := X0.below hb
  replace X1 := X1.below hb
  clear K hb
  have K3 := K2 _ (hu'.below hB) (hv'.below hB)
  obtain ⟨hp, p0, p1, p2, p3, _⟩ := X0.e4
  obtain ⟨hq, q0, q1, q2, q3, _⟩ := X1.e4
  clear K2 hu' hv'
  go_wp2_with fail
  refine K3.mono ?_
  rintro e w2 ⟨rfl, hb⟩
  replace hB := below_then hB hb
  clear K3 hb p0 p1 p2 p3 q0 q1 q2 q3
  go_wp2
  go_ret
  exact ⟨rfl, hB⟩

set_option maxHeartbeats 1000000 in
theorem markEdit_own (x y : Int) (q v : Value) (base base' n : Nat) (zs : List Value) (l : List Mt) (k : Int) (w : World) (hq : w.ownsRow base 3 1 q n zs) (hz : zs.length = n) (hv : w.ownsRow base' 82 4 v l.length (flat4 l)) (hd : n ≤ 1048576) (hn : l.length ≤ 1048576) (h1 : 1 ≤ k) (h2 : k ≤ 40000000) :
    Calls Try.prog 37 #[.agg #[.int .i64 x, .int .i64 y, q, v], .int .i64 k] w fun e w' => e = .returned (.int .i64 (k + n + 4 * l.length)) ∧ w'.ownsRow base 3 1 q n (mkI k n) ∧ w'.ownsRow base' 82 4 v l.length (flat4 (mkIts (k + n) l.length)) ∧ Chg (fun b => q.ownBlock = some b ∨ v.ownBlock = some b ∨ w.heap.size ≤ b) w w' := by
  have hB := below_alloc w (.cells #[.int .i64 x, .int .i64 y, q, v] 30)
  have X := Box.new w #[.int .i64 x, .int .i64 y, q, v] 30
  have hne := owns_type_ne hq hv (by decide)
  have hlq := owns_below_lt hq
  have hlv := owns_below_lt hv
  have K := markIntS_own q base n zs k _ (owns_below hq hB) hz hd (by omega) (by omega)
  have K2 := fun w h => markMetaS_own v base' l (k + n) w h hn (by omega) (by omega)
  replace hv := owns_below hv hB
  obtain ⟨qa, qc, rfl⟩ := owns_shape hq
  obtain ⟨va, vc, rfl⟩ := owns_shape hv
  clear hq
  have hC0 : Chg (fun b => (Value.slice qa n qc).ownBlock = some b ∨ (Value.slice va l.length vc).ownBlock = some b ∨ w.heap.size ≤ b) w (w.alloc (.cells #[.int .i64 x, .int .i64 y, .slice qa n qc, .slice va l.length vc] 30)) := Chg.of_below hB
  go_enter Try.func37, Try.ntmps37
  go_wp2_with fail
  refine K.mono ?_
  rintro e w1 ⟨rfl, o1, hc1⟩
  have hv1 := hc1.owns hv (fun g hg hh => hne g hh hg)
  have X1 := hc1.box X (fun h => by have := hlq _ h; omega)
  have hC1 := hC0.trans (hc1.mono fun b hb => .inl hb)
  clear K hv X hC0
  obtain ⟨hp, p0, p1, p2, p3, _⟩ := X1.e4
  go_wp2_with fail
  refine (K2 _ hv1).mono ?_
  rintro e w2 ⟨rfl, o2, hc2⟩
  have o1' := hc2.owns o1 (fun g hg hh => hne g hg hh)
  have hC2 := hC1.trans (hc2.mono fun b hb => .inr (.inl hb))
  clear K2 hv1 o1 hc1 hc2 hC1 p0 p1 p2 p3 X1
  go_wp2
  go_ret
  exact ⟨rfl, o1', o2, hC2⟩
set_option maxHeartbeats 1000000 in
theorem heldEdit_own (x y : Int) (q v : Value) (base base' n m : Nat) (k : Int) (w : World) (hq : w.ownsRow base 3 1 q n (mkI k n)) (hv : w.ownsRow base' 82 4 v m (flat4 (mkIts (k + n) m))) (hd : n ≤ 1048576) (hn : m ≤ 1048576) (h1 : 1 ≤ k) (h2 : k ≤ 40000000) :
    Calls Try.prog 38 #[.agg #[.int .i64 x, .int .i64 y, q, v], .int .i64 k] w fun e w' => e = .returned (.int .i64 (k + n + 4 * m)) ∧ Below w.heap.size w w' := by
  have hB := below_alloc w (.cells #[.int .i64 x, .int .i64 y, q, v] 30)
  have K := heldIntS_own q base n k _ (owns_below hq hB) hd (by omega) (by omega)
  have K2 := heldMetaS_at v m (k + n) _ (IR_of_owns (owns_below hv hB) (mkIts_length _ _).symm) hn (by omega) (by omega)
  obtain ⟨qa, qc, rfl⟩ := owns_shape hq
  obtain ⟨va, vc, rfl⟩ := owns_shape hv
  clear hq hv
  go_enter Try.func38, Try.ntmps38
  go_wp2_with fail
  refine K.mono ?_
  rintro e w1 ⟨rfl, rfl⟩
  clear K
  go_wp2_with fail
  refine K2.mono ?_
  rintro e w2 ⟨rfl, hb⟩
  have hB2 := below_then hB hb
  clear K2 hb
  go_wp2
  go_ret
  exact ⟨rfl, hB2⟩
end Go.Proofs.Ytenbdjlhcadhaaa
