/-
  A version as a struct: the law's own szVersion, toVersion, eqVersion, markVersion, heldVersion.
-/
import Derived.Test.YtenbdjlhcadhaaaQ1
namespace Go.Proofs.Ytenbdjlhcadhaaa
open Go.RowKit
set_option linter.unusedVariables false
set_option maxRecDepth 100000

set_option maxHeartbeats 1000000 in
theorem szVersion_any (x y : Int) (v : Value) (l : List Mt) (left : Int) (w : World) (hv : IR w v l) (h0 : 0 ≤ left) (h1 : left ≤ 1048576) (hn : l.length ≤ maxLen) (hs : ∀ i (h : i < l.length), l[i].k.size ≤ maxLen ∧ l[i].v.size ≤ maxLen) :
    Calls Try.prog 30 #[.agg #[.int .i64 x, .int .i64 y, v], .int .i64 left] w fun e w' => (∃ r : Int, e = .returned (.int .i64 r) ∧ (r = -1 ∨ (0 ≤ r ∧ (tot4 l : Int) + l.length + r = left))) ∧ Below w.heap.size w w' := by
  have hv1 := hv.below (below_alloc w (.cells #[.int .i64 x, .int .i64 y, v] 49))
  have K := szMetaS_any v l left _ hv1 h0 h1 hn hs
  obtain ⟨a, cap, rfl, _⟩ := hv
  clear hv1 hs
  go_enter Try.func30, Try.ntmps30
  go_wp2_with fail
  refine K.mono ?_
  rintro e w1 ⟨⟨r, rfl, hr⟩, hb⟩
  have hb1 := below_then (below_alloc w (.cells #[.int .i64 x, .int .i64 y, .slice a l.length cap] 49)) hb
  clear hb
  rcases hr with rfl | ⟨hr, he⟩
  · go_wp2
    go_ret
    exact ⟨⟨-1, rfl, .inl rfl⟩, hb1⟩
  · have HE : Hid ((tot4 l : Int) + l.length + r = left) := he
    clear he
    go_wp2
    go_ret
    exact ⟨⟨r, rfl, .inr ⟨hr, HE.out⟩⟩, hb1⟩

theorem Box.put3 {w : World} {b : Nat} {u0 u1 u2 : Value} (h : Box w b [u0, u1, u2]) (v0 v1 v2 : Value) : Box (((w.setCell ⟨b, 0, none⟩ v0).setCell ⟨b, 1, none⟩ v1).setCell ⟨b, 2, none⟩ v2) b [v0, v1, v2] :=
  ((h.set 0 v0 (by simp)).set 1 v1 (by simp)).set 2 v2 (by simp)
theorem Box.c3 {w : World} {b : Nat} {v0 v1 v2 : Value} (h : Box w b [v0, v1, v2]) : b < w.heap.size ∧ w.cell? ⟨b, 0, none⟩ = some v0 ∧ w.cell? ⟨b, 1, none⟩ = some v1 ∧ w.cell? ⟨b, 2, none⟩ = some v2 ∧ w.frozen? ⟨b, 0, none⟩ = false ∧ w.frozen? ⟨b, 1, none⟩ = false ∧ w.frozen? ⟨b, 2, none⟩ = false :=
  ⟨h.1, h.2.1 0 _ rfl, h.2.1 1 _ rfl, h.2.1 2 _ rfl, h.2.2 0, h.2.2 1, h.2.2 2⟩

set_option maxHeartbeats 1000000 in
theorem toVersion_any (x y : Int) (v : Value) (l : List Mt) (w : World) (hv : IR w v l) (hn : l.length ≤ 1048576) :
    Calls Try.prog 32 #[.agg #[.int .i64 x, .int .i64 y, v]] w fun e w' => ∃ g, e = .returned (.agg #[.int .i64 x, .int .i64 y, .slice (some ⟨g, 0, none⟩) l.length l.length]) ∧ w'.ownsRow w.heap.size 82 4 (.slice (some ⟨g, 0, none⟩) l.length l.length) l.length (flat4 l) ∧ Below w.heap.size w w' := by
  obtain ⟨W0, hW0⟩ : ∃ W0, W0 = ((w.alloc (.cells #[.int .i64 x, .int .i64 y, v] 49)).alloc (.cells #[.int .i64 0, .int .i64 0, .slice none 0 0] 25)).alloc (.cells #[.int .i64 x, .int .i64 y, .slice none 0 0] 25) := ⟨_, rfl⟩
  have hB : Below w.heap.size w W0 := by rw [hW0]; exact below3 _ _ _ _
  have hv1 := hv.below hB
  have K := toMetaS_any v l _ hv1 hn
  obtain ⟨a, cap, rfl, _⟩ := hv
  have X1 : Box W0 (w.heap.size + 1) [.int .i64 0, .int .i64 0, .slice none 0 0] := by
    rw [hW0]
    have := (Box.new (w.alloc (.cells #[.int .i64 x, .int .i64 y, .slice a l.length cap] 49)) #[.int .i64 0, .int .i64 0, .slice none 0 0] 25).alloc (.cells #[.int .i64 x, .int .i64 y, .slice none 0 0] 25)
    simpa using this
  have X2 : Box W0 (w.heap.size + 1 + 1) [.int .i64 x, .int .i64 y, .slice none 0 0] := by
    rw [hW0]
    have := Box.new ((w.alloc (.cells #[.int .i64 x, .int .i64 y, .slice a l.length cap] 49)).alloc (.cells #[.int .i64 0, .int .i64 0, .slice none 0 0] 25)) #[.int .i64 x, .int .i64 y, .slice none 0 0] 25
    simpa using this
  have hz0 : W0.heap.size = w.heap.size + 1 + 1 + 1 := by rw [hW0]; simp
  rw [hz0] at K
  clear hv1
  go_enter Try.func32, Try.ntmps32
  go_wp2_with fail
  rw [← hW0]
  refine K.mono ?_
  rintro e w1 ⟨rfl, ho, hb⟩
  rw [← hz0] at hb
  have Y1 := X1.below hb
  have Y2 := X2.below hb
  have hb1 := below_then hB hb
  clear X1 X2 hb hB K hz0 hW0 W0
  have ho2 := owns_base ho (base' := w.heap.size) (by omega)
  have hg := (owns_lt ho).2
  obtain ⟨_, q0, q1, q2, f0, f1, f2⟩ := Y1.c3
  obtain ⟨_, p0, p1, p2, e0, e1, e2⟩ := Y2.c3
  obtain ⟨S, hS⟩ : ∃ S, S = Value.slice (some ⟨w.heap.size + 1 + 1 + 1, 0, none⟩) l.length l.length := ⟨_, rfl⟩
  have hC : Chg (fun k => k = w.heap.size + 1 + 1 ∨ k = w.heap.size + 1) w1 ((((w1.setCell ⟨w.heap.size + 1 + 1, 2, none⟩ S).setCell ⟨w.heap.size + 1, 0, none⟩ (.int .i64 x)).setCell ⟨w.heap.size + 1, 1, none⟩ (.int .i64 y)).setCell ⟨w.heap.size + 1, 2, none⟩ S) := ((((Chg.refl _ _).setCell (.inl rfl) _).setCell (.inr rfl) _).setCell (.inr rfl) _).setCell (.inr rfl) _
  have hz1 := hb1.size
  have hO := hC.owns ho2 (by
    intro b hb hh
    have : b = w.heap.size + 1 + 1 + 1 := by simpa [Value.ownBlock] using hb.symm
    omega)
  have hBE := hb1.trans (hC.below (B := w.heap.size) (by omega) (fun k hk => by omega))
  have h3 : w.heap.size + 1 < w1.heap.size := by omega
  have h4 : w.heap.size + 1 + 1 < w1.heap.size := by omega
  clear ho ho2 hb1 Y1 Y2 hC hz1
  rw [hS] at hO hBE
  clear hS S
  go_wp2
  exact bodyPost_ret (v := .agg #[.int .i64 x, .int .i64 y, .slice (some ⟨w.heap.size + 1 + 1 + 1, 0, none⟩) l.length l.length]) (by simp [results, Try.results32, go_sem, q0, q1, q2]) rfl ⟨_, rfl, hO, hBE⟩

set_option maxHeartbeats 1000000 in
theorem eqVersion_same (x y : Int) (u v : Value) (l : List Mt) (w : World) (hu : IR w u l) (hv : IR w v l) (hn : l.length ≤ 1048576) :
    Calls Try.prog 27 #[.agg #[.int .i64 x, .int .i64 y, u], .agg #[.int .i64 x, .int .i64 y, v]] w fun e w' => e = .returned (.bool true) ∧ Below w.heap.size w w' := by
  have hB := below2 w (.cells #[.int .i64 x, .int .i64 y, u] 25) (.cells #[.int .i64 x, .int .i64 y, v] 25)
  have K := eqMetaS_same u v l _ (hu.below hB) (hv.below hB) hn
  obtain ⟨a, cap, rfl, _⟩ := hu
  obtain ⟨a', cap', rfl, _⟩ := hv
  go_enter Try.func27, Try.ntmps27
  go_wp2_with fail
  refine K.mono ?_
  rintro e w1 ⟨rfl, hb⟩
  have hb1 := below_then hB hb
  clear K hB hb
  go_wp2
  go_ret
  exact ⟨rfl, hb1⟩
set_option maxHeartbeats 1000000 in
theorem markVersion_at (x y : Int) (g cap base : Nat) (l : List Mt) (k : Int) (w : World) (ho : w.ownsRow base 82 4 (.slice (some ⟨g, 0, none⟩) l.length cap) l.length (flat4 l)) (hn : l.length ≤ 1048576) (h1 : 1 ≤ k) (h2 : k ≤ 50000000) :
    Calls Try.prog 28 #[.agg #[.int .i64 x, .int .i64 y, .slice (some ⟨g, 0, none⟩) l.length cap], .int .i64 k] w fun e w' => e = .returned (.int .i64 (k + 4 * l.length)) ∧ w'.ownsRow base 82 4 (.slice (some ⟨g, 0, none⟩) l.length cap) l.length (flat4 (mkIts k l.length)) ∧ Chg (fun b => b = g ∨ w.heap.size ≤ b) w w' := by
  have hB0 := below_alloc w (.cells #[.int .i64 x, .int .i64 y, .slice (some ⟨g, 0, none⟩) l.length cap] 25)
  have K := markMetaS_at g cap base l k _ (owns_below ho hB0) hn h1 h2
  clear ho
  go_enter Try.func28, Try.ntmps28
  go_wp2_with fail
  refine K.mono ?_
  rintro e w1 ⟨rfl, ho, hc⟩
  have hC : Chg (fun b => b = g ∨ w.heap.size ≤ b) w w1 := (Chg.of_below hB0).trans (hc.mono fun b h => .inl h)
  clear K hc hB0
  go_wp2
  go_ret
  exact ⟨rfl, ho, hC⟩
set_option maxHeartbeats 1000000 in
theorem heldVersion_at (x y : Int) (v : Value) (n : Nat) (k : Int) (w : World) (hv : IR w v (mkIts k n)) (hn : n ≤ 1048576) (h1 : 1 ≤ k) (h2 : k ≤ 50000000) :
    Calls Try.prog 29 #[.agg #[.int .i64 x, .int .i64 y, v], .int .i64 k] w fun e w' => e = .returned (.int .i64 (k + 4 * n)) ∧ Below w.heap.size w w' := by
  have hB0 := below_alloc w (.cells #[.int .i64 x, .int .i64 y, v] 25)
  have K := heldMetaS_at v n k _ (hv.below hB0) hn h1 h2
  obtain ⟨a, cap, rfl, _⟩ := hv
  go_enter Try.func29, Try.ntmps29
  go_wp2_with fail
  refine K.mono ?_
  rintro e w1 ⟨rfl, hb⟩
  have hB1 := below_then hB0 hb
  clear K hb hB0
  go_wp2
  go_ret
  exact ⟨rfl, hB1⟩
set_option maxHeartbeats 1000000 in
theorem markVersion_nil (x y : Int) (k : Int) (w : World) (h1 : 1 ≤ k) (h2 : k ≤ 50000000) : Calls Try.prog 28 #[.agg #[.int .i64 x, .int .i64 y, .slice none 0 0], .int .i64 k] w fun e w' => e = .returned (.int .i64 k) ∧ Below w.heap.size w w' := by
  have K := markMetaS_nil k (w.alloc (.cells #[.int .i64 x, .int .i64 y, .slice none 0 0] 25)) h1 h2
  go_enter Try.func28, Try.ntmps28
  go_wp2_with fail
  refine K.mono ?_
  rintro e w1 ⟨rfl, hw⟩
  subst hw
  clear K
  go_wp2
  go_ret
  exact ⟨rfl, below_alloc _ _⟩
end Go.Proofs.Ytenbdjlhcadhaaa
