/-
  slices.Clone of entries and of numbers; a node copied: copyNode, following, l11Own, l11Follow.
-/
import Derived.Test.YtapfhhmimkkhnaaA1
import Derived.Laws.OwnMore
namespace Go.Proofs.Ytapfhhmimkkhnaa
open Go.RowKit Go.Maps
set_option linter.unusedVariables false
set_option maxRecDepth 100000

def StopA (p : Prop) : Prop := p
theorem StopA.go {p : Prop} (h : StopA p) : p := h
/-- A slice without an array has no room. -/
def Nn (v : Value) : Prop := ∀ n c, v = .slice none n c → n = 0 ∧ c = 0
theorem Nn.own {w : World} {base : Nat} {e : TypeId} {size : Nat} {v : Value} {n : Nat} {xs : List Value} (h : w.ownsRow base e size v n xs) : Nn v := by
  intro m c hv
  rcases h.2 with ⟨h1, _⟩ | ⟨g, cap, cur, h1, _⟩
  · rw [h1] at hv; simp at hv; omega
  · rw [h1] at hv; simp at hv
theorem grown_below {w W w' : World} {B g : Nat} (hb : Below B W w) (hg : w.grownBy w' (some g)) (hB : B ≤ w.heap.size) (h : B ≤ g) : Below B W w' := hb.grown hg hB (fun k hk => by cases hk; exact h)

theorem eqnil_0 (w : World) : (binOp .eql 23 (.slice none 0 0) (.slice none 0 0)).run Try.prog w = .ok (.bool true) w := by kernel_rfl
theorem eqnil_1 (ad : Addr) (n c : Nat) (w : World) : (binOp .eql 23 (.slice (some ad) n c) (.slice none 0 0)).run Try.prog w = .ok (.bool false) w := by kernel_rfl
theorem eqnil_2 (w : World) : (binOp .eql 24 (.slice none 0 0) (.slice none 0 0)).run Try.prog w = .ok (.bool true) w := by kernel_rfl
theorem eqnil_3 (ad : Addr) (n c : Nat) (w : World) : (binOp .eql 24 (.slice (some ad) n c) (.slice none 0 0)).run Try.prog w = .ok (.bool false) w := by kernel_rfl
set_option maxHeartbeats 2000000 in
theorem cloneE_any (v : Value) (l : List En) (w : World) (hv : ER w v l) (hs : Nn v) (hn : l.length ≤ 1048576) :
    Calls Try.prog 67 #[v] w fun e w' => ∃ u, e = .returned u ∧ w'.ownsRow w.heap.size 34 2 u l.length (flat2 l) ∧ Below w.heap.size w w' := by
  have hv0 := hv
  obtain ⟨a, cap, rfl, hc⟩ := hv
  cases a with
  | none =>
    have hl : l = [] := by
      by_cases e : l = []
      · exact e
      · obtain ⟨b, off, h, _⟩ := hc e; cases h
    obtain ⟨_, rfl⟩ := hs _ _ rfl
    subst hl
    clear hc hv0 hs
    have EN := eqnil_0
    go_enter Try.func67, Try.ntmps67
    go_wp2
    go_ret
    exact ⟨_, rfl, World.ownsRow_nil _ _ _ _, Below.refl _ _⟩
  | some ad =>
    have o0 : (w.alloc (.cells #[] 34)).ownsRow w.heap.size 34 2 (.slice (some ⟨w.heap.size, 0, none⟩) 0 0) 0 (flat2 []) := World.ownsRow_lit w #[] 0 (Nat.le_refl _) (by simp [maxLen]) (by simp)
    have hB := below_alloc w (.cells #[] 34)
    have h1 := hv0.below hB
    clear hc hv0 hs
    have EN := eqnil_1 ad l.length cap
    go_enter Try.func67, Try.ntmps67
    go_wp2_with (at_builtin; refine wpList_append_ent _ rfl _ _ rfl rfl w.heap.size _ 0 [] rfl o0 _ l rfl h1 (by omega) (by simp) ?_; intro v' w' hown hgr; refine StopA.go ?_)
    have hB2 := grown_below hB hgr (by simp) (Nat.le_refl _)
    simp only [Nat.zero_add, List.nil_append] at hown
    obtain ⟨ua, uc, rfl⟩ := owns_shape hown
    clear hgr o0 h1 hB
    unfold StopA
    go_wp2
    go_ret
    exact ⟨_, rfl, hown, hB2⟩
set_option maxHeartbeats 2000000 in
theorem cloneI_any (v : Value) (l : List Int) (w : World) (hv : IL w v l) (hs : Nn v) (hn : l.length ≤ 1048576) :
    Calls Try.prog 112 #[v] w fun e w' => ∃ u, e = .returned u ∧ w'.ownsRow w.heap.size 3 1 u l.length (l.map (.int .i64)) ∧ Below w.heap.size w w' := by
  have hv0 := hv
  obtain ⟨a, cap, rfl, hc⟩ := hv
  cases a with
  | none =>
    have hl : l = [] := by
      by_cases e : l = []
      · exact e
      · obtain ⟨b, off, h, _⟩ := hc e; cases h
    obtain ⟨_, rfl⟩ := hs _ _ rfl
    subst hl
    clear hc hv0 hs
    have EN := eqnil_2
    go_enter Try.func112, Try.ntmps112
    go_wp2
    go_ret
    exact ⟨_, rfl, World.ownsRow_nil _ _ _ _, Below.refl _ _⟩
  | some ad =>
    have o0 : (w.alloc (.cells #[] 3)).ownsRow w.heap.size 3 1 (.slice (some ⟨w.heap.size, 0, none⟩) 0 0) 0 (([] : List Int).map (.int .i64)) := World.ownsRow_lit w #[] 0 (Nat.le_refl _) (by simp [maxLen]) (by simp)
    have hB := below_alloc w (.cells #[] 3)
    have h1 := hv0.below hB
    clear hc hv0 hs
    have EN := eqnil_3 ad l.length cap
    go_enter Try.func112, Try.ntmps112
    go_wp2_with (at_builtin; refine wpList_append_int _ rfl _ _ rfl rfl w.heap.size _ 0 [] rfl o0 _ l rfl h1 (by omega) (by simp) ?_; intro v' w' hown hgr; refine StopA.go ?_)
    have hB2 := grown_below hB hgr (by simp) (Nat.le_refl _)
    simp only [Nat.zero_add, List.nil_append] at hown
    obtain ⟨ua, uc, rfl⟩ := owns_shape hown
    clear hgr o0 h1 hB
    unfold StopA
    go_wp2
    go_ret
    exact ⟨_, rfl, hown, hB2⟩
end Go.Proofs.Ytapfhhmimkkhnaa
