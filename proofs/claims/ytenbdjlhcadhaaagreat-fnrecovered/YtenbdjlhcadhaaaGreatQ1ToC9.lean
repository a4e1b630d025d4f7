/-
  Marks in a list of items: markText, markMetaS, heldMetaS.
  A version as a struct: the law's own szVersion, toVersion, eqVersion, markVersion, heldVersion.
  Rows marked and held, nil or not; an edit as a struct: the law's own szEdit, toEdit, eqEdit, markEdit, heldEdit.
  slices.ContainsFunc over metas, with a meta's method for the asker.
-/
import Derived.Test.YtenbdjlhcadhaaaGreatM1
import Derived.Test.YtenbdjlhcadhaaaGreatQ9
import Derived.Test.YtenbdjlhcadhaaaGreatN9
namespace Go.Proofs.YtenbdjlhcadhaaaGreat
open Go.RowKit
set_option linter.unusedVariables false
set_option maxRecDepth 100000

/-- The meta marked from k on; the first j of l marked. -/
def mkIt (k : Int) : Mt := ⟨k, k + 1, mkT (k + 1 + 1), mkT (k + 1 + 1 + 1)⟩
def mkIts (k : Int) (n : Nat) : List Mt := (List.range n).map fun j : Nat => mkIt (k + 4 * (j : Int))
theorem mkIts_length (k : Int) (n : Nat) : (mkIts k n).length = n := by simp [mkIts]
theorem mkIts_at (k : Int) (n j : Nat) (h : j < n) : (mkIts k n)[j]'(by rw [mkIts_length]; exact h) = mkIt (k + 4 * (j : Int)) := by simp [mkIts]
def mkP (l : List Mt) (k : Int) (j : Nat) : List Mt := (mkIts k l.length).take j ++ l.drop j
theorem mkP_set (l : List Mt) (k : Int) (j : Nat) (h : j < l.length) : (mkP l k j).set j (mkIt (k + 4 * (j : Int))) = mkP l k (j + 1) := by
  unfold mkP
  have h1 : ((mkIts k l.length).take j).length = j := by rw [List.length_take, mkIts_length]; omega
  rw [List.set_append_right _ _ (by omega), h1, Nat.sub_self, List.take_succ_eq_append_getElem (by rw [mkIts_length]; exact h), mkIts_at k _ j h, List.drop_eq_getElem_cons h, List.set_cons_zero, List.append_assoc]
  rfl
theorem mkP_all (l : List Mt) (k : Int) : mkP l k l.length = mkIts k l.length := by
  unfold mkP
  rw [List.take_of_length_le (by rw [mkIts_length]; omega), List.drop_eq_nil_of_le (by omega), List.append_nil]
theorem mkP_zero (l : List Mt) (k : Int) : mkP l k 0 = l := by simp [mkP]

end Go.Proofs.YtenbdjlhcadhaaaGreat

namespace Go.Proofs.YtenbdjlhcadhaaaGreat
open Go.RowKit
set_option linter.unusedVariables false
set_option maxRecDepth 100000

theorem Box.put3 {w : World} {b : Nat} {u0 u1 u2 : Value} (h : Box w b [u0, u1, u2]) (v0 v1 v2 : Value) : Box (((w.setCell ⟨b, 0, none⟩ v0).setCell ⟨b, 1, none⟩ v1).setCell ⟨b, 2, none⟩ v2) b [v0, v1, v2] :=
  ((h.set 0 v0 (by simp)).set 1 v1 (by simp)).set 2 v2 (by simp)
theorem Box.c3 {w : World} {b : Nat} {v0 v1 v2 : Value} (h : Box w b [v0, v1, v2]) : b < w.heap.size ∧ w.cell? ⟨b, 0, none⟩ = some v0 ∧ w.cell? ⟨b, 1, none⟩ = some v1 ∧ w.cell? ⟨b, 2, none⟩ = some v2 ∧ w.frozen? ⟨b, 0, none⟩ = false ∧ w.frozen? ⟨b, 1, none⟩ = false ∧ w.frozen? ⟨b, 2, none⟩ = false :=
  ⟨h.1, h.2.1 0 _ rfl, h.2.1 1 _ rfl, h.2.1 2 _ rfl, h.2.2 0, h.2.2 1, h.2.2 2⟩

end Go.Proofs.YtenbdjlhcadhaaaGreat

namespace Go.Proofs.YtenbdjlhcadhaaaGreat
open Go.RowKit
set_option linter.unusedVariables false
set_option maxRecDepth 100000

theorem owns_type_ne {w : World} {b1 b2 : Nat} {e1 e2 : TypeId} {s1 s2 : Nat} {v1 v2 : Value} {n1 n2 : Nat} {x1 x2 : List Value} (h1 : w.ownsRow b1 e1 s1 v1 n1 x1) (h2 : w.ownsRow b2 e2 s2 v2 n2 x2) (hne : e1 ≠ e2) : ∀ g, v1.ownBlock = some g → v2.ownBlock ≠ some g := by
  intro g hg hg2
  rcases h1.2 with ⟨rfl, _⟩ | ⟨g1, c1, cur1, rfl, _, hh1, _⟩
  · simp [Value.ownBlock] at hg
  · rcases h2.2 with ⟨rfl, _⟩ | ⟨g2, c2, cur2, rfl, _, hh2, _⟩
    · simp [Value.ownBlock] at hg2
    · simp only [Value.ownBlock, Option.some.injEq] at hg hg2
      subst hg hg2
      rw [hh1] at hh2
      simp only [Option.some.injEq, Obj.cells.injEq] at hh2
      exact hne hh2.2.1
theorem owns_mono' {w : World} {base base' : Nat} {e : TypeId} {size : Nat} {v : Value} {n : Nat} {xs : List Value} (h : w.ownsRow base e size v n xs) (hb : base' ≤ base) : w.ownsRow base' e size v n xs := by
  refine ⟨h.1, ?_⟩
  rcases h.2 with h0 | ⟨g, cap, cur, hv, hbg, r⟩
  · exact .inl h0
  · exact .inr ⟨g, cap, cur, hv, Nat.le_trans hb hbg, r⟩
theorem ownB_slice (g n cap : Nat) : (Value.slice (some ⟨g, 0, none⟩) n cap).ownBlock = some g := rfl

end Go.Proofs.YtenbdjlhcadhaaaGreat

namespace Go.Proofs.YtenbdjlhcadhaaaGreat
open Go.RowKit
set_option linter.unusedVariables false
set_option maxRecDepth 100000

/-- By the program's way: m clashes with o. -/
def clI (m o : Mt) : Bool := decide (0 < m.d) && ovI m o
theorem any_take_succ (f : Mt → Bool) (l : List Mt) (k : Nat) (h : k < l.length) : (l.take (k + 1)).any f = ((l.take k).any f || f l[k]) := by
  rw [List.take_succ_eq_append_getElem h, List.any_append]; simp
theorem any_of (f : Mt → Bool) (l : List Mt) (k : Nat) (h : k < l.length) (hf : f l[k] = true) : l.any f = true := List.any_eq_true.2 ⟨l[k], List.getElem_mem h, hf⟩

set_option maxHeartbeats 2000000 in
theorem indexFunc_any (n d : Int) (k v : ByteArray) (s : Value) (l : List Mt) (w : World) (hs : IR w s l) (hn : l.length ≤ 1048576) :
    Calls Tryz.prog 74 #[s, .func (.func 44) #[.agg #[.int .i64 n, .int .i64 d, .string k, .string v]] #[]] w fun e w' => (∃ r : Int, e = .returned (.int .i64 r) ∧ decide (0 ≤ r) = l.any (clI ⟨n, d, k, v⟩)) ∧ Below w.heap.size w w' := by
  obtain ⟨a, cap, rfl, hc⟩ := hs
  go_enter Tryz.func74, Tryz.ntmps74
  go_wp2
  go_loopw [8] (fun i wr => ∃ j : Nat, j ≤ l.length ∧ i = .int .i64 j ∧ (l.take j).any (clI ⟨n, d, k, v⟩) = false ∧ Below w.heap.size w wr) (fun i _ => l.length - (intOf i).toNat)
  case atStart => exact ⟨0, Nat.zero_le _, rfl, rfl, Below.refl _ _⟩
  case round =>
    obtain ⟨j, hj, rfl, hg, hb⟩ := hrel
    have hz := hb.size
    by_cases hlt : j < l.length
    · obtain ⟨b, off, rfl, hbl, hcell⟩ := hc (by intro e; simp [e] at hlt)
      have hc0 := (hb.cell (p := ⟨b, off + j * 4, none⟩) hbl).trans (hcell j hlt).1
      have hc1 := (hb.cell (p := ⟨b, off + j * 4 + 1, none⟩) hbl).trans (hcell j hlt).2.1
      have hc2 := (hb.cell (p := ⟨b, off + j * 4 + 2, none⟩) hbl).trans (hcell j hlt).2.2.1
      have hc3 := (hb.cell (p := ⟨b, off + j * 4 + 3, none⟩) hbl).trans (hcell j hlt).2.2.2
      have hbl2 : b < wr.heap.size := by omega
      have K := clashes_any n d k v l[j].n l[j].d l[j].k l[j].v wr
      have HT : Hid ((l.take (j + 1)).any (clI ⟨n, d, k, v⟩) = clI ⟨n, d, k, v⟩ l[j]) := by show _ = _; rw [any_take_succ _ l j hlt, hg]; rfl
      have HA : Hid (clI ⟨n, d, k, v⟩ l[j] = true → l.any (clI ⟨n, d, k, v⟩) = true) := fun h => any_of _ l j hlt h
      have HC : Hid ((decide (0 < d) && ovI ⟨n, d, k, v⟩ ⟨l[j].n, l[j].d, l[j].k, l[j].v⟩) = clI ⟨n, d, k, v⟩ l[j]) := rfl
      rw [HC.out] at K
      clear hcell hc HC hg
      generalize clI ⟨n, d, k, v⟩ l[j] = c at *
      generalize l[j] = t at *
      obtain ⟨tn, td, tk, tv⟩ := t
      dsimp only at *
      go_wp2_with fail
      refine K.mono ?_
      rintro e w1 ⟨rfl, hb1⟩
      have hB1 := hb.trans (hb1.mono hz)
      clear K hb hb1 hc0 hc1 hc2 hc3
      cases c
      · go_wp2
        go_roundw
        case rel => exact ⟨j + 1, by omega, by go_num, HT.out, hB1⟩
        case measure => simp [intOf]; omega
      · have HA2 : Hid (l.any (clI ⟨n, d, k, v⟩) = true) := HA.out rfl
        clear HA HT
        go_wp2
        go_ret
        exact ⟨⟨j, rfl, by rw [HA2.out]; simp⟩, hB1⟩
    · obtain rfl : j = l.length := by omega
      rw [List.take_length] at hg
      have HG : Hid (l.any (clI ⟨n, d, k, v⟩) = false) := hg
      clear hg hc
      go_wp2
      go_ret
      exact ⟨⟨-1, rfl, by rw [HG.out]; rfl⟩, hb⟩
set_option maxHeartbeats 2000000 in
theorem containsFunc_any (n d : Int) (k v : ByteArray) (s : Value) (l : List Mt) (w : World) (hs : IR w s l) (hn : l.length ≤ 1048576) :
    Calls Tryz.prog 43 #[s, .func (.func 44) #[.agg #[.int .i64 n, .int .i64 d, .string k, .string v]] #[]] w fun e w' => e = .returned (.bool (l.any (clI ⟨n, d, k, v⟩))) ∧ Below w.heap.size w w' := by
  have K := indexFunc_any n d k v s l w hs hn
  obtain ⟨a, cap, rfl, hc⟩ := hs
  generalize l.any (clI ⟨n, d, k, v⟩) = c at *
  clear hc
  go_enter Tryz.func43, Tryz.ntmps43
  go_wp2_with fail
  refine K.mono ?_
  rintro e w1 ⟨⟨r, rfl, hr⟩, hb1⟩
  have HR : Hid (decide (0 ≤ r) = c) := hr
  clear hr K
  go_wp2
  go_ret
  exact ⟨by rw [← HR.out]; rfl, hb1⟩
end Go.Proofs.YtenbdjlhcadhaaaGreat
