/-
  A drawn edit: the cursor's edit.
  slices.ContainsFunc over metas, with a meta's method for the asker.
-/
import Derived.Test.YtenbdjlhcadhaaaVM
import Derived.Test.YtenbdjlhcadhaaaG9
import Derived.Test.YtenbdjlhcadhaaaW9
import Derived.Test.YtenbdjlhcadhaaaA9
import Derived.Deep.RegionHeld3
import Derived.Deep.Cut
import Derived.Maps.AppendAt
import Derived.Test.YtenbdjlhcadhaaaN9
namespace Go.Proofs.Ytenbdjlhcadhaaa
open Go.RowKit
set_option linter.unusedVariables false
set_option maxRecDepth 100000

def StopV (p : Prop) : Prop := p
theorem StopV.go {p : Prop} (h : StopV p) : p := h
theorem grown_chgV {w w' : World} {o : Option Nat} (h : w.grownBy w' o) : Chg (fun k => o = some k) w w' := ⟨h.os, h.tape, h.output, h.size, fun k hk hs => h.block k hk fun e => hs e.symm⟩
theorem Try.info3v : (Try.prog.info? 3).map (fun i => (i.zero, i.size, i.bytes)) = some (some (.int .i64 0), 1, 8) := by kernel_rfl
/-- A drawn edit's rows. -/
structure ED (w : World) (base : Nat) (u1 u2 : Value) (D : List Int) (A : List Mt) : Prop where
  oD : w.ownsRow base 3 1 u1 D.length (D.map (Value.int .i64))
  oA : w.ownsRow base 82 4 u2 A.length (flat4 A)
  dl : D.length ≤ 50
  al : A.length ≤ 3
  sz : ∀ i (h : i < A.length), A[i].k.size ≤ 17 ∧ A[i].v.size ≤ 18
end Go.Proofs.Ytenbdjlhcadhaaa

namespace Go.Proofs.Ytenbdjlhcadhaaa
open Go.RowKit
set_option linter.unusedVariables false
set_option maxRecDepth 100000

/-- By the program's way: m clashes with o. -/
def clI (m o : Mt) : Bool := decide (0 < m.d) && ovI m o
theorem any_take_succ (f : Mt → Bool) (l : List Mt) (k : Nat) (h : k < l.length) : (l.take (k + 1)).any f = ((l.take k).any f || f l[k]) := by
  rw [List.take_succ_eq_append_getElem h, List.any_append]; simp
theorem any_of (f : Mt → Bool) (l : List Mt) (k : Nat) (h : k < l.length) (hf : f l[k] = true) : l.any f = true := List.any_eq_true.2 ⟨l[k], List.getElem_mem h, hf⟩

set_option maxHeartbeats 2000000 in
theorem indexFunc_any (n d : Int) (k v : ByteArray) (s : Value) (l : List Mt) (w : World) (hs : IR w s l) (hn : l.length ≤ 1048576) :
    Calls Try.prog 109 #[s, .func (.func 80) #[.agg #[.int .i64 n, .int .i64 d, .string k, .string v]] #[]] w fun e w' => (∃ r : Int, e = .returned (.int .i64 r) ∧ decide (0 ≤ r) = l.any (clI ⟨n, d, k, v⟩)) ∧ Below w.heap.size w w' := by
  obtain ⟨a, cap, rfl, hc⟩ := hs
  go_enter Try.func109, Try.ntmps109
  go_wp2
  go_loopw [8] (fun i wr => ∃ j : Nat, j ≤ l.length ∧ i = .int .i64 j ∧ (l.take j).any (clI ⟨n, d, k, v⟩) = false ∧ Below w.heap.size w wr) (fun i _ => l.length - (intOf i).toNat)
  case atStart => exact ⟨0, Nat.zero_le _, rfl, rfl, Below.refl _ _⟩
  case round =>
    obtain ⟨j, hj, rfl, hg, hb⟩ := hrel
    have hz := hb.size
    by_cases hlt : j < l.length
    · obtain ⟨b, off, rfl, hbl, hcell⟩ := hc (by intro e; simp [e] at hlt)
      have hc0 := (hb.cell (p := ⟨b, off + j * 4, none⟩) hbl).trans (hcell j hlt).1
      have hc1 := (hb.cell (p := ⟨b, off + j * 4 + 1, none⟩) hbl).trans (hcell j hlt).2.1
      have hc2 := (hb.cell (p := ⟨b, off + j * 4 + 2, none⟩) hbl).trans (hcell j hlt).2.2.1
      have hc3 := (hb.cell (p := ⟨b, off + j * 4 + 3, none⟩) hbl).trans (hcell j hlt).2.2.2
      have hbl2 : b < wr.heap.size := by omega
      have K := clashes_any n d k v l[j].n l[j].d l[j].k l[j].v wr
      have HT : Hid ((l.take (j + 1)).any (clI ⟨n, d, k, v⟩) = clI ⟨n, d, k, v⟩ l[j]) := by show _ = _; rw [any_take_succ _ l j hlt, hg]; rfl
      have HA : Hid (clI ⟨n, d, k, v⟩ l[j] = true → l.any (clI ⟨n, d, k, v⟩) = true) := fun h => any_of _ l j hlt h
      have HC : Hid ((decide (0 < d) && ovI ⟨n, d, k, v⟩ ⟨l[j].n, l[j].d, l[j].k, l[j].v⟩) = clI ⟨n, d, k, v⟩ l[j]) := rfl
      rw [HC.out] at K
      clear hcell hc HC hg
      generalize clI ⟨n, d, k, v⟩ l[j] = c at *
      generalize l[j] = t at *
      obtain ⟨tn, td, tk, tv⟩ := t
      dsimp only at *
      go_wp2_with fail
      refine K.mono ?_
      rintro e w1 ⟨rfl, hb1⟩
      have hB1 := hb.trans (hb1.mono hz)
      clear K hb hb1 hc0 hc1 hc2 hc3
      cases c
      · go_wp2
        go_roundw
        case rel => exact ⟨j + 1, by omega, by go_num, HT.out, hB1⟩
        case measure => simp [intOf]; omega
      · have HA2 : Hid (l.any (clI ⟨n, d, k, v⟩) = true) := HA.out rfl
        clear HA HT
        go_wp2
        go_ret
        exact ⟨⟨j, rfl, by rw [HA2.out]; simp⟩, hB1⟩
    · obtain rfl : j = l.length := by omega
      rw [List.take_length] at hg
      have HG : Hid (l.any (clI ⟨n, d, k, v⟩) = false) := hg
      clear hg hc
      go_wp2
      go_ret
      exact ⟨⟨-1, rfl, by rw [HG.out]; rfl⟩, hb⟩
set_option maxHeartbeats 2000000 in
theorem containsFunc_any (n d : Int) (k v : ByteArray) (s : Value) (l : List Mt) (w : World) (hs : IR w s l) (hn : l.length ≤ 1048576) :
    Calls Try.prog 79 #[s, .func (.func 80) #[.agg #[.int .i64 n, .int .i64 d, .string k, .string v]] #[]] w fun e w' => e = .returned (.bool (l.any (clI ⟨n, d, k, v⟩))) ∧ Below w.heap.size w w' := by
  have K := indexFunc_any n d k v s l w hs hn
  obtain ⟨a, cap, rfl, hc⟩ := hs
  generalize l.any (clI ⟨n, d, k, v⟩) = c at *
  clear hc
  go_enter Try.func79, Try.ntmps79
  go_wp2_with fail
  refine K.mono ?_
  rintro e w1 ⟨⟨r, rfl, hr⟩, hb1⟩
  have HR : Hid (decide (0 ≤ r) = c) := hr
  clear hr K
  go_wp2
  go_ret
  exact ⟨by rw [← HR.out]; rfl, hb1⟩
end Go.Proofs.Ytenbdjlhcadhaaa
