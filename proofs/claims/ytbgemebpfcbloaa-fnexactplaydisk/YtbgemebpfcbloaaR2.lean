/-
  impl.meaningOf: a map of the names, and what is looked up in it.
-/
import Derived.Test.YtbgemebpfcbloaaR1
import Derived.Maps.Own
import Derived.Maps.OwnOps
import Derived.Maps.OwnSet
import Derived.Maps.Views
namespace Go.Proofs.Ytbgemebpfcbloaa
open Go.RowKit Go.Maps
set_option maxRecDepth 100000
set_option linter.unusedVariables false

theorem law9 : Keyed Try.prog 9 := string_keyed Try.underlying9
theorem zero3 (w : World) : (zeroValue 3).run Try.prog w = .ok (.int .i64 0) w := by kernel_rfl

def keyL (s : ByteArray) : Lit := .string s.data.toList
def mapD (l : List (ByteArray × Int)) : DataW Unit := l.foldl (fun m x => m.put (keyL x.1) (.lit (.int .i64 x.2))) (.map [])
theorem mapD_snoc (l : List (ByteArray × Int)) (x : ByteArray × Int) : mapD (l ++ [x]) = (mapD l).put (keyL x.1) (.lit (.int .i64 x.2)) := by simp [mapD, List.foldl_append]
theorem keyL_key (s : ByteArray) : WideAt.IsKeyLit (keyL s) := trivial
theorem keyL_inj {s t : ByteArray} (h : keyL s = keyL t) : s = t := by
  unfold keyL at h
  injection h with h
  cases s; cases t; simp only [Array.toList_inj] at h; rw [h]

set_option maxHeartbeats 1000000 in
theorem meaningOf_any (v : Value) (l : List (ByteArray × Int)) (w : World) (hv : PL w v l) (hn : l.length ≤ 1048576) (hs : ∀ i (h : i < l.length), l[i].1.size ≤ 1048576) (hi2 : ∀ i (h : i < l.length), 0 ≤ l[i].2 ∧ l[i].2 ≤ 1048576) :
    Calls Try.prog 52 #[v] w fun e w' => e = .returned (.map (some w.heap.size)) ∧ w'.ownsMap Try.prog 9 (plainElem Try.prog 3) w.heap.size l.length (mapD l) ∧ Below w.heap.size w w' := by
  obtain ⟨a, cap, rfl, hc⟩ := hv
  have hmm := @run_makeMap Try.prog
  go_enter Try.func52, Try.ntmps52
  go_wp2
  go_loopw [9] (fun i wr => ∃ k : Nat, k ≤ l.length ∧ i = .int .i64 k ∧ wr.ownsMap Try.prog 9 (plainElem Try.prog 3) w.heap.size k (mapD (l.take k)) ∧ Below w.heap.size w wr) (fun i _ => l.length - (intOf i).toNat)
  case atStart => exact ⟨0, Nat.zero_le _, rfl, World.ownsMap_made _ _ _ _, below_alloc _ _⟩
  case round =>
    clear hmm
    obtain ⟨k, hk, rfl, hown, hb⟩ := hrel
    by_cases hlt : k < l.length
    · obtain ⟨b, off, rfl, hbl, hcell⟩ := hc (by intro e; simp [e] at hlt)
      obtain ⟨s, hse⟩ : ∃ s, s = l[k].1 := ⟨_, rfl⟩
      obtain ⟨m, hme⟩ : ∃ m, m = l[k].2 := ⟨_, rfl⟩
      have e0 : wr.cell? ⟨b, off + k * 2, none⟩ = some (.string s) := by rw [hse]; exact (hb.cell (p := ⟨b, off + k * 2, none⟩) hbl).trans (hcell k hlt).1
      have e1 : wr.cell? ⟨b, off + k * 2 + 1, none⟩ = some (.int .i64 m) := by rw [hme]; exact (hb.cell (p := ⟨b, off + k * 2 + 1, none⟩) hbl).trans (hcell k hlt).2
      have hkey : keyOf Try.prog 9 (.string s) = some (keyL s) := WideMaps.keyOf_string_mk Try.underlying9 (by rw [hse]; have := hs k hlt; unfold maxLen; omega)
      have hm0 : 0 ≤ m := by rw [hme]; exact (hi2 k hlt).1
      have hm1 : m ≤ 1048576 := by rw [hme]; exact (hi2 k hlt).2
      have HT : Hid (mapD (l.take (k + 1)) = (mapD (l.take k)).put (keyL s) (.lit (.int .i64 m))) := by
        show _ = _
        rw [hse, hme, List.take_succ_eq_append_getElem hlt, mapD_snoc]
      have hz := hb.size
      have hz' : w.heap.size < wr.heap.size := by
        obtain ⟨es, clock, hh, _⟩ := hown
        exact (Array.getElem?_eq_some_iff.1 hh).1
      clear hcell hse hme hc hs hi2
      generalize mapD (l.take k) = D at *
      go_wp2_with (at_mapUpdate; refine wpList_mapUpdate_own _ rfl _ _ _ 94 rfl 9 3 law9 Try.underlying94 _ w.heap.size k _ rfl (hown.alloc _) (by unfold maxLen; omega) _ _ _ rfl rfl hkey _ [] (plainElem_int Try.underlying3 (WalkArith.wf_i64 (by omega))) ?_; intro w2 hown2 hgrow2)
      go_roundw
      case rel => exact ⟨k + 1, by omega, by go_num, by rw [HT.out]; exact hown2, (hb.alloc hz _).grown hgrow2 (by simp; omega) (fun j hj => by cases hj; exact Nat.le_refl _)⟩
      case measure => simp [intOf]; omega
    · have hkk : k = l.length := by omega
      subst hkk
      rw [List.take_length] at hown
      go_wp2
      go_ret
      exact ⟨rfl, hown, hb⟩
end Go.Proofs.Ytbgemebpfcbloaa
