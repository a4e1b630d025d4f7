/-
  Frames, plainly: texts come back from their frames, and of frames that are cut the whole ones ahead do.
-/
import Derived.Test.YtbgemebpfcbloaaxN1
namespace Go.Proofs.Ytbgemebpfcbloaa
open Go.RowKit
set_option linter.unusedVariables false
set_option maxRecDepth 100000

def tls (L : List ByteArray) : List (List UInt8) := L.map fun s => s.data.toList
theorem tls_back (L : List ByteArray) : (tls L).map (fun l => (⟨l.toArray⟩ : ByteArray)) = L := by
  unfold tls
  rw [List.map_map]
  refine (List.map_congr_left fun s _ => ?_).trans (List.map_id L)
  exact ba_eq (by simp)
theorem frameT_list (s : ByteArray) (h : s.size ≤ 1000) : (frameT s).data.toList = frameL s.data.toList := by
  unfold frameT; rw [if_pos h]
theorem ba_app (a b : ByteArray) : (a ++ b).data.toList = a.data.toList ++ b.data.toList := by simp
theorem catF_list (L : List ByteArray) (hL : ∀ i (h : i < L.length), L[i].size ≤ 1000) : ∀ k, k ≤ L.length → (catF L k).data.toList = framesL (tls (L.take k)) := by
  intro k
  induction k with
  | zero => intro _; simp [catF, tls, framesL]
  | succ k ih =>
    intro hk
    rw [catF_succ L k (by omega), ba_app, ih (by omega), frameT_list _ (hL k (by omega)), List.take_succ_eq_append_getElem (by omega)]
    unfold tls
    rw [List.map_append, framesL_append]
    simp [framesL]
theorem fs_all {L : List ByteArray} (h : fsOk L = true) : L.length ≤ 60 ∧ ∀ i (hi : i < L.length), L[i].size ≤ 1000 := by
  unfold fsOk at h
  rw [Bool.and_eq_true, decide_eq_true_eq, List.all_eq_true] at h
  exact ⟨h.1, fun i hi => by simpa using h.2 L[i] (List.getElem_mem hi)⟩
theorem fs_list {L : List ByteArray} (h : fsOk L = true) : (fsT L).data.toList = framesL (tls L) := by
  obtain ⟨h1, h2⟩ := fs_all h
  rw [(fs_yes L h1 h2).2, catF_list L h2 L.length (Nat.le_refl _), List.take_of_length_le (Nat.le_refl _)]
theorem tls_le {L : List ByteArray} (h2 : ∀ i (hi : i < L.length), L[i].size ≤ 1000) : ∀ l ∈ tls L, l.length ≤ 1000 := by
  intro l hl
  unfold tls at hl
  obtain ⟨s, hs, rfl⟩ := List.mem_map.1 hl
  obtain ⟨i, hi, rfl⟩ := List.getElem_of_mem hs
  rw [ba_len]; exact h2 i hi
theorem tls_len (L : List ByteArray) : (tls L).length = L.length := by simp [tls]
theorem tls_take (L : List ByteArray) (p : Nat) : (tls L).take p = tls (L.take p) := by unfold tls; rw [List.map_take]
/-- Of the first k bytes the whole ones ahead. -/
theorem read_cut {L : List ByteArray} (h : fsOk L = true) (k : Nat) (hk : k ≤ (fsT L).size) : ∃ p, p ≤ L.length ∧ framesOf ((fsT L).extract 0 k) = L.take p ∧ framesEnd ((fsT L).extract 0 k) ≤ k ∧ (p = L.length → framesEnd ((fsT L).extract 0 k) = (fsT L).size) ∧ ∀ hp : p < L.length, k < framesEnd ((fsT L).extract 0 k) + (frameT L[p]).size := by
  obtain ⟨h1, h2⟩ := fs_all h
  have hl := fs_list h
  have hsz : (fsT L).size = (framesL (tls L)).length := by rw [← hl, ba_len]
  obtain ⟨p, tail, hp, e1, e2, e3, e4⟩ := frames_take (tls L) k (by omega)
  rw [tls_len] at hp
  have hx : ((fsT L).extract 0 k).data.toList = framesL ((tls L).take p) ++ tail := by rw [ext_list, hl, List.drop_zero, Nat.sub_zero, e1]
  have hr := rf_frames ((fsT L).extract 0 k) ((tls L).take p) 60 0 tail (by rw [List.length_take, tls_len]; omega) (Nat.zero_le _) (fun l hl => tls_le h2 l (List.mem_of_mem_take hl)) (by rw [List.drop_zero]; exact hx) (fun r hr => by
    rcases e3 with rfl | ⟨hq, j, hj, rfl⟩
    · exact tfOk_empty r (by rw [← ba_len, hr]; rfl)
    · exact tf_cut r _ j (tls_le h2 _ (List.getElem_mem hq)) hj hr)
  rw [tls_take, tls_back, ← tls_take, Nat.zero_add] at hr
  refine ⟨p, hp, ?_, ?_, ?_, ?_⟩
  · unfold framesOf; rw [hr]
  · unfold framesEnd; rw [hr]; show _ ≤ k; omega
  · intro hpe
    unfold framesEnd; rw [hr, hsz]
    show (framesL ((tls L).take p)).length = _
    rw [List.take_of_length_le (by rw [tls_len]; omega)]
  · intro hp2
    have := e4 (by rw [tls_len]; exact hp2)
    unfold framesEnd; rw [hr]
    show k < (framesL ((tls L).take p)).length + _
    rw [← ba_len, frameT_list _ (h2 p hp2)]
    have e : (tls L)[p]'(by rw [tls_len]; exact hp2) = L[p].data.toList := by simp [tls]
    rw [e] at this
    exact this
theorem read_all {L : List ByteArray} (h : fsOk L = true) : framesOf (fsT L) = L ∧ framesEnd (fsT L) = (fsT L).size := by
  obtain ⟨h1, h2⟩ := fs_all h
  have hl := fs_list h
  have hr := rf_frames (fsT L) (tls L) 60 0 [] (by rw [tls_len]; exact h1) (Nat.zero_le _) (tls_le h2) (by rw [List.drop_zero, hl, List.append_nil]) (fun r hr => tfOk_empty r (by rw [← ba_len, hr]; rfl))
  rw [tls_back, Nat.zero_add, ← hl, ba_len] at hr
  exact ⟨by unfold framesOf; rw [hr], by unfold framesEnd; rw [hr]⟩
theorem fs_size {L : List ByteArray} (hl : L.length ≤ 61) (hs : ∀ i (h : i < L.length), L[i].size ≤ 12) : (fsT L).size ≤ 90000 := by
  by_cases h : fsOk L = true
  · obtain ⟨h1, h2⟩ := fs_all h
    rw [(fs_yes L h1 h2).2]
    have : ∀ k, k ≤ L.length → (catF L k).size ≤ 1013 * k := by
      intro k
      induction k with
      | zero => intro _; exact Nat.zero_le _
      | succ k ih =>
        intro hk
        rw [catF_succ L k (by omega), ByteArray.size_append]
        have h5 := frameT_size L[k] (h2 k (by omega))
        have := ih (by omega)
        omega
    have := this L.length (Nat.le_refl _)
    omega
  · rw [fs_no L (by simpa using h)]; exact Nat.zero_le _
end Go.Proofs.Ytbgemebpfcbloaa
