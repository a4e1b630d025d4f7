/-
  The bytes of a run's table: impl.TableBytes.
-/
import Derived.Test.YtfdaffnkgpdhhaaGreatJz
namespace Go.Proofs.YtfdaffnkgpdhhaaGreat
open Go.RowKit
set_option linter.unusedVariables false
set_option maxRecDepth 100000

theorem catT_flat (l : List Part) : ∀ i, i ≤ l.length → catT l i = ((l.take i).map (fun p => bl (txP p))).flatten := by
  intro i
  induction i with
  | zero => intro _; simp [catT]
  | succ i ih =>
    intro hi
    rw [catT, ih (by omega), List.take_succ_eq_append_getElem (by omega), List.map_append, List.flatten_append]
    simp [List.getD_eq_getElem?_getD, List.getElem?_eq_getElem (show i < l.length by omega)]
theorem blks_flat (b off : Nat) (l : List It) (n : Nat) : (((List.range n).map (blkP b off l)).map (fun p => bl (txP p))).flatten = bsL l n := by
  induction n with
  | zero => rfl
  | succ n ih =>
    rw [List.range_succ, List.map_append, List.map_append, List.flatten_append, ih, bsL]
    simp [blkP, txP, bl_tx]
theorem frameT_bl (s : ByteArray) (h : s.size ≤ 1000) : bl (frameT s) = frameL (bl s) := by unfold frameT; rw [if_pos h]; rfl
theorem parts_cat {l : List It} (hk : okT l = true) (b off : Nat) (vi : Value) (m : Int) : catT (partsL b off l vi m) (partsL b off l vi m).length = tbL l := by
  rw [catT_flat _ _ (Nat.le_refl _), List.take_length]
  have hp := okT_parts hk
  have hn := nb_le hk
  have hx := ixL_len hk (Nat.le_refl _)
  obtain ⟨m', _, _, hfs⟩ := filF_run hk
  have hc : catP (plsL l (nb l)) (plsL l (nb l)).length = ixL l (nb l) := by rw [plsL_len]; exact catP_pls l _ _ (Nat.le_refl _)
  unfold partsL
  rw [List.map_append, List.flatten_append, blks_flat]
  simp only [List.map_cons, List.map_nil, List.flatten_cons, List.flatten_nil, List.append_nil, txP, hc]
  rw [frameT_bl _ (by rw [tx_size]; omega), frameT_bl _ (by omega), bl_tx, bl_tx]
  simp [tbL]
theorem okPl_plc {l : List It} (hk : okT l = true) {i : Nat} (hi : i < nb l) : okPl (plc l i) := by
  have hp := okT_parts hk
  have hn := nb_le hk
  have h1 := lastI_ok hp.1 hi
  have h2 := okIt_key h1
  have h3 := okIt_seq h1
  have h4 := bsL_len hp.1 i
  have h5 := chk_small hp.1 i
  refine ⟨h2.2, h3.1, h3.2, ?_, ?_, ?_, ?_⟩ <;> show _ ≤ _ <;> simp only [plc] <;> omega
theorem pls_getD (l : List It) (n i : Nat) (hi : i < n) : (plsL l n).getD i default = plc l i := by
  simp [plsL, List.getD_eq_getElem?_getD, List.getElem?_map, List.getElem?_range hi]
theorem parts_ok {w : World} {b off cap : Nat} {l : List It} {vi : Value} {m : Int} (hk : okT l = true) (hir : IR w (.slice (some ⟨b, off, none⟩) l.length cap) l) (hpr : PR w vi (plsL l (nb l))) :
    ∀ p ∈ partsL b off l vi m, okP w p := by
  have hp := okT_parts hk
  have hn := nb_le hk
  intro p hm
  unfold partsL at hm
  rw [List.mem_append] at hm
  rcases hm with hm | hm
  · obtain ⟨i, hi, rfl⟩ := List.mem_map.1 hm
    have hi' := List.mem_range.1 hi
    exact ⟨IR_chunk hir hi', by rw [tx_size]; have := chk_small hp.1 i; omega⟩
  · simp only [List.mem_cons, List.not_mem_nil, or_false] at hm
    rcases hm with rfl | rfl | rfl
    · refine ⟨hpr, by rw [plsL_len]; omega, fun i hi => ?_⟩
      rw [plsL_len] at hi
      rw [pls_getD l _ i hi]
      exact okPl_plc hk hi
    · obtain ⟨m', _, _, hfs⟩ := filF_run hk
      show (fbT l).size ≤ 1000
      omega
    · have := bsL_len hp.1 (nb l)
      show _ < _
      omega
theorem ok_getD {w : World} {l : List Part} (h : ∀ p ∈ l, okP w p) : ∀ i, i < l.length → okP w (l.getD i (.fin 0)) := by
  intro i hi
  rw [List.getD_eq_getElem?_getD, List.getElem?_eq_getElem hi]
  exact h _ (List.getElem_mem hi)
theorem parts_len {l : List It} (hk : okT l = true) (b off : Nat) (vi : Value) (m : Int) : (partsL b off l vi m).length ≤ 100 := by
  have hn := nb_le hk
  simp [partsL]; omega
/-- What TableBytes answers. -/
def tabF (l : List It) : ByteArray := if okT l then tb l else ⟨#[]⟩

set_option maxHeartbeats 1000000 in
theorem implTab_any (a : Option Addr) (cap : Nat) (l : List It) (w : World) (hv : IR w (.slice a l.length cap) l) (hcap : l.length ≤ cap) (hn : l.length ≤ 1048576) (hs : ∀ i (h : i < l.length), l[i].k.size ≤ 1048576 ∧ l[i].v.size ≤ 1048576) :
    Calls Tryz.prog 9 #[.slice a l.length cap] w fun e w' => e = .returned (.tuple #[.string (tabF l), .bool (okT l)]) ∧ Below w.heap.size w w' := by
  have KP := callsIn_wide.1 (partsOf_in a cap l w hv hcap hn hs)
  go_enter Tryz.func9, Tryz.ntmps9
  go_wp2_with fail
  refine KP.mono ?_
  rintro e w1 (⟨hk, rfl, hb1⟩ | ⟨hk, b, off, pv, vi, m, rfl, rfl, hq, hown, hf, hb1⟩)
  · have KB := fun w => bytesOf_any (.slice none 0 0) [] w (QR_nil w) (by simp) (by simp)
    have HT : Hid (tabF l = tx (catT [] ([] : List Part).length)) := by show _ = _; unfold tabF; rw [if_neg (by rw [hk]; simp)]; rfl
    have HK : Hid (okT l = false) := hk
    generalize tx (catT [] ([] : List Part).length) = T at *
    clear hv KP hs hk
    go_wp2_with fail
    refine (KB _).mono ?_
    rintro e w2 ⟨rfl, hb2⟩
    have hB := below_then hb1 hb2
    go_wp2
    go_ret2
    exact ⟨by rw [HT.out, HK.out]; rfl, hB⟩
  · have hpr := PR_of_owns hown (by rw [plsL_len])
    have KB := bytesOf_any pv (partsL b off l vi m) w1 hq (parts_len hk _ _ _ _) (ok_getD (parts_ok hk (hv.below hb1) hpr))
    rw [parts_cat hk] at KB
    have HT : Hid (tabF l = tx (tbL l)) := by show _ = _; unfold tabF; rw [if_pos hk]; rfl
    have HK : Hid (okT l = true) := hk
    generalize tx (tbL l) = T at *
    obtain ⟨pa, pc, rfl, hcq⟩ := hq
    clear hcq hv KP hs hk hpr hown hf
    generalize (partsL b off l vi m).length = q at *
    go_wp2_with fail
    refine KB.mono ?_
    rintro e w2 ⟨rfl, hb2⟩
    have hB := below_then hb1 hb2
    go_wp2
    go_ret2
    exact ⟨by rw [HT.out, HK.out]; rfl, hB⟩
end Go.Proofs.YtfdaffnkgpdhhaaGreat
