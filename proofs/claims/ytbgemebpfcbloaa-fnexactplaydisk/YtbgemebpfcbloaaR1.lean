/-
  impl.liveFiles, impl.crashedFiles: rows of files, each an interface value.
-/
import Derived.Test.YtbgemebpfcbloaaN1
namespace Go.Proofs.Ytbgemebpfcbloaa
open Go.RowKit
set_option maxRecDepth 100000
set_option linter.unusedVariables false

theorem Try.info148 : (Try.prog.info? 148).map (fun i => (i.zero, i.size, i.bytes)) = some (some .nilIface, 1, 16) := by kernel_rfl

/-- A file as it is now; as a crash leaves it. -/
def liveV (x : ByteArray × Int) : Value := .iface 152 (.agg #[.string x.1, .int .i64 x.2])
def crashV (keep : Int) (x : ByteArray × Int) : Value := .iface 150 (.agg #[.string x.1, .int .i64 x.2, .int .i64 keep])

set_option maxRecDepth 100000 in
set_option maxHeartbeats 1000000 in
theorem liveFiles_any (v : Value) (l : List (ByteArray × Int)) (w : World) (hv : PL w v l) (hn : l.length ≤ 1048576) :
    Calls Try.prog 66 #[v] w fun e w' => ∃ u, e = .returned u ∧ w'.ownsRow w.heap.size 148 1 u l.length (l.map liveV) ∧ Below w.heap.size w w' := by
  obtain ⟨i0, hi, hz0, hzs, hzb⟩ := info_parts Try.info148
  obtain ⟨a, cap, rfl, hc⟩ := hv
  go_enter Try.func66, Try.ntmps66
  go_wp2
  go_loopw [3, 8] (fun v i wr => ∃ k : Nat, k ≤ l.length ∧ i = .int .i64 k ∧ wr.ownsRow w.heap.size 148 1 v (l.take k).length ((l.take k).map liveV) ∧ Below w.heap.size w wr) (fun _ i _ => l.length - (intOf i).toNat)
  case atStart => exact ⟨0, Nat.zero_le _, rfl, World.ownsRow_nil _ _ _ _, Below.refl _ _⟩
  case round =>
    obtain ⟨k, hk, rfl, hown, hb⟩ := hrel
    by_cases hlt : k < l.length
    · obtain ⟨b, off, rfl, hbl, hcell⟩ := hc (by intro e; simp [e] at hlt)
      obtain ⟨s, hse⟩ : ∃ s, s = l[k].1 := ⟨_, rfl⟩
      obtain ⟨m, hme⟩ : ∃ m, m = l[k].2 := ⟨_, rfl⟩
      have e0 : wr.cell? ⟨b, off + k * 2, none⟩ = some (.string s) := by rw [hse]; exact (hb.cell (p := ⟨b, off + k * 2, none⟩) hbl).trans (hcell k hlt).1
      have e1 : wr.cell? ⟨b, off + k * 2 + 1, none⟩ = some (.int .i64 m) := by rw [hme]; exact (hb.cell (p := ⟨b, off + k * 2 + 1, none⟩) hbl).trans (hcell k hlt).2
      have HT : Hid ((l.take (k + 1)).map liveV = (l.take k).map liveV ++ [.iface 152 (.agg #[.string s, .int .i64 m])]) := by
        show _ = _
        rw [hse, hme, List.take_succ_eq_append_getElem hlt, List.map_append]; rfl
      have hlen : (l.take k).length = k := by simp; omega
      have HL : Hid ((l.take (k + 1)).length = k + 1) := by show _ = _; simp; omega
      have hz := hb.size
      rw [hlen] at hown
      clear hcell hse hme hc hlen
      generalize (l.take k).map liveV = L at *
      go_wp2_with (at_builtin; refine wpList_append_own _ rfl _ _ 104 rfl w.heap.size 148 i0 .nilIface 1 16 Try.underlying104 hi hz0 hzs hzb rfl (by decide) _ k L rfl (owns_below (owns_below hown (below_alloc _ _)) (below_alloc _ _)) ⟨wr.heap.size + 1, 0, none⟩ 1 1 [.iface 152 (.agg #[.string s, .int .i64 m])] rfl rfl (by intro j u hj; match j, hj with | 0, hj => simp at hj; subst hj; simp [Addr.add]) (by intro u hu; simp at hu; subst hu; rfl) (by unfold maxLen; omega) (by omega) (by simp; omega) ?_; intro v' w2 hown2 hgrow2 _)
      go_roundw
      case rel =>
        refine ⟨k + 1, by omega, by go_num, ?_, ?_⟩
        · rw [HT.out, HL.out]; exact hown2
        · exact ((hb.alloc hz _).alloc (by simp; omega) _).grown hgrow2 (by simp; omega) (owns_ge hown)
      case measure => simp [intOf]; omega
    · have hkk : k = l.length := by omega
      subst hkk
      rw [List.take_length] at hown
      go_wp2
      go_ret
      exact ⟨_, rfl, hown, hb⟩

set_option maxRecDepth 100000 in
set_option maxHeartbeats 1000000 in
theorem crashedFiles_any (v : Value) (l : List (ByteArray × Int)) (keep : Int) (w : World) (hv : PL w v l) (hn : l.length ≤ 1048576) :
    Calls Try.prog 65 #[v, .int .i64 keep] w fun e w' => ∃ u, e = .returned u ∧ w'.ownsRow w.heap.size 148 1 u l.length (l.map (crashV keep)) ∧ Below w.heap.size w w' := by
  obtain ⟨i0, hi, hz0, hzs, hzb⟩ := info_parts Try.info148
  obtain ⟨a, cap, rfl, hc⟩ := hv
  go_enter Try.func65, Try.ntmps65
  go_wp2
  go_loopw [5, 10] (fun v i wr => ∃ k : Nat, k ≤ l.length ∧ i = .int .i64 k ∧ wr.ownsRow w.heap.size 148 1 v (l.take k).length ((l.take k).map (crashV keep)) ∧ Below w.heap.size w wr) (fun _ i _ => l.length - (intOf i).toNat)
  case atStart => exact ⟨0, Nat.zero_le _, rfl, World.ownsRow_nil _ _ _ _, Below.refl _ _⟩
  case round =>
    obtain ⟨k, hk, rfl, hown, hb⟩ := hrel
    by_cases hlt : k < l.length
    · obtain ⟨b, off, rfl, hbl, hcell⟩ := hc (by intro e; simp [e] at hlt)
      obtain ⟨s, hse⟩ : ∃ s, s = l[k].1 := ⟨_, rfl⟩
      obtain ⟨m, hme⟩ : ∃ m, m = l[k].2 := ⟨_, rfl⟩
      have e0 : wr.cell? ⟨b, off + k * 2, none⟩ = some (.string s) := by rw [hse]; exact (hb.cell (p := ⟨b, off + k * 2, none⟩) hbl).trans (hcell k hlt).1
      have e1 : wr.cell? ⟨b, off + k * 2 + 1, none⟩ = some (.int .i64 m) := by rw [hme]; exact (hb.cell (p := ⟨b, off + k * 2 + 1, none⟩) hbl).trans (hcell k hlt).2
      have HT : Hid ((l.take (k + 1)).map (crashV keep) = (l.take k).map (crashV keep) ++ [.iface 150 (.agg #[.string s, .int .i64 m, .int .i64 keep])]) := by
        show _ = _
        rw [hse, hme, List.take_succ_eq_append_getElem hlt, List.map_append]; rfl
      have hlen : (l.take k).length = k := by simp; omega
      have HL : Hid ((l.take (k + 1)).length = k + 1) := by show _ = _; simp; omega
      have hz := hb.size
      rw [hlen] at hown
      clear hcell hse hme hc hlen
      generalize (l.take k).map (crashV keep) = L at *
      go_wp2_with (at_builtin; refine wpList_append_own _ rfl _ _ 104 rfl w.heap.size 148 i0 .nilIface 1 16 Try.underlying104 hi hz0 hzs hzb rfl (by decide) _ k L rfl (owns_below (owns_below hown (below_alloc _ _)) (below_alloc _ _)) ⟨wr.heap.size + 1, 0, none⟩ 1 1 [.iface 150 (.agg #[.string s, .int .i64 m, .int .i64 keep])] rfl rfl (by intro j u hj; match j, hj with | 0, hj => simp at hj; subst hj; simp [Addr.add]) (by intro u hu; simp at hu; subst hu; rfl) (by unfold maxLen; omega) (by omega) (by simp; omega) ?_; intro v' w2 hown2 hgrow2 _)
      go_roundw
      case rel =>
        refine ⟨k + 1, by omega, by go_num, ?_, ?_⟩
        · rw [HT.out, HL.out]; exact hown2
        · exact ((hb.alloc hz _).alloc (by simp; omega) _).grown hgrow2 (by simp; omega) (owns_ge hown)
      case measure => simp [intOf]; omega
    · have hkk : k = l.length := by omega
      subst hkk
      rw [List.take_length] at hown
      go_wp2
      go_ret
      exact ⟨_, rfl, hown, hb⟩

end Go.Proofs.Ytbgemebpfcbloaa
