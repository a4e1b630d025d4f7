/-
  spec.DrawSumOf, spec.DrawSumOn, laws.numberOf; bytes of a text that may be written.
  The cursor's among and of; spec.DrawVarBytes, spec.DrawTakeVar.
-/
import Derived.Test.YtenbdjlhcadhaaaD1
namespace Go.Proofs.Ytenbdjlhcadhaaa
open Go.RowKit
set_option maxRecDepth 100000
set_option linter.unusedVariables false

/-- The value v is a slice whose elements are the bytes l. -/
def YL (w : World) (v : Value) (l : List UInt8) : Prop :=
  ∃ a cap, v = .slice a l.length cap ∧ (l ≠ [] → ∃ cb off, a = some ⟨cb, off, none⟩ ∧ cb < w.heap.size ∧ ∀ i (h : i < l.length), w.cell? ⟨cb, off + i, none⟩ = some (.int .u8 (l[i].toNat : Int)))
theorem YL.below {w w' : World} {v : Value} {l : List UInt8} (h : YL w v l) (hb : Below w.heap.size w w') : YL w' v l := by
  obtain ⟨a, cap, hv, hc⟩ := h
  refine ⟨a, cap, hv, fun hl => ?_⟩
  obtain ⟨b, off, ha, hbl, hcell⟩ := hc hl
  exact ⟨b, off, ha, Nat.lt_of_lt_of_le hbl hb.size, fun i hi => (hb.cell (p := ⟨b, off + i, none⟩) hbl).trans (hcell i hi)⟩
theorem cur_new {w : World} {v : Value} {l : List UInt8} (h : YL w v l) : Cur (w.alloc (.cells #[v, .int .i64 0, .int .u64 0] 74)) w.heap.size l 0 := by
  have hb := below_alloc w (.cells #[v, .int .i64 0, .int .u64 0] 74)
  refine ⟨v, 0, 0, Box.new w #[v, .int .i64 0, .int .u64 0] 74, by omega, by omega, ?_⟩
  obtain ⟨a, cap, rfl, hc⟩ := h
  refine ⟨a, cap, rfl, fun hl => ?_⟩
  obtain ⟨cb, off, ha, hbl, hcell⟩ := hc hl
  exact ⟨cb, off, ha, Nat.lt_of_lt_of_le hbl hb.size, hbl, fun i hi => (hb.cell (p := ⟨cb, off + i, none⟩) hbl).trans (hcell i hi)⟩
theorem below_cur {w w1 w2 : World} (hb : Below w.heap.size w w1) (hc : Chg (· = w.heap.size) w1 w2) : Below w.heap.size w w2 :=
  hb.trans (hc.below hb.size (fun k hk => by omega))

/-- Block g holds the bytes m; they may be written. -/
def Wr (w : World) (g : Nat) (m : List UInt8) : Prop := g < w.heap.size ∧ ∀ j (h : j < m.length), w.cell? ⟨g, j, none⟩ = some (.int .u8 (m[j].toNat : Int)) ∧ w.frozen? ⟨g, j, none⟩ = false
theorem Wr.below {w w' : World} {g : Nat} {m : List UInt8} (h : Wr w g m) (hb : Below w.heap.size w w') : Wr w' g m :=
  ⟨Nat.lt_of_lt_of_le h.1 hb.size, fun j hj => ⟨(hb.cell (p := ⟨g, j, none⟩) h.1).trans (h.2 j hj).1, (hb.frozen (p := ⟨g, j, none⟩) h.1).trans (h.2 j hj).2⟩⟩
theorem Wr.set {w : World} {g : Nat} {m : List UInt8} (h : Wr w g m) (i : Nat) (hi : i < m.length) (c : UInt8) : Wr (w.setCell ⟨g, i, none⟩ (.int .u8 (c.toNat : Int))) g (m.set i c) := by
  refine ⟨by simpa using h.1, fun j hj => ⟨?_, by simpa using (h.2 j (by simpa using hj)).2⟩⟩
  by_cases hji : j = i
  · subst hji
    rw [World.cell?_setCell_same _ _ _ (h.2 j hi).1, List.getElem_set_self]
  · rw [World.cell?_setCell_other _ _ _ _ (fun e => hji (congrArg Addr.off e).symm), List.getElem_set_ne (by omega)]
    exact (h.2 j (by simpa using hj)).1
theorem bytes_of (s : ByteArray) (w : World) : ∃ cap W', (convert 9 22 (.string s)).run Try.prog w = .ok (.slice (some ⟨w.heap.size, 0, none⟩) s.size cap) W' ∧ Wr W' w.heap.size s.data.toList ∧ Below w.heap.size w W' := by
  refine ⟨_, _, run_bytes_of_string w 9 22 5 s Try.underlying9 Try.underlying22 Try.underlying5, ⟨?_, fun j hj => ?_⟩, (Below.refl _ _).drew.alloc (Nat.le_refl _) _⟩
  · simp
  · have hj' : j < s.data.size := by simpa using hj
    refine ⟨?_, ?_⟩
    · refine (World.cell?_alloc_mark w.drew _ _ _ j).trans ?_
      rw [bytesRow_at s _ j hj']; simp
    · refine (World.frozen?_alloc_mark w.drew _ _ _ _ j).trans ?_
      have hsz : s.data.size ≤ (bytesRow s (grownCap w s.size 0 5)).size := by
        unfold bytesRow
        rw [Array.size_append, Array.size_map]; omega
      rw [decide_eq_false (by omega), Bool.false_and]
theorem conv_wr {w : World} {g cap n : Nat} {m : List UInt8} (h : Wr w g m) (hn : m.length = n) : (convert 22 9 (.slice (some ⟨g, 0, none⟩) n cap)).run Try.prog w = .ok (.string ⟨m.toArray⟩) w := by
  subst hn
  have := run_convert_bytes_back (P := Try.prog) w 22 9 5 ⟨g, 0, none⟩ cap m Try.underlying22 Try.underlying5 Try.underlying9 (by
    intro j hj
    rw [show (⟨g, 0, none⟩ : Addr).add j = ⟨g, j, none⟩ from by simp [Addr.add]; omega]
    exact (h.2 j hj).1)
  simpa using this
end Go.Proofs.Ytenbdjlhcadhaaa

namespace Go.Proofs.Ytenbdjlhcadhaaa
open Go.RowKit
set_option maxRecDepth 100000
set_option linter.unusedVariables false

set_option maxRecDepth 100000 in
set_option maxHeartbeats 1000000 in
theorem among_any (b : Nat) (l : List UInt8) (K g : Nat) (xs : List Int) (w : World) (h : Cur w b l K) (hl : l.length ≤ 9223372036854775807) (hK : K ≤ 10000000) (hx : Box w g (xs.map (Value.int .i64))) (hg : g ≠ b) (h0 : 0 < xs.length) (h1 : xs.length ≤ 1000) :
    Calls Try.prog 94 #[.pointer (some ⟨b, 0, none⟩), .slice (some ⟨g, 0, none⟩) xs.length xs.length] w fun e w' => (∃ x, e = .returned (.int .i64 x) ∧ x ∈ xs) ∧ Cur w' b l (K + 2) ∧ Chg (· = b) w w' := by
  go_enter Try.func94, Try.ntmps94
  go_wp2_with fail
  refine (pick_any b l K xs.length _ h hl (by omega) (by omega)).mono ?_
  rintro e w1 ⟨⟨x, rfl, hxl⟩, hc1, hch1⟩
  have hlt : x < xs.length := by omega
  have hx1 := hch1.box hx hg
  have d0 := hx1.2.1 x (.int .i64 xs[x]) (by simp [hlt])
  have hgl := hx1.1
  obtain ⟨y, hy⟩ : ∃ y, y = xs[x] := ⟨_, rfl⟩
  have hmem : Hid (y ∈ xs) := by rw [hy]; exact List.getElem_mem _
  rw [← hy] at d0
  clear hy hx hx1
  go_wp2
  go_ret
  exact ⟨⟨y, rfl, hmem.out⟩, hc1, hch1⟩

set_option maxRecDepth 100000 in
set_option maxHeartbeats 1000000 in
theorem of_any (b : Nat) (l : List UInt8) (K g : Nat) (xs : List ByteArray) (w : World) (h : Cur w b l K) (hl : l.length ≤ 9223372036854775807) (hK : K ≤ 10000000) (hx : Box w g (xs.map Value.string)) (hg : g ≠ b) (h0 : 0 < xs.length) (h1 : xs.length ≤ 1000) :
    Calls Try.prog 100 #[.pointer (some ⟨b, 0, none⟩), .slice (some ⟨g, 0, none⟩) xs.length xs.length] w fun e w' => (∃ x, e = .returned (.string x) ∧ x ∈ xs) ∧ Cur w' b l (K + 2) ∧ Chg (· = b) w w' := by
  go_enter Try.func100, Try.ntmps100
  go_wp2_with fail
  refine (pick_any b l K xs.length _ h hl (by omega) (by omega)).mono ?_
  rintro e w1 ⟨⟨x, rfl, hxl⟩, hc1, hch1⟩
  have hlt : x < xs.length := by omega
  have hx1 := hch1.box hx hg
  have d0 := hx1.2.1 x (.string xs[x]) (by simp [hlt])
  have hgl := hx1.1
  obtain ⟨y, hy⟩ : ∃ y, y = xs[x] := ⟨_, rfl⟩
  have hmem : Hid (y ∈ xs) := by rw [hy]; exact List.getElem_mem _
  rw [← hy] at d0
  clear hy hx hx1
  go_wp2
  go_ret
  exact ⟨⟨y, rfl, hmem.out⟩, hc1, hch1⟩

theorem varT_le (n : Int) (h : n ≤ 9223372036854775807) : (varT n).size ≤ 9 := by
  by_cases h0 : 0 ≤ n
  · obtain ⟨k, rfl⟩ := Int.eq_ofNat_of_zero_le h0
    rw [varT_nat]
    have := varL_len 8 k (by simpa using (show k < 9223372036854775808 from by omega))
    show (varL k).toArray.size ≤ 9
    simpa using this
  · rw [varT_neg n (by omega)]; exact Nat.zero_le _

end Go.Proofs.Ytenbdjlhcadhaaa
