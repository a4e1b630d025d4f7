/-
  spec.DrawSumOf, spec.DrawSumOn, laws.numberOf; bytes of a text that may be written.
  A number comes back from its bytes, whatever stands behind them; what is taken as a number are its bytes: plain facts, no program.
  The cursor's among and of; spec.DrawVarBytes, spec.DrawTakeVar.
-/
import Derived.Test.YtocaigffikdlhaaD1
import Derived.Test.YtocaigffikdlhaaAToB
namespace Go.Proofs.Ytocaigffikdlhaa
open Go.RowKit
set_option linter.unusedVariables false

/-- The value v is a slice whose elements are the bytes l. -/
def YL (w : World) (v : Value) (l : List UInt8) : Prop :=
  ∃ a cap, v = .slice a l.length cap ∧ (l ≠ [] → ∃ cb off, a = some ⟨cb, off, none⟩ ∧ cb < w.heap.size ∧ ∀ i (h : i < l.length), w.cell? ⟨cb, off + i, none⟩ = some (.int .u8 (l[i].toNat : Int)))
theorem YL.below {w w' : World} {v : Value} {l : List UInt8} (h : YL w v l) (hb : Below w.heap.size w w') : YL w' v l := by
  obtain ⟨a, cap, hv, hc⟩ := h
  refine ⟨a, cap, hv, fun hl => ?_⟩
  obtain ⟨b, off, ha, hbl, hcell⟩ := hc hl
  exact ⟨b, off, ha, Nat.lt_of_lt_of_le hbl hb.size, fun i hi => (hb.cell (p := ⟨b, off + i, none⟩) hbl).trans (hcell i hi)⟩
theorem cur_new {w : World} {v : Value} {l : List UInt8} (h : YL w v l) : Cur (w.alloc (.cells #[v, .int .i64 0, .int .u64 0] 88)) w.heap.size l 0 := by
  have hb := below_alloc w (.cells #[v, .int .i64 0, .int .u64 0] 88)
  refine ⟨v, 0, 0, Box.new w #[v, .int .i64 0, .int .u64 0] 88, by omega, by omega, ?_⟩
  obtain ⟨a, cap, rfl, hc⟩ := h
  refine ⟨a, cap, rfl, fun hl => ?_⟩
  obtain ⟨cb, off, ha, hbl, hcell⟩ := hc hl
  exact ⟨cb, off, ha, Nat.lt_of_lt_of_le hbl hb.size, hbl, fun i hi => (hb.cell (p := ⟨cb, off + i, none⟩) hbl).trans (hcell i hi)⟩
theorem below_cur {w w1 w2 : World} (hb : Below w.heap.size w w1) (hc : Chg (· = w.heap.size) w1 w2) : Below w.heap.size w w2 :=
  hb.trans (hc.below hb.size (fun k hk => by omega))

/-- Block g holds the bytes m; they may be written. -/
def Wr (w : World) (g : Nat) (m : List UInt8) : Prop := g < w.heap.size ∧ ∀ j (h : j < m.length), w.cell? ⟨g, j, none⟩ = some (.int .u8 (m[j].toNat : Int)) ∧ w.frozen? ⟨g, j, none⟩ = false
theorem Wr.below {w w' : World} {g : Nat} {m : List UInt8} (h : Wr w g m) (hb : Below w.heap.size w w') : Wr w' g m :=
  ⟨Nat.lt_of_lt_of_le h.1 hb.size, fun j hj => ⟨(hb.cell (p := ⟨g, j, none⟩) h.1).trans (h.2 j hj).1, (hb.frozen (p := ⟨g, j, none⟩) h.1).trans (h.2 j hj).2⟩⟩
theorem Wr.set {w : World} {g : Nat} {m : List UInt8} (h : Wr w g m) (i : Nat) (hi : i < m.length) (c : UInt8) : Wr (w.setCell ⟨g, i, none⟩ (.int .u8 (c.toNat : Int))) g (m.set i c) := by
  refine ⟨by simpa using h.1, fun j hj => ⟨?_, by simpa using (h.2 j (by simpa using hj)).2⟩⟩
  by_cases hji : j = i
  · subst hji
    rw [World.cell?_setCell_same _ _ _ (h.2 j hi).1, List.getElem_set_self]
  · rw [World.cell?_setCell_other _ _ _ _ (fun e => hji (congrArg Addr.off e).symm), List.getElem_set_ne (by omega)]
    exact (h.2 j (by simpa using hj)).1
theorem bytes_of (s : ByteArray) (w : World) : ∃ cap W', (convert 9 22 (.string s)).run Try.prog w = .ok (.slice (some ⟨w.heap.size, 0, none⟩) s.size cap) W' ∧ Wr W' w.heap.size s.data.toList ∧ Below w.heap.size w W' := by
  refine ⟨_, _, run_bytes_of_string w 9 22 5 s Try.underlying9 Try.underlying22 Try.underlying5, ⟨?_, fun j hj => ?_⟩, (Below.refl _ _).drew.alloc (Nat.le_refl _) _⟩
  · simp
  · have hj' : j < s.data.size := by simpa using hj
    refine ⟨?_, ?_⟩
    · refine (World.cell?_alloc_mark w.drew _ _ _ j).trans ?_
      rw [bytesRow_at s _ j hj']; simp
    · refine (World.frozen?_alloc_mark w.drew _ _ _ _ j).trans ?_
      have hsz : s.data.size ≤ (bytesRow s (grownCap w s.size 0 5)).size := by
        unfold bytesRow
        rw [Array.size_append, Array.size_map]; omega
      rw [decide_eq_false (by omega), Bool.false_and]
theorem conv_wr {w : World} {g cap n : Nat} {m : List UInt8} (h : Wr w g m) (hn : m.length = n) : (convert 22 9 (.slice (some ⟨g, 0, none⟩) n cap)).run Try.prog w = .ok (.string ⟨m.toArray⟩) w := by
  subst hn
  have := run_convert_bytes_back (P := Try.prog) w 22 9 5 ⟨g, 0, none⟩ cap m Try.underlying22 Try.underlying5 Try.underlying9 (by
    intro j hj
    rw [show (⟨g, 0, none⟩ : Addr).add j = ⟨g, j, none⟩ from by simp [Addr.add]; omega]
    exact (h.2 j hj).1)
  simpa using this
end Go.Proofs.Ytocaigffikdlhaa

namespace Go.Proofs.Ytocaigffikdlhaa
open Go.RowKit

theorem tk_var : ∀ (m f k acc : Nat) (pre more : List UInt8), pre.length = k → (varL m).length ≤ f → (k = 0 ∨ m ≠ 0) → tk (pre ++ varL m ++ more) f k acc = (acc + m * 128 ^ k, k + (varL m).length) := by
  intro m
  induction m using Nat.strongRecOn with
  | _ m ih =>
    intro f k acc pre more hk hf hm
    obtain ⟨g, rfl⟩ : ∃ g, f = g + 1 := ⟨f - 1, by have := varL_pos m; omega⟩
    by_cases h : m < 128
    · have hl : k < (pre ++ varL m ++ more).length := by rw [varL_lt m h]; simp; omega
      have hg : (pre ++ varL m ++ more)[k] = UInt8.ofNat m := by
        simp only [varL_lt m h]
        rw [List.getElem_append_left (by simp; omega), List.getElem_append_right (by omega)]
        simp [hk]
      have hu : (UInt8.ofNat m).toNat = m := by rw [UInt8.toNat_ofNat']; omega
      rw [tk_some _ _ _ _ hl, hg, hu, if_pos h, if_neg (by omega), varL_lt m h, Nat.mod_eq_of_lt h]
      rfl
    · have hv := varL_ge m h
      have hu : (UInt8.ofNat (m % 128 + 128)).toNat = m % 128 + 128 := by rw [UInt8.toNat_ofNat']; omega
      have hl : k < (pre ++ varL m ++ more).length := by rw [hv]; simp; omega
      have hg : (pre ++ varL m ++ more)[k] = UInt8.ofNat (m % 128 + 128) := by
        simp only [hv]
        rw [List.getElem_append_left (by simp; omega), List.getElem_append_right (by omega)]
        simp [hk]
      rw [tk_some _ _ _ _ hl, hg, hu, if_neg (by omega), show (m % 128 + 128) % 128 = m % 128 from by omega]
      have hs : pre ++ varL m ++ more = (pre ++ [UInt8.ofNat (m % 128 + 128)]) ++ varL (m / 128) ++ more := by rw [hv]; simp
      have hlen : (varL m).length = (varL (m / 128)).length + 1 := by rw [hv]; simp
      rw [hs, ih (m / 128) (by omega) g (k + 1) _ _ more (by simp [hk]) (by omega) (by omega), hlen, Nat.pow_succ]
      have he : m * 128 ^ k = m % 128 * 128 ^ k + m / 128 * (128 ^ k * 128) := by
        have h1 : m % 128 + m / 128 * 128 = m := by omega
        have h2 : (m % 128 + m / 128 * 128) * 128 ^ k = m % 128 * 128 ^ k + m / 128 * (128 ^ k * 128) := by rw [Nat.add_mul, Nat.mul_assoc (m / 128), Nat.mul_comm 128]
        rw [h1] at h2
        exact h2
      rw [he]
      refine Prod.ext ?_ ?_
      · show _ = _; omega
      · show _ = _; omega
theorem take_var (m : Nat) (more : List UInt8) (h : m < 9223372036854775808) : take (varL m ++ more) = (m, (varL m).length) := by
  have := tk_var m 9 0 0 [] more rfl (varL_len 8 m (by simpa using h)) (.inl rfl)
  simpa [take] using this
theorem tk_back (s : List UInt8) : ∀ (f k n : Nat), (tk s f k n).2 ≠ 0 → ∃ q, (tk s f k n).1 = n + q * 128 ^ k ∧ (0 < k → q ≠ 0) ∧ k < (tk s f k n).2 ∧ varL q = (s.drop k).take ((tk s f k n).2 - k) := by
  intro f
  induction f with
  | zero => intro k n h; simp [tk] at h
  | succ f ih =>
    intro k n h
    by_cases h1 : k < s.length
    · have hdrop : s.drop k = s[k] :: s.drop (k + 1) := List.drop_eq_getElem_cons h1
      rw [tk_some s f k n h1] at h ⊢
      by_cases h2 : s[k].toNat < 128
      · rw [if_pos h2] at h ⊢
        by_cases h3 : 0 < k ∧ s[k].toNat = 0
        · rw [if_pos h3] at h; simp at h
        · rw [if_neg h3]
          refine ⟨s[k].toNat, by rw [Nat.mod_eq_of_lt h2], by omega, by simp, ?_⟩
          rw [varL_lt _ h2, hdrop]
          simp only [Nat.add_sub_cancel_left, List.take_succ_cons, List.take_zero, UInt8.ofNat_toNat]
      · rw [if_neg h2] at h ⊢
        obtain ⟨q, e1, e2, e3, e4⟩ := ih _ _ h
        have hc := s[k].toNat_lt
        refine ⟨s[k].toNat % 128 + q * 128, ?_, by omega, by omega, ?_⟩
        · rw [e1, Nat.pow_succ, Nat.add_mul, Nat.mul_assoc q, Nat.mul_comm 128]; omega
        · rw [varL_ge _ (by omega), hdrop, show (tk s f (k + 1) (n + s[k].toNat % 128 * 128 ^ k)).2 - k = ((tk s f (k + 1) (n + s[k].toNat % 128 * 128 ^ k)).2 - (k + 1)) + 1 from by omega, List.take_succ_cons, ← e4, show (s[k].toNat % 128 + q * 128) / 128 = q from by omega, show (s[k].toNat % 128 + q * 128) % 128 + 128 = s[k].toNat from by omega]
          simp
    · rw [tk_none s _ _ _ (by omega)] at h; simp at h
theorem take_back (s : List UInt8) (h : (take s).2 ≠ 0) : varL (take s).1 = s.take (take s).2 := by
  obtain ⟨q, e1, _, _, e4⟩ := tk_back s 9 0 0 h
  unfold take
  rw [e1, show 0 + q * 128 ^ 0 = q from by simp, e4]
  simp
theorem tk_nothing (s : List UInt8) : ∀ (f k n : Nat), (tk s f k n).2 = 0 → (tk s f k n).1 = 0 := by
  intro f
  induction f with
  | zero => intro k n _; rfl
  | succ f ih =>
    intro k n h
    by_cases h1 : k < s.length
    · rw [tk_some s f k n h1] at h ⊢
      by_cases h2 : s[k].toNat < 128
      · rw [if_pos h2] at h ⊢
        by_cases h3 : 0 < k ∧ s[k].toNat = 0
        · rw [if_pos h3]
        · rw [if_neg h3] at h; simp at h
      · rw [if_neg h2] at h ⊢
        exact ih _ _ h
    · rw [tk_none s _ _ _ (by omega)]
end Go.Proofs.Ytocaigffikdlhaa

namespace Go.Proofs.Ytocaigffikdlhaa
open Go.RowKit
set_option linter.unusedVariables false

set_option maxRecDepth 100000 in
set_option maxHeartbeats 1000000 in
theorem among_any (b : Nat) (l : List UInt8) (K g : Nat) (xs : List Int) (w : World) (h : Cur w b l K) (hl : l.length ≤ 9223372036854775807) (hK : K ≤ 10000000) (hx : Box w g (xs.map (Value.int .i64))) (hg : g ≠ b) (h0 : 0 < xs.length) (h1 : xs.length ≤ 1000) :
    Calls Try.prog 95 #[.pointer (some ⟨b, 0, none⟩), .slice (some ⟨g, 0, none⟩) xs.length xs.length] w fun e w' => (∃ x, e = .returned (.int .i64 x) ∧ x ∈ xs) ∧ Cur w' b l (K + 2) ∧ Chg (· = b) w w' := by
  go_enter Try.func95, Try.ntmps95
  go_wp2_with fail
  refine (pick_any b l K xs.length _ h hl (by omega) (by omega)).mono ?_
  rintro e w1 ⟨⟨x, rfl, hxl⟩, hc1, hch1⟩
  have hlt : x < xs.length := by omega
  have hx1 := hch1.box hx hg
  have d0 := hx1.2.1 x (.int .i64 xs[x]) (by simp [hlt])
  have hgl := hx1.1
  obtain ⟨y, hy⟩ : ∃ y, y = xs[x] := ⟨_, rfl⟩
  have hmem : Hid (y ∈ xs) := by rw [hy]; exact List.getElem_mem _
  rw [← hy] at d0
  clear hy hx hx1
  go_wp2
  go_ret
  exact ⟨⟨y, rfl, hmem.out⟩, hc1, hch1⟩

theorem varT_le (n : Int) (h : n ≤ 9223372036854775807) : (varT n).size ≤ 9 := by
  by_cases h0 : 0 ≤ n
  · obtain ⟨k, rfl⟩ := Int.eq_ofNat_of_zero_le h0
    rw [varT_nat]
    have := varL_len 8 k (by simpa using (show k < 9223372036854775808 from by omega))
    show (varL k).toArray.size ≤ 9
    simpa using this
  · rw [varT_neg n (by omega)]; exact Nat.zero_le _

end Go.Proofs.Ytocaigffikdlhaa
