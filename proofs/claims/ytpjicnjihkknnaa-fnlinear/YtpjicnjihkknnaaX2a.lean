/-
  Plain facts for the law laws.FnLinear.
-/
import Derived.Test.YtpjicnjihkknnaaD2
import Derived.Test.YtpjicnjihkknnaaS2
import Derived.Test.YtpjicnjihkknnaaK
namespace Go.Proofs.Ytpjicnjihkknnaa
open Go.RowKit
set_option linter.unusedVariables false

theorem Wr_of_owns {w : World} {base g cap : Nat} {m : List UInt8} (h : w.ownsRow base 5 1 (.slice (some ⟨g, 0, none⟩) m.length cap) m.length (bcs m)) : Wr w g m :=
  ⟨(owns_lt h).2, fun j hj => ⟨by rw [h.cellAt j (by omega)]; simp [bcs, hj], h.frozenAt _⟩⟩
theorem Wr.other {w : World} {g : Nat} {m : List UInt8} (h : Wr w g m) (p : Addr) (hp : p.block ≠ g) (u : Value) : Wr (w.setCell p u) g m := by
  refine ⟨by simpa using h.1, fun j hj => ⟨?_, by simpa using (h.2 j hj).2⟩⟩
  rw [World.cell?_setCell_other _ _ _ _ (by intro e; rw [e] at hp; simp at hp)]
  exact (h.2 j hj).1

theorem u8_of (z : Int) : ∃ c : UInt8, z % 256 = (c.toNat : Int) := ⟨UInt8.ofNat (z % 256).toNat, by rw [UInt8.toNat_ofNat']; omega⟩
theorem u8_xor2 (a b : UInt8) : bits BinOp.xor IntKind.u8 (a.toNat : Int) (b.toNat : Int) = ((a ^^^ b).toNat : Int) := by
  rw [u8_xor_nat _ _ a.toNat_lt b.toNat_lt, UInt8.toNat_xor]

theorem lin_step {L B C X : List UInt8} {j : Nat} (h : ∀ k (h1 : k < X.length) (h2 : k < L.length) (h3 : k < B.length) (h4 : k < C.length), k < j → X[k].toNat = L[k].toNat ^^^ B[k].toNat ^^^ C[k].toNat) (hX : j < X.length) (hL : j < L.length) (hB : j < B.length) (hC : j < C.length) (d c : UInt8) :
    ∀ k (h1 : k < (X.set j (L[j] ^^^ d ^^^ c)).length) (h2 : k < L.length) (h3 : k < (B.set j d).length) (h4 : k < (C.set j c).length), k < j + 1 → (X.set j (L[j] ^^^ d ^^^ c))[k].toNat = L[k].toNat ^^^ (B.set j d)[k].toNat ^^^ (C.set j c)[k].toNat := by
  intro k h1 h2 h3 h4 hk
  by_cases hkj : k = j
  · subst hkj
    rw [List.getElem_set_self, List.getElem_set_self, List.getElem_set_self, UInt8.toNat_xor, UInt8.toNat_xor]
  · rw [List.getElem_set_ne (by omega), List.getElem_set_ne (by omega), List.getElem_set_ne (by omega)]
    exact h k _ h2 _ _ (by omega)

theorem csum_xor (l : List UInt8) : csum l = 4294967295 ^^^ con 4294967295 l := by
  rw [nat_not _ (con_lt l _ (by omega))]; rfl
theorem csum_xor3 (x a b c : List UInt8) (h1 : x.length = a.length) (h2 : b.length = a.length) (h3 : c.length = a.length) (hn : num x = num a ^^^ num b ^^^ num c) : csum x = csum a ^^^ csum b ^^^ csum c := by
  rw [csum_xor, csum_xor, csum_xor, csum_xor, con_xor3 x a b c h1 h2 h3 hn]
  have : ∀ s A B C : Nat, s ^^^ (A ^^^ B ^^^ C) = s ^^^ A ^^^ (s ^^^ B) ^^^ (s ^^^ C) := by
    intro s A B C
    have e : s ^^^ A ^^^ (s ^^^ B) ^^^ (s ^^^ C) = (s ^^^ s) ^^^ (s ^^^ (A ^^^ B ^^^ C)) := by ac_rfl
    rw [e, Nat.xor_self, Nat.zero_xor]
  exact this _ _ _ _

theorem lin_tail (s : ByteArray) (x k : Nat) (w : World) (hk : k ≤ s.size) (hs : s.size ≤ 40) (hx : x < 4294967296) :
    Hid (∀ y : WC w.heap.size w, Calls Try.prog 25 #[.int .u32 x, .string (s.extract 0 k)] y.w fun e w'' => e = .returned (.int .u32 ((con x (s.data.toList.take k) : Nat) : Int)) ∧ ∃ m : WC w.heap.size w, w'' = m.w) ∧
    Hid (∀ y : WC w.heap.size w, Calls Try.prog 25 #[.int .u32 ((con x (s.data.toList.take k) : Nat) : Int), .string (s.extract k s.size)] y.w fun e w'' => e = .returned (.int .u32 ((con x s.data.toList : Nat) : Int)) ∧ ∃ m : WC w.heap.size w, w'' = m.w) ∧
    Hid (∀ y : WC w.heap.size w, Calls Try.prog 25 #[.int .u32 x, .string s] y.w fun e w'' => e = .returned (.int .u32 ((con x s.data.toList : Nat) : Int)) ∧ ∃ m : WC w.heap.size w, w'' = m.w) := by
  have e1 : (s.extract 0 k).data.toList = s.data.toList.take k := by
    simp [ByteArray.data_extract]
  have e2 : (s.extract k s.size).data.toList = s.data.toList.drop k := by
    simp only [ByteArray.data_extract, Array.toList_extract, List.extract_eq_take_drop]
    exact List.take_of_length_le (by simp)
  refine ⟨fun y => ?_, fun y => ?_, fun y => calm_of_below (Nat.le_refl _) (implOn_any x s _ (by omega) hx)⟩
  · have := implOn_any x (s.extract 0 k) y.w (by rw [ByteArray.size_extract]; omega) hx
    rw [e1] at this
    exact calm_of_below (Nat.le_refl _) this
  · have := implOn_any (con x (s.data.toList.take k)) (s.extract k s.size) y.w (by rw [ByteArray.size_extract]; omega) (con_lt _ _ hx)
    rw [e2, ← con_append, List.take_append_drop] at this
    exact calm_of_below (Nat.le_refl _) this
/-- A slice expression in a region that only reads, by its law. -/
theorem quiet_slice {P : Program} {ops : Array Oper} {C : World → Prop} {Q : Act → Prop} {a : Act} {o : Oper} {rest : List Oper} (hw : o.guard = none) (t : TypeId) (x : Operand) (lo hi : Option Operand) (ho : o.op = .slice t x lo hi none) (ht : P.underlying t = some .string) (v : Value)
    (hv : ∀ w, C w → (Instr.slice t (a.eval x) (lo.map a.eval) (hi.map a.eval) none).run P w = .ok v w) (h : wpQuiet P ops C Q rest (a.put o.dst v)) : wpQuiet P ops C Q (o :: rest) a :=
  wpQuiet_step fun K hK => by
    rw [if_pos (by simp [Region.wanted, hw])]
    refine ⟨v, fun w hc => ?_, hK _ h⟩
    unfold Oper.quietAt execOp
    simp only [ho]
    have := hv w hc
    simp [run_sliceAt_string (h := ht), this, Oper.quietUpon]
theorem lin_tail2 (s : ByteArray) (x k : Nat) (w : World) (hk : k ≤ s.size) (hs : s.size ≤ 40) (hx : x < 4294967296) : ∃ (T D : ByteArray) (q1 q2 : Nat),
    (∀ y : WC w.heap.size w, (Instr.slice 9 (.string s) none (some (.int .i64 (k : Int))) none).run Try.prog y.w = .ok (.string T) y.w) ∧
    (∀ y : WC w.heap.size w, (Instr.slice 9 (.string s) (some (.int .i64 (k : Int))) none none).run Try.prog y.w = .ok (.string D) y.w) ∧
    Hid (∀ y : WC w.heap.size w, Calls Try.prog 25 #[.int .u32 x, .string T] y.w fun e w'' => e = .returned (.int .u32 (q1 : Int)) ∧ ∃ m : WC w.heap.size w, w'' = m.w) ∧
    Hid (∀ y : WC w.heap.size w, Calls Try.prog 25 #[.int .u32 (q1 : Int), .string D] y.w fun e w'' => e = .returned (.int .u32 (q2 : Int)) ∧ ∃ m : WC w.heap.size w, w'' = m.w) ∧
    Hid (∀ y : WC w.heap.size w, Calls Try.prog 25 #[.int .u32 x, .string s] y.w fun e w'' => e = .returned (.int .u32 (q2 : Int)) ∧ ∃ m : WC w.heap.size w, w'' = m.w) := by
  obtain ⟨h1, h2, h3⟩ := lin_tail s x k w hk hs hx
  exact ⟨_, _, _, _, fun y => run_slice_string_h (w := y.w) (s := s) (t := 9) Try.underlying9 .i64 k (by omega) (by omega), fun y => run_slice_string_l (w := y.w) (s := s) (t := 9) Try.underlying9 .i64 k (by omega) (by omega), h1, h2, h3⟩
end Go.Proofs.Ytpjicnjihkknnaa
