/-
  A text with one bit turned: impl.turnedBit.
-/
import Derived.Test.YtocaigffikdlhaaTA
import Derived.Test.YtocaigffikdlhaaD2
import Derived.Deep.RegionHeld3
namespace Go.Proofs.Ytocaigffikdlhaa
open Go.RowKit Go.Maps
set_option linter.unusedVariables false
set_option maxRecDepth 100000

/-- byte `c` with bit `z` turned -/
def trB (c : UInt8) (z : Nat) : UInt8 := c ^^^ UInt8.ofNat (2 ^ (z % 8))
def trL (l : List UInt8) (n : Nat) : List UInt8 := l.set (n / 8) (trB (l.getD (n / 8) 0) n)
/-- text `s` with bit `b` turned, if it has one -/
def trS (s : ByteArray) (b : Int) : ByteArray := if 0 ≤ b ∧ b < 8 * (s.size : Int) then ⟨(trL s.data.toList b.toNat).toArray⟩ else s
theorem trL_length (l : List UInt8) (n : Nat) : (trL l n).length = l.length := by simp [trL]
theorem trS_size (s : ByteArray) (b : Int) : (trS s b).size = s.size := by
  unfold trS
  split
  · show (trL s.data.toList b.toNat).toArray.size = s.data.size
    simp [trL_length]
  · rfl
theorem xor_bit (c : UInt8) (z : Nat) : bits BinOp.xor IntKind.u8 (c.toNat : Int) (2 ^ (z % 8) % 256) = ((trB c z).toNat : Int) := by
  have h : z % 8 < 8 := Nat.mod_lt _ (by decide)
  unfold trB
  generalize z % 8 = q at *
  have := c.toNat_lt
  revert c
  have e : ∀ q : Fin 8, ∀ c : Fin 256, bits BinOp.xor IntKind.u8 (c.val : Int) (2 ^ q.val % 256) = ((UInt8.ofNat c.val ^^^ UInt8.ofNat (2 ^ q.val)).toNat : Int) := by
    decide +kernel
  intro c hc
  have := e ⟨q, h⟩ ⟨c.toNat, hc⟩
  simpa using this

set_option maxHeartbeats 4000000 in
theorem turnedBit_any (s : ByteArray) (b : Int) (w : World) (hs : s.size ≤ 1048576) :
    Calls Try.prog 97 #[.string s, .int .i64 b] w fun e w' => e = .returned (.string (trS s b)) ∧ Below w.heap.size w w' := by
  by_cases h0 : b < 0
  · have e0 : Hid (trS s b = s) := by show _ = _; unfold trS; rw [if_neg (by omega)]
    go_enter Try.func97, Try.ntmps97
    go_wp2
    go_ret
    exact ⟨by rw [e0.out]; rfl, Below.refl _ _⟩
  by_cases h1 : 8 * (s.size : Int) ≤ b
  · have e0 : Hid (trS s b = s) := by show _ = _; unfold trS; rw [if_neg (by omega)]
    go_enter Try.func97, Try.ntmps97
    go_wp2
    go_ret
    exact ⟨by rw [e0.out]; rfl, Below.refl _ _⟩
  obtain ⟨n, rfl⟩ : ∃ n : Nat, b = n := ⟨b.toNat, by omega⟩
  have e0 : Hid (trS s n = ⟨(s.data.toList.set (n / 8) (trB (s.data.toList.getD (n / 8) 0) n)).toArray⟩) := by show _ = _; unfold trS; rw [if_pos (by omega)]; rfl
  have hle : s.data.toList.length = s.size := by simp
  have hnl : n / 8 < s.data.toList.length := by omega
  obtain ⟨cap, w1, hcv, hwr, hb1⟩ := bytes_of s w
  have hw2 := (hwr.set _ hnl (trB (s.data.toList.getD (n / 8) 0) n)).below (Below.refl _ _).drew
  have hc1 : w1.cell? ⟨w.heap.size, n / 8, none⟩ = some (.int .u8 ((s.data.toList.getD (n / 8) 0).toNat : Int)) := by
    rw [(hwr.2 _ hnl).1, List.getD_eq_getElem?_getD, List.getElem?_eq_getElem hnl]; rfl
  have hf1 : w1.frozen? ⟨w.heap.size, n / 8, none⟩ = false := (hwr.2 _ hnl).2
  have HV : Hid (bits BinOp.xor IntKind.u8 ((s.data.toList.getD (n / 8) 0).toNat : Int) (2 ^ (n % 8) % 256) = ((trB (s.data.toList.getD (n / 8) 0) n).toNat : Int)) := xor_bit _ _
  have hn1 : n < 8 * s.size := by omega
  have hl2 : Hid ((s.data.toList.set (n / 8) (trB (s.data.toList.getD (n / 8) 0) n)).length = s.size) := by show _ = _; rw [List.length_set]; exact hle
  generalize s.data.toList.getD (n / 8) 0 = c at *
  generalize s.data.toList.set (n / 8) (trB c n) = m at *
  clear hwr hle hnl
  go_enter Try.func97, Try.ntmps97
  go_wp2_with fail
  go_region
  rw [HV.out]
  have hB2 := (hb1.setCell (p := ⟨w.heap.size, n / 8, none⟩) (Nat.le_refl _) (.int .u8 ((trB c n).toNat : Int))).drew
  generalize (w1.setCell ⟨w.heap.size, n / 8, none⟩ (.int .u8 ((trB c n).toNat : Int))).drew = w3 at *
  have hcw := conv_wr (cap := cap) hw2 hl2.out
  clear hw2 hb1 hc1 hf1 HV hcv
  go_wp2
  go_ret
  exact ⟨by rw [e0.out]; rfl, hB2⟩
end Go.Proofs.Ytocaigffikdlhaa
