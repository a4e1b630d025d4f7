/-
  Marks in a list of items: markText, markItemS, heldItemS.
  FirstIn and RestartsOf, both.
-/
import Derived.Test.YtfdaffnkgpdhhaaM1
import Derived.Test.YtfdaffnkgpdhhaaC1
import Derived.Test.YtfdaffnkgpdhhaaLz
namespace Go.Proofs.Ytfdaffnkgpdhhaa
open Go.RowKit
set_option linter.unusedVariables false
set_option maxRecDepth 100000

/-- The item marked from k on; the first j of l marked. -/
def mkIt (k : Int) : It := ⟨mkT k, k + 1, k + 1 + 1, mkT (k + 1 + 1 + 1)⟩
def mkIts (k : Int) (n : Nat) : List It := (List.range n).map fun j : Nat => mkIt (k + 4 * (j : Int))
theorem mkIts_length (k : Int) (n : Nat) : (mkIts k n).length = n := by simp [mkIts]
theorem mkIts_at (k : Int) (n j : Nat) (h : j < n) : (mkIts k n)[j]'(by rw [mkIts_length]; exact h) = mkIt (k + 4 * (j : Int)) := by simp [mkIts]
def mkP (l : List It) (k : Int) (j : Nat) : List It := (mkIts k l.length).take j ++ l.drop j
theorem mkP_set (l : List It) (k : Int) (j : Nat) (h : j < l.length) : (mkP l k j).set j (mkIt (k + 4 * (j : Int))) = mkP l k (j + 1) := by
  unfold mkP
  have h1 : ((mkIts k l.length).take j).length = j := by rw [List.length_take, mkIts_length]; omega
  rw [List.set_append_right _ _ (by omega), h1, Nat.sub_self, List.take_succ_eq_append_getElem (by rw [mkIts_length]; exact h), mkIts_at k _ j h, List.drop_eq_getElem_cons h, List.set_cons_zero, List.append_assoc]
  rfl
theorem mkP_all (l : List It) (k : Int) : mkP l k l.length = mkIts k l.length := by
  unfold mkP
  rw [List.take_of_length_le (by rw [mkIts_length]; omega), List.drop_eq_nil_of_le (by omega), List.append_nil]
theorem mkP_zero (l : List It) (k : Int) : mkP l k 0 = l := by simp [mkP]

end Go.Proofs.Ytfdaffnkgpdhhaa

namespace Go.Proofs.Ytfdaffnkgpdhhaa
open Go.RowKit
set_option linter.unusedVariables false
set_option maxRecDepth 100000

theorem rbL_len (s : ByteArray) : (rbL s).length ≤ 40 := by
  rcases rb_res s with ⟨_, _, h, _⟩ | ⟨_, h, _⟩
  · exact h
  · rw [h]; simp
theorem l6Read_rb (s : ByteArray) (w : World) (hs : s.size ≤ 1048576) :
    Calls Try.prog 44 #[.string s] w fun e w' => ∃ v, e = .returned (.tuple #[v, .bool (rbOk s)]) ∧ w'.ownsRow w.heap.size 43 4 v (rbL s).length (flat4 (rbL s)) ∧ Below w.heap.size w w' :=
  (l6Read_any s w hs).mono fun e w' ⟨l, ok, v, he, hres, ho, hb⟩ => by
    obtain ⟨rfl, rfl⟩ := hres.same (rb_res s)
    exact ⟨v, he, ho, hb⟩
theorem implRead_rb (s : ByteArray) (w : World) (hs : s.size ≤ 1048576) :
    Calls Try.prog 77 #[.string s] w fun e w' => ∃ v, e = .returned (.tuple #[v, .bool (rbOk s)]) ∧ w'.ownsRow w.heap.size 43 4 v (rbL s).length (flat4 (rbL s)) ∧ Below w.heap.size w w' :=
  callsIn_wide.1 (implRead_in s hs w)

theorem owns_mono {w : World} {B b : Nat} {e : TypeId} {size : Nat} {v : Value} {n : Nat} {xs : List Value} (h : w.ownsRow B e size v n xs) (hb : b ≤ B) : w.ownsRow b e size v n xs :=
  ⟨h.1, h.2.imp id (fun ⟨g, cap, cur, a1, a2, a3⟩ => ⟨g, cap, cur, a1, Nat.le_trans hb a2, a3⟩)⟩
/-- What FirstIn answers. -/
def fiOk (s : ByteArray) : Bool := rbOk s && decide ((rbL s).length ≠ 0)
def fiK (s : ByteArray) : ByteArray := if fiOk s then ((rbL s).getD 0 default).k else ⟨#[]⟩

/-- What RestartsOf answers. -/
def rsL (s : ByteArray) : List Int := if rbOk s then plcs s (many (bl s)) else []
theorem rb_tail {s : ByteArray} (h : rbOk s = true) : tlOk s = true := by
  rcases rb_res s with ⟨_, h1, h2, h3⟩ | ⟨h1, _⟩
  · exact tail_of s h1 h2 h3
  · rw [h] at h1; cases h1
theorem rb_parts {s : ByteArray} (h : rbOk s = true) : parts (bl s) = true := by
  have := rb_tail h
  unfold tlOk at this
  rw [Bool.and_eq_true] at this
  exact this.1
theorem rb_many (s : ByteArray) (h : rbOk s = true) : many (bl s) ≤ 10 := by
  rcases rb_res s with ⟨_, h1, h2, h3⟩ | ⟨h1, _⟩
  · rw [← h3, blk_many (by omega), plL_len]; omega
  · rw [h] at h1; cases h1
theorem rsL_len (s : ByteArray) : (rsL s).length ≤ 10 := by
  unfold rsL
  split
  · rename_i h; rw [plcs_len]; exact rb_many s h
  · simp

theorem ext_step (s : ByteArray) (a b : Nat) (hb : b ≤ s.size) : (s.extract a b).extract 2 (s.extract a b).size = s.extract (a + 2) b := by
  apply bl_inj
  rw [bl_from, bl_ext, bl_ext, List.drop_take, List.drop_drop]
  congr 1
theorem lo2_in (s : ByteArray) (a b : Nat) (h : a + 2 ≤ b) (hb : b ≤ s.size) : lo2 (bl (s.extract a b)) 0 = lo2 (bl s) a := by
  rw [bl_ext]
  unfold lo2
  simp only [List.getD_eq_getElem?_getD]
  rw [List.getElem?_take_of_lt (by omega), List.getElem?_take_of_lt (by omega), List.getElem?_drop, List.getElem?_drop]
  simp
end Go.Proofs.Ytfdaffnkgpdhhaa

