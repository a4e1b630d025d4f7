/-
  Numbers and texts read, plainly, and by the program.
  EditBetween: the program's side.
-/
import Derived.Test.YtenbdjlhcadhaaaGreatX9
import Derived.Test.YtenbdjlhcadhaaaGreatAP4ToJ
import Derived.Test.YtenbdjlhcadhaaaGreatV2ToF1
import Derived.Test.YtenbdjlhcadhaaaGreatLK
import Derived.Test.YtenbdjlhcadhaaaGreatE9ToBB
import Derived.Test.YtenbdjlhcadhaaaGreatQ1ToC9
import Derived.Deep.Cut
namespace Go.Proofs.YtenbdjlhcadhaaaGreat
open Go.RowKit
set_option linter.unusedVariables false
set_option maxRecDepth 100000

/-- A number read, and what is left. -/
def tN (r : ByteArray) : Nat := (take r.data.toList).1
def tC (r : ByteArray) : Nat := (take r.data.toList).2
def tR (r : ByteArray) : ByteArray := r.extract (tC r) r.size
theorem tC_le (r : ByteArray) : tC r ≤ r.size := by
  have := (take_bound r.data.toList).2.2
  have h : r.data.toList.length = r.size := by simp
  rw [h] at this
  exact this
theorem tN_lt (r : ByteArray) : tN r < 9223372036854775808 := (take_bound r.data.toList).1
theorem tR_size (r : ByteArray) : (tR r).size ≤ r.size := by unfold tR; rw [ByteArray.size_extract]; omega
theorem tN_var {r : ByteArray} {n : Nat} {more : List UInt8} (h : bl r = varL n ++ more) (hn : n < 9223372036854775808) : tN r = n ∧ bl (tR r) = more ∧ tC r = (varL n).length := by
  have e : r.data.toList = varL n ++ more := h
  have ht := take_var n more hn
  have h2 : tC r = (varL n).length := by unfold tC; rw [e, ht]
  refine ⟨by unfold tN; rw [e, ht], ?_, h2⟩
  unfold tR
  rw [bl_from, h2, h]
  simp
/-- A text read. -/
def xN (r : ByteArray) : Nat := min (tN r) (tR r).size
def xT (r : ByteArray) : ByteArray := (tR r).extract 0 (xN r)
def xR (r : ByteArray) : ByteArray := (tR r).extract (xN r) (tR r).size
theorem xT_size (r : ByteArray) : (xT r).size ≤ r.size := by
  have := tR_size r
  unfold xT; rw [ByteArray.size_extract]; omega
theorem xR_size (r : ByteArray) : (xR r).size ≤ r.size := by
  have := tR_size r
  unfold xR; rw [ByteArray.size_extract]; omega
theorem xT_var {r s : ByteArray} {more : List UInt8} (h : bl r = varL s.size ++ bl s ++ more) (hs : s.size ≤ 1048576) : xT r = s ∧ bl (xR r) = more ∧ tN r = s.size ∧ s.size ≤ (tR r).size ∧ tC r = (varL s.size).length := by
  rw [List.append_assoc] at h
  obtain ⟨h1, h2, h3⟩ := tN_var h (by omega)
  have hl : (tR r).size = s.size + more.length := by rw [← bl_len, h2, List.length_append, bl_len]
  have hx : xN r = s.size := by unfold xN; rw [h1, hl]; omega
  refine ⟨?_, ?_, h1, by omega, h3⟩
  · apply bl_inj
    unfold xT
    rw [bl_to, h2, hx, ← bl_len s, List.take_left']; rfl
  · unfold xR
    rw [bl_from, h2, hx, ← bl_len s, List.drop_left']; rfl

theorem str_from (r : ByteArray) (p : Nat) (w : World) (hp : p ≤ r.size) : (Instr.sliceAt 9 (.string r) (some (.int .i64 p)) none none).run Tryz.prog w = .ok (.string (r.extract p r.size)) w := by
  have h2 : (0 : Int) ≤ (p : Int) := by omega
  have hA : (Instr.sliceAt 9 (.string r) (some (.int .i64 p)) none none).run Tryz.prog w = (Instr.slice 9 (.string r) (some (.int .i64 p)) none none).run Tryz.prog w := by simp [Instr.sliceAt, run_underlying Tryz.underlying9]
  rw [hA]
  simp [Instr.slice, Instr.sliceBounds, Instr.sliceBound, asIntOf, run_underlying Tryz.underlying9, hp, h2]
theorem str_to (r : ByteArray) (p : Nat) (w : World) (hp : p ≤ r.size) : (Instr.sliceAt 9 (.string r) none (some (.int .i64 p)) none).run Tryz.prog w = .ok (.string (r.extract 0 p)) w := by
  have h2 : (0 : Int) ≤ (p : Int) := by omega
  have hA : (Instr.sliceAt 9 (.string r) none (some (.int .i64 p)) none).run Tryz.prog w = (Instr.slice 9 (.string r) none (some (.int .i64 p)) none).run Tryz.prog w := by simp [Instr.sliceAt, run_underlying Tryz.underlying9]
  rw [hA]
  simp [Instr.slice, Instr.sliceBounds, Instr.sliceBound, asIntOf, run_underlying Tryz.underlying9, hp, h2]
theorem Box.c1 {w : World} {b : Nat} {v : Value} (h : Box w b [v]) : b < w.heap.size ∧ w.cell? ⟨b, 0, none⟩ = some v ∧ w.frozen? ⟨b, 0, none⟩ = false := ⟨h.1, h.2.1 0 _ rfl, h.2.2 0⟩
theorem set1 {w : World} {b : Nat} {v : Value} (h : Box w b [v]) (u : Value) : Box (w.setCell ⟨b, 0, none⟩ u) b [u] ∧ Chg (· = b) w (w.setCell ⟨b, 0, none⟩ u) :=
  ⟨h.set 0 u (by simp), Chg.setCell (S := fun k => k = b) (p := ⟨b, 0, none⟩) (Chg.refl _ _) rfl _⟩

set_option maxHeartbeats 2000000 in
theorem number_any (b : Nat) (r : ByteArray) (W : World) (hb : Box W b [.string r]) (hs : r.size ≤ 1048576) :
    Calls Tryz.prog 27 #[.pointer (some ⟨b, 0, none⟩)] W fun e w' => e = .returned (.int .i64 (tN r : Nat)) ∧ Box w' b [.string (tR r)] ∧ Chg (· = b) W w' := by
  obtain ⟨hl, c0, f0⟩ := hb.c1
  have SL := fun w => str_from r (tC r) w (tC_le r)
  have TA : ∀ w, Calls Tryz.prog 62 #[.string r] w fun e w' => e = .returned (.tuple #[.int .i64 (tN r : Nat), .int .i64 (tC r : Nat)]) ∧ w' = w := fun w => implTake_any r w hs
  have HZ := set1 hb (.string (tR r))
  have HT : r.extract (tC r) r.size = tR r := rfl
  rw [HT] at SL
  generalize tC r = p at *
  generalize tN r = n at *
  generalize tR r = r2 at *
  clear HT hb
  go_enter Tryz.func27, Tryz.ntmps27
  go_wp2_with fail
  refine (TA _).mono ?_
  rintro e w1 ⟨rfl, rfl⟩
  go_wp2_with (refine wpList_sliceOp _ rfl 9 _ _ _ _ rfl _ (SL _) ?_; simp only [Act.put, List.setIfInBounds_toArray, List.set_cons_zero, List.set_cons_succ])
  go_ret
  exact ⟨rfl, HZ.1, HZ.2⟩

set_option maxHeartbeats 2000000 in
theorem text_any (b : Nat) (r : ByteArray) (W : World) (hb : Box W b [.string r]) (hs : r.size ≤ 1048576) :
    Calls Tryz.prog 63 #[.pointer (some ⟨b, 0, none⟩)] W fun e w' => e = .returned (.string (xT r)) ∧ Box w' b [.string (xR r)] ∧ Chg (· = b) W w' := by
  have NA := number_any b r W hb hs
  have hle : xN r ≤ (tR r).size := by unfold xN; omega
  have SF := fun w => str_from (tR r) (xN r) w hle
  have ST := fun w => str_to (tR r) (xN r) w hle
  have HT : (tR r).extract 0 (xN r) = xT r := rfl
  have HR : (tR r).extract (xN r) (tR r).size = xR r := rfl
  rw [HT] at ST
  rw [HR] at SF
  have HN : Hid (xN r = min (tN r) (tR r).size) := rfl
  clear HT HR hb
  generalize xN r = p at *
  generalize tN r = n at *
  generalize tR r = r2 at *
  generalize xT r = t at *
  generalize xR r = r3 at *
  go_enter Tryz.func63, Tryz.ntmps63
  go_wp2_with fail
  refine NA.mono ?_
  rintro e w1 ⟨rfl, hb1, hC⟩
  obtain ⟨hl, c0, f0⟩ := hb1.c1
  have HZ := set1 hb1 (.string r3)
  have hCC := hC.trans HZ.2
  by_cases hm : n ≤ r2.size
  · obtain rfl : p = n := by rw [HN.out]; omega
    clear HN
    have hmi : min (p : Int) (r2.size : Int) = (p : Int) := by omega
    go_wp2_with (first | (refine wpList_sliceOp _ rfl 9 _ _ _ _ rfl _ (ST _) ?_; simp only [Act.put, List.setIfInBounds_toArray, List.set_cons_zero, List.set_cons_succ]) | (refine wpList_sliceOp _ rfl 9 _ _ _ _ rfl _ (SF _) ?_; simp only [Act.put, List.setIfInBounds_toArray, List.set_cons_zero, List.set_cons_succ]))
    go_ret
    exact ⟨rfl, HZ.1, hCC⟩
  · obtain rfl : p = r2.size := by rw [HN.out]; omega
    clear HN
    have hmi : min (n : Int) (r2.size : Int) = (r2.size : Int) := by omega
    go_wp2_with (first | (refine wpList_sliceOp _ rfl 9 _ _ _ _ rfl _ (ST _) ?_; simp only [Act.put, List.setIfInBounds_toArray, List.set_cons_zero, List.set_cons_succ]) | (refine wpList_sliceOp _ rfl 9 _ _ _ _ rfl _ (SF _) ?_; simp only [Act.put, List.setIfInBounds_toArray, List.set_cons_zero, List.set_cons_succ]))
    go_ret
    exact ⟨rfl, HZ.1, hCC⟩
end Go.Proofs.YtenbdjlhcadhaaaGreat

namespace Go.Proofs.YtenbdjlhcadhaaaGreat
open Go.RowKit Go.Maps
set_option linter.unusedVariables false
set_option maxRecDepth 100000

def put4 (w : World) (b : Nat) (v0 v1 v2 v3 : Value) : World := (((w.setCell ⟨b, 0, none⟩ v0).setCell ⟨b, 1, none⟩ v1).setCell ⟨b, 2, none⟩ v2).setCell ⟨b, 3, none⟩ v3
theorem put4_chg (w : World) (b : Nat) (v0 v1 v2 v3 : Value) : Chg (· = b) w (put4 w b v0 v1 v2 v3) := Chg.setCell (S := fun k => k = b) (p := ⟨b, 3, none⟩) (Chg.setCell (S := fun k => k = b) (p := ⟨b, 2, none⟩) (Chg.setCell (S := fun k => k = b) (p := ⟨b, 1, none⟩) (Chg.setCell (S := fun k => k = b) (p := ⟨b, 0, none⟩) (Chg.refl _ _) rfl _) rfl _) rfl _) rfl _
theorem put4_box {w : World} {b : Nat} {u0 u1 u2 u3 : Value} (h : Box w b [u0, u1, u2, u3]) (v0 v1 v2 v3 : Value) : Box (put4 w b v0 v1 v2 v3) b [v0, v1, v2, v3] :=
  (((h.set 0 v0 (by simp)).set 1 v1 (by simp)).set 2 v2 (by simp)).set 3 v3 (by simp)

/-- Where the walk is to stand. -/
def Stop (p : Prop) : Prop := p
theorem Stop.go {p : Prop} (h : Stop p) : p := h

/-- What is between two versions. -/
def ebB (nx sq : Int) (la : List Mt) (nx2 sq2 : Int) (lb : List Mt) : Bool := goodV nx sq la && goodV nx2 sq2 lb && decide (nx ≤ nx2) && decide (sq ≤ sq2)
def ebX (nx sq : Int) (la : List Mt) (nx2 sq2 : Int) (lb : List Mt) : Int := if ebB nx sq la nx2 sq2 lb then nx2 else 0
def ebY (nx sq : Int) (la : List Mt) (nx2 sq2 : Int) (lb : List Mt) : Int := if ebB nx sq la nx2 sq2 lb then sq2 else 0
def ebD (nx sq : Int) (la : List Mt) (nx2 sq2 : Int) (lb : List Mt) : List Int := if ebB nx sq la nx2 sq2 lb then (lkL lb la la.length).map (·.n) else []
def ebA (nx sq : Int) (la : List Mt) (nx2 sq2 : Int) (lb : List Mt) : List Mt := if ebB nx sq la nx2 sq2 lb then lkL la lb lb.length else []

theorem filesOf_ex (v : Value) (l : List Mt) (w : World) (hv : IR w v l) (hn : l.length ≤ 30) (hg : goodMs l = true) :
    Calls Tryz.prog 45 #[v] w fun e w' => ∃ bm, e = .returned (.map (some bm)) ∧ w'.ownsMap Tryz.prog 3 mtE bm l.length (mapM l) ∧ Below w.heap.size w w' :=
  (filesOf_any v l w hv hn (fun i h => by have := okMt_num (goodMs_ok hg h); omega)).mono fun e w' ⟨he, h1, h2⟩ => ⟨_, he, h1, h2⟩

end Go.Proofs.YtenbdjlhcadhaaaGreat
