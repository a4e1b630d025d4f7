/-
  An item that is taken behind a key: impl.takeItem.
-/
import Derived.Test.YtfdaffnkgpdhhaaGreatRz
import Derived.Test.YtfdaffnkgpdhhaaGreatR3
namespace Go.Proofs.YtfdaffnkgpdhhaaGreat
open Go.RowKit
set_option linter.unusedVariables false
set_option maxRecDepth 100000

/-- What takeItem answers. -/
def tiI (s : ByteArray) (key : List UInt8) : It := if rdOk (bl s) key then rdIt (bl s) key else It.zero
def tiR (s : ByteArray) (key : List UInt8) : ByteArray := if rdOk (bl s) key then s.extract (rdN (bl s)) s.size else ⟨#[]⟩
theorem bl_reS (s : ByteArray) : bl (reS s) = (bl s).drop ((reA s).2 + (reB s).2) := bl_from _ _
/-- Two numbers, and two more behind them. -/
theorem rd_two (s : ByteArray) : rd (bl s) = ⟨(reA s).1, (reB s).1, (reA (reS s)).1, (reB (reS s)).1, (reA s).2 + (reB s).2 + (reA (reS s)).2 + (reB (reS s)).2, reTwo s && reTwo (reS s)⟩ := by
  have eA : take (bl s) = reA s := rfl
  have eB : take ((bl s).drop (reA s).2) = reB s := by
    show _ = take (bl (s.extract (reA s).2 s.size))
    rw [bl_from]
  have eC : take ((bl s).drop ((reA s).2 + (reB s).2)) = reA (reS s) := by
    show _ = take (bl (reS s))
    rw [bl_reS]
  have eD : take ((bl s).drop ((reA s).2 + (reB s).2 + (reA (reS s)).2)) = reB (reS s) := by
    show _ = take (bl ((reS s).extract (reA (reS s)).2 (reS s).size))
    rw [bl_from, bl_reS, List.drop_drop]
  unfold rd
  simp only [eA, eB, eC, eD, reTwo, Bool.and_assoc]
theorem two_le (s : ByteArray) : (reA s).2 + (reB s).2 + (reA (reS s)).2 + (reB (reS s)).2 ≤ s.size ∧ (reS (reS s)).size + ((reA s).2 + (reB s).2 + (reA (reS s)).2 + (reB (reS s)).2) = s.size := by
  have h1 := (reB_le s).1
  have h2 := (reB_le (reS s)).1
  have h3 : (reS s).size = s.size - ((reA s).2 + (reB s).2) := by unfold reS; rw [ByteArray.size_extract]; omega
  have h4 : (reS (reS s)).size = (reS s).size - ((reA (reS s)).2 + (reB (reS s)).2) := by rw [reS, ByteArray.size_extract]; omega
  omega
theorem bl_T (s : ByteArray) : bl (reS (reS s)) = (bl s).drop ((reA s).2 + (reB s).2 + (reA (reS s)).2 + (reB (reS s)).2) := by
  rw [bl_reS, bl_reS, List.drop_drop, Nat.add_assoc ((reA s).2 + (reB s).2)]
/-- In the words of what is left behind the four numbers. -/
theorem ti_ok (s : ByteArray) (key : List UInt8) : rdOk (bl s) key = (reTwo s && reTwo (reS s) && decide ((reA s).1 ≤ key.length) && decide ((reB s).1 + (reB (reS s)).1 ≤ (reS (reS s)).size)) := by
  have h2 := two_le s
  have h1 := rd_two s
  have hl := bl_len s
  unfold rdOk
  rw [h1, hl]
  clear h1 hl
  generalize (reTwo s && reTwo (reS s)) = T at *
  generalize (reS (reS s)).size = n at *
  generalize (reA s).2 + (reB s).2 + (reA (reS s)).2 + (reB (reS s)).2 = q at *
  generalize (reB (reS s)).1 = z at *
  generalize (reB s).1 = r at *
  generalize (reA s).1 = i at *
  show (T && decide (i ≤ key.length) && decide (q + r + z ≤ s.size)) = (T && decide (i ≤ key.length) && decide (r + z ≤ n))
  rw [show decide (q + r + z ≤ s.size) = decide (r + z ≤ n) from decide_eq_decide.2 (by omega)]
theorem rdIt_gen (s key : List UInt8) (i r m z q : Nat) (ok : Bool) (h : rd s = ⟨i, r, m, z, q, ok⟩) : rdIt s key = ⟨⟨(key.take i ++ (s.drop q).take r).toArray⟩, (m : Int) / 2, (m : Int) % 2, ⟨((s.drop (q + r)).take z).toArray⟩⟩ := by
  unfold rdIt; rw [h]
theorem rdN_gen (s : List UInt8) (i r m z q : Nat) (ok : Bool) (h : rd s = ⟨i, r, m, z, q, ok⟩) : rdN s = q + r + z := by
  unfold rdN; rw [h]
theorem ti_it (s : ByteArray) (key : List UInt8) (h : (reB s).1 + (reB (reS s)).1 ≤ (reS (reS s)).size) : rdIt (bl s) key = ⟨tx (key.take (reA s).1 ++ bl ((reS (reS s)).extract 0 (reB s).1)), ((reA (reS s)).1 : Int) / 2, ((reA (reS s)).1 : Int) % 2, (reS (reS s)).extract (reB s).1 ((reB s).1 + (reB (reS s)).1)⟩ := by
  have h1 := rdIt_gen _ key _ _ _ _ _ _ (rd_two s)
  have hT := bl_T s
  rw [h1]
  clear h1 h
  generalize reS (reS s) = T at *
  generalize (reA s).2 + (reB s).2 + (reA (reS s)).2 + (reB (reS s)).2 = q at *
  generalize (reB (reS s)).1 = z at *
  generalize (reB s).1 = r at *
  generalize (reA s).1 = i at *
  have e1 : (⟨(key.take i ++ ((bl s).drop q).take r).toArray⟩ : ByteArray) = tx (key.take i ++ bl (T.extract 0 r)) := by
    apply bl_inj
    rw [bl_tx, bl_mk, bl_to, hT]
  have e2 : (⟨(((bl s).drop (q + r)).take z).toArray⟩ : ByteArray) = T.extract r (r + z) := by
    apply bl_inj
    rw [bl_ext, hT, List.drop_drop, Nat.add_sub_cancel_left, bl_mk]
  rw [e1, e2]
theorem ti_rest (s : ByteArray) : s.extract (rdN (bl s)) s.size = (reS (reS s)).extract ((reB s).1 + (reB (reS s)).1) (reS (reS s)).size := by
  have h1 := rdN_gen _ _ _ _ _ _ _ (rd_two s)
  have hT := bl_T s
  rw [h1]
  clear h1
  generalize reS (reS s) = T at *
  generalize (reA s).2 + (reB s).2 + (reA (reS s)).2 + (reB (reS s)).2 = q at *
  generalize (reB (reS s)).1 = z at *
  generalize (reB s).1 = r at *
  apply bl_inj
  rw [bl_from, bl_from, hT, List.drop_drop, Nat.add_assoc]
theorem reT_yes {s : ByteArray} (h : reTwo s = true) : reT s = .tuple #[.int .i64 (reA s).1, .int .i64 (reB s).1, .string (reS s), .bool true] := by unfold reT; rw [if_pos h]
theorem reT_no {s : ByteArray} (h : reTwo s = false) : reT s = .tuple #[.int .i64 0, .int .i64 0, .string ⟨#[]⟩, .bool false] := by unfold reT; rw [if_neg (by rw [h]; simp)]
end Go.Proofs.YtfdaffnkgpdhhaaGreat
