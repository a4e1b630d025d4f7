/-
  The numbers of a level, gathered round by round, plainly.
-/
import Derived.Test.YtdaldkcildbcmaaDoorG0
namespace Go.Proofs.YtdaldkcildbcmaaDoor
set_option linter.unusedVariables false

/-- What stands at a round's start: acc are gathered, ahead is the last of them, x is next. -/
def LvI (ts : List Tw) (lv : Nat) (h : Int) (acc : List Int) (ahead x : Int) : Prop :=
  acc.Pairwise (fun i j => cT (tw ts i) (tw ts j) < 0) ∧ (∀ y ∈ acc, okAt ts lv y) ∧
    ((acc = [] ∧ ahead = -1) ∨ (okAt ts lv ahead ∧ ∀ y ∈ acc, y = ahead ∨ cT (tw ts y) (tw ts ahead) < 0)) ∧
    lev ts lv (ts.length + 1) (-1) h = (lev ts lv (ts.length + 1 - acc.length) ahead x).map (acc ++ ·)
theorem LvI.short {ts : List Tw} {lv : Nat} {h : Int} {acc : List Int} {ahead x : Int} (H : LvI ts lv h acc ahead x) : acc.length ≤ ts.length :=
  rising_short H.1 H.2.1
theorem LvI.start (ts : List Tw) (lv : Nat) (h : Int) : LvI ts lv h [] (-1) h := by
  refine ⟨List.Pairwise.nil, by simp, .inl ⟨rfl, rfl⟩, ?_⟩
  simp
theorem LvI.ahead {ts : List Tw} {lv : Nat} {h : Int} {acc : List Int} {ahead x : Int} (H : LvI ts lv h acc ahead x) : ahead = -1 ∨ ∃ j : Nat, ahead = j ∧ j < ts.length := by
  rcases H.2.2.1 with ⟨_, e⟩ | ⟨⟨h0, h1, _⟩, _⟩
  · exact .inl e
  · exact .inr ⟨ahead.toNat, by omega, by omega⟩
theorem LvI.step {ts : List Tw} {lv : Nat} {h : Int} {acc : List Int} {ahead x : Int} (H : LvI ts lv h acc ahead x) (hx : x ≠ -1) (hm : mayB ts lv ahead x = true) : LvI ts lv h (acc ++ [x]) x (nx ts x lv) := by
  have hsh := H.short
  obtain ⟨hp, hok, hah, he⟩ := H
  obtain ⟨ok, k3⟩ := (mayB_iff _ _ _ _).1 hm
  have hall : ∀ y ∈ acc, cT (tw ts y) (tw ts x) < 0 := by
    intro y hy
    rcases hah with ⟨rfl, _⟩ | ⟨⟨a0, _, _⟩, ha⟩
    · simp at hy
    · rcases k3 with k3 | k3
      · omega
      · rcases ha y hy with rfl | h1
        · exact k3
        · exact cT_trans h1 k3
  refine ⟨List.pairwise_append.2 ⟨hp, by simp, fun a ha b hb => ?_⟩, fun y hy => ?_, .inr ⟨ok, fun y hy => ?_⟩, ?_⟩
  · rw [List.mem_singleton.1 hb]; exact hall a ha
  · rcases List.mem_append.1 hy with hy | hy
    · exact hok y hy
    · rw [List.mem_singleton.1 hy]; exact ok
  · rcases List.mem_append.1 hy with hy | hy
    · exact .inr (hall y hy)
    · exact .inl (List.mem_singleton.1 hy)
  · rw [he, show ts.length + 1 - acc.length = (ts.length - acc.length) + 1 from by omega, show ts.length + 1 - (acc ++ [x]).length = ts.length - acc.length from by rw [List.length_append]; simp]
    simp only [lev]
    rw [if_neg hx, if_pos hm]
    cases lev ts lv (ts.length - acc.length) x (nx ts x lv) with
    | none => rfl
    | some l => simp
theorem LvI.stop {ts : List Tw} {lv : Nat} {h : Int} {acc : List Int} {ahead x : Int} (H : LvI ts lv h acc ahead x) (hx : x ≠ -1) (hm : mayB ts lv ahead x = false) : lev ts lv (ts.length + 1) (-1) h = none := by
  have hsh := H.short
  rw [H.2.2.2, show ts.length + 1 - acc.length = (ts.length - acc.length) + 1 from by omega]
  simp only [lev]
  rw [if_neg hx, if_neg (by rw [hm]; simp)]
  rfl
theorem LvI.fin {ts : List Tw} {lv : Nat} {h : Int} {acc : List Int} {ahead : Int} (H : LvI ts lv h acc ahead (-1)) : lev ts lv (ts.length + 1) (-1) h = some acc := by
  have hsh := H.short
  rw [H.2.2.2, show ts.length + 1 - acc.length = (ts.length - acc.length) + 1 from by omega]
  simp [lev]
end Go.Proofs.YtdaldkcildbcmaaDoor
