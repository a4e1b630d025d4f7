/-
  Two items compared as structs.
-/
import Derived.Test.YtdaldkcildbcmaaDoorJ8
import Derived.Test.YtdaldkcildbcmaaDoorO2
import Derived.Laws.StructEq
namespace Go.Proofs.YtdaldkcildbcmaaDoor
open Go.RowKit
set_option linter.unusedVariables false
set_option maxRecDepth 100000

theorem eqG28 : Tryd.prog.eqGuardType Tryd.prog.depth 28 = false := by kernel_rfl
theorem stood28 : Tryd.prog.stoodInHeld 28 = false := by kernel_rfl
theorem eqFields_nil (d : Nat) (xs ys : Array Value) (P : Program) (w : World) : (Op.eqFields d xs ys []).run P w = .ok true w := rfl
theorem eqFields_cons {d : Nat} {xs ys : Array Value} {f : Field} {fs : List Field} {P : Program} {w : World} {x y : Value} {r : Bool} (hn : f.name ≠ "_") (hx : (Go.part f.type xs f.offset).run P w = .ok x w) (hy : (Go.part f.type ys f.offset).run P w = .ok y w) (he : (Op.equalIn d f.type x y).run P w = .ok r w) :
    (Op.eqFields d xs ys (f :: fs)).run P w = if r = true then (Op.eqFields d xs ys fs).run P w else .ok false w := by
  rw [Op.eqFields, if_pos hn]
  simp only [Sem.run_bind, hx, hy, he, Result.andThen_ok]
  cases r <;> simp
theorem eqFields4 {d : Nat} {xs ys : Array Value} {f0 f1 f2 f3 : Field} {P : Program} {w : World} {x0 x1 x2 x3 y0 y1 y2 y3 : Value} {r0 r1 r2 r3 : Bool} (n0 : f0.name ≠ "_") (n1 : f1.name ≠ "_") (n2 : f2.name ≠ "_") (n3 : f3.name ≠ "_")
    (a0 : (Go.part f0.type xs f0.offset).run P w = .ok x0 w) (a1 : (Go.part f1.type xs f1.offset).run P w = .ok x1 w) (a2 : (Go.part f2.type xs f2.offset).run P w = .ok x2 w) (a3 : (Go.part f3.type xs f3.offset).run P w = .ok x3 w)
    (b0 : (Go.part f0.type ys f0.offset).run P w = .ok y0 w) (b1 : (Go.part f1.type ys f1.offset).run P w = .ok y1 w) (b2 : (Go.part f2.type ys f2.offset).run P w = .ok y2 w) (b3 : (Go.part f3.type ys f3.offset).run P w = .ok y3 w)
    (e0 : (Op.equalIn d f0.type x0 y0).run P w = .ok r0 w) (e1 : (Op.equalIn d f1.type x1 y1).run P w = .ok r1 w) (e2 : (Op.equalIn d f2.type x2 y2).run P w = .ok r2 w) (e3 : (Op.equalIn d f3.type x3 y3).run P w = .ok r3 w) :
    (Op.eqFields d xs ys [f0, f1, f2, f3]).run P w = .ok (r0 && (r1 && (r2 && r3))) w := by
  rw [eqFields_cons n0 a0 b0 e0, eqFields_cons n1 a1 b1 e1, eqFields_cons n2 a2 b2 e2, eqFields_cons n3 a3 b3 e3, eqFields_nil]
  cases r0 <;> cases r1 <;> cases r2 <;> cases r3 <;> rfl
def fK : Field := { name := "Key", type := 9, offset := 0, embedded := false, tag := "", pkgPath := "", byteOffset := 0 }
def fN : Field := { name := "Seq", type := 3, offset := 1, embedded := false, tag := "", pkgPath := "", byteOffset := 16 }
def fD : Field := { name := "Kind", type := 3, offset := 2, embedded := false, tag := "", pkgPath := "", byteOffset := 24 }
def fV : Field := { name := "Value", type := 9, offset := 3, embedded := false, tag := "", pkgPath := "", byteOffset := 32 }
theorem fields28 : Tryd.prog.fieldsOf 28 = #[fK, fN, fD, fV] := by unfold Program.fieldsOf; rw [Tryd.underlying28]; rfl
theorem part9 (xs : Array Value) (i : Nat) (x : Value) (w : World) (h : xs[i]? = some x) : (Go.part 9 xs i).run Tryd.prog w = .ok x w := by simp [Go.part, isAgg, run_underlying Tryd.underlying9, h]
theorem part3 (xs : Array Value) (i : Nat) (x : Value) (w : World) (h : xs[i]? = some x) : (Go.part 3 xs i).run Tryd.prog w = .ok x w := by simp [Go.part, isAgg, run_underlying Tryd.underlying3, h]
theorem eqItemV (ak av bk bv : ByteArray) (an ad bn bd : Int) (w : World) :
    (binOp .eql 28 (.agg #[.string ak, .int .i64 an, .int .i64 ad, .string av]) (.agg #[.string bk, .int .i64 bn, .int .i64 bd, .string bv])).run Tryd.prog w = .ok (.bool (((ak.toList == bk.toList) && ((an == bn) && ((ad == bd) && (av.toList == bv.toList)))))) w := by
  have hu : Tryd.prog.underlying 28 = some (.struct (Tryd.prog.fieldsOf 28)) := by rw [fields28]; exact Tryd.underlying28
  have H : (Op.equalIn (9999 + 1) 28 (.agg #[.string ak, .int .i64 an, .int .i64 ad, .string av]) (.agg #[.string bk, .int .i64 bn, .int .i64 bd, .string bv])).run Tryd.prog w = .ok (((ak.toList == bk.toList) && ((an == bn) && ((ad == bd) && (av.toList == bv.toList))))) w := by
    rw [run_equalIn_struct w 9999 28 _ _ hu stood28, fields28]
    exact eqFields4 (f0 := fK) (f1 := fN) (f2 := fD) (f3 := fV) (x0 := .string ak) (x1 := .int .i64 an) (x2 := .int .i64 ad) (x3 := .string av) (y0 := .string bk) (y1 := .int .i64 bn) (y2 := .int .i64 bd) (y3 := .string bv) (by decide) (by decide) (by decide) (by decide)
      (part9 _ 0 _ w rfl) (part3 _ 1 _ w rfl) (part3 _ 2 _ w rfl) (part9 _ 3 _ w rfl) (part9 _ 0 _ w rfl) (part3 _ 1 _ w rfl) (part3 _ 2 _ w rfl) (part9 _ 3 _ w rfl)
      (run_equalIn_string w 9998 9 _ _ Tryd.underlying9) (run_equalIn_int w 9998 3 .i64 .i64 _ _ Tryd.underlying3) (run_equalIn_int w 9998 3 .i64 .i64 _ _ Tryd.underlying3) (run_equalIn_string w 9998 9 _ _ Tryd.underlying9)
  rw [run_eql_struct]
  show (Sem.run Tryd.prog (Op.equalIn (9999 + 1) 28 _ _) w).andThen _ = _
  rw [H]
  rfl
theorem eqItemSame (k v : ByteArray) (n d : Int) (w : World) : (binOp .eql 28 (.agg #[.string k, .int .i64 n, .int .i64 d, .string v]) (.agg #[.string k, .int .i64 n, .int .i64 d, .string v])).run Tryd.prog w = .ok (.bool true) w := by
  rw [eqItemV]; simp
theorem neqItemSame (k v : ByteArray) (n d : Int) (w : World) : (binOp .neq 28 (.agg #[.string k, .int .i64 n, .int .i64 d, .string v]) (.agg #[.string k, .int .i64 n, .int .i64 d, .string v])).run Tryd.prog w = .ok (.bool false) w := by
  have h := eqItemSame k v n d w
  rw [run_eql_struct] at h
  rw [run_neq_struct]
  generalize Op.equalIn _ 28 _ _ = o at *
  cases hr : Sem.run Tryd.prog o w with
  | ok b w' => rw [hr] at h; simp [Result.andThen] at h ⊢; exact ⟨h.1, h.2⟩
  | _ => rw [hr] at h; simp [Result.andThen] at h
theorem flat4_get (l : List It) (i : Nat) (h : i < l.length) : (flat4 l)[i * 4]? = some (.string l[i].k) ∧ (flat4 l)[i * 4 + 1]? = some (.int .i64 l[i].n) ∧ (flat4 l)[i * 4 + 2]? = some (.int .i64 l[i].d) ∧ (flat4 l)[i * 4 + 3]? = some (.string l[i].v) := by
  induction l generalizing i with
  | nil => simp at h
  | cons x r ih =>
    cases i with
    | zero => exact ⟨rfl, rfl, rfl, rfl⟩
    | succ i =>
      have := ih i (by simpa using h)
      rw [show (i + 1) * 4 = i * 4 + 1 + 1 + 1 + 1 from by omega, show i * 4 + 1 + 1 + 1 + 1 + 1 = (i * 4 + 1) + 1 + 1 + 1 + 1 from by omega, show i * 4 + 1 + 1 + 1 + 1 + 2 = (i * 4 + 2) + 1 + 1 + 1 + 1 from by omega, show i * 4 + 1 + 1 + 1 + 1 + 3 = (i * 4 + 3) + 1 + 1 + 1 + 1 from by omega]
      simp only [flat4, List.getElem?_cons_succ, List.getElem_cons_succ]
      exact this
theorem IR_of_owns {w : World} {base n : Nat} {e : TypeId} {v : Value} {l : List It} (h : w.ownsRow base e 4 v n (flat4 l)) (hn : n = l.length) : IR w v l := by
  subst hn
  have h' := h
  obtain ⟨hl, h⟩ := h
  rcases h with ⟨rfl, h0⟩ | ⟨g, cap, cur, rfl, hbg, hh, hcap, hm, hsz, htk⟩
  · exact ⟨none, 0, by rw [h0], fun hne => absurd (List.length_eq_zero_iff.1 h0) hne⟩
  · refine ⟨_, cap, rfl, fun _ => ⟨g, 0, rfl, (Array.getElem?_eq_some_iff.1 hh).1, fun i hi => ?_⟩⟩
    obtain ⟨g0, g1, g2, g3⟩ := flat4_get l i hi
    rw [Nat.zero_add]
    exact ⟨by rw [h'.cellAt (i * 4) (by omega), g0], by rw [h'.cellAt (i * 4 + 1) (by omega), g1], by rw [h'.cellAt (i * 4 + 2) (by omega), g2], by rw [h'.cellAt (i * 4 + 3) (by omega), g3]⟩
end Go.Proofs.YtdaldkcildbcmaaDoor
