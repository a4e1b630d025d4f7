/-
  Two items compared as structs.
-/
import Derived.Test.YtjenogmpmkkbiaaP8
import Derived.Laws.StructEq
namespace Go.Proofs.Ytjenogmpmkkbiaa
open Go.RowKit
set_option linter.unusedVariables false
set_option maxRecDepth 100000

theorem eqG83 : Try.prog.eqGuardType Try.prog.depth 83 = false := by kernel_rfl
theorem stood83 : Try.prog.stoodInHeld 83 = false := by kernel_rfl
theorem eqFields_nil (d : Nat) (xs ys : Array Value) (P : Program) (w : World) : (Op.eqFields d xs ys []).run P w = .ok true w := rfl
theorem eqFields_cons {d : Nat} {xs ys : Array Value} {f : Field} {fs : List Field} {P : Program} {w : World} {x y : Value} {r : Bool} (hn : f.name ≠ "_") (hx : (Go.part f.type xs f.offset).run P w = .ok x w) (hy : (Go.part f.type ys f.offset).run P w = .ok y w) (he : (Op.equalIn d f.type x y).run P w = .ok r w) :
    (Op.eqFields d xs ys (f :: fs)).run P w = if r = true then (Op.eqFields d xs ys fs).run P w else .ok false w := by
  rw [Op.eqFields, if_pos hn]
  simp only [Sem.run_bind, hx, hy, he, Result.andThen_ok]
  cases r <;> simp
theorem eqFields4 {d : Nat} {xs ys : Array Value} {f0 f1 f2 f3 : Field} {P : Program} {w : World} {x0 x1 x2 x3 y0 y1 y2 y3 : Value} {r0 r1 r2 r3 : Bool} (n0 : f0.name ≠ "_") (n1 : f1.name ≠ "_") (n2 : f2.name ≠ "_") (n3 : f3.name ≠ "_")
    (a0 : (Go.part f0.type xs f0.offset).run P w = .ok x0 w) (a1 : (Go.part f1.type xs f1.offset).run P w = .ok x1 w) (a2 : (Go.part f2.type xs f2.offset).run P w = .ok x2 w) (a3 : (Go.part f3.type xs f3.offset).run P w = .ok x3 w)
    (b0 : (Go.part f0.type ys f0.offset).run P w = .ok y0 w) (b1 : (Go.part f1.type ys f1.offset).run P w = .ok y1 w) (b2 : (Go.part f2.type ys f2.offset).run P w = .ok y2 w) (b3 : (Go.part f3.type ys f3.offset).run P w = .ok y3 w)
    (e0 : (Op.equalIn d f0.type x0 y0).run P w = .ok r0 w) (e1 : (Op.equalIn d f1.type x1 y1).run P w = .ok r1 w) (e2 : (Op.equalIn d f2.type x2 y2).run P w = .ok r2 w) (e3 : (Op.equalIn d f3.type x3 y3).run P w = .ok r3 w) :
    (Op.eqFields d xs ys [f0, f1, f2, f3]).run P w = .ok (r0 && (r1 && (r2 && r3))) w := by
  rw [eqFields_cons n0 a0 b0 e0, eqFields_cons n1 a1 b1 e1, eqFields_cons n2 a2 b2 e2, eqFields_cons n3 a3 b3 e3, eqFields_nil]
  cases r0 <;> cases r1 <;> cases r2 <;> cases r3 <;> rfl
def fK : Field := { name := "Key", type := 9, offset := 0, embedded := false, tag := "", pkgPath := "", byteOffset := 0 }
def fN : Field := { name := "Seq", type := 3, offset := 1, embedded := false, tag := "", pkgPath := "", byteOffset := 16 }
def fD : Field := { name := "Kind", type := 3, offset := 2, embedded := false, tag := "", pkgPath := "", byteOffset := 24 }
def fV : Field := { name := "Value", type := 9, offset := 3, embedded := false, tag := "", pkgPath := "", byteOffset := 32 }
theorem fields83 : Try.prog.fieldsOf 83 = #[fK, fN, fD, fV] := by unfold Program.fieldsOf; rw [Try.underlying83]; rfl
theorem part9 (xs : Array Value) (i : Nat) (x : Value) (w : World) (h : xs[i]? = some x) : (Go.part 9 xs i).run Try.prog w = .ok x w := by simp [Go.part, isAgg, run_underlying Try.underlying9, h]
theorem part3 (xs : Array Value) (i : Nat) (x : Value) (w : World) (h : xs[i]? = some x) : (Go.part 3 xs i).run Try.prog w = .ok x w := by simp [Go.part, isAgg, run_underlying Try.underlying3, h]
theorem eqRes (ak av bk bv : ByteArray) (an ad bn bd : Int) : ((ak.toList == bk.toList) && ((an == bn) && ((ad == bd) && (av.toList == bv.toList)))) = decide ((⟨ak, an, ad, av⟩ : It) = ⟨bk, bn, bd, bv⟩) := by
  rw [Bool.eq_iff_iff]
  simp only [Bool.and_eq_true, beq_iff_eq, decide_eq_true_eq, It.mk.injEq]
  exact ⟨fun h => ⟨tl_inj h.1, h.2.1, h.2.2.1, tl_inj h.2.2.2⟩, fun h => ⟨by rw [h.1], h.2.1, h.2.2.1, by rw [h.2.2.2]⟩⟩
theorem eqItemV (ak av bk bv : ByteArray) (an ad bn bd : Int) (w : World) :
    (binOp .eql 83 (.agg #[.string ak, .int .i64 an, .int .i64 ad, .string av]) (.agg #[.string bk, .int .i64 bn, .int .i64 bd, .string bv])).run Try.prog w = .ok (.bool (decide ((⟨ak, an, ad, av⟩ : It) = ⟨bk, bn, bd, bv⟩))) w := by
  have hu : Try.prog.underlying 83 = some (.struct (Try.prog.fieldsOf 83)) := by rw [fields83]; exact Try.underlying83
  have H : (Op.equalIn (9999 + 1) 83 (.agg #[.string ak, .int .i64 an, .int .i64 ad, .string av]) (.agg #[.string bk, .int .i64 bn, .int .i64 bd, .string bv])).run Try.prog w = .ok (decide ((⟨ak, an, ad, av⟩ : It) = ⟨bk, bn, bd, bv⟩)) w := by
    rw [run_equalIn_struct w 9999 83 _ _ hu stood83, fields83, ← eqRes]
    exact eqFields4 (f0 := fK) (f1 := fN) (f2 := fD) (f3 := fV) (x0 := .string ak) (x1 := .int .i64 an) (x2 := .int .i64 ad) (x3 := .string av) (y0 := .string bk) (y1 := .int .i64 bn) (y2 := .int .i64 bd) (y3 := .string bv) (by decide) (by decide) (by decide) (by decide)
      (part9 _ 0 _ w rfl) (part3 _ 1 _ w rfl) (part3 _ 2 _ w rfl) (part9 _ 3 _ w rfl) (part9 _ 0 _ w rfl) (part3 _ 1 _ w rfl) (part3 _ 2 _ w rfl) (part9 _ 3 _ w rfl)
      (run_equalIn_string w 9998 9 _ _ Try.underlying9) (run_equalIn_int w 9998 3 .i64 .i64 _ _ Try.underlying3) (run_equalIn_int w 9998 3 .i64 .i64 _ _ Try.underlying3) (run_equalIn_string w 9998 9 _ _ Try.underlying9)
  rw [run_eql_struct]
  show (Sem.run Try.prog (Op.equalIn (9999 + 1) 83 _ _) w).andThen _ = _
  rw [H]
  rfl
end Go.Proofs.Ytjenogmpmkkbiaa
