/-
  At every taking and every chunk, impl.TakeChunk answers as its specification, writes into no argument, and its answer owns its memory: the law laws.FnExactTakeChunk returns true. No condition.
-/
import Derived.Test.YtocaigffikdlhaaRows
import Derived.Test.YtocaigffikdlhaaChecked
import Derived.Test.YtocaigffikdlhaaLTakeChunk
import Derived.Test.YtocaigffikdlhaaWT1
import Derived.Test.YtocaigffikdlhaaMT
import Derived.OpenShut
import Derived.ChangeOld
import Derived.ShutString
import Derived.JoinedOf
import Derived.JoinedAt
import Derived.RowKit3
import Derived.Lib.SmallJoins
namespace Go.Proofs.Ytocaigffikdlhaa
namespace fnExactTakeChunk
open Go.ChangeShapes Go.WideShapes Go.ChangeAt Go.RowKit Go.Joins
open Go.ChangeMaps (open_string shut_string)
set_option linter.unusedVariables false

theorem law {P1 P2 P3 : Prop} (a c : Value) (W : List Wt) (G : List Ck) (yn yd : Int) (yk : ByteArray) (yv : Int) (w : World) (hw : WR w a W) (hc : IR w c G) (hn : W.length ≤ maxLen) (hm : G.length ≤ maxLen) (hs : ∀ i (h : i < G.length), G[i].k.size ≤ maxLen) (p1 : P1) (p2 : P2) (hy : yk.size ≤ maxLen) (p3 : P3) :
    Calls Try.prog 10 #[.agg #[a, c], .agg #[.int .i64 yn, .int .i64 yd, .string yk, .int .u32 yv]] w fun e w' => e = .returned (.bool true) ∧ Below w.heap.size w w' := law10x a c W G yn yd yk yv w hw hc hn hm hs hy

theorem own : ownKnob Try.prog.godebug = none := by kernel_rfl
theorem laidOut : laidOutB Try.prog = true := by kernel_rfl
theorem cells116 : Try.prog.cellsOf 116 = 2 := by kernel_rfl
theorem cells77 : Try.prog.cellsOf 77 = 4 := by kernel_rfl
theorem cells73 : Try.prog.cellsOf 73 = 2 := by kernel_rfl
theorem cells5 : Try.prog.cellsOf 5 = 1 := by kernel_rfl
theorem cells9 : Try.prog.cellsOf 9 = 1 := by kernel_rfl

set_option maxRecDepth 100000 in
theorem lifted (os : Os) (started : os.Started) (H : Type) (enc : TypeId × Value → H) :
    ReturnsInHanded {} Try.checked os 10 .any (Rows.fnExactTakeChunkSpec.pre6 enc Try.prog Try.f10 Rows.fnExactTakeChunkRow.domain false) (Rows.fnExactTakeChunkSpec.post enc Try.prog Try.f10 false true false false) := by
  refine returnsInHanded_of_change (C := Try.checked) own started (by kernel_rfl) Try.func10
    (ChangeSpec.witness6 (enc := enc) (C := Try.checked) false ⟨#[], #[.agg #[.slice none 0 0, .slice none 0 0], .agg #[.int .i64 0, .int .i64 0, .string ⟨#[]⟩, .int .u32 0]], []⟩ 8 (by kernel_rfl) (by kernel_rfl) (by kernel_rfl) (by kernel_rfl)) ?_
  intro W base args ds gs before hval0 hW hcnd _
  have hval : ∀ (j : Nat) t v, Try.f10.params[j]? = some t → args[j]? = some v → Value.okWide Try.prog W .any base t v := hval0
  have hW' := hW
  obtain ⟨p, q, hA0, hV, rfl, hfz, hnd⟩ := hW
  have hA : DataW.TrodAll enc Try.prog W 0 (fun _ => true) true Try.f10.params.toList args.toList ds p := hA0
  rw [Try.params10] at hA hval
  obtain ⟨rfl, rfl⟩ := trodVars_none hV
  obtain ⟨v0, vs0, d0, ds0, p0, q0, hargs0, hds0, hp0, h0, r0⟩ := trodAll_cons hA
  obtain ⟨v1, vs1, d1, ds1, p1, q1, hargs1, hds1, hp1, h1, r1⟩ := trodAll_cons r0
  obtain ⟨e1, e2, e3⟩ := trodAll_nil r1
  subst e2 e3
  subst e1
  subst hargs1 hds1 hp1
  subst hds0 hp0
  obtain rfl : args = #[v0, v1] := by cases args; simp_all
  have k0 := h0
  have lt0 : ∀ x ∈ p0, x.block < W.heap.size := by obtain ⟨m, hm⟩ := k0; exact DataW.trod_lt m _ _ _ hm
  obtain ⟨a0_0, a0_1, _, _, m0, rfl, _, _, t0_0, t0_1⟩ := open_agg2 Try.underlying73 (by kernel_rfl) cells73 (hval 0 73 v0 rfl rfl) h0
  obtain ⟨lw0, PW0, nw0, _⟩ := WR_of_trod Try.underlying64 Try.underlying116 cells116 (by kernel_rfl) Try.underlying3 Try.underlying35 t0_0
  obtain ⟨lc0, PC0, nc0, sc0⟩ := IR_of_trod Try.underlying71 Try.underlying77 cells77 (by kernel_rfl) Try.underlying3 Try.underlying3 Try.underlying9 Try.underlying35 t0_1
  have k1 := h1
  have lt1 : ∀ x ∈ p1, x.block < W.heap.size := by obtain ⟨m, hm⟩ := k1; exact DataW.trod_lt m _ _ _ hm
  obtain ⟨a1_0, a1_1, a1_2, a1_3, _, _, _, _, m1, rfl, _, _, t1_0, t1_1, t1_2, t1_3⟩ := open_agg4 Try.underlying77 (by kernel_rfl) cells77 (hval 1 77 v1 rfl rfl) h1
  obtain ⟨x1_0, ea, _, wf1_0⟩ := DataW.trod_int Try.underlying3 t1_0
  simp only [List.cons.injEq, and_true] at ea
  subst ea
  simp only [Lit.wf, Bool.and_eq_true, decide_eq_true_eq] at wf1_0
  obtain ⟨x1_1, ea, _, wf1_1⟩ := DataW.trod_int Try.underlying3 t1_1
  simp only [List.cons.injEq, and_true] at ea
  subst ea
  simp only [Lit.wf, Bool.and_eq_true, decide_eq_true_eq] at wf1_1
  obtain ⟨x1_3, ea, _, wf1_3⟩ := DataW.trod_int Try.underlying35 t1_3
  simp only [List.cons.injEq, and_true] at ea
  subst ea
  simp only [Lit.wf, Bool.and_eq_true, decide_eq_true_eq] at wf1_3
  obtain ⟨x1_2, ea, _, sd1⟩ := DataW.trod_string Try.underlying9 t1_2
  simp only [List.cons.injEq, and_true] at ea
  subst ea
  clear hA0 hval0
  refine (law a0_0 a0_1 lw0 lc0 x1_0 x1_1 x1_2 x1_3 W PW0 PC0 nw0 nc0 sc0 wf1_0 wf1_1 sd1 wf1_3).mono fun e W' ⟨he, bel⟩ => ?_
  subst he
  exact ⟨_, rfl, _, _, _, [], _, [], hW', trodAll_mk1 (shut_bool Try.underlying4 _), (trodAll_cons_mk (Below.trod laidOut (by kernel_rfl) (of_decide_eq_true (by kernel_rfl)) k0 bel lt0) (trodAll_cons_mk (Below.trod laidOut (by kernel_rfl) (of_decide_eq_true (by kernel_rfl)) k1 bel lt1) trodAll_mk0)), rfl, bel.frame _, fun h => by cases h⟩

theorem over : Rows.fnExactTakeChunkRow.holds Try.pinned (OpenSpec.ofChange Rows.fnExactTakeChunkSpec) :=
  OpenClaim.holds_of_wide 10 Try.f10 rfl rfl rfl rfl rfl rfl rfl ⟨rfl, rfl, rfl, rfl, rfl⟩ rfl rfl rfl rfl rfl (by kernel_rfl) Try.func10 (by kernel_rfl)
    (of_decide_eq_true (by kernel_rfl)) (by unfold Func.isWrapper; first | (rw [if_pos (by decide +kernel)]; kernel_rfl) | (rw [if_neg (by decide +kernel)]; exact ⟨rfl, rfl⟩))
    (fun os started H enc _ => lifted os started H enc)
end fnExactTakeChunk
theorem fnExactTakeChunk_holds : Rows.FnExactTakeChunkSaid := fnExactTakeChunk.over
#print axioms fnExactTakeChunk_holds
end Go.Proofs.Ytocaigffikdlhaa
