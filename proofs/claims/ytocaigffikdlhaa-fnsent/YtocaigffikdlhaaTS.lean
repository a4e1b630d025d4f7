/-
  What was sent is taken: impl.takeSent.
-/
import Derived.Test.YtocaigffikdlhaaPL
import Derived.Conc.LoneCalls
import Derived.Conc.LoneSelect
namespace Go.Proofs.Ytocaigffikdlhaa
open Go.RowKit Go.Maps Go.Conc
set_option linter.unusedVariables false
set_option maxRecDepth 100000

/-- A call inside a lone walk, by its contract. -/
theorem lone_call {P : Program} {Q : Goroutine → World → Prop} {f : FuncId} {args : Array Value} {w : World} {R : Ending → World → Prop} {c : Frame} {cs : List Frame} (h : Calls P f args w R)
    (hr : ∀ e w', R e w' → ∃ v, e = .returned v ∧ LoneTo P Q (G (c.finish v) cs) w') : LoneTo P Q (G (Frame.enter P f args .normal) (c :: cs)) w := by
  obtain ⟨e, w', fr, hR, hc, hf, hl⟩ := h (c :: cs)
  obtain ⟨v, rfl, g2, w2, hs2, hq⟩ := hr e w' hR
  refine ⟨g2, w2, ?_, hq⟩
  have h1 : Steps P (solo (G (Frame.enter P f args .normal) (c :: cs)) w) (solo (G fr (c :: cs)) w') := hc
  exact h1.trans (Steps.head (step_leave_returned hl) hs2)
def ckV (y : Ck) : Value := .agg #[.int .i64 y.n, .int .i64 y.d, .string y.k, .int .u32 y.v]
theorem bytes37 : ∃ i, Try.prog.info? 37 = some i ∧ i.bytes = 40 := by
  have h : (Try.prog.info? 37).map (·.bytes) = some 40 := by kernel_rfl
  obtain ⟨i, hi, hb⟩ := Option.map_eq_some_iff.1 h
  exact ⟨i, hi, hb⟩
theorem mkC (n : Nat) (hn : n ≤ 1048576) (w : World) : (Instr.makeChan 123 (.int .i64 (n : Int))).run Try.prog w = .ok (.chan (some w.heap.size)) (w.alloc (.chan n #[] false 0 0 false)) := by
  obtain ⟨i, hi, hb⟩ := bytes37
  exact run_makeChan (P := Try.prog) (w := w) Try.underlying123 hi .i64 n (by omega) (by rw [hb]; omega)
theorem chg_setChan (w : World) (c cap : Nat) (buf : Array Value) (cl : Bool) (s r : Nat) (tm : Bool) : Chg (· = c) w (w.setChan c cap buf cl s r tm) :=
  ⟨rfl, rfl, rfl, by simp [World.setChan], fun k hk hs => by simp only [World.setChan]; rw [Array.getElem?_setIfInBounds_ne (fun e => hs e.symm)]⟩
/-- The code of the first loop, of the second, and of what follows the first. -/
def sendC : Code := ((Code.region 3 #[{ dst := some 19, op := Op.binOp BinOp.lss 3 (Operand.tmp 18) (Operand.tmp 17) 3, type := 0, pos := "l13_chunk.go:237", after := #[], guard := none }] false).seq ((Code.cond (Operand.tmp 19) Code.skip (Code.exit 0)).seq ((Code.block 1 ((Code.region 4 #[{ dst := some 20, op := Op.indexAddr 30 (Operand.tmp 16) (Operand.tmp 18), type := 0, pos := "l13_chunk.go:237", after := #[], guard := none }, { dst := some 21, op := Op.load 37 (Operand.tmp 20), type := 37, pos := "l13_chunk.go:237", after := #[{ on := 0, ground := Ground.data }], guard := none }, { dst := some 8, op := Op.alloc 37, type := 0, pos := "l13_chunk.go:237", after := #[], guard := none }, { dst := none, op := Op.store 37 (Operand.tmp 8) (Operand.tmp 21), type := 0, pos := "l13_chunk.go:237", after := #[{ on := 2, ground := Ground.data }, { on := 1, ground := Ground.data }, { on := 0, ground := Ground.phase }, { on := 1, ground := Ground.phase }, { on := 2, ground := Ground.phase }], guard := none }] false).seq (Code.region 5 #[{ dst := some 22, op := Op.move (Operand.tmp 6), type := 123, pos := "l13_chunk.go:238", after := #[], guard := none }, { dst := some 23, op := Op.load 37 (Operand.tmp 8), type := 37, pos := "l13_chunk.go:238", after := #[], guard := none }, { dst := none, op := Op.send (Operand.tmp 22) (Operand.tmp 23), type := 0, pos := "l13_chunk.go:238", after := #[{ on := 0, ground := Ground.data }, { on := 1, ground := Ground.data }], guard := none }] false))).seq (Code.region 6 #[{ dst := some 24, op := Op.binOp BinOp.add 3 (Operand.tmp 18) (Operand.const (Value.int IntKind.i64 1)) 3, type := 3, pos := "l13_chunk.go:237", after := #[], guard := none }, { dst := some 18, op := Op.move (Operand.tmp 24), type := 3, pos := "l13_chunk.go:237", after := #[{ on := 0, ground := Ground.data }], guard := none }] false))))
def takeC : Code := (Code.block 3 ((Code.region 8 #[{ dst := some 25, op := Op.move (Operand.tmp 6), type := 123, pos := "l13_chunk.go:243", after := #[], guard := none }] false).seq ((Code.region 9 #[{ dst := some 26, op := Op.select #[{ chan := Operand.tmp 25, send := none, elem := 37 }] false, type := 0, pos := "l13_chunk.go:242", after := #[], guard := none }, { dst := some 27, op := Op.extract (Operand.tmp 26) 0, type := 3, pos := "l13_chunk.go:242", after := #[{ on := 0, ground := Ground.data }], guard := none }, { dst := some 28, op := Op.binOp BinOp.eql 3 (Operand.tmp 27) (Operand.const (Value.int IntKind.i64 0)) 3, type := 4, pos := "l13_chunk.go:242", after := #[{ on := 1, ground := Ground.data }], guard := none }] false).seq (Code.block 4 (Code.cond (Operand.tmp 28) ((Code.region 11 #[{ dst := some 31, op := Op.extract (Operand.tmp 26) 2, type := 37, pos := "l13_chunk.go:243", after := #[], guard := none }, { dst := some 10, op := Op.alloc 37, type := 0, pos := "l13_chunk.go:243", after := #[], guard := none }, { dst := none, op := Op.store 37 (Operand.tmp 10) (Operand.tmp 31), type := 0, pos := "l13_chunk.go:243", after := #[{ on := 1, ground := Ground.data }, { on := 0, ground := Ground.data }, { on := 0, ground := Ground.phase }, { on := 1, ground := Ground.phase }], guard := none }] false).seq ((Code.region 12 #[{ dst := some 33, op := Op.load 41 (Operand.tmp 2), type := 41, pos := "l13_chunk.go:244", after := #[], guard := none }, { dst := some 34, op := Op.load 37 (Operand.tmp 10), type := 37, pos := "l13_chunk.go:244", after := #[], guard := none }, { dst := some 35, op := Op.call { callee := Callee.value (Operand.func 74), args := #[Operand.tmp 33, Operand.tmp 34], argTypes := #[41, 37] }, type := 44, pos := "l13_chunk.go:244", after := #[{ on := 0, ground := Ground.data }, { on := 1, ground := Ground.data }], guard := none }, { dst := some 32, op := Op.move (Operand.tmp 35), type := 44, pos := "l13_chunk.go:244", after := #[{ on := 2, ground := Ground.data }], guard := none }, { dst := some 36, op := Op.extract (Operand.tmp 32) 0, type := 41, pos := "l13_chunk.go:244", after := #[{ on := 3, ground := Ground.data }], guard := none }, { dst := some 37, op := Op.extract (Operand.tmp 32) 1, type := 4, pos := "l13_chunk.go:244", after := #[{ on := 3, ground := Ground.data }, { on := 7, ground := Ground.gcOnly Departure.lateStores }], guard := none }, { dst := some 11, op := Op.alloc 41, type := 0, pos := "l13_chunk.go:244", after := #[], guard := none }, { dst := none, op := Op.store 41 (Operand.tmp 11) (Operand.tmp 36), type := 0, pos := "l13_chunk.go:244", after := #[{ on := 6, ground := Ground.data }, { on := 4, ground := Ground.data }, { on := 2, ground := Ground.chain }, { on := 0, ground := Ground.phase }, { on := 1, ground := Ground.phase }, { on := 2, ground := Ground.phase }, { on := 3, ground := Ground.phase }, { on := 4, ground := Ground.phase }, { on := 5, ground := Ground.textOnly Departure.lateStores }, { on := 6, ground := Ground.phase }], guard := none }, { dst := some 12, op := Op.assign (Operand.tmp 37), type := 4, pos := "l13_chunk.go:244", after := #[{ on := 5, ground := Ground.data }, { on := 7, ground := Ground.chain }, { on := 0, ground := Ground.phase }, { on := 1, ground := Ground.phase }, { on := 2, ground := Ground.phase }, { on := 3, ground := Ground.phase }, { on := 4, ground := Ground.phase }, { on := 5, ground := Ground.phase }, { on := 6, ground := Ground.phase }, { on := 7, ground := Ground.phase }], guard := none }] false).seq ((Code.region 13 #[{ dst := some 38, op := Op.move (Operand.tmp 12), type := 4, pos := "l13_chunk.go:244", after := #[], guard := none }] false).seq (Code.cond (Operand.tmp 38) ((Code.region 14 #[{ dst := some 39, op := Op.load 41 (Operand.tmp 11), type := 41, pos := "l13_chunk.go:245", after := #[], guard := none }, { dst := none, op := Op.store 41 (Operand.tmp 2) (Operand.tmp 39), type := 0, pos := "l13_chunk.go:245", after := #[{ on := 0, ground := Ground.data }, { on := 0, ground := Ground.phase }], guard := none }] false).seq (Code.region 15 #[{ dst := some 40, op := Op.move (Operand.tmp 9), type := 3, pos := "l13_chunk.go:246", after := #[], guard := none }, { dst := some 41, op := Op.binOp BinOp.add 3 (Operand.tmp 40) (Operand.const (Value.int IntKind.i64 1)) 3, type := 3, pos := "l13_chunk.go:246", after := #[{ on := 0, ground := Ground.data }], guard := none }, { dst := some 9, op := Op.assign (Operand.tmp 41), type := 3, pos := "l13_chunk.go:246", after := #[{ on := 1, ground := Ground.data }, { on := 0, ground := Ground.phase }, { on := 1, ground := Ground.phase }], guard := none }] false)) Code.skip)))) ((Code.region 10 #[{ dst := some 29, op := Op.load 41 (Operand.tmp 2), type := 41, pos := "l13_chunk.go:249", after := #[], guard := none }, { dst := some 30, op := Op.move (Operand.tmp 9), type := 3, pos := "l13_chunk.go:249", after := #[{ on := 2, ground := Ground.gcOnly Departure.lateStores }], guard := none }, { dst := none, op := Op.store 41 (Operand.tmp 4) (Operand.tmp 29), type := 0, pos := "l13_chunk.go:249", after := #[{ on := 0, ground := Ground.data }, { on := 0, ground := Ground.phase }, { on := 1, ground := Ground.textOnly Departure.lateStores }], guard := none }, { dst := some 5, op := Op.assign (Operand.tmp 30), type := 3, pos := "l13_chunk.go:249", after := #[{ on := 1, ground := Ground.data }, { on := 2, ground := Ground.chain }, { on := 0, ground := Ground.phase }, { on := 1, ground := Ground.phase }, { on := 2, ground := Ground.phase }], guard := none }] false).seq Code.ret))))))
def restC : Code := ((Code.region 7 #[{ dst := some 9, op := Op.assign (Operand.const (Value.int IntKind.i64 0)), type := 3, pos := "l13_chunk.go:240", after := #[], guard := none }] false).seq (Code.block 2 (Code.block 3 ((Code.region 8 #[{ dst := some 25, op := Op.move (Operand.tmp 6), type := 123, pos := "l13_chunk.go:243", after := #[], guard := none }] false).seq ((Code.region 9 #[{ dst := some 26, op := Op.select #[{ chan := Operand.tmp 25, send := none, elem := 37 }] false, type := 0, pos := "l13_chunk.go:242", after := #[], guard := none }, { dst := some 27, op := Op.extract (Operand.tmp 26) 0, type := 3, pos := "l13_chunk.go:242", after := #[{ on := 0, ground := Ground.data }], guard := none }, { dst := some 28, op := Op.binOp BinOp.eql 3 (Operand.tmp 27) (Operand.const (Value.int IntKind.i64 0)) 3, type := 4, pos := "l13_chunk.go:242", after := #[{ on := 1, ground := Ground.data }], guard := none }] false).seq (Code.block 4 (Code.cond (Operand.tmp 28) ((Code.region 11 #[{ dst := some 31, op := Op.extract (Operand.tmp 26) 2, type := 37, pos := "l13_chunk.go:243", after := #[], guard := none }, { dst := some 10, op := Op.alloc 37, type := 0, pos := "l13_chunk.go:243", after := #[], guard := none }, { dst := none, op := Op.store 37 (Operand.tmp 10) (Operand.tmp 31), type := 0, pos := "l13_chunk.go:243", after := #[{ on := 1, ground := Ground.data }, { on := 0, ground := Ground.data }, { on := 0, ground := Ground.phase }, { on := 1, ground := Ground.phase }], guard := none }] false).seq ((Code.region 12 #[{ dst := some 33, op := Op.load 41 (Operand.tmp 2), type := 41, pos := "l13_chunk.go:244", after := #[], guard := none }, { dst := some 34, op := Op.load 37 (Operand.tmp 10), type := 37, pos := "l13_chunk.go:244", after := #[], guard := none }, { dst := some 35, op := Op.call { callee := Callee.value (Operand.func 74), args := #[Operand.tmp 33, Operand.tmp 34], argTypes := #[41, 37] }, type := 44, pos := "l13_chunk.go:244", after := #[{ on := 0, ground := Ground.data }, { on := 1, ground := Ground.data }], guard := none }, { dst := some 32, op := Op.move (Operand.tmp 35), type := 44, pos := "l13_chunk.go:244", after := #[{ on := 2, ground := Ground.data }], guard := none }, { dst := some 36, op := Op.extract (Operand.tmp 32) 0, type := 41, pos := "l13_chunk.go:244", after := #[{ on := 3, ground := Ground.data }], guard := none }, { dst := some 37, op := Op.extract (Operand.tmp 32) 1, type := 4, pos := "l13_chunk.go:244", after := #[{ on := 3, ground := Ground.data }, { on := 7, ground := Ground.gcOnly Departure.lateStores }], guard := none }, { dst := some 11, op := Op.alloc 41, type := 0, pos := "l13_chunk.go:244", after := #[], guard := none }, { dst := none, op := Op.store 41 (Operand.tmp 11) (Operand.tmp 36), type := 0, pos := "l13_chunk.go:244", after := #[{ on := 6, ground := Ground.data }, { on := 4, ground := Ground.data }, { on := 2, ground := Ground.chain }, { on := 0, ground := Ground.phase }, { on := 1, ground := Ground.phase }, { on := 2, ground := Ground.phase }, { on := 3, ground := Ground.phase }, { on := 4, ground := Ground.phase }, { on := 5, ground := Ground.textOnly Departure.lateStores }, { on := 6, ground := Ground.phase }], guard := none }, { dst := some 12, op := Op.assign (Operand.tmp 37), type := 4, pos := "l13_chunk.go:244", after := #[{ on := 5, ground := Ground.data }, { on := 7, ground := Ground.chain }, { on := 0, ground := Ground.phase }, { on := 1, ground := Ground.phase }, { on := 2, ground := Ground.phase }, { on := 3, ground := Ground.phase }, { on := 4, ground := Ground.phase }, { on := 5, ground := Ground.phase }, { on := 6, ground := Ground.phase }, { on := 7, ground := Ground.phase }], guard := none }] false).seq ((Code.region 13 #[{ dst := some 38, op := Op.move (Operand.tmp 12), type := 4, pos := "l13_chunk.go:244", after := #[], guard := none }] false).seq (Code.cond (Operand.tmp 38) ((Code.region 14 #[{ dst := some 39, op := Op.load 41 (Operand.tmp 11), type := 41, pos := "l13_chunk.go:245", after := #[], guard := none }, { dst := none, op := Op.store 41 (Operand.tmp 2) (Operand.tmp 39), type := 0, pos := "l13_chunk.go:245", after := #[{ on := 0, ground := Ground.data }, { on := 0, ground := Ground.phase }], guard := none }] false).seq (Code.region 15 #[{ dst := some 40, op := Op.move (Operand.tmp 9), type := 3, pos := "l13_chunk.go:246", after := #[], guard := none }, { dst := some 41, op := Op.binOp BinOp.add 3 (Operand.tmp 40) (Operand.const (Value.int IntKind.i64 1)) 3, type := 3, pos := "l13_chunk.go:246", after := #[{ on := 0, ground := Ground.data }], guard := none }, { dst := some 9, op := Op.assign (Operand.tmp 41), type := 3, pos := "l13_chunk.go:246", after := #[{ on := 1, ground := Ground.data }, { on := 0, ground := Ground.phase }, { on := 1, ground := Ground.phase }], guard := none }] false)) Code.skip)))) ((Code.region 10 #[{ dst := some 29, op := Op.load 41 (Operand.tmp 2), type := 41, pos := "l13_chunk.go:249", after := #[], guard := none }, { dst := some 30, op := Op.move (Operand.tmp 9), type := 3, pos := "l13_chunk.go:249", after := #[{ on := 2, ground := Ground.gcOnly Departure.lateStores }], guard := none }, { dst := none, op := Op.store 41 (Operand.tmp 4) (Operand.tmp 29), type := 0, pos := "l13_chunk.go:249", after := #[{ on := 0, ground := Ground.data }, { on := 0, ground := Ground.phase }, { on := 1, ground := Ground.textOnly Departure.lateStores }], guard := none }, { dst := some 5, op := Op.assign (Operand.tmp 30), type := 3, pos := "l13_chunk.go:249", after := #[{ on := 1, ground := Ground.data }, { on := 2, ground := Ground.chain }, { on := 0, ground := Ground.phase }, { on := 1, ground := Ground.phase }, { on := 2, ground := Ground.phase }], guard := none }] false).seq Code.ret)))))).loop))
/-- the values of chunks in the channel -/
def cvs (l : List Ck) : Array Value := (l.map ckV).toArray
theorem cvs_size (l : List Ck) : (cvs l).size = l.length := by simp [cvs]
theorem cvs_push (l : List Ck) (k : Nat) (h : k < l.length) : (cvs (l.take k)).push (ckV l[k]) = cvs (l.take (k + 1)) := by
  have e : l.take (k + 1) = l.take k ++ [l[k]] := (List.take_append_getElem h).symm
  unfold cvs
  rw [e, List.map_append, List.push_toArray]; rfl

set_option maxHeartbeats 4000000 in
theorem send_loop (Q : Goroutine → World → Prop) (cs : List Frame) (t0 : Value) (sa : Option Addr) (sb : Nat) (l : List Ck) (w : World) (hs : IR w (.slice sa l.length sb) l) (hl : l.length ≤ 1048576) (a c : Value)
    (next : ∀ u8 u19 u20 u21 u22 u23 u24 wr, Below w.heap.size w wr → Box wr w.heap.size [a, c] → Box wr (w.heap.size + 1) [.slice none 0 0, .slice none 0 0] → wr.heap[w.heap.size + 1 + 1]? = some (.chan l.length (cvs l) false l.length 0 false) → LoneTo Try.prog Q (G ((base 63).at ⟨#[t0, .slice sa l.length sb, .pointer (some ⟨w.heap.size, 0, none⟩), undef, .pointer (some ⟨w.heap.size + 1, 0, none⟩), .int .i64 0, .chan (some (w.heap.size + 1 + 1)), undef, u8, undef, undef, undef, undef, .slice sa l.length sb, .int .i64 l.length, .chan (some (w.heap.size + 1 + 1)), .slice sa l.length sb, .int .i64 l.length, .int .i64 l.length, u19, u20, u21, u22, u23, u24, undef, undef, undef, undef, undef, undef, undef, undef, undef, undef, undef, undef, undef, undef, undef, undef, undef], []⟩ [.code restC]) cs) wr) :
    ∀ m k : Nat, k + m = l.length → ∀ u8 u19 u20 u21 u22 u23 u24 wr, Below w.heap.size w wr → Box wr w.heap.size [a, c] → Box wr (w.heap.size + 1) [.slice none 0 0, .slice none 0 0] → w.heap.size + 1 + 1 < wr.heap.size → wr.heap[w.heap.size + 1 + 1]? = some (.chan l.length (cvs (l.take k)) false k 0 false) →
      LoneTo Try.prog Q (G ((base 63).at ⟨#[t0, .slice sa l.length sb, .pointer (some ⟨w.heap.size, 0, none⟩), undef, .pointer (some ⟨w.heap.size + 1, 0, none⟩), .int .i64 0, .chan (some (w.heap.size + 1 + 1)), undef, u8, undef, undef, undef, undef, .slice sa l.length sb, .int .i64 l.length, .chan (some (w.heap.size + 1 + 1)), .slice sa l.length sb, .int .i64 l.length, .int .i64 k, u19, u20, u21, u22, u23, u24, undef, undef, undef, undef, undef, undef, undef, undef, undef, undef, undef, undef, undef, undef, undef, undef, undef], []⟩ [.code sendC, .inLoop sendC, .inBlock 0, .code restC]) cs) wr := by
  intro m
  induction m with
  | zero =>
    intro k hk u8 u19 u20 u21 u22 u23 u24 wr hb X R hz hc
    have hkl : ¬ ((k : Int) < (l.length : Int)) := by omega
    obtain rfl : k = l.length := by omega
    rw [List.take_length] at hc
    refine LoneTo.goes (n := 7) ?_
    simp only [sendC]
    s_c stepG_seq
    s_reg
    s_op
    s_c stepG_region_end
    s_c stepG_seq
    s_cond false
    s_exit
    s_stop
    exact next _ _ _ _ _ _ _ wr hb X R hc
  | succ m ih =>
    intro k hk u8 u19 u20 u21 u22 u23 u24 wr hb X R hz hc
    have hkl : k < l.length := by omega
    have hki : (k : Int) < (l.length : Int) := by omega
    obtain ⟨a', b', hse, hsc⟩ := hs.below hb
    simp only [Value.slice.injEq, true_and] at hse
    obtain ⟨rfl, rfl⟩ := hse
    obtain ⟨bs, off, rfl, hbs, hcell⟩ := hsc (by intro e; simp [e] at hkl)
    obtain ⟨q0, q1, q2, q3⟩ := hcell k hkl
    have hpush := cvs_push l k hkl
    have hcs := cvs_size (l.take k)
    rw [List.length_take, Nat.min_eq_left (by omega)] at hcs
    clear hcell hsc
    generalize l[k] = y at *
    obtain ⟨yn, yd, yk, yv⟩ := y
    dsimp only at *
    have hz0 := hb.size
    have BX := below_alloc wr (.cells #[.int .i64 yn, .int .i64 yd, .string yk, .int .u32 yv] 37)
    have Y := Box.new wr #[.int .i64 yn, .int .i64 yd, .string yk, .int .u32 yv] 37
    obtain ⟨hyl, y0, y1, y2, y3⟩ := Y.c4
    have hc1 := (Below.heap_alloc wr (.cells #[.int .i64 yn, .int .i64 yd, .string yk, .int .u32 yv] 37) (w.heap.size + 1 + 1) hz).trans hc
    have hb1 := below_then hb BX
    have X1 := X.below BX
    have R1 := R.below BX
    refine LoneTo.goes (n := 19) ?_
    simp only [sendC]
    s_c stepG_seq
    s_reg
    s_op
    s_c stepG_region_end
    s_c stepG_seq
    s_cond true
    s_c stepG_skip
    s_c stepG_seq
    s_c stepG_block
    s_c stepG_seq
    s_reg
    s_op
    s_op
    s_op
    s_op
    s_c stepG_region_end
    s_reg
    s_op
    s_op
    s_stop
    refine LoneTo.step (step_lone_send_room (c := w.heap.size + 1 + 1) (cap := l.length) (buf := cvs (l.take k)) (s := k) (r := 0) (tm := false) (stepG_comm (cases := #[scase (w.heap.size + 1 + 1) (.agg #[.int .i64 yn, .int .i64 yd, .string yk, .int .u32 yv]) (.tuple #[])]) (blocking := true) (shape := .send) (w' := wr.alloc (.cells #[.int .i64 yn, .int .i64 yd, .string yk, .int .u32 yv] 37)) rfl rfl (by decide) (by simp [execOp, scase, Act.eval])) hc1 (by rw [hcs]; exact hkl)) ?_
    rw [Frame.finish_at]
    walk_nrm
    have hpv : (cvs (l.take k)).push (.agg #[.int .i64 yn, .int .i64 yd, .string yk, .int .u32 yv]) = cvs (l.take (k + 1)) := hpush
    rw [hpv]
    have hcW := heap_setChan (wr.alloc (.cells #[.int .i64 yn, .int .i64 yd, .string yk, .int .u32 yv] 37)) (w.heap.size + 1 + 1) l.length (cvs (l.take (k + 1))) false (k + 1) 0 false (by simp; omega)
    have hbW := below_setChan hb1 (c := w.heap.size + 1 + 1) (by omega) l.length (cvs (l.take (k + 1))) false (k + 1) 0 false
    have hbS := below_setChan (Below.refl (w.heap.size + 1 + 1) (wr.alloc (.cells #[.int .i64 yn, .int .i64 yd, .string yk, .int .u32 yv] 37))) (c := w.heap.size + 1 + 1) (by omega) l.length (cvs (l.take (k + 1))) false (k + 1) 0 false
    have X2 := X1.under hbS (by omega)
    have R2 := R1.under hbS (by omega)
    have hzW := size_setChan (wr.alloc (.cells #[.int .i64 yn, .int .i64 yd, .string yk, .int .u32 yv] 37)) (w.heap.size + 1 + 1) l.length (cvs (l.take (k + 1))) false (k + 1) 0 false
    have hzW2 : w.heap.size + 1 + 1 < ((wr.alloc (.cells #[.int .i64 yn, .int .i64 yd, .string yk, .int .u32 yv] 37)).setChan (w.heap.size + 1 + 1) l.length (cvs (l.take (k + 1))) false (k + 1) 0 false).heap.size := by rw [hzW]; simp; omega
    generalize (wr.alloc (.cells #[.int .i64 yn, .int .i64 yd, .string yk, .int .u32 yv] 37)).setChan (w.heap.size + 1 + 1) l.length (cvs (l.take (k + 1))) false (k + 1) 0 false = wn at *
    have hk1 : IntKind.i64.wrap ((k : Int) + 1) = (k : Int) + 1 := by rw [IntKind.wrap_i64]; omega
    refine LoneTo.goes (n := 7) ?_
    s_c stepG_region_end
    s_c stepG_inBlock
    s_reg
    s_op
    s_op
    s_c stepG_region_end
    s_c stepG_inLoop
    s_stop
    exact ih (k + 1) (by omega) _ _ _ _ _ _ _ wn hbW X2 R2 hzW2 hcW

theorem play_take (W : List Wt) (l : List Ck) (k : Nat) (h : k < l.length) : play W (l.take (k + 1)) = tkS W (play W (l.take k)) l[k] := by
  rw [← List.take_append_getElem h, play_snoc]
theorem cvs_head (l : List Ck) (k : Nat) (h : k < l.length) : (cvs (l.drop k)).getD 0 undef = ckV l[k] := by
  rw [List.drop_eq_getElem_cons h]; simp [cvs, List.getElem?_eq_getElem h]
theorem cvs_tail (l : List Ck) (k : Nat) (h : k < l.length) : (cvs (l.drop k)).extract 1 (cvs (l.drop k)).size = cvs (l.drop (k + 1)) := by
  rw [List.drop_eq_getElem_cons h]; simp [cvs]
  exact List.take_of_length_le (by simp; omega)

set_option maxHeartbeats 8000000 in
theorem take_loop (cs : List Frame) (t0 : Value) (sa : Option Addr) (sb : Nat) (W : List Wt) (l : List Ck) (w : World) (hok : wOk W) (hl : l.length ≤ 1048576) (hsz : ∀ i (h : i < l.length), l[i].k.size ≤ 1048576) :
    ∀ m k : Nat, k + m = l.length → ∀ u8 u19 u20 u21 u22 u23 u24 u10 u11 u12 u25 u26 u27 u28 u29 u30 u31 u32 u33 u34 u35 u36 u37 u38 u39 u40 u41 a c wr, Below w.heap.size w wr → Box wr w.heap.size [a, c] → Box wr (w.heap.size + 1) [.slice none 0 0, .slice none 0 0] → w.heap.size + 1 + 1 < wr.heap.size → OT wr 0 a c W (play W (l.take k)).1 → (∀ g, a.ownBlock = some g ∨ c.ownBlock = some g → g ≠ w.heap.size ∧ g ≠ w.heap.size + 1 ∧ g ≠ w.heap.size + 1 + 1) → wr.heap[w.heap.size + 1 + 1]? = some (.chan l.length (cvs (l.drop k)) false l.length k false) →
      LoneTo Try.prog (fun g' w' => ∃ e fr, g' = G fr cs ∧ (∃ a' c', e = Ending.returned (.tuple #[.agg #[a', c'], .int .i64 ((play W l).2 : Int)]) ∧ TR w' a' c' W (play W l).1 ∧ Below w.heap.size w w') ∧ fr.fn = 63 ∧ Frame.leaving Try.prog fr w' e) (G ((base 63).at ⟨#[t0, .slice sa l.length sb, .pointer (some ⟨w.heap.size, 0, none⟩), undef, .pointer (some ⟨w.heap.size + 1, 0, none⟩), .int .i64 0, .chan (some (w.heap.size + 1 + 1)), undef, u8, .int .i64 ((play W (l.take k)).2 : Int), u10, u11, u12, .slice sa l.length sb, .int .i64 l.length, .chan (some (w.heap.size + 1 + 1)), .slice sa l.length sb, .int .i64 l.length, .int .i64 l.length, u19, u20, u21, u22, u23, u24, u25, u26, u27, u28, u29, u30, u31, u32, u33, u34, u35, u36, u37, u38, u39, u40, u41], []⟩ [.code takeC, .inLoop takeC, .inBlock 2]) cs) wr := by
  intro m
  induction m with
  | zero =>
    intro k hk u8 u19 u20 u21 u22 u23 u24 u10 u11 u12 u25 u26 u27 u28 u29 u30 u31 u32 u33 u34 u35 u36 u37 u38 u39 u40 u41 a c wr hb X R hz O hne hc
    obtain rfl : k = l.length := by omega
    rw [List.drop_length] at hc
    rw [List.take_length] at O ⊢
    obtain ⟨⟨aa, ab, rfl⟩, ac, ad, rfl⟩ := O.shapes
    obtain ⟨hxl, x0, x1⟩ := X.c2
    obtain ⟨hrl, r0, r1, rf0, rf1⟩ := R.f2
    refine LoneTo.goes (n := 7) ?_
    simp only [takeC]
    s_c stepG_block
    s_c stepG_seq
    s_reg
    s_op
    s_c stepG_region_end
    s_c stepG_seq
    s_reg
    s_stop
    refine LoneTo.step (step_lone_select_default (c := w.heap.size + 1 + 1) (z := .agg #[.int .i64 0, .int .i64 0, .string ⟨#[]⟩, .int .u32 0]) (cap := l.length) (s := l.length) (r := l.length) (tm := false) (stepG_comm (cases := #[rcase (w.heap.size + 1 + 1) (.agg #[.int .i64 0, .int .i64 0, .string ⟨#[]⟩, .int .u32 0])]) (blocking := false) (shape := .select) (w' := wr) rfl rfl (by decide) (by simp [go_sem, execOp, rcase, Act.eval])) hc) ?_
    rw [Frame.finish_at]
    walk_nrm
    have hgi : goInt (-1) = .int .i64 (-1) := rfl
    rw [hgi]
    refine LoneTo.goes (n := 13) ?_
    s_op
    s_op
    s_c stepG_region_end
    s_c stepG_block
    s_cond false
    s_c stepG_seq
    s_reg
    s_op
    s_op
    s_op
    s_op
    s_c stepG_region_end
    s_c stepG_ret'
    s_stop
    have hC := put2_chg wr (w.heap.size + 1) (.slice aa W.length ab) (.slice ac (play W l).1.length ad)
    have O2 := O.chg hC (fun g hg e => (hne g hg).2.1 e)
    have hB2 := hb.trans (hC.below (B := w.heap.size) hb.size (fun g hg => by omega))
    refine LoneTo.done ⟨.returned (.tuple #[.agg #[.slice aa W.length ab, .slice ac (play W l).1.length ad], .int .i64 ((play W l).2 : Int)]), _, rfl, ⟨_, _, rfl, O2.tr, hB2⟩, rfl, rfl, rfl, rfl, _, Try.func63, ?_⟩
    simp [results, Try.results63, go_sem, Frame.at, r0, r1]
  | succ m ih =>
    intro k hk u8 u19 u20 u21 u22 u23 u24 u10 u11 u12 u25 u26 u27 u28 u29 u30 u31 u32 u33 u34 u35 u36 u37 u38 u39 u40 u41 a c wr hb X R hz O hne hc
    have hkl : k < l.length := by omega
    have hh := cvs_head l k hkl
    have ht := cvs_tail l k hkl
    have hps := play_take W l k hkl
    have hyk := hsz k hkl
    have hcs : 0 < (cvs (l.drop k)).size := by rw [cvs_size, List.length_drop]; omega
    generalize l[k] = y at *
    obtain ⟨yn, yd, yk, yv⟩ := y
    obtain ⟨⟨aa, ab, rfl⟩, ac, ad, rfl⟩ := O.shapes
    obtain ⟨hgd, h200, hcn⟩ := play_good W (l.take k)
    have hln : (l.take k).length ≤ k := by simp; omega
    have hz0 := hb.size
    generalize play W (l.take k) = s at *
    refine LoneTo.goes (n := 7) ?_
    simp only [takeC]
    s_c stepG_block
    s_c stepG_seq
    s_reg
    s_op
    s_c stepG_region_end
    s_c stepG_seq
    s_reg
    s_stop
    refine LoneTo.step (step_lone_select_recv_buf (c := w.heap.size + 1 + 1) (z := .agg #[.int .i64 0, .int .i64 0, .string ⟨#[]⟩, .int .u32 0]) (cap := l.length) (buf := cvs (l.drop k)) (closed := false) (s := l.length) (r := k) (tm := false) (stepG_comm (cases := #[rcase (w.heap.size + 1 + 1) (.agg #[.int .i64 0, .int .i64 0, .string ⟨#[]⟩, .int .u32 0])]) (blocking := false) (shape := .select) (w' := wr) rfl rfl (by decide) (by simp [go_sem, execOp, rcase, Act.eval])) hc hcs) ?_
    rw [Frame.finish_at, hh, ht]
    walk_nrm
    have hgi : goInt 0 = .int .i64 0 := rfl
    rw [hgi]
    have hcvv : ckV ⟨yn, yd, yk, yv⟩ = .agg #[.int .i64 yn, .int .i64 yd, .string yk, .int .u32 yv] := rfl
    rw [hcvv]
    dsimp only at hyk
    have hcW := heap_setChan wr (w.heap.size + 1 + 1) l.length (cvs (l.drop (k + 1))) false l.length (k + 1) false hz
    have hCS := chg_setChan wr (w.heap.size + 1 + 1) l.length (cvs (l.drop (k + 1))) false l.length (k + 1) false
    have X1 := hCS.box X (by omega)
    have R1 := hCS.box R (by omega)
    have O1 := O.chg hCS (fun g hg e => (hne g hg).2.2 e)
    have hb1 := hb.trans (hCS.below (B := w.heap.size) hb.size (fun g hg => by omega))
    have hz1 := Nat.lt_of_lt_of_le hz hCS.size
    generalize wr.setChan (w.heap.size + 1 + 1) l.length (cvs (l.drop (k + 1))) false l.length (k + 1) false = w1 at *
    clear hCS hc X R O hh ht
    have BX := below_alloc w1 (.cells #[.int .i64 yn, .int .i64 yd, .string yk, .int .u32 yv] 37)
    have Y := Box.new w1 #[.int .i64 yn, .int .i64 yd, .string yk, .int .u32 yv] 37
    have hc2 := (Below.heap_alloc w1 (.cells #[.int .i64 yn, .int .i64 yd, .string yk, .int .u32 yv] 37) (w.heap.size + 1 + 1) hz1).trans hcW
    replace X1 := X1.below BX
    replace R1 := R1.below BX
    replace O1 := O1.below BX
    replace hb1 := below_then hb1 BX
    have hz2 := Nat.lt_of_lt_of_le hz1 BX.size
    obtain ⟨hyl, y0, y1, y2, y3⟩ := Y.c4
    obtain ⟨hxl, x0, x1⟩ := X1.c2
    refine LoneTo.goes (n := 16) ?_
    s_op
    s_op
    s_c stepG_region_end
    s_c stepG_block
    s_cond true
    s_c stepG_seq
    s_reg
    s_op
    s_op
    s_op
    s_c stepG_region_end
    s_c stepG_seq
    s_reg
    s_op
    s_op
    have KT := with_any (.slice aa W.length ab) (.slice ac s.1.length ad) W s.1 ⟨yn, yd, yk, yv⟩ _ O1.tr (Nn.own O1.a) (Nn.own O1.c) hok h200 hgd hyk
    dsimp only at KT
    s_in
    rw [stepG_enter rfl rfl (by decide) (run_call_body rfl Try.func74 (by kernel_rfl) (by kernel_rfl))]
    simp only [goes_go]
    refine ⟨trivial, ?_⟩
    s_stop
    walk_nrm
    refine lone_call KT ?_
    rintro e w2 ⟨a', c', rfl, O2, hb2⟩
    refine ⟨_, rfl, ?_⟩
    rw [Frame.finish_at]
    walk_nrm
    clear KT Y hyl y0 y1 y2 y3 hxl x0 x1
    have hc3 := (hb2.block _ hz2).trans hc2
    have hz3 := Nat.lt_of_lt_of_le hz2 hb2.size
    replace X1 := X1.below hb2
    replace R1 := R1.below hb2
    replace O1 := O1.below hb2
    replace hb1 := below_then hb1 hb2
    have IH := ih (k + 1) (by omega)
    clear ih hb2 hc2 hcW BX
    cases htk : tkB W s.1 ⟨yn, yd, yk, yv⟩ with
    | false =>
      have E1 : play W (l.take (k + 1)) = s := by rw [hps]; unfold tkS tkN; rw [htk]; rfl
      simp only [E1] at IH
      have ew : tkW W s.1 ⟨yn, yd, yk, yv⟩ = [] := by unfold tkW; rw [htk]; rfl
      have eg : tkR W s.1 ⟨yn, yd, yk, yv⟩ = [] := by unfold tkR; rw [htk]; rfl
      rw [ew, eg] at O2
      obtain ⟨⟨pa, pb, rfl⟩, pc, pd, rfl⟩ := O2.shapes
      have hge2 := O2.ge
      have BQ := below_alloc w2 (.cells #[.slice pa ([] : List Wt).length pb, .slice pc ([] : List Ck).length pd] 41)
      have QB := Box.new w2 #[.slice pa ([] : List Wt).length pb, .slice pc ([] : List Ck).length pd] 41
      replace hc3 := (BQ.block _ hz3).trans hc3
      replace X1 := X1.below BQ
      replace R1 := R1.below BQ
      replace O1 := O1.below BQ
      replace O2 := O2.below BQ
      replace hb1 := below_then hb1 BQ
      have hz4 := Nat.lt_of_lt_of_le hz3 BQ.size
      obtain ⟨hql, q0, q1⟩ := QB.c2
      refine LoneTo.goes (n := 12) ?_
      s_op
      s_op
      s_op
      s_op
      s_op
      s_op
      s_c stepG_region_end
      s_c stepG_seq
      s_reg
      s_op
      s_c stepG_region_end
      s_cond false
      s_stop
      refine LoneTo.goes (n := 4) ?_
      s_c stepG_skip
      s_c stepG_inBlock
      s_c stepG_inBlock
      s_c stepG_inLoop
      s_stop
      exact IH _ _ _ _ _ _ _ _ _ _ _ _ _ _ _ _ _ _ _ _ _ _ _ _ _ _ _ _ _ _ hb1 X1 R1 hz4 O1 hne hc3
    | true =>
      have E1 : play W (l.take (k + 1)) = (tkG s.1 ⟨yn, yd, yk, yv⟩, s.2 + 1) := by rw [hps]; unfold tkS tkN; rw [htk]; rfl
      simp only [E1] at IH
      have ew : tkW W s.1 ⟨yn, yd, yk, yv⟩ = W := by unfold tkW; rw [htk]; rfl
      have eg : tkR W s.1 ⟨yn, yd, yk, yv⟩ = tkG s.1 ⟨yn, yd, yk, yv⟩ := by unfold tkR; rw [htk]; rfl
      rw [ew, eg] at O2
      generalize tkG s.1 ⟨yn, yd, yk, yv⟩ = G2 at *
      obtain ⟨⟨pa, pb, rfl⟩, pc, pd, rfl⟩ := O2.shapes
      have hge2 := O2.ge
      have BQ := below_alloc w2 (.cells #[.slice pa (W).length pb, .slice pc (G2).length pd] 41)
      have QB := Box.new w2 #[.slice pa (W).length pb, .slice pc (G2).length pd] 41
      replace hc3 := (BQ.block _ hz3).trans hc3
      replace X1 := X1.below BQ
      replace R1 := R1.below BQ
      replace O1 := O1.below BQ
      replace O2 := O2.below BQ
      replace hb1 := below_then hb1 BQ
      have hz4 := Nat.lt_of_lt_of_le hz3 BQ.size
      obtain ⟨hql, q0, q1⟩ := QB.c2
      refine LoneTo.goes (n := 12) ?_
      s_op
      s_op
      s_op
      s_op
      s_op
      s_op
      s_c stepG_region_end
      s_c stepG_seq
      s_reg
      s_op
      s_c stepG_region_end
      s_cond true
      s_stop
      obtain ⟨hxl, x0, x1, xf0, xf1⟩ := X1.f2
      have hC := put2_chg (w2.alloc (.cells #[.slice pa W.length pb, .slice pc G2.length pd] 41)) w.heap.size (.slice pa W.length pb) (.slice pc G2.length pd)
      have hwn : ∀ g, (Value.slice pa W.length pb).ownBlock = some g ∨ (Value.slice pc G2.length pd).ownBlock = some g → w.heap.size + 1 + 1 < g := fun g hg => by have := hge2 g hg; omega
      have X5 := put2_box X1 (.slice pa W.length pb) (.slice pc G2.length pd)
      have R5 := hC.box R1 (by omega)
      have O5 := O2.chg hC (fun g hg e => by have := hwn g hg; omega)
      have hb5 := hb1.trans (hC.below (B := w.heap.size) hb1.size (fun g hg => by omega))
      have hc5 := (hC.block _ hz4 (by omega)).trans hc3
      have hz5 := Nat.lt_of_lt_of_le hz4 hC.size
      have hN1 : IntKind.i64.wrap ((s.2 : Int) + 1) = (s.2 : Int) + 1 := by rw [IntKind.wrap_i64]; omega
      have hwm : ∀ g, (Value.slice pa W.length pb).ownBlock = some g ∨ (Value.slice pc G2.length pd).ownBlock = some g → g ≠ w.heap.size ∧ g ≠ w.heap.size + 1 ∧ g ≠ w.heap.size + 1 + 1 := fun g hg => by have := hwn g hg; omega
      have HX5 : Hid _ := X5
      have HR5 : Hid _ := R5
      have HO5 : Hid _ := O5.mono (Nat.zero_le _)
      have HB5 : Hid _ := hb5
      have HC5 : Hid _ := hc5
      have HZ5 : Hid _ := hz5
      clear hC X5 R5 O5 hb5 hc5 hz5
      refine LoneTo.goes (n := 13) ?_
      s_c stepG_seq
      s_reg
      s_op
      s_op
      s_c stepG_region_end
      s_reg
      s_op
      s_op
      s_op
      s_c stepG_region_end
      s_c stepG_inBlock
      s_c stepG_inBlock
      s_c stepG_inLoop
      s_stop
      exact IH _ _ _ _ _ _ _ _ _ _ _ _ _ _ _ _ _ _ _ _ _ _ _ _ _ _ _ _ _ _ HB5.out HX5.out HR5.out HZ5.out HO5.out hwm HC5.out

set_option maxHeartbeats 4000000 in
theorem takeSent_any (a c s : Value) (W : List Wt) (l : List Ck) (w : World) (h : OT w 0 a c W []) (hs : IR w s l) (hok : wOk W) (hl : l.length ≤ 1048576) (hsz : ∀ i (h : i < l.length), l[i].k.size ≤ 1048576) :
    Calls Try.prog 63 #[.agg #[a, c], s] w fun e w' => ∃ a' c', e = .returned (.tuple #[.agg #[a', c'], .int .i64 ((play W l).2 : Int)]) ∧ TR w' a' c' W (play W l).1 ∧ Below w.heap.size w w' := by
  obtain ⟨⟨wa, wb, rfl⟩, ca, cb, rfl⟩ := h.shapes
  obtain ⟨sa, sb, rfl, _⟩ := id hs
  refine calls_of_loneTo (fun cs => ?_) (by rintro _ ⟨_, _, h, _⟩; cases h)
  have e : Frame.enter Try.prog 63 #[.agg #[.slice wa W.length wb, .slice ca ([] : List Ck).length cb], .slice sa l.length sb] .normal = (base 63).at ⟨#[.agg #[.slice wa W.length wb, .slice ca ([] : List Ck).length cb], .slice sa l.length sb, undef, undef, undef, undef, undef, undef, undef, undef, undef, undef, undef, undef, undef, undef, undef, undef, undef, undef, undef, undef, undef, undef, undef, undef, undef, undef, undef, undef, undef, undef, undef, undef, undef, undef, undef, undef, undef, undef, undef, undef], []⟩ [.code (Try.f63.body.getD .skip)] := by
    simp [Frame.enter, Frame.at, Try.func63, base, Try.f63]
  rw [e]
  have hmc := mkC l.length hl
  have B0 := below_alloc w (.cells #[.slice wa W.length wb, .slice ca ([] : List Ck).length cb] 41)
  have B1 := below_alloc (w.alloc (.cells #[.slice wa W.length wb, .slice ca ([] : List Ck).length cb] 41)) (.cells #[.slice none 0 0, .slice none 0 0] 41)
  have B2 := below_alloc ((w.alloc (.cells #[.slice wa W.length wb, .slice ca ([] : List Ck).length cb] 41)).alloc (.cells #[.slice none 0 0, .slice none 0 0] 41)) (.chan l.length #[] false 0 0 false)
  have X := ((Box.new w #[.slice wa W.length wb, .slice ca ([] : List Ck).length cb] 41).below B1).below B2
  have R := (Box.new (w.alloc (.cells #[.slice wa W.length wb, .slice ca ([] : List Ck).length cb] 41)) #[.slice none 0 0, .slice none 0 0] 41).below B2
  simp only [World.size_alloc] at R
  have hB := below_then (below_then B0 B1) B2
  have hlt := h.lt
  have hne : ∀ g, (Value.slice wa W.length wb).ownBlock = some g ∨ (Value.slice ca ([] : List Ck).length cb).ownBlock = some g → g ≠ w.heap.size ∧ g ≠ w.heap.size + 1 ∧ g ≠ w.heap.size + 1 + 1 := fun g hg => by have := hlt g hg; omega
  have HX : Hid _ := X
  have HR : Hid _ := R
  have HB : Hid _ := hB
  clear X R hB B0 B1 B2
  refine LoneTo.goes (n := 22) ?_
  simp only [Try.f63, Option.getD_some]
  s_c stepG_seq
  s_reg
  s_op
  s_op
  s_op
  s_c stepG_region_end
  s_c stepG_seq
  s_reg
  s_op
  s_op
  s_op
  s_op
  s_c stepG_region_end
  s_c stepG_seq
  s_c stepG_seq
  s_reg
  s_op
  s_op
  s_op
  s_c stepG_region_end
  s_c stepG_block
  s_c stepG_loop
  s_stop
  refine send_loop _ cs _ sa sb l w hs hl _ _ ?_ l.length 0 (by omega) _ _ _ _ _ _ _ _ HB.out HX.out HR.out (by simp) ?_
  · intro u8 u19 u20 u21 u22 u23 u24 wr hb X R hc
    have hz : w.heap.size + 1 + 1 < wr.heap.size := by
      by_cases hq : w.heap.size + 1 + 1 < wr.heap.size
      · exact hq
      · rw [Array.getElem?_eq_none (by omega)] at hc; simp at hc
    refine LoneTo.goes (n := 6) ?_
    simp only [restC]
    s_c stepG_seq
    s_reg
    s_op
    s_c stepG_region_end
    s_c stepG_block
    s_c stepG_loop
    s_stop
    have OW : OT wr 0 (.slice wa W.length wb) (.slice ca ([] : List Ck).length cb) W [] := h.below hb
    exact take_loop cs _ sa sb W l w hok hl hsz l.length 0 (by omega) _ _ _ _ _ _ _ _ _ _ _ _ _ _ _ _ _ _ _ _ _ _ _ _ _ _ _ _ _ wr hb X R hz OW hne hc
  · have := heap_alloc_new ((w.alloc (.cells #[.slice wa W.length wb, .slice ca ([] : List Ck).length cb] 41)).alloc (.cells #[.slice none 0 0, .slice none 0 0] 41)) (.chan l.length #[] false 0 0 false)
    simp only [World.size_alloc] at this
    have e0 : cvs (l.take 0) = #[] := by simp [cvs]
    rw [e0]
    exact this
end Go.Proofs.Ytocaigffikdlhaa
