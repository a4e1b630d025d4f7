/-
  Drawn keys and items, an empty list.
-/
import Derived.Test.YtdaldkcildbcmaaDoorD2ToD5
import Derived.Test.YtdaldkcildbcmaaDoorJ6
import Derived.Test.YtdaldkcildbcmaaDoorEToG1
import Derived.Deep.Cut
import Derived.Deep.CutBlock
namespace Go.Proofs.YtdaldkcildbcmaaDoor
open Go.RowKit
set_option linter.unusedVariables false
set_option maxRecDepth 100000

def StopA (p : Prop) : Prop := p
theorem StopA.go {p : Prop} (h : StopA p) : p := h
theorem wpList_append_int1 (w : World) {ops : Array Oper} {rest : List Oper} {o : Oper} {a : Act} {Q : Exit → Act → World → Prop} (hgd : o.guard = none) (s x : Operand)
    (ho : o.op = .call { callee := .builtin .append, args := #[s, x], argTypes := #[23, 23] }) (hty : o.type = 23)
    (base : Nat) (v : Value) (n : Nat) (zs : List Int) (hs : a.eval s = v) (hown : w.ownsRow base 3 1 v n (zs.map (.int .i64)))
    (b : Nat) (y : Int) (hx : a.eval x = .slice (some ⟨b, 0, none⟩) 1 1) (hI : Box w b [.int .i64 y]) (hn : n + 1 ≤ 2000000) (hbase : base ≤ w.heap.size)
    (h : ∀ v' w', w'.ownsRow base 3 1 v' (n + 1) ((zs ++ [y]).map (.int .i64)) → w.grownBy w' v.ownBlock → wpList Tryd.prog ops Q rest (a.put o.dst v') w') : wpList Tryd.prog ops Q (o :: rest) a w := by
  obtain ⟨i0, hi, hz0, hzs, hzb⟩ := info_parts Tryd.info3
  refine wpList_append_own _ hgd s x 23 ho base 3 i0 (.int .i64 0) 1 8 Tryd.underlying23 hi hz0 hzs hzb rfl (by decide) v n (zs.map (.int .i64)) hs hown ⟨b, 0, none⟩ 1 1 [.int .i64 y] hx rfl (fun j u hj => by rw [show (⟨b, 0, none⟩ : Addr).add j = ⟨b, j, none⟩ from by simp [Addr.add]; omega]; exact hI.2.1 j u hj) (by simp [Value.oneCell']) (by unfold maxLen; omega) (by omega) hbase fun v' w' h1 h2 _ => h v' w' (by simpa using h1) h2
theorem conv_repl {w : World} {base g n : Nat} (h : w.ownsRow base 5 1 (.slice (some ⟨g, 0, none⟩) n n) n (bcs (List.replicate n 0))) : (convert 22 9 (.slice (some ⟨g, 0, none⟩) n n)).run Tryd.prog w = .ok (.string ⟨(List.replicate n 0).toArray⟩) w := by
  have := conv_back (w := w) (base := base) (cap := n) (g := g) (l := List.replicate n 0) (by simpa using h)
  simpa using this
set_option maxHeartbeats 4000000 in
theorem key_any (b : Nat) (l : List UInt8) (K : Nat) (w : World) (h : Cur w b l K) (hl : l.length ≤ 9223372036854775807) (hK : K ≤ 1000000) :
    Calls Tryd.prog 78 #[.pointer (some ⟨b, 0, none⟩)] w fun e w' => (∃ k : ByteArray, e = .returned (.string k) ∧ k.size ≤ 17) ∧ Cur w' b l (K + 10) ∧ Chg (· = b) w w' := by
  have hc := h
  have hch : Chg (· = b) w w := Chg.refl _ _
  clear h
  go_enter Tryd.func78, Tryd.ntmps78
  go_wp2_with fail
  refine (one_any b l _ 60 _ hc hl (by omega) (by omega)).mono ?_
  rintro e w1 ⟨⟨x, rfl⟩, hc1, hch1⟩
  replace hch := hch.trans hch1
  replace hc := hc1
  have hzw1 := hch1.size
  clear hc1 hch1
  cases x with
  | true =>
    have hBs := below_alloc w1 (.cells #[.string ⟨#[]⟩, .string ⟨#[49, 50, 51, 52, 53, 54, 55, 56, 57, 48, 49, 50, 51, 52, 53, 54, 55]⟩] 9)
    have V := Box.new w1 #[.string ⟨#[]⟩, .string ⟨#[49, 50, 51, 52, 53, 54, 55, 56, 57, 48, 49, 50, 51, 52, 53, 54, 55]⟩] 9
    have hlc := hc.lt
    replace hc := hc.chg hBs
    replace hch := hch.trans (Chg.of_below hBs)
    have hzs := hBs.size
    clear hBs
    go_wp2_with fail
    refine (of_any b l _ w1.heap.size [⟨#[]⟩, ⟨#[49, 50, 51, 52, 53, 54, 55, 56, 57, 48, 49, 50, 51, 52, 53, 54, 55]⟩] _ hc hl (by omega) V (by omega) (by simp) (by simp)).mono ?_
    rintro e w2 ⟨⟨d, rfl, hd⟩, hc1, hch1⟩
    have hd1 : d.size ≤ 17 := by simp only [List.mem_cons, List.not_mem_nil, or_false] at hd; rcases hd with rfl | rfl <;> decide
    replace hch := hch.trans hch1
    have hcK := hc1.mono (show _ ≤ K + 10 from by omega)
    clear hd V hc hc1 hch1
    go_wp2
    go_ret
    exact ⟨⟨_, rfl, hd1⟩, hcK, hch⟩
  | false =>
    have hBs := below_alloc w1 (.cells #[.string ⟨#[97]⟩, .string ⟨#[98]⟩, .string ⟨#[98, 97]⟩, .string ⟨#[99]⟩, .string ⟨#[99, 97, 114]⟩, .string ⟨#[100]⟩, .string ⟨#[101]⟩] 9)
    have V := Box.new w1 #[.string ⟨#[97]⟩, .string ⟨#[98]⟩, .string ⟨#[98, 97]⟩, .string ⟨#[99]⟩, .string ⟨#[99, 97, 114]⟩, .string ⟨#[100]⟩, .string ⟨#[101]⟩] 9
    have hlc := hc.lt
    replace hc := hc.chg hBs
    replace hch := hch.trans (Chg.of_below hBs)
    have hzs := hBs.size
    clear hBs
    go_wp2_with fail
    refine (of_any b l _ w1.heap.size [⟨#[97]⟩, ⟨#[98]⟩, ⟨#[98, 97]⟩, ⟨#[99]⟩, ⟨#[99, 97, 114]⟩, ⟨#[100]⟩, ⟨#[101]⟩] _ hc hl (by omega) V (by omega) (by simp) (by simp)).mono ?_
    rintro e w2 ⟨⟨d, rfl, hd⟩, hc1, hch1⟩
    have hd1 : d.size ≤ 17 := by simp only [List.mem_cons, List.not_mem_nil, or_false] at hd; rcases hd with rfl | rfl | rfl | rfl | rfl | rfl | rfl <;> decide
    replace hch := hch.trans hch1
    have hcK := hc1.mono (show _ ≤ K + 10 from by omega)
    clear hd V hc hc1 hch1
    go_wp2
    go_ret
    exact ⟨⟨_, rfl, hd1⟩, hcK, hch⟩
set_option maxHeartbeats 16000000 in
theorem item_any (b : Nat) (l : List UInt8) (K : Nat) (w : World) (h : Cur w b l K) (hl : l.length ≤ 9223372036854775807) (hK : K ≤ 100000) :
    Calls Tryd.prog 38 #[.pointer (some ⟨b, 0, none⟩)] w fun e w' => (∃ k n d v, e = .returned (.agg #[.string k, .int .i64 n, .int .i64 d, .string v]) ∧ k.size ≤ 17 ∧ v.size ≤ 41) ∧ Cur w' b l (K + 200) ∧ Chg (· = b) w w' := by
  have hbl := h.lt
  obtain ⟨W0, hW0⟩ : ∃ W, W = w.alloc (.cells #[.string ⟨#[]⟩, .int .i64 0, .int .i64 0, .string ⟨#[]⟩] 28) := ⟨_, rfl⟩
  have hB0 : Below w.heap.size w W0 := by rw [hW0]; exact below_alloc _ _
  have R : Box W0 w.heap.size [.string ⟨#[]⟩, .int .i64 0, .int .i64 0, .string ⟨#[]⟩] := by rw [hW0]; exact Box.new w #[.string ⟨#[]⟩, .int .i64 0, .int .i64 0, .string ⟨#[]⟩] 28
  have hz0 : w.heap.size < W0.heap.size := by rw [hW0]; simp
  have hc := h.chg hB0
  have hch : Chg (· = b) w W0 := Chg.of_below hB0
  clear h hB0
  go_enter Tryd.func38, Tryd.ntmps38
  go_upto_region 1 with fail
  rw [← hW0]
  clear hW0
  go_wp2_with fail
  refine (key_any b l K _ hc hl (by omega)).mono ?_
  rintro e w1 ⟨⟨k, rfl, hks⟩, hc1, hch1⟩
  replace R := hch1.box R (by omega)
  replace hch := hch.trans hch1
  replace hc := hc1
  have hzw1 := hch1.size
  clear hc1 hch1
  go_wp2_with fail
  refine (pick_any b l _ 20 _ hc hl (by omega) (by omega)).mono ?_
  rintro e w2 ⟨⟨n0, rfl, hn0⟩, hc1, hch1⟩
  replace R := hch1.box R (by omega)
  replace hch := hch.trans hch1
  replace hc := hc1
  have hzw2 := hch1.size
  clear hc1 hch1
  go_wp2_with fail
  refine (pick_any b l _ 5 _ hc hl (by omega) (by omega)).mono ?_
  rintro e w3 ⟨⟨m, rfl, hm⟩, hc1, hch1⟩
  replace R := hch1.box R (by omega)
  replace hch := hch.trans hch1
  replace hc := hc1
  have hzw3 := hch1.size
  clear hc1 hch1
  go_wp2_with fail
  refine (text_any b l _ m _ hc hl (by omega) (by omega)).mono ?_
  rintro e w4 ⟨⟨v, rfl, hvs⟩, hc1, hch1⟩
  replace R := hch1.box R (by omega)
  replace hch := hch.trans hch1
  replace hc := hc1
  have hzw4 := hch1.size
  clear hc1 hch1
  have hm5 : m ≤ 4 := by omega
  have hBX := below_alloc w4 (.cells #[.string k, .int .i64 n0, .int .i64 1, .string v] 28)
  have X := Box.new w4 #[.string k, .int .i64 n0, .int .i64 1, .string v] 28
  have hlc := hc.lt
  replace hc := hc.chg hBX
  replace R := R.below hBX
  replace hch := hch.trans (Chg.of_below hBX)
  go_upto_region 2 with fail
  obtain ⟨w5, hW5⟩ : ∃ W, W = w4.alloc (.cells #[.string k, .int .i64 n0, .int .i64 1, .string v] 28) := ⟨_, rfl⟩
  have hz5 : w4.heap.size < w5.heap.size := by rw [hW5]; simp
  rw [← hW5] at X R hc hch ⊢
  clear hW5 hBX
  have X : Box w5 w4.heap.size [.string k, .int .i64 n0, .int .i64 1, .string v] := X
  obtain ⟨xb, hxb⟩ : ∃ xb, Hid (w4.heap.size = xb) := ⟨_, rfl⟩
  rw [hxb.out] at X ⊢
  have hxb1 : w.heap.size < xb := by have := hxb.out; omega
  have hxb2 : b < xb := by have := hxb.out; omega
  clear hxb hn0 hm
  go_wp2_with fail
  refine (one_any b l _ 4 _ hc hl (by omega) (by omega)).mono ?_
  rintro e w6 ⟨⟨x, rfl⟩, hc1, hch1⟩
  replace X := hch1.box X (by omega)
  replace R := hch1.box R (by omega)
  replace hch := hch.trans hch1
  replace hc := hc1
  have hzw6 := hch1.size
  clear hc1 hch1
  go_upto_if 14 with fail
  go_cut [] from 4 (fun wc => ∃ (n d : Int) (v : ByteArray), Box wc xb [.string k, .int .i64 n, .int .i64 d, .string v] ∧ Box wc w.heap.size [.string ⟨#[]⟩, .int .i64 0, .int .i64 0, .string ⟨#[]⟩] ∧ v.size ≤ 5 ∧ Cur wc b l (K + 100) ∧ Chg (· = b) w wc)
  case first =>
    have hv5 : v.size ≤ 5 := by omega
    have hc9 := hc.mono (show _ ≤ K + 100 from by omega)
    clear hc
    cases x with
    | true =>
      obtain ⟨⟨f0, f1, f2, f3⟩, xl, x0, x1, x2, x3⟩ := X.f4
      have X7 := (X.set 2 (.int .i64 0) (by simp)).set 3 (.string ⟨#[]⟩) (by simp)
      have R7 := (R.setOther ⟨xb, 2, none⟩ (.int .i64 0) (by show xb ≠ w.heap.size; omega)).setOther ⟨xb, 3, none⟩ (.string ⟨#[]⟩) (by show xb ≠ w.heap.size; omega)
      have hc7 := cur_set (cur_set hc9 (Nat.le_refl _) ⟨xb, 2, none⟩ hxb2 (.int .i64 0)) (Nat.le_refl _) ⟨xb, 3, none⟩ hxb2 (.string ⟨#[]⟩)
      have hch7 := chg_new (chg_new hch ⟨xb, 2, none⟩ (by show w.heap.size ≤ xb; omega) (.int .i64 0)) ⟨xb, 3, none⟩ (by show w.heap.size ≤ xb; omega) (.string ⟨#[]⟩)
      clear X R hc9 hch
      go_wp2_with fail
      go_meet
      case rel => exact ⟨_, _, _, X7, R7, by decide, hc7, hch7⟩
    | false =>
      go_wp2_with fail
      go_meet
      case rel => exact ⟨_, _, _, X, R, hv5, hc9, hch⟩
  case rest =>
    clear X R hc hch hvs hm5
    obtain ⟨n, d, v, X, R, hv5, hc, hch⟩ := hcut
    generalize wc = w7 at *
    have hz7 := hch.size
    have hzx := X.1
    go_wp2_with fail
    refine (pick_any b l _ 60 _ hc hl (by omega) (by omega)).mono ?_
    rintro e w8 ⟨⟨x4, rfl, hx4⟩, hc1, hch1⟩
    replace X := hch1.box X (by omega)
    replace R := hch1.box R (by omega)
    replace hch := hch.trans hch1
    replace hc := hc1
    have hzw8 := hch1.size
    clear hc1 hch1
    go_upto_block 0 with fail
    go_cut [] from 4 (fun wc => ∃ (n d : Int) (v : ByteArray), Box wc xb [.string k, .int .i64 n, .int .i64 d, .string v] ∧ Box wc w.heap.size [.string ⟨#[]⟩, .int .i64 0, .int .i64 0, .string ⟨#[]⟩] ∧ v.size ≤ 41 ∧ Cur wc b l (K + 200) ∧ Chg (· = b) w wc)
    case first =>
      obtain ⟨⟨f0, f1, f2, f3⟩, xl, x0, x1, x2, x3⟩ := X.f4
      by_cases e0 : x4 = 0
      · subst e0
        clear hx4
        have hBa := below_alloc w8 (.cells #[.int .i64 (-1), .int .i64 1000000000, .int .i64 1000000001] 3)
        have V := Box.new w8 #[.int .i64 (-1), .int .i64 1000000000, .int .i64 1000000001] 3
        have hlt8 := hc.lt
        replace hc := hc.chg hBa
        replace X := X.below hBa
        replace R := R.below hBa
        replace hch := hch.trans (Chg.of_below hBa)
        go_wp2_with fail
        refine (among_any b l _ w8.heap.size [-1, 1000000000, 1000000001] _ hc hl (by omega) V (by omega) (by simp) (by simp)).mono ?_
        rintro e w9 ⟨⟨x5, rfl, hx5⟩, hc1, hch1⟩
        replace X := hch1.box X (by omega)
        replace R := hch1.box R (by omega)
        replace hch := hch.trans hch1
        clear x0 x1 x2 x3 f0 f1 f2 f3 xl
        obtain ⟨⟨f0, f1, f2, f3⟩, xl, x0, x1, x2, x3⟩ := X.f4
        have X7 := X.set 1 (.int .i64 x5) (by simp)
        have R7 := R.setOther ⟨xb, 1, none⟩ (.int .i64 x5) (by show xb ≠ w.heap.size; omega)
        have hc7 := cur_set hc1 (Nat.le_refl _) ⟨xb, 1, none⟩ hxb2 (.int .i64 x5)
        have hch7 := chg_new hch ⟨xb, 1, none⟩ (by show w.heap.size ≤ xb; omega) (.int .i64 x5)
        clear X R hc hc1 hch hch1 V hBa hx5
        go_wp2_with fail
        go_meet
        case rel => exact ⟨x5, _, _, X7, R7, by omega, hc7.mono (by omega), hch7⟩
      by_cases e1 : x4 = 1
      · subst e1
        clear hx4
        go_wp2_with fail
        refine (pick_any b l _ 2 _ hc hl (by omega) (by omega)).mono ?_
        rintro e w9 ⟨⟨y, rfl, hy⟩, hc1, hch1⟩
        replace X := hch1.box X (by omega)
        replace R := hch1.box R (by omega)
        replace hch := hch.trans hch1
        replace hc := hc1
        have hzw9 := hch1.size
        clear hc1 hch1
        clear x0 x1 x2 x3 f0 f1 f2 f3 xl
        obtain ⟨q, hq⟩ : ∃ q : Nat, Hid (wrap64 (40 + (y : Int)) = (q : Int)) ∧ q ≤ 41 ∧ Hid ((40 : Int) + (y : Int) = (q : Int)) := ⟨40 + y, by show _ = _; unfold wrap64; omega, by omega, by show _ = _; omega⟩
        obtain ⟨hq1, hq2, hq3⟩ := hq
        have hq0 : (0 : Int) ≤ (q : Int) := by omega
        clear hy
        obtain ⟨i0, hi, hz0, hz1, hz2⟩ := info_parts Tryd.info5
        go_wp2_with (at_make; refine wpList_make_full _ rfl _ _ 22 rfl w9.heap.size 5 i0 _ 1 Tryd.underlying22 hi hz0 hz1 .i64 .i64 _ _ q rfl rfl (by first | exact hq1.out | exact hq3.out) (by first | exact hq1.out | exact hq3.out) (by rw [hz2]; omega) (by unfold maxLen; omega) (Nat.le_refl _) ?_; intro wB hown0 hgr0; refine StopA.go ?_)
        unfold StopA
        rw [madeB] at hown0
        have hBm : Below w9.heap.size w9 wB := (Below.refl _ _).grown hgr0 (Nat.le_refl _) (by simp)
        have hlt9 := hc.lt
        replace X := X.below hBm
        replace R := R.below hBm
        replace hc := hc.chg hBm
        replace hch := hch.trans (Chg.of_below hBm)
        have hcv := conv_repl hown0
        obtain ⟨D, hD⟩ : ∃ D : ByteArray, D = ⟨(List.replicate q 0).toArray⟩ := ⟨_, rfl⟩
        rw [← hD] at hcv
        have hDs : D.size ≤ 41 := by rw [hD]; show (List.replicate q (0 : UInt8)).toArray.size ≤ 41; simp; omega
        obtain ⟨⟨f0, f1, f2, f3⟩, xl, x0, x1, x2, x3⟩ := X.f4
        have X7 := X.set 3 (.string D) (by simp)
        have R7 := R.setOther ⟨xb, 3, none⟩ (.string D) (by show xb ≠ w.heap.size; omega)
        have hc7 := cur_set hc (Nat.le_refl _) ⟨xb, 3, none⟩ hxb2 (.string D)
        have hch7 := chg_new hch ⟨xb, 3, none⟩ (by show w.heap.size ≤ xb; omega) (.string D)
        clear X R hc hch hD hown0 hgr0 hBm hi hz0 hz1 hz2 hq1 hq3
        go_wp2
        go_meet
        case rel => exact ⟨_, _, _, X7, R7, hDs, hc7.mono (by omega), hch7⟩
      have f0' : ¬ (x4 : Int) = 0 := by omega
      have f1' : ¬ (x4 : Int) = 1 := by omega
      clear hx4 x0 x1 x2 x3 f0 f1 f2 f3
      go_wp2_with fail
      go_meet
      case rel => exact ⟨_, _, _, X, R, by omega, hc.mono (by omega), hch⟩
    case rest =>
      clear X R hc hch hv5 hx4
      obtain ⟨n, d, v, X, R, hv5, hc, hch⟩ := hcut
      generalize wc = w9 at *
      have hz9 := hch.size
      obtain ⟨xl, x0, x1, x2, x3⟩ := X.c4
      obtain ⟨⟨f0, f1, f2, f3⟩, rl, r0, r1, r2, r3⟩ := R.f4
      have hC7 := put4_chg w9 w.heap.size (.string k) (.int .i64 n) (.int .i64 d) (.string v)
      have R7 := put4_box R (.string k) (.int .i64 n) (.int .i64 d) (.string v)
      obtain ⟨W7, hW7⟩ : ∃ W, W = put4 w9 w.heap.size (.string k) (.int .i64 n) (.int .i64 d) (.string v) := ⟨_, rfl⟩
      rw [← hW7] at hC7 R7
      have hch7 : Chg (· = b) w W7 := ⟨hC7.os.trans hch.os, hC7.tape.trans hch.tape, hC7.output.trans hch.output, Nat.le_trans hch.size hC7.size, fun k hk hn => (hC7.block k (Nat.lt_of_lt_of_le hk hch.size) (fun e => by have e : k = w.heap.size := e; omega)).trans (hch.block k hk hn)⟩
      have hc7 : Cur W7 b l (K + 200) := cur_low hc hbl (hC7.below (B := w.heap.size) hch.size (fun k e => by have e : k = w.heap.size := e; omega))
      have HF : Hid ((∃ k2 n2 d2 v2, Ending.returned (.agg #[.string k, .int .i64 n, .int .i64 d, .string v]) = .returned (.agg #[.string k2, .int .i64 n2, .int .i64 d2, .string v2]) ∧ k2.size ≤ 17 ∧ v2.size ≤ 41) ∧ Cur W7 b l (K + 200) ∧ Chg (· = b) w W7) := ⟨⟨_, _, _, _, rfl, hks, hv5⟩, hc7, hch7⟩
      obtain ⟨tl, t0, t1, t2, t3⟩ := R7.c4
      clear X R hc hch hC7 R7 hc7 hch7
      unfold put4 at hW7
      go_wp2_with fail
      rw [← hW7]
      exact bodyPost_ret (v := .agg #[.string k, .int .i64 n, .int .i64 d, .string v]) (by simp [results, Tryd.results38, go_sem, t0, t1, t2, t3]) rfl HF.out
end Go.Proofs.YtdaldkcildbcmaaDoor
