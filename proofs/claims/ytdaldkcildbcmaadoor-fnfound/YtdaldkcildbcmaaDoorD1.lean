/-
  The cursor that draws: next, pick, wide, text, among, of. What is drawn is some value in its range; nothing but the cursor is written into.
-/
import Derived.Test.YtdaldkcildbcmaaDoorLToQ
import Derived.Test.YtdaldkcildbcmaaDoorEToG1
import Derived.Deep.QuietTactic
import Derived.BigQuiet
namespace Go.Proofs.YtdaldkcildbcmaaDoor
open Go.RowKit
set_option linter.unusedVariables false

/-- The value v is a slice whose elements are the bytes l, in a block ahead of b. -/
def BL (w : World) (b : Nat) (v : Value) (l : List UInt8) : Prop :=
  ∃ a cap, v = .slice a l.length cap ∧ (l ≠ [] → ∃ cb off, a = some ⟨cb, off, none⟩ ∧ cb < w.heap.size ∧ cb < b ∧ ∀ i (h : i < l.length), w.cell? ⟨cb, off + i, none⟩ = some (.int .u8 (l[i].toNat : Int)))
/-- Block b holds a cursor over the bytes l; it has gone K bytes at most. -/
def Cur (w : World) (b : Nat) (l : List UInt8) (K : Nat) : Prop :=
  ∃ (v : Value) (k sd : Nat), Box w b [v, .int .i64 k, .int .u64 sd] ∧ k ≤ K ∧ sd < 18446744073709551616 ∧ BL w b v l
theorem Box.d3 {w : World} {b : Nat} {v0 v1 v2 : Value} (h : Box w b [v0, v1, v2]) : b < w.heap.size ∧ w.cell? ⟨b, 0, none⟩ = some v0 ∧ w.cell? ⟨b, 1, none⟩ = some v1 ∧ w.cell? ⟨b, 2, none⟩ = some v2 :=
  ⟨h.1, h.2.1 0 _ rfl, h.2.1 1 _ rfl, h.2.1 2 _ rfl⟩

theorem wrap_u64 (n : Int) : IntKind.u64.wrap n = n % 18446744073709551616 := by simp [IntKind.wrap, IntKind.bits, IntKind.signed]
theorem Chg.cell {S : Nat → Prop} {w w' : World} (h : Chg S w w') {p : Addr} (hp : p.block < w.heap.size) (hs : ¬ S p.block) : w'.cell? p = w.cell? p := by
  unfold World.cell?
  rw [h.block p.block hp hs]
theorem BL.chg {w w' : World} {b : Nat} {v : Value} {l : List UInt8} (h : BL w b v l) (hc : Chg (· = b) w w') : BL w' b v l := by
  obtain ⟨a, cap, rfl, h⟩ := h
  refine ⟨a, cap, rfl, fun hl => ?_⟩
  obtain ⟨cb, off, ha, hcb, hne, hcell⟩ := h hl
  exact ⟨cb, off, ha, Nat.lt_of_lt_of_le hcb hc.size, hne, fun i hi => (hc.cell (p := ⟨cb, off + i, none⟩) hcb (Nat.ne_of_lt hne)).trans (hcell i hi)⟩
theorem cur_after {w : World} {b : Nat} {v : Value} {k sd K : Nat} {l : List UInt8} (X : Box w b [v, .int .i64 k, .int .u64 sd]) (hk : k ≤ K) (hb : BL w b v l) (n1 n2 : Nat) (z : Int) (h0 : 0 ≤ z) (h1 : z < 18446744073709551616) :
    Cur ((((w.drewN n1).setCell ⟨b, 1, none⟩ (.int .i64 ((k : Int) + 1))).setCell ⟨b, 2, none⟩ (.int .u64 z)).drewN n2) b l (K + 1) ∧ Chg (· = b) w ((((w.drewN n1).setCell ⟨b, 1, none⟩ (.int .i64 ((k : Int) + 1))).setCell ⟨b, 2, none⟩ (.int .u64 z)).drewN n2) := by
  have c1 : Chg (· = b) w (w.drewN n1) := Chg.of_below (below_drewN (Below.refl _ _) n1)
  have c2 := (c1.setCell (p := ⟨b, 1, none⟩) rfl (.int .i64 ((k : Int) + 1))).setCell (p := ⟨b, 2, none⟩) rfl (.int .u64 z)
  have d3 := c2.trans (Chg.of_below (S := (· = b)) (below_drewN (Below.refl _ ((((w.drewN n1).setCell ⟨b, 1, none⟩ (.int .i64 ((k : Int) + 1))).setCell ⟨b, 2, none⟩ (.int .u64 z)))) n2))
  obtain ⟨m, rfl⟩ := Int.eq_ofNat_of_zero_le h0
  have x1 := X.below (below_drewN (Below.refl _ _) n1)
  have x2 := (x1.set 1 (.int .i64 ((k + 1 : Nat) : Int)) (by simp)).set 2 (.int .u64 (m : Int)) (by simp)
  have x3 := x2.below (below_drewN (Below.refl _ _) n2)
  exact ⟨⟨v, k + 1, m, x3, by omega, by omega, hb.chg d3⟩, d3⟩
theorem and255 (z : Int) (h0 : 0 ≤ z) (h1 : z < 18446744073709551616) : ∃ x : Nat, bits BinOp.and IntKind.u64 z 255 = (x : Int) ∧ x ≤ 255 := by
  obtain ⟨m, rfl⟩ := Int.eq_ofNat_of_zero_le h0
  have := u64_and_nat m 255 (by omega) (by omega)
  rw [nat_mask8] at this
  exact ⟨m % 256, this, by omega⟩

set_option maxRecDepth 100000 in
set_option maxHeartbeats 2000000 in
theorem next_any (b : Nat) (l : List UInt8) (K : Nat) (w : World) (h : Cur w b l K) (hl : l.length ≤ 9223372036854775807) (hK : K ≤ 1000000000) :
    Calls Tryd.prog 96 #[.pointer (some ⟨b, 0, none⟩)] w fun e w' => (∃ x : Nat, e = .returned (.int .i64 x) ∧ x ≤ 255) ∧ Cur w' b l (K + 1) ∧ Chg (· = b) w w' := by
  obtain ⟨v, k, sd, X, hk, hsd, a, cap, rfl, hc⟩ := h
  obtain ⟨hz, p0, p1, p2⟩ := X.d3
  have f1 := X.2.2 1
  have f2 := X.2.2 2
  by_cases hlt : k < l.length
  · obtain ⟨cb, off, rfl, hcb, hne, hcell⟩ := hc (by intro e; simp [e] at hlt)
    obtain ⟨c, hce⟩ : ∃ c, c = l[k] := ⟨_, rfl⟩
    have hc0 : w.cell? ⟨cb, off + k, none⟩ = some (.int .u8 (c.toNat : Int)) := by rw [hce]; exact hcell k hlt
    have hcl := c.toNat_lt
    have HB : Hid (BL w b (.slice (some ⟨cb, off, none⟩) l.length cap) l) := ⟨_, cap, rfl, fun _ => ⟨cb, off, rfl, hcb, hne, hcell⟩⟩
    have HX : Hid (Box w b [.slice (some ⟨cb, off, none⟩) l.length cap, .int .i64 k, .int .u64 sd]) := X
    clear hce hc X hcell
    go_enter Tryd.func96, Tryd.ntmps96
    go_wp2_with fail
    go_quiet (fail)
    go_wp2_with fail
    go_quiet (fail)
    go_wp2_with fail
    go_quiet (fail)
    go_wp2
    go_ret
    exact ⟨⟨c.toNat, rfl, by omega⟩, cur_after HX.out hk HB.out _ _ _ (by rw [wrap_u64]; omega) (by rw [wrap_u64]; omega)⟩
  · have HX : Hid (Box w b [.slice a l.length cap, .int .i64 k, .int .u64 sd]) := X
    have HB : Hid (BL w b (.slice a l.length cap) l) := ⟨a, cap, rfl, hc⟩
    clear hc X
    go_enter Tryd.func96, Tryd.ntmps96
    go_wp2_with fail
    go_quiet (fail)
    go_wp2_with fail
    go_quiet (fail)
    go_wp2
    go_ret
    have hz0 := wrap_u64 (IntKind.u64.wrap (IntKind.u64.wrap ((sd : Int) * 6364136223846793005)) + 1442695040888963407)
    generalize IntKind.u64.wrap (IntKind.u64.wrap (IntKind.u64.wrap ((sd : Int) * 6364136223846793005)) + 1442695040888963407) = z at *
    obtain ⟨x, hx, hx2⟩ := and255 (z / 1099511627776) (by omega) (by omega)
    refine ⟨⟨x, ?_, hx2⟩, cur_after HX.out hk HB.out _ _ _ (by omega) (by omega)⟩
    show Ending.returned (Value.int IntKind.i64 (wrap64 (bits BinOp.and IntKind.u64 (z / 1099511627776) 255))) = _
    rw [hx]
    have : wrap64 (x : Int) = x := by unfold wrap64; omega
    rw [this]

theorem Cur.chg {w w' : World} {b : Nat} {l : List UInt8} {K : Nat} (h : Cur w b l K) (hc : Below w.heap.size w w') : Cur w' b l K := by
  obtain ⟨v, k, sd, X, hk, hs, hb⟩ := h
  exact ⟨v, k, sd, X.below hc, hk, hs, hb.chg (Chg.of_below hc)⟩
theorem Cur.mono {w : World} {b : Nat} {l : List UInt8} {K K' : Nat} (h : Cur w b l K) (hk : K ≤ K') : Cur w b l K' := by
  obtain ⟨v, k, sd, X, h1, h2, h3⟩ := h
  exact ⟨v, k, sd, X, by omega, h2, h3⟩
theorem Cur.lt {w : World} {b : Nat} {l : List UInt8} {K : Nat} (h : Cur w b l K) : b < w.heap.size := by
  obtain ⟨v, k, sd, X, _⟩ := h
  exact X.1

theorem madeB (n : Nat) : (madeCells (Value.int .u8 0).cells (n * 1)).toList = bcs (List.replicate n 0) := by
  have h : (Value.int .u8 0).cells = #[.int .u8 0] := rfl
  rw [h]
  apply List.ext_getElem?
  intro i
  by_cases hi : i < n
  · simp [madeCells, hi, Nat.mod_one, bcs]
  · rw [List.getElem?_eq_none (by simp [madeCells]; omega), List.getElem?_eq_none (by simp [bcs]; omega)]
theorem bcs_set (m : List UInt8) (j x : Nat) (hx : x < 256) : (bcs m).set j (.int .u8 (x : Int)) = bcs (m.set j (UInt8.ofNat x)) := by
  unfold bcs
  rw [List.map_set, UInt8.toNat_ofNat', Nat.mod_eq_of_lt (by omega)]
theorem cur_set {w : World} {b : Nat} {l : List UInt8} {K K' : Nat} (h : Cur w b l K) (hk : K ≤ K') (p : Addr) (hp : b < p.block) (u : Value) : Cur (w.setCell p u) b l K' := by
  obtain ⟨v, k, sd, X, h1, h2, a, cap, rfl, hc⟩ := h
  refine ⟨_, k, sd, X.setOther p u (by omega), by omega, h2, a, cap, rfl, fun hl => ?_⟩
  obtain ⟨cb, off, ha, hcb, hne, hcell⟩ := hc hl
  refine ⟨cb, off, ha, by simpa using hcb, hne, fun i hi => ?_⟩
  rw [World.cell?_setCell_other _ _ _ _ (by intro e; rw [e] at hp; simp at hp; omega)]
  exact hcell i hi
theorem chg_new {S : Nat → Prop} {w w1 : World} (h : Chg S w w1) (p : Addr) (hp : w.heap.size ≤ p.block) (u : Value) : Chg S w (w1.setCell p u) :=
  ⟨h.os, h.tape, h.output, by simpa using h.size, fun k hk hs => (Below.heap_setCell w1 p u k (fun e => by omega)).trans (h.block k hk hs)⟩

set_option maxRecDepth 100000 in
set_option maxHeartbeats 2000000 in
theorem pick_any (b : Nat) (l : List UInt8) (K : Nat) (n : Nat) (w : World) (h : Cur w b l K) (hl : l.length ≤ 9223372036854775807) (hK : K ≤ 100000000) (hn : n ≤ 1000000) :
    Calls Tryd.prog 76 #[.pointer (some ⟨b, 0, none⟩), .int .i64 n] w fun e w' => (∃ x : Nat, e = .returned (.int .i64 x) ∧ (x < n ∨ x = 0)) ∧ Cur w' b l (K + 2) ∧ Chg (· = b) w w' := by
  by_cases h1 : n ≤ 1
  · go_enter Tryd.func76, Tryd.ntmps76
    go_wp2
    go_ret
    exact ⟨⟨0, rfl, .inr rfl⟩, h.mono (by omega), Chg.refl _ _⟩
  · by_cases h2 : 200 < n
    · go_enter Tryd.func76, Tryd.ntmps76
      go_wp2_with fail
      refine (next_any b l K _ h hl (by omega)).mono ?_
      rintro e w1 ⟨⟨x, rfl, hx⟩, hc1, hch1⟩
      go_wp2_with fail
      refine (next_any b l (K + 1) _ hc1 hl (by omega)).mono ?_
      rintro e w2 ⟨⟨y, rfl, hy⟩, hc2, hch2⟩
      go_wp2
      go_ret
      refine ⟨⟨(x * 256 + y) % n, ?_, .inl (Nat.mod_lt _ (by omega))⟩, hc2, hch1.trans hch2⟩
      simp
    · go_enter Tryd.func76, Tryd.ntmps76
      go_wp2_with fail
      refine (next_any b l K _ h hl (by omega)).mono ?_
      rintro e w1 ⟨⟨x, rfl, hx⟩, hc1, hch1⟩
      go_wp2
      go_ret
      refine ⟨⟨x % n, ?_, .inl (Nat.mod_lt _ (by omega))⟩, hc1.mono (by omega), hch1⟩
      simp

set_option maxRecDepth 100000 in
set_option maxHeartbeats 2000000 in
theorem text_any (b : Nat) (l : List UInt8) (K : Nat) (n : Nat) (w : World) (h : Cur w b l K) (hl : l.length ≤ 9223372036854775807) (hK : K ≤ 10000000) (hn : n ≤ 10000) :
    Calls Tryd.prog 79 #[.pointer (some ⟨b, 0, none⟩), .int .i64 n] w fun e w' => (∃ s : ByteArray, e = .returned (.string s) ∧ s.size = n) ∧ Cur w' b l (K + 2 * n) ∧ Chg (· = b) w w' := by
  obtain ⟨i0, hi, hz0, hz1, hz2⟩ := info_parts Tryd.info5
  have hbw := h.lt
  go_enter Tryd.func79, Tryd.ntmps79
  go_wp2_with (at_make; refine wpList_make_full _ rfl _ _ 22 rfl w.heap.size 5 i0 _ 1 Tryd.underlying22 hi hz0 hz1 .i64 .i64 _ _ n rfl rfl rfl rfl (by rw [hz2]; omega) (by unfold maxLen; omega) (Nat.le_refl _) ?_; intro w0 hown0 hgr0)
  rw [madeB] at hown0
  have hb0 : Below w.heap.size w w0 := (Below.refl _ _).grown hgr0 (Nat.le_refl _) (by simp)
  have hc0 := h.chg hb0
  have hch0 : Chg (· = b) w w0 := Chg.of_below hb0
  clear hgr0 hi hz0 hz1 hz2 hb0 h
  go_loopw [11] (fun i wr => ∃ (j : Nat) (m : List UInt8), j ≤ n ∧ m.length = n ∧ i = .int .i64 j ∧ wr.ownsRow w.heap.size 5 1 (.slice (some ⟨w.heap.size, 0, none⟩) n n) n (bcs m) ∧ Cur wr b l (K + 2 * j) ∧ Chg (· = b) w wr) (fun i _ => n - (intOf i).toNat)
  case atStart => exact ⟨0, List.replicate n 0, by omega, by simp, rfl, hown0, hc0, hch0⟩
  case round =>
    obtain ⟨j, m, hj, hm, rfl, hown, hc, hch⟩ := hrel
    clear hown0 hc0 hch0
    by_cases hlt : j < n
    · go_wp2_with fail
      refine (pick_any b l (K + 2 * j) 256 _ hc hl (by omega) (by omega)).mono ?_
      rintro e w1 ⟨⟨x, rfl, hx⟩, hc1, hch1⟩
      have hx256 : x < 256 := by omega
      have hown1 := hch1.owns hown (fun g hg h => by simp only [Value.ownBlock, Option.some.injEq] at hg; omega)
      have d0 : w1.cell? ⟨w.heap.size, j, none⟩ = some (.int .u8 (m[j].toNat : Int)) := by rw [hown1.cellAt j (by omega)]; simp [bcs, show j < m.length from by omega]
      have f0 : w1.frozen? ⟨w.heap.size, j, none⟩ = false := hown1.frozenAt _
      have hlt1 := (owns_lt hown1).2
      have HO : Hid _ := (hown1.stored j (.int .u8 (x : Int))).1
      have HS : Hid ((bcs m).set j (.int .u8 (x : Int)) = bcs (m.set j (UInt8.ofNat x))) := bcs_set m j x hx256
      have HC : Hid (Cur (w1.setCell ⟨w.heap.size, j, none⟩ (.int .u8 (x : Int))) b l (K + 2 * (j + 1))) := cur_set hc1 (by omega) _ hbw _
      have HH : Hid (Chg (· = b) w (w1.setCell ⟨w.heap.size, j, none⟩ (.int .u8 (x : Int)))) := chg_new (hch.trans hch1) _ (Nat.le_refl _) _
      generalize (m[j].toNat : Int) = old at d0
      clear hc hown hch hch1 hown1 hc1
      go_wp2
      go_roundw
      case rel => exact ⟨j + 1, m.set j (UInt8.ofNat x), by omega, by simpa using hm, by go_num, by rw [← HS.out]; exact HO.out, HC.out, HH.out⟩
      case measure => simp [intOf]; omega
    · obtain rfl : j = n := by omega
      subst hm
      have hcv := conv_back hown
      go_wp2
      go_ret
      exact ⟨⟨_, rfl, by show m.toArray.size = _; simp⟩, hc, hch⟩
end Go.Proofs.YtdaldkcildbcmaaDoor
