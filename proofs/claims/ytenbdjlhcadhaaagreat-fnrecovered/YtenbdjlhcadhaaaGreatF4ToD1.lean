/-
  A frame at the front is taken: plain facts.
  The cursor that draws: next, pick, wide, text, among, of. What is drawn is some value in its range; nothing but the cursor is written into.
-/
import Derived.Test.YtenbdjlhcadhaaaGreatF2
import Derived.Test.YtenbdjlhcadhaaaGreatAP4ToJ
import Derived.Test.YtenbdjlhcadhaaaGreatCToV1
import Derived.Test.YtenbdjlhcadhaaaGreatRV0ToH1
import Derived.Deep.QuietTactic
import Derived.BigQuiet
namespace Go.Proofs.YtenbdjlhcadhaaaGreat
open Go.RowKit
set_option linter.unusedVariables false

theorem ext_list (s : ByteArray) (a b : Nat) : (s.extract a b).data.toList = (s.data.toList.drop a).take (b - a) := by
  simp only [ByteArray.data_extract, Array.toList_extract, List.extract_eq_take_drop]
theorem ba_eq {a b : ByteArray} (h : a.data.toList = b.data.toList) : a = b := ByteArray.ext (Array.toList_inj.1 h)
theorem ba_len (a : ByteArray) : a.data.toList.length = a.size := by simp
theorem frameL_len (l : List UInt8) : (frameL l).length = (varL l.length).length + 4 + l.length := by simp [frameL, wordL]; omega

/-- A frame at the front is taken. -/
theorem tf_front (r : ByteArray) (l rest : List UInt8) (hl : l.length ≤ 1000) (hr : r.data.toList = frameL l ++ rest) : tfOk r = true ∧ tfT r = ⟨l.toArray⟩ ∧ tfN r = (frameL l).length := by
  have ht : take r.data.toList = (l.length, (varL l.length).length) := by
    rw [hr, frameL, List.append_assoc, List.append_assoc]
    exact take_var l.length _ (by omega)
  have hsz : r.size = (frameL l).length + rest.length := by rw [← ba_len, hr, List.length_append]
  have hlen := frameL_len l
  have hpos := varL_pos l.length
  have hfit : tfFits r := by
    unfold tfFits
    rw [ht]
    exact ⟨by show (varL l.length).length ≠ 0; omega, hl, by show (varL l.length).length + 4 + l.length ≤ r.size; omega⟩
  have hbody : tfBody r = ⟨l.toArray⟩ := by
    apply ba_eq
    rw [tfBody, ht, ext_list, hr]
    show ((frameL l ++ rest).drop ((varL l.length).length + 4)).take ((varL l.length).length + 4 + l.length - ((varL l.length).length + 4)) = l
    rw [show (varL l.length).length + 4 + l.length - ((varL l.length).length + 4) = l.length from by omega, frameL, List.append_assoc]
    rw [List.drop_append_of_le_length (by simp [wordL]), List.drop_eq_nil_of_le (by simp [wordL]), List.nil_append, List.take_left' rfl]
  have hsaid : tfSaid r = ⟨(wordL (csum l)).toArray⟩ := by
    apply ba_eq
    rw [tfSaid, ht, ext_list, hr]
    show ((frameL l ++ rest).drop (varL l.length).length).take ((varL l.length).length + 4 - (varL l.length).length) = wordL (csum l)
    rw [show (varL l.length).length + 4 - (varL l.length).length = 4 from by omega, frameL, List.append_assoc, List.append_assoc, List.drop_left' rfl]
    exact List.take_left' rfl
  have hw : tfWord r = tfSaid r := by rw [tfWord, hbody, hsaid]
  have hok : tfOk r = true := by rw [tfOk, decide_eq_true hfit, decide_eq_true hw]; rfl
  refine ⟨hok, by rw [tfT, if_pos hok, hbody], ?_⟩
  rw [tfN, if_pos hok, ht, hlen]

end Go.Proofs.YtenbdjlhcadhaaaGreat

namespace Go.Proofs.YtenbdjlhcadhaaaGreat
open Go.RowKit
set_option maxRecDepth 100000
set_option linter.unusedVariables false

/-- The value v is a slice whose elements are the bytes l, in a block ahead of b. -/
def BL (w : World) (b : Nat) (v : Value) (l : List UInt8) : Prop :=
  ∃ a cap, v = .slice a l.length cap ∧ (l ≠ [] → ∃ cb off, a = some ⟨cb, off, none⟩ ∧ cb < w.heap.size ∧ cb < b ∧ ∀ i (h : i < l.length), w.cell? ⟨cb, off + i, none⟩ = some (.int .u8 (l[i].toNat : Int)))
/-- Block b holds a cursor over the bytes l; it has gone K bytes at most. -/
def Cur (w : World) (b : Nat) (l : List UInt8) (K : Nat) : Prop :=
  ∃ (v : Value) (k sd : Nat), Box w b [v, .int .i64 k, .int .u64 sd] ∧ k ≤ K ∧ sd < 18446744073709551616 ∧ BL w b v l
theorem Box.c3d {w : World} {b : Nat} {v0 v1 v2 : Value} (h : Box w b [v0, v1, v2]) : b < w.heap.size ∧ w.cell? ⟨b, 0, none⟩ = some v0 ∧ w.cell? ⟨b, 1, none⟩ = some v1 ∧ w.cell? ⟨b, 2, none⟩ = some v2 :=
  ⟨h.1, h.2.1 0 _ rfl, h.2.1 1 _ rfl, h.2.1 2 _ rfl⟩

theorem wrap_u64 (n : Int) : IntKind.u64.wrap n = n % 18446744073709551616 := by simp [IntKind.wrap, IntKind.bits, IntKind.signed]
theorem Chg.cell {S : Nat → Prop} {w w' : World} (h : Chg S w w') {p : Addr} (hp : p.block < w.heap.size) (hs : ¬ S p.block) : w'.cell? p = w.cell? p := by
  unfold World.cell?
  rw [h.block p.block hp hs]
theorem BL.chg {w w' : World} {b : Nat} {v : Value} {l : List UInt8} (h : BL w b v l) (hc : Chg (· = b) w w') : BL w' b v l := by
  obtain ⟨a, cap, rfl, h⟩ := h
  refine ⟨a, cap, rfl, fun hl => ?_⟩
  obtain ⟨cb, off, ha, hcb, hne, hcell⟩ := h hl
  exact ⟨cb, off, ha, Nat.lt_of_lt_of_le hcb hc.size, hne, fun i hi => (hc.cell (p := ⟨cb, off + i, none⟩) hcb (Nat.ne_of_lt hne)).trans (hcell i hi)⟩
theorem cur_after {w : World} {b : Nat} {v : Value} {k sd K : Nat} {l : List UInt8} (X : Box w b [v, .int .i64 k, .int .u64 sd]) (hk : k ≤ K) (hb : BL w b v l) (n1 n2 : Nat) (z : Int) (h0 : 0 ≤ z) (h1 : z < 18446744073709551616) :
    Cur ((((w.drewN n1).setCell ⟨b, 1, none⟩ (.int .i64 ((k : Int) + 1))).setCell ⟨b, 2, none⟩ (.int .u64 z)).drewN n2) b l (K + 1) ∧ Chg (· = b) w ((((w.drewN n1).setCell ⟨b, 1, none⟩ (.int .i64 ((k : Int) + 1))).setCell ⟨b, 2, none⟩ (.int .u64 z)).drewN n2) := by
  have c1 : Chg (· = b) w (w.drewN n1) := Chg.of_below (below_drewN (Below.refl _ _) n1)
  have c2 := (c1.setCell (p := ⟨b, 1, none⟩) rfl (.int .i64 ((k : Int) + 1))).setCell (p := ⟨b, 2, none⟩) rfl (.int .u64 z)
  have c3 := c2.trans (Chg.of_below (S := (· = b)) (below_drewN (Below.refl _ ((((w.drewN n1).setCell ⟨b, 1, none⟩ (.int .i64 ((k : Int) + 1))).setCell ⟨b, 2, none⟩ (.int .u64 z)))) n2))
  obtain ⟨m, rfl⟩ := Int.eq_ofNat_of_zero_le h0
  have x1 := X.below (below_drewN (Below.refl _ _) n1)
  have x2 := (x1.set 1 (.int .i64 ((k + 1 : Nat) : Int)) (by simp)).set 2 (.int .u64 (m : Int)) (by simp)
  have x3 := x2.below (below_drewN (Below.refl _ _) n2)
  exact ⟨⟨v, k + 1, m, x3, by omega, by omega, hb.chg c3⟩, c3⟩
theorem and255 (z : Int) (h0 : 0 ≤ z) (h1 : z < 18446744073709551616) : ∃ x : Nat, bits BinOp.and IntKind.u64 z 255 = (x : Int) ∧ x ≤ 255 := by
  obtain ⟨m, rfl⟩ := Int.eq_ofNat_of_zero_le h0
  have := u64_and_nat m 255 (by omega) (by omega)
  rw [nat_mask8] at this
  exact ⟨m % 256, this, by omega⟩

set_option maxRecDepth 100000 in
set_option maxHeartbeats 2000000 in
theorem next_any (b : Nat) (l : List UInt8) (K : Nat) (w : World) (h : Cur w b l K) (hl : l.length ≤ 9223372036854775807) (hK : K ≤ 1000000000) :
    Calls Tryz.prog 64 #[.pointer (some ⟨b, 0, none⟩)] w fun e w' => (∃ x : Nat, e = .returned (.int .i64 x) ∧ x ≤ 255) ∧ Cur w' b l (K + 1) ∧ Chg (· = b) w w' := by
  obtain ⟨v, k, sd, X, hk, hsd, a, cap, rfl, hc⟩ := h
  obtain ⟨hz, p0, p1, p2⟩ := X.c3d
  have f1 := X.2.2 1
  have f2 := X.2.2 2
  by_cases hlt : k < l.length
  · obtain ⟨cb, off, rfl, hcb, hne, hcell⟩ := hc (by intro e; simp [e] at hlt)
    obtain ⟨c, hce⟩ : ∃ c, c = l[k] := ⟨_, rfl⟩
    have hc0 : w.cell? ⟨cb, off + k, none⟩ = some (.int .u8 (c.toNat : Int)) := by rw [hce]; exact hcell k hlt
    have hcl := c.toNat_lt
    have HB : Hid (BL w b (.slice (some ⟨cb, off, none⟩) l.length cap) l) := ⟨_, cap, rfl, fun _ => ⟨cb, off, rfl, hcb, hne, hcell⟩⟩
    have HX : Hid (Box w b [.slice (some ⟨cb, off, none⟩) l.length cap, .int .i64 k, .int .u64 sd]) := X
    clear hce hc X hcell
    go_enter Tryz.func64, Tryz.ntmps64
    go_wp2_with fail
    go_quiet (fail)
    go_wp2_with fail
    go_quiet (fail)
    go_wp2_with fail
    go_quiet (fail)
    go_wp2
    go_ret
    exact ⟨⟨c.toNat, rfl, by omega⟩, cur_after HX.out hk HB.out _ _ _ (by rw [wrap_u64]; omega) (by rw [wrap_u64]; omega)⟩
  · have HX : Hid (Box w b [.slice a l.length cap, .int .i64 k, .int .u64 sd]) := X
    have HB : Hid (BL w b (.slice a l.length cap) l) := ⟨a, cap, rfl, hc⟩
    clear hc X
    go_enter Tryz.func64, Tryz.ntmps64
    go_wp2_with fail
    go_quiet (fail)
    go_wp2_with fail
    go_quiet (fail)
    go_wp2
    go_ret
    have hz0 := wrap_u64 (IntKind.u64.wrap (IntKind.u64.wrap ((sd : Int) * 6364136223846793005)) + 1442695040888963407)
    generalize IntKind.u64.wrap (IntKind.u64.wrap (IntKind.u64.wrap ((sd : Int) * 6364136223846793005)) + 1442695040888963407) = z at *
    obtain ⟨x, hx, hx2⟩ := and255 (z / 1099511627776) (by omega) (by omega)
    refine ⟨⟨x, ?_, hx2⟩, cur_after HX.out hk HB.out _ _ _ (by omega) (by omega)⟩
    show Ending.returned (Value.int IntKind.i64 (wrap64 (bits BinOp.and IntKind.u64 (z / 1099511627776) 255))) = _
    rw [hx]
    have : wrap64 (x : Int) = x := by unfold wrap64; omega
    rw [this]

theorem Cur.chg {w w' : World} {b : Nat} {l : List UInt8} {K : Nat} (h : Cur w b l K) (hc : Below w.heap.size w w') : Cur w' b l K := by
  obtain ⟨v, k, sd, X, hk, hs, hb⟩ := h
  exact ⟨v, k, sd, X.below hc, hk, hs, hb.chg (Chg.of_below hc)⟩
theorem Cur.mono {w : World} {b : Nat} {l : List UInt8} {K K' : Nat} (h : Cur w b l K) (hk : K ≤ K') : Cur w b l K' := by
  obtain ⟨v, k, sd, X, h1, h2, h3⟩ := h
  exact ⟨v, k, sd, X, by omega, h2, h3⟩
theorem Cur.lt {w : World} {b : Nat} {l : List UInt8} {K : Nat} (h : Cur w b l K) : b < w.heap.size := by
  obtain ⟨v, k, sd, X, _⟩ := h
  exact X.1

theorem bits_i64 (op : BinOp) (a c : Int) : -9223372036854775808 ≤ bits op .i64 a c ∧ bits op .i64 a c ≤ 9223372036854775807 := by
  have h : ∀ z : Int, -9223372036854775808 ≤ IntKind.i64.wrap z ∧ IntKind.i64.wrap z ≤ 9223372036854775807 := fun z => by rw [IntKind.wrap_i64]; omega
  unfold bits
  exact h _
theorem madeB (n : Nat) : (madeCells (Value.int .u8 0).cells (n * 1)).toList = bcs (List.replicate n 0) := by
  have h : (Value.int .u8 0).cells = #[.int .u8 0] := rfl
  rw [h]
  apply List.ext_getElem?
  intro i
  by_cases hi : i < n
  · simp [madeCells, hi, Nat.mod_one, bcs]
  · rw [List.getElem?_eq_none (by simp [madeCells]; omega), List.getElem?_eq_none (by simp [bcs]; omega)]
theorem bcs_set (m : List UInt8) (j x : Nat) (hx : x < 256) : (bcs m).set j (.int .u8 (x : Int)) = bcs (m.set j (UInt8.ofNat x)) := by
  unfold bcs
  rw [List.map_set, UInt8.toNat_ofNat', Nat.mod_eq_of_lt (by omega)]
theorem cur_set {w : World} {b : Nat} {l : List UInt8} {K K' : Nat} (h : Cur w b l K) (hk : K ≤ K') (p : Addr) (hp : b < p.block) (u : Value) : Cur (w.setCell p u) b l K' := by
  obtain ⟨v, k, sd, X, h1, h2, a, cap, rfl, hc⟩ := h
  refine ⟨_, k, sd, X.setOther p u (by omega), by omega, h2, a, cap, rfl, fun hl => ?_⟩
  obtain ⟨cb, off, ha, hcb, hne, hcell⟩ := hc hl
  refine ⟨cb, off, ha, by simpa using hcb, hne, fun i hi => ?_⟩
  rw [World.cell?_setCell_other _ _ _ _ (by intro e; rw [e] at hp; simp at hp; omega)]
  exact hcell i hi
theorem chg_new {S : Nat → Prop} {w w1 : World} (h : Chg S w w1) (p : Addr) (hp : w.heap.size ≤ p.block) (u : Value) : Chg S w (w1.setCell p u) :=
  ⟨h.os, h.tape, h.output, by simpa using h.size, fun k hk hs => (Below.heap_setCell w1 p u k (fun e => by omega)).trans (h.block k hk hs)⟩

set_option maxRecDepth 100000 in
set_option maxHeartbeats 2000000 in
theorem pick_any (b : Nat) (l : List UInt8) (K : Nat) (n : Nat) (w : World) (h : Cur w b l K) (hl : l.length ≤ 9223372036854775807) (hK : K ≤ 100000000) (hn : n ≤ 1000000) :
    Calls Tryz.prog 31 #[.pointer (some ⟨b, 0, none⟩), .int .i64 n] w fun e w' => (∃ x : Nat, e = .returned (.int .i64 x) ∧ (x < n ∨ x = 0)) ∧ Cur w' b l (K + 2) ∧ Chg (· = b) w w' := by
  by_cases h1 : n ≤ 1
  · go_enter Tryz.func31, Tryz.ntmps31
    go_wp2
    go_ret
    exact ⟨⟨0, rfl, .inr rfl⟩, h.mono (by omega), Chg.refl _ _⟩
  · by_cases h2 : 200 < n
    · go_enter Tryz.func31, Tryz.ntmps31
      go_wp2_with fail
      refine (next_any b l K _ h hl (by omega)).mono ?_
      rintro e w1 ⟨⟨x, rfl, hx⟩, hc1, hch1⟩
      go_wp2_with fail
      refine (next_any b l (K + 1) _ hc1 hl (by omega)).mono ?_
      rintro e w2 ⟨⟨y, rfl, hy⟩, hc2, hch2⟩
      go_wp2
      go_ret
      refine ⟨⟨(x * 256 + y) % n, ?_, .inl (Nat.mod_lt _ (by omega))⟩, hc2, hch1.trans hch2⟩
      simp
    · go_enter Tryz.func31, Tryz.ntmps31
      go_wp2_with fail
      refine (next_any b l K _ h hl (by omega)).mono ?_
      rintro e w1 ⟨⟨x, rfl, hx⟩, hc1, hch1⟩
      go_wp2
      go_ret
      refine ⟨⟨x % n, ?_, .inl (Nat.mod_lt _ (by omega))⟩, hc1.mono (by omega), hch1⟩
      simp

end Go.Proofs.YtenbdjlhcadhaaaGreat
