/-
  The bytes of numbers and metas: numberText, sizedText, twoNumbers, numbersText.
-/
import Derived.Test.YtenbdjlhcadhaaaGreatS9ToK2
import Derived.Test.YtenbdjlhcadhaaaGreatCToV1
import Derived.Test.YtenbdjlhcadhaaaGreatK9ToM0
import Derived.Test.YtenbdjlhcadhaaaGreatM1
namespace Go.Proofs.YtenbdjlhcadhaaaGreat
open Go.RowKit
set_option linter.unusedVariables false
set_option maxRecDepth 100000

/-- A text out of bytes, and back. -/
def bl (b : ByteArray) : List UInt8 := b.data.toList
theorem bl_len (b : ByteArray) : (bl b).length = b.size := by simp [bl]
theorem bl_inj {a b : ByteArray} (h : bl a = bl b) : a = b := ByteArray.ext (Array.toList_inj.1 h)
def tx (l : List UInt8) : ByteArray := ⟨l.toArray⟩
theorem tx_size (l : List UInt8) : (tx l).size = l.length := by simp [tx, ByteArray.size]
theorem tx_cat (l m : List UInt8) : tx l ++ tx m = tx (l ++ m) := by apply ByteArray.ext; simp [tx]
theorem tx_bl (b : ByteArray) : tx (bl b) = b := by apply ByteArray.ext; simp [tx, bl]
theorem bl_tx (l : List UInt8) : bl (tx l) = l := rfl
theorem bl_cat (a b : ByteArray) : bl (a ++ b) = bl a ++ bl b := by simp [bl]
theorem bl_ext (s : ByteArray) (a b : Nat) : bl (s.extract a b) = ((bl s).drop a).take (b - a) := by
  simp only [bl, ByteArray.data_extract, Array.toList_extract, List.extract_eq_take_drop]
theorem bl_from (s : ByteArray) (a : Nat) : bl (s.extract a s.size) = (bl s).drop a := by
  rw [bl_ext, List.take_of_length_le]
  rw [List.length_drop, bl_len]; exact Nat.le_refl _
theorem bl_to (s : ByteArray) (b : Nat) : bl (s.extract 0 b) = (bl s).take b := by
  rw [bl_ext]; simp

/-- The bytes of numbers. -/
def drL : List Int → Nat → List UInt8
  | _, 0 => []
  | dr, k + 1 => drL dr k ++ varL (dr.getD k 0).toNat
def nmL (dr : List Int) (k : Nat) : List UInt8 := varL dr.length ++ drL dr k
/-- The bytes of metas. -/
def mt1 (m : Mt) : List UInt8 := varL m.n.toNat ++ varL m.d.toNat ++ (varL m.k.size ++ bl m.k) ++ (varL m.v.size ++ bl m.v)
def msL : List Mt → Nat → List UInt8
  | _, 0 => []
  | l, k + 1 => msL l k ++ mt1 (l.getD k default)
def mtL (l : List Mt) (k : Nat) : List UInt8 := varL l.length ++ msL l k
def edL (nx sq : Int) (dr : List Int) (ad : List Mt) : List UInt8 := varL nx.toNat ++ varL sq.toNat ++ nmL dr dr.length ++ mtL ad ad.length

theorem var_small (n : Nat) (h : n ≤ 100001) : (varL n).length ≤ 3 := varL_len 2 n (by omega)
theorem drL_len (dr : List Int) (h : ∀ i (hi : i < dr.length), 1 ≤ dr[i] ∧ dr[i] ≤ 100000) : ∀ k, k ≤ dr.length → (drL dr k).length ≤ 3 * k := by
  intro k
  induction k with
  | zero => intro _; simp [drL]
  | succ k ih =>
    intro hk
    have h1 := ih (by omega)
    have h2 := h k (by omega)
    have h3 : dr.getD k 0 = dr[k] := getI_at dr k (by omega)
    simp only [drL, List.length_append]
    rw [h3]
    have := var_small (dr[k]).toNat (by omega)
    omega
theorem mt1_len (m : Mt) (h : okMt m = true) : (mt1 m).length ≤ 50 := by
  have h1 := okMt_num h
  have h2 := okMt_lev h
  have h3 := okMt_key h
  unfold mt1
  simp only [List.length_append, bl_len]
  have e1 := var_small m.n.toNat (by omega)
  have e2 := var_small m.d.toNat (by omega)
  have e3 := var_small m.k.size (by omega)
  have e4 := var_small m.v.size (by omega)
  omega
theorem msL_len (l : List Mt) (h : goodMs l = true) : ∀ k, k ≤ l.length → (msL l k).length ≤ 50 * k := by
  intro k
  induction k with
  | zero => intro _; simp [msL]
  | succ k ih =>
    intro hk
    have h1 := ih (by omega)
    simp only [msL, List.length_append]
    rw [getD_at l k (by omega)]
    have := mt1_len l[k] (goodMs_ok h (by omega))
    omega
theorem goodDr_num {dr : List Int} (h : goodDr dr = true) : ∀ i (hi : i < dr.length), 1 ≤ dr[i] ∧ dr[i] ≤ 100000 := by
  intro i hi
  have := goodDr_at h hi
  unfold drAt okNum at this
  rw [getI_at dr i hi] at this
  simp only [Bool.and_eq_true, decide_eq_true_eq] at this
  exact this.1

theorem builder_below {T e : TypeId} {B b : Nat} {bs : List Value} {w w' : World} (h : Lib.IsBuilder T e B b bs w) (hb : Below w.heap.size w w') : Lib.IsBuilder T e B b bs w' := by
  have key : ∀ p, Lib.BuilderAt T e B b p bs w → Lib.BuilderAt T e B b p bs w' := by
    rintro p ⟨h1, v, h2, h3, h4⟩
    exact ⟨h1, v, (hb.block b (Array.getElem?_eq_some_iff.1 h2).1).trans h2, owns_below h3 hb, h4⟩
  rcases h with h | h
  · exact .inl (key _ h)
  · exact .inr (key _ h)
theorem cells_cat (a : List UInt8) (s : ByteArray) : Lib.byteCells a ++ Lib.strCells s = Lib.byteCells (a ++ bl s) := by simp [Lib.byteCells, Lib.strCells, bl]
theorem write_any (B b : Nat) (l : List UInt8) (s : ByteArray) (w : World) (h : Lib.IsBuilder 84 5 B b (Lib.byteCells l) w) (hlen : l.length + s.size ≤ 1073741824) (hBw : B ≤ w.heap.size) :
    Calls Tryz.prog 54 #[.pointer (some ⟨b, 0, none⟩), .string s] w fun e w' => e = .returned (.tuple #[.int .i64 s.size, .nilIface]) ∧ Lib.IsBuilder 84 5 B b (Lib.byteCells (l ++ bl s)) w' ∧ Below B w w' ∧ Chg (BlkOf w b) w w' := by
  refine (writeString_chg B b _ s w h (by simp only [Lib.byteCells, List.length_map]; omega) hBw).mono ?_
  rintro e w' ⟨rfl, h1, h2, h3⟩
  rw [cells_cat] at h1
  exact ⟨rfl, .inr h1, h2, h3⟩

set_option maxHeartbeats 1000000 in
theorem numberText_any (n : Nat) (w : World) (h1 : n < 9223372036854775808) :
    Calls Tryz.prog 55 #[.int .i64 n] w fun e w' => e = .returned (.string (tx (varL n))) ∧ Below w.heap.size w w' := by
  have V1 := fun w => implVar_any (n : Int) w (by omega) (by omega)
  rw [varT_nat, show (⟨(varL n).toArray⟩ : ByteArray) = tx (varL n) from rfl] at V1
  generalize tx (varL n) = A at *
  go_enter Tryz.func55, Tryz.ntmps55
  go_wp2_with fail
  refine (V1 _).mono ?_
  rintro e w1 ⟨rfl, hb1⟩
  go_wp2
  go_ret
  exact ⟨rfl, hb1⟩
set_option maxHeartbeats 1000000 in
theorem sizedText_any (s : ByteArray) (w : World) (hs : s.size ≤ 1048576) :
    Calls Tryz.prog 57 #[.string s] w fun e w' => e = .returned (.string (tx (varL s.size) ++ s)) ∧ Below w.heap.size w w' := by
  have b1 : (varL s.size).length ≤ 9 := varL_len 8 _ (by simp; omega)
  have e1 := tx_size (varL s.size)
  have V1 := fun w => numberText_any s.size w (by omega)
  generalize tx (varL s.size) = A at *
  go_enter Tryz.func57, Tryz.ntmps57
  go_wp2_with fail
  refine (V1 _).mono ?_
  rintro e w1 ⟨rfl, hb1⟩
  go_wp2
  go_ret
  exact ⟨rfl, hb1⟩
set_option maxHeartbeats 1000000 in
theorem twoNumbers_any (n t : Nat) (w : World) (h1 : n < 9223372036854775808) (h2 : t < 9223372036854775808) :
    Calls Tryz.prog 22 #[.int .i64 n, .int .i64 t] w fun e w' => e = .returned (.string (tx (varL n) ++ tx (varL t))) ∧ Below w.heap.size w w' := by
  have b1 : (varL n).length ≤ 9 := varL_len 8 n (by simp; omega)
  have b2 : (varL t).length ≤ 9 := varL_len 8 t (by simp; omega)
  have e1 := tx_size (varL n)
  have e2 := tx_size (varL t)
  have V1 := fun w => implVar_any (n : Int) w (by omega) (by omega)
  have V2 := fun w => implVar_any (t : Int) w (by omega) (by omega)
  rw [varT_nat, show (⟨(varL n).toArray⟩ : ByteArray) = tx (varL n) from rfl] at V1
  rw [varT_nat, show (⟨(varL t).toArray⟩ : ByteArray) = tx (varL t) from rfl] at V2
  rw [decide_eq_true (by omega)] at V1 V2
  generalize tx (varL n) = A at *
  generalize tx (varL t) = B at *
  go_enter Tryz.func22, Tryz.ntmps22
  go_wp2_with fail
  refine (V1 _).mono ?_
  rintro e w1 ⟨rfl, hb1⟩
  go_wp2_with fail
  refine (V2 _).mono ?_
  rintro e w2 ⟨rfl, hb2⟩
  go_wp2
  go_ret
  exact ⟨rfl, below_then hb1 hb2⟩

set_option maxHeartbeats 4000000 in
theorem numbersText_any (v : Value) (dr : List Int) (w : World) (hv : IL w v dr) (hn : dr.length ≤ 30) (hr : ∀ i (hi : i < dr.length), 1 ≤ dr[i] ∧ dr[i] ≤ 100000) :
    Calls Tryz.prog 23 #[v] w fun e w' => e = .returned (.string (tx (nmL dr dr.length))) ∧ Below w.heap.size w w' := by
  obtain ⟨a, cap, rfl, hc⟩ := hv
  have hlen := drL_len dr hr
  have N0 := builder_new w
  have hB := below_alloc w (.cells #[.pointer none, .slice none 0 0] 84)
  have V0 := numberText_any dr.length (w.alloc (.cells #[.pointer none, .slice none 0 0] 84)) (by omega)
  have e0 := tx_size (varL dr.length)
  have b0 := var_small dr.length (by omega)
  have HN0 : Hid (bl (tx (varL dr.length)) = nmL dr 0) := by show _ = _; unfold nmL; rw [bl_tx]; simp [drL]
  have HNS : Hid (∀ k, nmL dr (k + 1) = nmL dr k ++ varL (dr.getD k 0).toNat) := fun k => by unfold nmL; rw [List.append_assoc]; rfl
  have HNL : Hid (∀ k, k ≤ dr.length → (nmL dr k).length ≤ 3 + 3 * k) := fun k hk => by unfold nmL; rw [List.length_append]; have := hlen k hk; omega
  clear hlen
  generalize tx (varL dr.length) = A at *
  go_enter Tryz.func23, Tryz.ntmps23
  go_wp2_with fail
  refine V0.mono ?_
  rintro e w1 ⟨rfl, hb1⟩
  replace N0 := builder_below N0 hb1
  replace hB := below_then hB hb1
  clear V0 hb1
  go_wp2_with fail
  refine (write_any w.heap.size w.heap.size [] A w1 N0 (by simp; omega) hB.size).mono ?_
  rintro e w2 ⟨rfl, N1, hb2, _⟩
  replace hB := hB.trans hb2
  rw [List.nil_append, HN0.out] at N1
  clear N0 hb2 HN0 e0 b0
  go_wp2
  go_loopw [12] (fun i wr => ∃ k : Nat, k ≤ dr.length ∧ i = .int .i64 k ∧ Lib.IsBuilder 84 5 w.heap.size w.heap.size (Lib.byteCells (nmL dr k)) wr ∧ Below w.heap.size w wr) (fun i _ => dr.length - (intOf i).toNat)
  case atStart => exact ⟨0, Nat.zero_le _, rfl, N1, hB⟩
  case round =>
    obtain ⟨k, hk, rfl, N, hb⟩ := hrel
    clear N1 hB
    have hz := hb.size
    by_cases hlt : k < dr.length
    · obtain ⟨b, off, rfl, hbl, hcell⟩ := hc (by intro e; simp [e] at hlt)
      have d0 := (hb.cell (p := ⟨b, off + k, none⟩) hbl).trans (hcell k hlt)
      have hbl2 : b < wr.heap.size := by omega
      have hrk := hr k hlt
      have hs1 := HNS.out k
      rw [getI_at dr k hlt] at hs1
      have hl1 := HNL.out k hk
      obtain ⟨n, hne⟩ := Int.eq_ofNat_of_zero_le (show 0 ≤ dr[k] from by omega)
      rw [hne] at hs1 d0 hrk
      rw [show ((n : Int)).toNat = n from rfl] at hs1
      have V := fun w => numberText_any n w (by omega)
      have eV := tx_size (varL n)
      have bV := var_small n (by omega)
      have HS : Hid (nmL dr (k + 1) = nmL dr k ++ bl (tx (varL n))) := hs1
      clear hcell hc hs1 hne hr HNS HNL
      generalize tx (varL n) = T at *
      generalize nmL dr k = L at *
      clear hrk
      go_wp2_with fail
      refine (V _).mono ?_
      rintro e w3 ⟨rfl, hb3⟩
      replace N := builder_below N hb3
      replace hb := below_then hb hb3
      clear V hb3 d0
      go_wp2_with fail
      refine (write_any w.heap.size w.heap.size L T w3 N (by omega) hb.size).mono ?_
      rintro e w4 ⟨rfl, N4, hb4, _⟩
      replace hb := hb.trans hb4
      rw [← HS.out] at N4
      clear N hb4
      go_wp2
      go_roundw
      case rel => exact ⟨k + 1, by omega, by go_num, N4, hb⟩
      case measure => simp [intOf]; omega
    · obtain rfl : k = dr.length := by omega
      have KS := builderString_any w.heap.size w.heap.size (nmL dr dr.length) wr N hz
      clear hc hr HNS HNL
      go_wp2_with fail
      refine KS.mono ?_
      rintro e w3 ⟨rfl, hb3⟩
      have hB3 := hb.trans hb3
      clear KS N hb hb3
      go_wp2
      go_ret
      exact ⟨rfl, hB3⟩
end Go.Proofs.YtenbdjlhcadhaaaGreat
