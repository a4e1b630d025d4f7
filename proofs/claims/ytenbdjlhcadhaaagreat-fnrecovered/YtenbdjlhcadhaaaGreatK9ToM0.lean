/-
  Numbers in rows: eqIntS, szIntS, toIntS, markIntS, heldIntS; an append of one.
  Metas, versions and edits, plainly: which are good.
-/
import Derived.Test.YtenbdjlhcadhaaaGreatS9ToK2
import Derived.OwnWalk
import Derived.Deep.QuietTactic
import Derived.BigQuiet
import Derived.Deep.SlicePairs
import Derived.Lib.SmallJoins
import Derived.Test.YtenbdjlhcadhaaaGreatB
namespace Go.Proofs.YtenbdjlhcadhaaaGreat
open Go.RowKit Go.Deep
set_option linter.unusedVariables false
set_option maxRecDepth 100000

theorem owns_below_lt {w : World} {base : Nat} {e : TypeId} {size : Nat} {v : Value} {n : Nat} {xs : List Value} (h : w.ownsRow base e size v n xs) : ∀ b, v.ownBlock = some b → b < w.heap.size := by
  intro b hb
  rcases h.2 with ⟨rfl, _⟩ | ⟨g, cap, cur, rfl, _, hh, _⟩
  · simp [Value.ownBlock] at hb
  · simp only [Value.ownBlock, Option.some.injEq] at hb
    subst hb
    exact (Array.getElem?_eq_some_iff.1 hh).1
theorem owns_shape {w : World} {base : Nat} {e : TypeId} {size : Nat} {v : Value} {n : Nat} {xs : List Value} (h : w.ownsRow base e size v n xs) : ∃ a c, v = .slice a n c := by
  rcases h.2 with ⟨rfl, h0⟩ | ⟨g, cap, cur, rfl, _⟩
  · exact ⟨none, 0, by rw [h0]⟩
  · exact ⟨_, _, rfl⟩
theorem one_new (W : World) (x : Int) : ∀ j u, [Value.int .i64 x][j]? = some u → (W.alloc (.cells #[.int .i64 x] 3)).cell? ((⟨W.heap.size, 0, none⟩ : Addr).add j) = some u := by
  intro j u hj
  have hb := Box.new W #[.int .i64 x] 3
  rw [show (⟨W.heap.size, 0, none⟩ : Addr).add j = ⟨W.heap.size, j, none⟩ from by simp [Addr.add]; omega]
  exact hb.2.1 j u hj
theorem Tryz.info3 : (Tryz.prog.info? 3).map (fun i => (i.zero, i.size, i.bytes)) = some (some (.int .i64 0), 1, 8) := by kernel_rfl
theorem cells3 : Tryz.prog.cellsOf 3 = 1 := by kernel_rfl

/-- The first k of them, zeros behind. -/
def partZ (l : List Int) (k : Nat) : List Int := l.take k ++ List.replicate (l.length - k) 0
theorem partZ_zero (l : List Int) : partZ l 0 = List.replicate l.length 0 := by simp [partZ]
theorem partZ_all (l : List Int) : partZ l l.length = l := by simp [partZ]
theorem partZ_set (l : List Int) (k : Nat) (h : k < l.length) : (partZ l k).set k l[k] = partZ l (k + 1) := by
  unfold partZ
  have h1 : (l.take k).length = k := by simp; omega
  obtain ⟨m, hm⟩ : ∃ m, l.length - k = m + 1 := ⟨l.length - k - 1, by omega⟩
  rw [List.set_append_right _ _ (by omega), h1, Nat.sub_self, hm, List.replicate_succ, List.set_cons_zero, List.take_succ_eq_append_getElem h, List.append_assoc, show l.length - (k + 1) = m from by omega]
  rfl
theorem zerosZ (n : Nat) : (madeCells (Value.int .i64 0).cells (n * 1)).toList = (List.replicate n (0 : Int)).map (.int .i64) := by
  have hcs : (Value.int .i64 0).cells = #[.int .i64 0] := rfl
  rw [hcs]
  apply List.ext_getElem?
  intro i
  by_cases hi : i < n
  · simp [madeCells, hi, Nat.mod_one]
  · rw [List.getElem?_eq_none (by simp [madeCells]; omega), List.getElem?_eq_none (by simp; omega)]
theorem IL_of_trod {H : Type} {enc : TypeId × Value → H} {w : World} {base : Nat} {spare : Nat → Bool} {held : Bool} {fuel : Nat} {v : Value} {x : DataW H × List MemPlace}
    (h : DataW.trod enc Tryz.prog w base spare held fuel 23 [v] = some x) : ∃ zs : List Int, IL w v zs ∧ zs.length ≤ maxLen := by
  rcases open_slice Tryz.underlying23 h with ⟨hv, _⟩ | ⟨a, len, cap, m, n, D, Pl, hv, hb, hl, hm, hmm, hx, hel⟩
  · simp only [List.cons.injEq, and_true] at hv
    subst hv
    exact ⟨[], ⟨none, 0, rfl, fun h => absurd rfl h⟩, by simp⟩
  · simp only [List.cons.injEq, and_true] at hv
    subst hv
    have hlm : len ≤ m := by rw [hmm]; split <;> omega
    have each : ∀ i, i < len → ∃ s : Int, w.cell? (a.add i) = some (.int .i64 s) := by
      intro i hi
      obtain ⟨cs', h1, h2⟩ := hel i (by omega)
      rw [cells3] at h1
      obtain ⟨_, hlen, hcell⟩ := World.cells?_some h1
      obtain ⟨z1, e1, _, _⟩ := DataW.trod_int Tryz.underlying3 h2
      subst e1
      refine ⟨z1, ?_⟩
      have := hcell 0 (by omega)
      rw [Nat.mul_one] at this
      simpa [Addr.add] using this
    have all : ∀ i, ∃ s : Int, i < len → w.cell? (a.add i) = some (.int .i64 s) := by
      intro i
      by_cases hi : i < len
      · obtain ⟨q, hq⟩ := each i hi
        exact ⟨q, fun _ => hq⟩
      · exact ⟨0, fun h => absurd h hi⟩
    obtain ⟨F, hF⟩ := Classical.skolem.1 all
    have hlen : ((List.range len).map F).length = len := by simp
    refine ⟨(List.range len).map F, ⟨some a, cap, by rw [hlen], fun hne => ?_⟩, by rw [hlen]; omega⟩
    have hpos : 0 < len := by
      rcases Nat.eq_zero_or_pos len with h0 | h0
      · subst h0; simp at hne
      · exact h0
    have hc0 := hF 0 hpos
    have hsp : a.spot = none := by
      have := World.cell?_spot hc0
      simpa [Addr.add] using this
    obtain ⟨b, off, spot⟩ := a
    simp only at hsp
    subst hsp
    have hbl := World.block_lt_of_cell? _ _ hc0
    refine ⟨b, off, rfl, by simpa [Addr.add] using hbl, fun i hi => ?_⟩
    have hi' : i < len := by simpa using hi
    have hg : ((List.range len).map F)[i] = F i := by simp
    rw [hg, ← hF i hi']
    congr 1
    by_cases h0 : i = 0
    · subst h0; simp [Addr.add]
    · simp [Addr.add, h0]


end Go.Proofs.YtenbdjlhcadhaaaGreat

namespace Go.Proofs.YtenbdjlhcadhaaaGreat
open Go.RowKit
set_option linter.unusedVariables false

/-- A meta: n its number, d its level, k its least key, v its most. -/
structure Mt where
  n : Int
  d : Int
  k : ByteArray
  v : ByteArray
def Mt.zero : Mt := ⟨0, 0, ⟨#[]⟩, ⟨#[]⟩⟩
instance : Inhabited Mt := ⟨Mt.zero⟩
def okKey (k : ByteArray) : Bool := decide ((1 : Int) ≤ k.size) && decide ((k.size : Int) ≤ 16)
def okSeq (n : Int) : Bool := decide (0 ≤ n) && decide (n ≤ 1000000000)
def okNum (n : Int) : Bool := decide (1 ≤ n) && decide (n ≤ 100000)
def okNext (n : Int) : Bool := decide (1 ≤ n) && decide (n ≤ 100001)
def okLev (d : Int) : Bool := decide (0 ≤ d) && decide (d ≤ 3)
def leK (a b : ByteArray) : Bool := Op.bytesLess a.toList b.toList || a.toList == b.toList
def okRg (d : Int) (k v : ByteArray) : Bool := okLev d && okKey k && okKey v && leK k v
def okMt (m : Mt) : Bool := okNum m.n && okRg m.d m.k m.v
/-- The meta at i is good, and behind the one ahead by its number. -/
def okAt (l : List Mt) (i : Nat) : Bool := okMt (l.getD i default) && (i == 0 || decide ((l.getD (i - 1) default).n < (l.getD i default).n))
def goodTo (l : List Mt) (i : Nat) : Bool := (List.range i).all (okAt l)
def goodMs (l : List Mt) : Bool := goodTo l l.length
def okMs (l : List Mt) : Bool := decide ((l.length : Int) ≤ 30) && goodMs l
theorem goodTo_succ (l : List Mt) (i : Nat) : goodTo l (i + 1) = (goodTo l i && okAt l i) := by
  simp [goodTo, List.range_succ, List.all_append]
theorem goodTo_stop (l : List Mt) (i : Nat) (hi : i < l.length) (h : okAt l i = false) : goodMs l = false := by
  unfold goodMs goodTo
  rw [List.all_eq_false]
  exact ⟨i, List.mem_range.2 hi, by simp [h]⟩
theorem goodMs_at {l : List Mt} (h : goodMs l = true) {i : Nat} (hi : i < l.length) : okAt l i = true := by
  unfold goodMs goodTo at h
  rw [List.all_eq_true] at h
  exact h i (List.mem_range.2 hi)
theorem getD_at (l : List Mt) (i : Nat) (h : i < l.length) : l.getD i default = l[i] := by simp [List.getD_eq_getElem?_getD, h]

/-- m's range and o's have a key in common, on one level above 0 (by the specification's words). -/
def ovl (m o : Mt) : Bool := decide (o.d = m.d) && leK o.k m.v && leK m.k o.v
def cls (m o : Mt) : Bool := decide (0 < m.d) && ovl m o
/-- The meta at i may stand in a version with this Next. -/
def mayAt (nx : Int) (l : List Mt) (i : Nat) : Bool := decide ((l.getD i default).n < nx) && !((l.take i).any (cls (l.getD i default)))
def mayTo (nx : Int) (l : List Mt) (i : Nat) : Bool := (List.range i).all (mayAt nx l)
def goodV (nx sq : Int) (l : List Mt) : Bool := okNext nx && okSeq sq && okMs l && mayTo nx l l.length
theorem mayTo_succ (nx : Int) (l : List Mt) (i : Nat) : mayTo nx l (i + 1) = (mayTo nx l i && mayAt nx l i) := by
  simp [mayTo, List.range_succ, List.all_append]
theorem mayTo_stop (nx : Int) (l : List Mt) (i : Nat) (hi : i < l.length) (h : mayAt nx l i = false) : mayTo nx l l.length = false := by
  unfold mayTo
  rw [List.all_eq_false]
  exact ⟨i, List.mem_range.2 hi, by simp [h]⟩

/-- Texts in their order. -/
theorem bless_iff : ∀ (x y : List UInt8), Op.bytesLess x y = true ↔ x < y
  | [], [] => by simp [Op.bytesLess]
  | _ :: _, [] => by simp [Op.bytesLess]
  | [], _ :: _ => by simp [Op.bytesLess]
  | a :: x, b :: y => by
    have ih := bless_iff x y
    simp only [Op.bytesLess, List.cons_lt_cons_iff, Bool.or_eq_true, Bool.and_eq_true, decide_eq_true_eq, beq_iff_eq, ih]
theorem leK_iff (a b : ByteArray) : leK a b = true ↔ a.toList ≤ b.toList := by
  unfold leK
  rw [Bool.or_eq_true, bless_iff, beq_iff_eq, List.le_iff_lt_or_eq]
def maxK (a b : ByteArray) : ByteArray := if !Op.bytesLess a.toList b.toList then a else b
def minK (a b : ByteArray) : ByteArray := if Op.bytesLess a.toList b.toList || a.toList == b.toList then a else b
theorem maxK_le (a b c : ByteArray) : leK (maxK a b) c = (leK a c && leK b c) := by
  unfold maxK
  by_cases h : Op.bytesLess a.toList b.toList = true
  · rw [h]
    simp only [Bool.not_true, Bool.false_eq_true, if_false]
    rw [bless_iff] at h
    cases hb : leK b c with
    | false => simp
    | true =>
      rw [leK_iff] at hb
      have : leK a c = true := (leK_iff _ _).2 (List.le_trans (List.le_of_lt h) hb)
      rw [this]; rfl
  · rw [Bool.not_eq_true] at h
    rw [h]
    simp only [Bool.not_false, if_true]
    have hba : b.toList ≤ a.toList := by
      rw [← List.not_lt, ← bless_iff]; simp [h]
    cases ha : leK a c with
    | false => simp
    | true =>
      rw [leK_iff] at ha
      have : leK b c = true := (leK_iff _ _).2 (List.le_trans hba ha)
      rw [this]; rfl
theorem le_minK (a b c : ByteArray) : leK c (minK a b) = (leK c a && leK c b) := by
  unfold minK
  by_cases h : (Op.bytesLess a.toList b.toList || a.toList == b.toList) = true
  · rw [if_pos h]
    have hab : a.toList ≤ b.toList := (leK_iff a b).1 h
    cases ha : leK c a with
    | false => simp
    | true =>
      rw [leK_iff] at ha
      have : leK c b = true := (leK_iff _ _).2 (List.le_trans ha hab)
      rw [this]; rfl
  · rw [if_neg h]
    have hba : b.toList ≤ a.toList := by
      have : ¬ a.toList ≤ b.toList := fun h' => h ((leK_iff a b).2 h')
      exact List.le_of_lt (List.not_le.1 this)
    cases hb : leK c b with
    | false => simp
    | true =>
      rw [leK_iff] at hb
      have : leK c a = true := (leK_iff _ _).2 (List.le_trans hb hba)
      rw [this]; rfl
/-- The program's way to tell whether two have a key in common. -/
def ovI (m o : Mt) : Bool := decide (m.d = o.d) && leK (maxK m.k o.k) (minK m.v o.v)
theorem ovI_eq (m o : Mt) (hm : leK m.k m.v = true) (ho : leK o.k o.v = true) : ovI m o = ovl m o := by
  unfold ovI ovl
  rw [maxK_le, le_minK, le_minK, hm, ho]
  have : decide (m.d = o.d) = decide (o.d = m.d) := by by_cases h : m.d = o.d <;> simp [h, eq_comm]
  rw [this]
  cases decide (o.d = m.d) <;> cases leK m.k o.v <;> cases leK o.k m.v <;> rfl
theorem okMt_le {m : Mt} (h : okMt m = true) : leK m.k m.v = true := by
  unfold okMt okRg at h
  simp only [Bool.and_eq_true] at h
  exact h.2.2
theorem okMt_num {m : Mt} (h : okMt m = true) : 1 ≤ m.n ∧ m.n ≤ 100000 := by
  unfold okMt okNum at h
  simp only [Bool.and_eq_true, decide_eq_true_eq] at h
  exact h.1
theorem okMt_lev {m : Mt} (h : okMt m = true) : 0 ≤ m.d ∧ m.d ≤ 3 := by
  unfold okMt okRg okLev at h
  simp only [Bool.and_eq_true, decide_eq_true_eq] at h
  exact h.2.1.1.1
theorem okMt_key {m : Mt} (h : okMt m = true) : (1 ≤ m.k.size ∧ m.k.size ≤ 16) ∧ 1 ≤ m.v.size ∧ m.v.size ≤ 16 := by
  unfold okMt okRg okKey at h
  simp only [Bool.and_eq_true, decide_eq_true_eq] at h
  omega
theorem goodMs_ok {l : List Mt} (h : goodMs l = true) {i : Nat} (hi : i < l.length) : okMt l[i] = true := by
  have := goodMs_at h hi
  unfold okAt at this
  rw [getD_at l i hi] at this
  simp only [Bool.and_eq_true] at this
  exact this.1

/-- An edit is good. -/
def drAt (l : List Int) (i : Nat) : Bool := okNum (l.getD i 0) && (i == 0 || decide (l.getD (i - 1) 0 < l.getD i 0))
def drTo (l : List Int) (i : Nat) : Bool := (List.range i).all (drAt l)
def goodDr (l : List Int) : Bool := drTo l l.length
def okDr (l : List Int) : Bool := decide ((l.length : Int) ≤ 30) && goodDr l
def goodE (nx sq : Int) (dr : List Int) (ad : List Mt) : Bool := okNext nx && okSeq sq && okDr dr && okMs ad
theorem drTo_succ (l : List Int) (i : Nat) : drTo l (i + 1) = (drTo l i && drAt l i) := by
  simp [drTo, List.range_succ, List.all_append]
theorem drTo_stop (l : List Int) (i : Nat) (hi : i < l.length) (h : drAt l i = false) : goodDr l = false := by
  unfold goodDr drTo
  rw [List.all_eq_false]
  exact ⟨i, List.mem_range.2 hi, by simp [h]⟩
theorem goodDr_at {l : List Int} (h : goodDr l = true) {i : Nat} (hi : i < l.length) : drAt l i = true := by
  unfold goodDr drTo at h
  rw [List.all_eq_true] at h
  exact h i (List.mem_range.2 hi)
theorem getI_at (l : List Int) (i : Nat) (h : i < l.length) : l.getD i 0 = l[i] := by simp [List.getD_eq_getElem?_getD, h]
end Go.Proofs.YtenbdjlhcadhaaaGreat
