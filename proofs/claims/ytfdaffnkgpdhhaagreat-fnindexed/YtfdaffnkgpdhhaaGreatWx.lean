/-
  Filters: the small functions.
  Filters: the specification's small functions; the law's own helpers.
  Filters, plainly: places, rows of bits.
-/
import Derived.Test.YtfdaffnkgpdhhaaGreatS2
import Derived.Test.YtfdaffnkgpdhhaaGreatE
import Derived.Laws.IdiomStrings
import Derived.Test.YtfdaffnkgpdhhaaGreatD2
namespace Go.Proofs.YtfdaffnkgpdhhaaGreat
open Go.RowKit
set_option linter.unusedVariables false
set_option maxRecDepth 100000

/-- The cells of a row of bits. -/
def rowA (l : List UInt8) : Array Value := (bcs l).toArray
theorem rowA_size (l : List UInt8) : (rowA l).size = l.length := by simp [rowA, bcs_length]
theorem rowA_one (l : List UInt8) : (rowA l).all (·.oneCell') = true := by
  rw [Array.all_eq_true]
  intro i hi
  simp [rowA, bcs, Value.oneCell']
theorem rowA_at (l : List UInt8) (i : Nat) (h : i < l.length) : (rowA l)[i]? = some (.int .u8 (l[i].toNat : Int)) := by
  simp [rowA, bcs, h]
def zer32 : List UInt8 := List.replicate 32 0
set_option maxRecDepth 100000 in
theorem Tryz.zero88 : (Tryz.prog.info? 88).map (fun i => (i.zero, i.size)) = some (some (.agg (rowA zer32)), (rowA zer32).size) := by kernel_rfl
theorem Tryz.size88 : (Tryz.prog.info? 88).map (·.size) = some 32 := by kernel_rfl

def goodH (h : Int) : Bool := decide (1 ≤ h) && decide (h ≤ 8)
theorem goodHashes_any (h : Int) (w : World) : Calls Tryz.prog 94 #[.int .i64 h] w fun e w' => e = .returned (.bool (goodH h)) ∧ w' = w := by
  by_cases h1 : 1 ≤ h <;> by_cases h2 : h ≤ 8
  all_goals
    go_enter Tryz.func94, Tryz.ntmps94
    go_wp2
    go_ret
    simp [goodH, h1, h2]


def put3 (w : World) (b : Nat) (x1 x2 x3 : Value) : World := ((w.setCell ⟨b, 0, none⟩ x1).setCell ⟨b, 1, none⟩ x2).setCell ⟨b, 2, none⟩ x3
theorem put3_chg (w : World) (b : Nat) (x1 x2 x3 : Value) : Chg (· = b) w (put3 w b x1 x2 x3) :=
  (((Chg.refl (· = b) w).setCell (p := ⟨b, 0, none⟩) rfl _).setCell (p := ⟨b, 1, none⟩) rfl _).setCell (p := ⟨b, 2, none⟩) rfl _
theorem put3_box {w : World} {b : Nat} {y1 y2 y3 : Value} (h : Box w b [y1, y2, y3]) (x1 x2 x3 : Value) : Box (put3 w b x1 x2 x3) b [x1, x2, x3] :=
  ((h.set 0 x1 (by simp)).set 1 x2 (by simp)).set 2 x3 (by simp)
/-- A struct of three, stored into a variable that the call made. -/
theorem put3_ok {w w2 : World} {b : Nat} {y1 y2 y3 : Value} (hb : Below w.heap.size w w2) (hB : w.heap.size ≤ b) (hx : Box w2 b [y1, y2, y3]) (x1 x2 x3 : Value) :
    ((put3 w2 b x1 x2 x3).cell? ⟨b, 0, none⟩ = some x1 ∧ (put3 w2 b x1 x2 x3).cell? ⟨b, 1, none⟩ = some x2 ∧ (put3 w2 b x1 x2 x3).cell? ⟨b, 2, none⟩ = some x3) ∧ Below w.heap.size w (put3 w2 b x1 x2 x3) :=
  ⟨(put3_box hx x1 x2 x3).c3.2, hb.trans ((put3_chg w2 b x1 x2 x3).below hb.size (fun k hk => by omega))⟩
theorem Box.f3 {w : World} {b : Nat} {v0 v1 v2 : Value} (h : Box w b [v0, v1, v2]) : (w.frozen? ⟨b, 0, none⟩ = false ∧ w.frozen? ⟨b, 1, none⟩ = false ∧ w.frozen? ⟨b, 2, none⟩ = false) ∧ b < w.heap.size ∧ w.cell? ⟨b, 0, none⟩ = some v0 ∧ w.cell? ⟨b, 1, none⟩ = some v1 ∧ w.cell? ⟨b, 2, none⟩ = some v2 :=
  ⟨⟨h.2.2 0, h.2.2 1, h.2.2 2⟩, h.c3⟩
theorem wr_row (w : World) (l : List UInt8) (t : TypeId) : Wr (w.alloc (.cells (rowA l) t)) w.heap.size l := by
  have hb := Box.new w (rowA l) t
  refine ⟨hb.1, fun j hj => ⟨hb.2.1 j _ ?_, hb.2.2 j⟩⟩
  simp [rowA, bcs, hj]
set_option maxRecDepth 100000 in
theorem textF_any (l : List UInt8) (hl : l.length = 32) (w : World) : Calls Tryz.prog 131 #[.agg (rowA l)] w fun e w' => e = .returned (.string ⟨l.toArray⟩) ∧ Below w.heap.size w w' := by
  have hc := conv_wr (cap := 32) (wr_row w l 88) hl
  go_enter Tryz.func131, Tryz.ntmps131
  go_wp2
  go_ret
  exact ⟨rfl, below_alloc _ _⟩

def zerS : ByteArray := ⟨zer32.toArray⟩
set_option maxRecDepth 100000 in
set_option maxHeartbeats 1000000 in
theorem implNew_any (n : Int) (w : World) : Calls Tryz.prog 108 #[.int .i64 n] w fun e w' =>
    e = .returned (if goodH n then .tuple #[.agg #[.int .i64 n, .string zerS, .int .i64 0], .bool true] else .tuple #[.agg #[.int .i64 0, .string ⟨#[]⟩, .int .i64 0], .bool false]) ∧ Below w.heap.size w w' := by
  cases hg : goodH n
  · go_enter Tryz.func108, Tryz.ntmps108
    go_wp2_with fail
    refine (goodHashes_any n _).mono ?_
    rintro e w1 ⟨rfl, rfl⟩
    rw [hg]
    go_wp2
    exact bodyPost_ret (v := .tuple #[.agg #[.int .i64 0, .string ⟨#[]⟩, .int .i64 0], .bool false]) (by simp [results, Tryz.results108, go_sem]) rfl ⟨rfl, below_alloc _ _⟩
  · go_enter Tryz.func108, Tryz.ntmps108
    go_wp2_with fail
    refine (goodHashes_any n _).mono ?_
    rintro e w1 ⟨rfl, rfl⟩
    rw [hg]
    have hbx := Box.new w #[.int .i64 0, .string ⟨#[]⟩, .int .i64 0] 46
    have hb := below_alloc w (.cells #[.int .i64 0, .string ⟨#[]⟩, .int .i64 0] 46)
    go_wp2_with (first | (refine wpList_buildAs rfl 88 _ rfl (rowA zer32) (by kernel_rfl) ?_) | fail)
    refine (textF_any zer32 rfl _).mono ?_
    rintro e w2 ⟨rfl, hb2⟩
    have bx := hbx.below hb2
    obtain ⟨⟨f0, f1, f2⟩, c0, c1, c2, c3⟩ := bx.f3
    obtain ⟨⟨t0, t1, t2⟩, hB⟩ := put3_ok (below_then hb hb2) (Nat.le_refl _) bx (.int .i64 n) (.string zerS) (.int .i64 0)
    go_wp2
    change bodyPost _ _ _ _ _ (put3 w2 w.heap.size (.int .i64 n) (.string zerS) (.int .i64 0))
    generalize put3 w2 w.heap.size (.int .i64 n) (.string zerS) (.int .i64 0) = W at *
    exact bodyPost_ret (v := .tuple #[.agg #[.int .i64 n, .string zerS, .int .i64 0], .bool true]) (by simp [results, Tryz.results108, go_sem, t0, t1, t2]) rfl ⟨rfl, hB⟩

def goodF (h : Int) (s : ByteArray) (m : Int) : Bool := goodH h && decide (s.size = 32) && decide (0 ≤ m) && decide (m ≤ 1000000)
set_option maxHeartbeats 1000000 in
theorem implGoodF_any (n : Int) (s : ByteArray) (m : Int) (w : World) : Calls Tryz.prog 54 #[.agg #[.int .i64 n, .string s, .int .i64 m]] w fun e w' =>
    e = .returned (.bool (goodF n s m)) ∧ Below w.heap.size w w' := by
  have HG : Hid (goodF n s m = (goodH n && decide (s.size = 32) && decide (0 ≤ m) && decide (m ≤ 1000000))) := rfl
  generalize goodF n s m = r at *
  have e1 : decide (s.size = 32) = ((s.size : Int) == 32) := by rw [Bool.eq_iff_iff]; simp; omega
  rw [e1] at HG; clear e1
  cases hg : goodH n <;> cases h1 : ((s.size : Int) == 32) <;> cases h2 : decide (0 ≤ m) <;> cases h3 : decide (m ≤ 1000000)
  all_goals
    rw [hg, h1, h2, h3] at HG
    obtain rfl := HG.out
    clear HG
    go_enter Tryz.func54, Tryz.ntmps54
    go_wp2_with fail
    refine (goodHashes_any n _).mono ?_
    rintro e w1 ⟨rfl, rfl⟩
    rw [hg]
    go_wp2
    go_ret
    exact ⟨rfl, below_alloc _ _⟩
end Go.Proofs.YtfdaffnkgpdhhaaGreat

namespace Go.Proofs.YtfdaffnkgpdhhaaGreat
open Go.RowKit
set_option linter.unusedVariables false
set_option maxRecDepth 100000

/-- The walk stands here. -/
def StopF (p : Prop) : Prop := p
theorem StopF.go {p : Prop} (h : StopF p) : p := h
/-- What NewFilter answers. -/
def newF (n : Int) : Int × ByteArray × Int × Bool := if goodH n then (n, zerS, 0, true) else (0, ⟨#[]⟩, 0, false)
theorem implNew (n : Int) (w : World) : Calls Tryz.prog 108 #[.int .i64 n] w fun e w' =>
    e = .returned (.tuple #[.agg #[.int .i64 (newF n).1, .string (newF n).2.1, .int .i64 (newF n).2.2.1], .bool (newF n).2.2.2]) ∧ Below w.heap.size w w' := by
  refine (implNew_any n w).mono ?_
  rintro e w' ⟨rfl, hb⟩
  refine ⟨?_, hb⟩
  unfold newF
  cases goodH n <;> rfl

theorem l1InF_any (x a b : Int) (w : World) : Calls Tryz.prog 72 #[.int .i64 x, .int .i64 a, .int .i64 b] w fun e w' => e = .returned (.bool (decide (a ≤ x) && decide (x ≤ b))) ∧ w' = w := by
  by_cases h1 : a ≤ x <;> by_cases h2 : x ≤ b
  all_goals
    go_enter Tryz.func72, Tryz.ntmps72
    go_wp2
    go_ret
    simp [h1, h2]
theorem l5Hashes_any (n : Int) (w : World) : Calls Tryz.prog 126 #[.int .i64 n] w fun e w' => e = .returned (.bool (goodH n)) ∧ w' = w := by
  go_enter Tryz.func126, Tryz.ntmps126
  go_wp2_with fail
  refine (l1InF_any n 1 8 _).mono ?_
  rintro e w1 ⟨rfl, rfl⟩
  go_wp2
  go_ret
  exact ⟨rfl, rfl⟩
def goodK (s : ByteArray) : Bool := decide ((1 : Int) ≤ s.size) && decide ((s.size : Int) ≤ 16)
theorem l4KeyF_any (s : ByteArray) (w : World) : Calls Tryz.prog 46 #[.string s] w fun e w' => e = .returned (.bool (goodK s)) ∧ w' = w := by
  go_enter Tryz.func46, Tryz.ntmps46
  go_wp2_with fail
  refine (l1InF_any (s.size : Int) 1 16 _).mono ?_
  rintro e w1 ⟨rfl, rfl⟩
  go_wp2
  go_ret
  exact ⟨rfl, rfl⟩
theorem goodKeyF_any (s : ByteArray) (w : World) : Calls Tryz.prog 40 #[.string s] w fun e w' => e = .returned (.bool (goodK s)) ∧ w' = w := by
  have HG : Hid (goodK s = (decide ((1 : Int) ≤ s.size) && decide ((s.size : Int) ≤ 16))) := rfl
  generalize goodK s = r at *
  cases h1 : decide ((1 : Int) ≤ s.size) <;> cases h2 : decide ((s.size : Int) ≤ 16)
  all_goals
    rw [h1, h2] at HG
    obtain rfl := HG.out
    clear HG
    go_enter Tryz.func40, Tryz.ntmps40
    go_wp2
    go_ret
    exact ⟨rfl, rfl⟩

theorem Tryz.info5b : (Tryz.prog.info? 5).map (fun i => (i.zero, i.size, i.bytes)) = some (some (.int .u8 0), 1, 1) := by kernel_rfl
set_option maxHeartbeats 1000000 in
theorem specNew (n : Int) (w : World) : Calls Tryz.prog 96 #[.int .i64 n] w fun e w' =>
    e = .returned (.tuple #[.agg #[.int .i64 (newF n).1, .string (newF n).2.1, .int .i64 (newF n).2.2.1], .bool (newF n).2.2.2]) ∧ Below w.heap.size w w' := by
  have HN : Hid (newF n = if goodH n then (n, zerS, 0, true) else (0, ⟨#[]⟩, 0, false)) := rfl
  generalize newF n = R at *
  cases hg : goodH n
  · rw [hg] at HN
    obtain rfl := HN.out
    clear HN
    go_enter Tryz.func96, Tryz.ntmps96
    go_wp2_with fail
    refine (l5Hashes_any n _).mono ?_
    rintro e w1 ⟨rfl, rfl⟩
    rw [hg]
    go_wp2
    exact bodyPost_ret (v := .tuple #[.agg #[.int .i64 0, .string ⟨#[]⟩, .int .i64 0], .bool false]) (by simp [results, Tryz.results96, go_sem]) rfl ⟨rfl, below_alloc _ _⟩
  · rw [hg] at HN
    obtain rfl := HN.out
    clear HN
    obtain ⟨i0, hi, hz0, hz1, hz2⟩ := info_parts Tryz.info5b
    go_enter Tryz.func96, Tryz.ntmps96
    go_wp2_with fail
    refine (l5Hashes_any n _).mono ?_
    rintro e w1 ⟨rfl, rfl⟩
    rw [hg]
    have hbx := Box.new w #[.int .i64 0, .string ⟨#[]⟩, .int .i64 0] 46
    have hb := below_alloc w (.cells #[.int .i64 0, .string ⟨#[]⟩, .int .i64 0] 46)
    obtain ⟨W, hW⟩ : ∃ W, W = w.alloc (.cells #[.int .i64 0, .string ⟨#[]⟩, .int .i64 0] 46) := ⟨_, rfl⟩
    rw [← hW] at hbx hb
    go_wp2_with (at_make; rw [← hW]; clear hW; refine wpList_make_full _ rfl _ _ 22 rfl W.heap.size 5 i0 _ 1 Tryz.underlying22 hi hz0 hz1 .i64 .i64 _ _ 32 rfl rfl rfl rfl (by rw [hz2]; omega) (by unfold maxLen; omega) (Nat.le_refl _) ?_; intro w0 hown0 hgr0; refine StopF.go ?_)
    rw [made_one _ rfl] at hown0
    have hcv := conv_back (l := zer32) hown0
    have hb0 : Below W.heap.size W w0 := (Below.refl _ _).grown hgr0 (Nat.le_refl _) (by simp)
    have bx := hbx.below hb0
    obtain ⟨⟨f0, f1, f2⟩, c0, c1, c2, c3⟩ := bx.f3
    obtain ⟨⟨t0, t1, t2⟩, hB⟩ := put3_ok (below_then hb hb0) (Nat.le_refl _) bx (.int .i64 n) (.string zerS) (.int .i64 0)
    clear hown0 hgr0 hi hz0 hz1 hz2 hb0 bx hbx
    have hcv' : (convert 22 9 (.slice (some ⟨W.heap.size, 0, none⟩) 32 32)).run Tryz.prog w0 = .ok (.string zerS) w0 := hcv
    clear hcv
    unfold StopF
    go_wp2
    change bodyPost _ _ _ _ _ (put3 w0 w.heap.size (.int .i64 n) (.string zerS) (.int .i64 0))
    generalize put3 w0 w.heap.size (.int .i64 n) (.string zerS) (.int .i64 0) = W' at *
    exact bodyPost_ret (v := .tuple #[.agg #[.int .i64 n, .string zerS, .int .i64 0], .bool true]) (by simp [results, Tryz.results96, go_sem, t0, t1, t2]) rfl ⟨rfl, hB⟩

def szL (s : ByteArray) (left : Int) : Int := if left - s.size < 0 then -1 else left - s.size
end Go.Proofs.YtfdaffnkgpdhhaaGreat

namespace Go.Proofs.YtfdaffnkgpdhhaaGreat
set_option maxRecDepth 100000
set_option linter.unusedVariables false

/-- The places out of two sums. -/
def plA (a b : Nat) : Nat → List Nat
  | 0 => []
  | h + 1 => a % 256 :: plA ((a + b) % 4294967296) b h
theorem plA_length (b : Nat) : ∀ (h a : Nat), (plA a b h).length = h := by
  intro h; induction h with
  | zero => intro a; rfl
  | succ h ih => intro a; simp [plA, ih]
theorem plA_lt (b : Nat) : ∀ (h a : Nat), ∀ x ∈ plA a b h, x < 256 := by
  intro h; induction h with
  | zero => intro a x hx; simp [plA] at hx
  | succ h ih =>
    intro a x hx
    simp only [plA, List.mem_cons] at hx
    rcases hx with rfl | hx
    · exact Nat.mod_lt _ (by omega)
    · exact ih _ x hx
/-- The sum behind k steps. -/
def goA (a b : Nat) (k : Nat) : Nat := (a + k * b) % 4294967296
theorem goA_zero (a b : Nat) (h : a < 4294967296) : goA a b 0 = a := by unfold goA; rw [Nat.zero_mul, Nat.add_zero, Nat.mod_eq_of_lt h]
theorem goA_succ (a b k : Nat) : (goA a b k + b) % 4294967296 = goA a b (k + 1) := by
  unfold goA; rw [Nat.mod_add_mod, Nat.succ_mul]; congr 1; omega
theorem goA_lt (a b k : Nat) : goA a b k < 4294967296 := Nat.mod_lt _ (by omega)
theorem plA_at (b : Nat) : ∀ (h a k : Nat) (hk : k < (plA a b h).length), a < 4294967296 → (plA a b h)[k] = goA a b k % 256 := by
  intro h; induction h with
  | zero => intro a k hk _; simp [plA] at hk
  | succ h ih =>
    intro a k hk ha
    cases k with
    | zero => simp [plA, goA_zero a b ha]
    | succ k =>
      simp only [plA, List.getElem_cons_succ]
      rw [ih _ k (by simpa [plA] using hk) (Nat.mod_lt _ (by omega))]
      have : goA ((a + b) % 4294967296) b k = goA a b (k + 1) := by
        unfold goA; rw [Nat.mod_add_mod, Nat.succ_mul]; congr 1; omega
      rw [this]
/-- What PlacesOf tells of a key and so many hashes. -/
def plK (s : ByteArray) (h : Nat) : List Nat := plA (csum s.data.toList) (con 0 s.data.toList ||| 1) h
theorem plK_length (s : ByteArray) (h : Nat) : (plK s h).length = h := plA_length _ _ _
theorem plK_lt (s : ByteArray) (h : Nat) : ∀ x ∈ plK s h, x < 256 := plA_lt _ _ _
theorem odd_lt (s : ByteArray) : con 0 s.data.toList ||| 1 < 4294967296 :=
  Nat.or_lt_two_pow (n := 32) (con_lt _ _ (by omega)) (by omega)
theorem plK_at (s : ByteArray) (h k : Nat) (hk : k < h) : (plK s h)[k]'(by rw [plK_length]; exact hk) = goA (csum s.data.toList) (con 0 s.data.toList ||| 1) k % 256 :=
  plA_at _ _ _ _ _ (csum_lt _)

/-- A bit set in a row; several. -/
def setB (l : List UInt8) (p : Nat) : List UInt8 := l.set (p / 8) (l.getD (p / 8) 0 ||| UInt8.ofNat (2 ^ (p % 8)))
def setBs (l : List UInt8) (ps : List Nat) : List UInt8 := ps.foldl setB l
theorem setB_length (l : List UInt8) (p : Nat) : (setB l p).length = l.length := by simp [setB]
theorem setBs_length (l : List UInt8) (ps : List Nat) : (setBs l ps).length = l.length := by
  induction ps generalizing l with
  | nil => rfl
  | cons p ps ih => simp only [setBs, List.foldl_cons] at *; rw [ih, setB_length]
theorem setBs_take_succ (l : List UInt8) (ps : List Nat) (k : Nat) (h : k < ps.length) : setBs l (ps.take (k + 1)) = setB (setBs l (ps.take k)) ps[k] := by
  unfold setBs; rw [List.take_succ_eq_append_getElem h, List.foldl_append]; rfl
/-- A bit that is set. -/
def hasB (l : List UInt8) (p : Nat) : Bool := decide ((l.getD (p / 8) 0).toNat / 2 ^ (p % 8) % 2 = 1)
def hasBs (l : List UInt8) (ps : List Nat) : Bool := ps.all (hasB l)

theorem or_u8 (c d : UInt8) : (c ||| d).toNat = c.toNat ||| d.toNat := UInt8.toNat_or c d
theorem bit_of (c : UInt8) (i : Nat) : decide (c.toNat / 2 ^ i % 2 = 1) = c.toNat.testBit i := by
  rw [Nat.testBit_eq_decide_div_mod_eq]
theorem pow_u8 (i : Nat) (h : i < 8) : (UInt8.ofNat (2 ^ i)).toNat = 2 ^ i := by
  rw [UInt8.toNat_ofNat']
  exact Nat.mod_eq_of_lt (Nat.pow_lt_pow_right (by omega) h)
/-- A bit that is set once more changes nothing, and only then. -/
theorem or_same (c : UInt8) (i : Nat) (h : i < 8) : (c ||| UInt8.ofNat (2 ^ i)) = c ↔ c.toNat / 2 ^ i % 2 = 1 := by
  have hb := bit_of c i
  constructor
  · intro e
    have e1 := congrArg UInt8.toNat e
    rw [or_u8, pow_u8 i h] at e1
    have e2 := congrArg (Nat.testBit · i) e1
    simp only [Nat.testBit_or, Nat.testBit_two_pow_self, Bool.or_true] at e2
    rw [← e2] at hb
    exact of_decide_eq_true hb
  · intro e
    apply UInt8.toNat_inj.1
    rw [or_u8, pow_u8 i h]
    apply Nat.eq_of_testBit_eq
    intro j
    rw [Nat.testBit_or, Nat.testBit_two_pow]
    by_cases hj : i = j
    · subst hj
      rw [decide_eq_true e] at hb
      simp [← hb]
    · simp [hj]
theorem setB_same (l : List UInt8) (p : Nat) (h : p / 8 < l.length) : setB l p = l ↔ hasB l p = true := by
  unfold setB hasB
  rw [decide_eq_true_iff]
  have hg : l.getD (p / 8) 0 = l[p / 8] := by simp [h]
  rw [hg, ← or_same _ _ (Nat.mod_lt _ (by omega))]
  constructor
  · intro e
    have e1 : (l.set (p / 8) (l[p / 8] ||| UInt8.ofNat (2 ^ (p % 8))))[p / 8]'(by simpa using h) = l[p / 8] := by simp [e]
    rwa [List.getElem_set_self] at e1
  · intro e
    rw [e, List.set_getElem_self]
/-- What is set stays set. -/
theorem hasB_set (l : List UInt8) (p q : Nat) (h : p / 8 < l.length) (hq : hasB l q = true) : hasB (setB l p) q = true := by
  unfold hasB at *
  rw [decide_eq_true_iff] at *
  unfold setB
  by_cases hpq : p / 8 = q / 8
  · have e1 : (l.set (p / 8) (l.getD (p / 8) 0 ||| UInt8.ofNat (2 ^ (p % 8)))).getD (q / 8) 0 = l.getD (p / 8) 0 ||| UInt8.ofNat (2 ^ (p % 8)) := by
      rw [← hpq]; simp [h]
    rw [e1]
    rw [← hpq] at hq
    have hb := bit_of (l.getD (p / 8) 0) (q % 8)
    rw [decide_eq_true hq] at hb
    have hb2 := bit_of (l.getD (p / 8) 0 ||| UInt8.ofNat (2 ^ (p % 8))) (q % 8)
    rw [or_u8, Nat.testBit_or, ← hb, Bool.true_or] at hb2
    rw [or_u8]
    exact of_decide_eq_true hb2
  · have e1 : (l.set (p / 8) (l.getD (p / 8) 0 ||| UInt8.ofNat (2 ^ (p % 8)))).getD (q / 8) 0 = l.getD (q / 8) 0 := by
      simp [List.getElem?_set_ne hpq]
    rw [e1]; exact hq
theorem hasB_self (l : List UInt8) (p : Nat) (h : p / 8 < l.length) : hasB (setB l p) p = true := by
  rw [← setB_same _ _ (by rw [setB_length]; exact h)]
  unfold setB
  have e1 : (l.set (p / 8) (l.getD (p / 8) 0 ||| UInt8.ofNat (2 ^ (p % 8)))).getD (p / 8) 0 = l.getD (p / 8) 0 ||| UInt8.ofNat (2 ^ (p % 8)) := by simp [h]
  rw [e1, List.set_set, UInt8.or_assoc, UInt8.or_self]
theorem hasB_setBs (l : List UInt8) (ps : List Nat) (q : Nat) (h : ∀ p ∈ ps, p / 8 < l.length) (hq : hasB l q = true) : hasB (setBs l ps) q = true := by
  induction ps generalizing l with
  | nil => exact hq
  | cons p ps ih =>
    simp only [setBs, List.foldl_cons] at *
    exact ih _ (fun x hx => by rw [setB_length]; exact h x (List.mem_cons_of_mem _ hx)) (hasB_set l p q (h p (List.mem_cons_self ..)) hq)
/-- All are set just where setting them once more leaves the row as it is. -/
theorem setBs_same (l : List UInt8) (ps : List Nat) (h : ∀ p ∈ ps, p / 8 < l.length) : setBs l ps = l ↔ hasBs l ps = true := by
  induction ps generalizing l with
  | nil => simp [setBs, hasBs]
  | cons p ps ih =>
    have hp := h p (List.mem_cons_self ..)
    have ht : ∀ p ∈ ps, p / 8 < l.length := fun x hx => h x (List.mem_cons_of_mem _ hx)
    constructor
    · intro e
      have h1 : hasB l p = true := by
        have := hasB_setBs (setB l p) ps p (fun x hx => by rw [setB_length]; exact ht x hx) (hasB_self l p hp)
        simp only [setBs, List.foldl_cons] at e this
        rwa [e] at this
      have e2 := (setB_same l p hp).2 h1
      simp only [setBs, List.foldl_cons] at e
      rw [e2] at e
      simp only [hasBs, List.all_cons, h1, Bool.true_and]
      exact (ih l ht).1 e
    · intro e
      simp only [hasBs, List.all_cons, Bool.and_eq_true] at e
      simp only [setBs, List.foldl_cons]
      rw [(setB_same l p hp).2 e.1]
      exact (ih l ht).2 e.2
end Go.Proofs.YtfdaffnkgpdhhaaGreat

