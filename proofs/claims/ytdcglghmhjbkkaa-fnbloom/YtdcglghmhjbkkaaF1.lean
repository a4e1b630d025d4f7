/-
  Filters: the small functions.
-/
import Derived.Test.YtdcglghmhjbkkaaS2
import Derived.Test.YtdcglghmhjbkkaaE
import Derived.Laws.IdiomStrings
import Derived.Test.YtdcglghmhjbkkaaD2
namespace Go.Proofs.Ytdcglghmhjbkkaa
open Go.RowKit
set_option linter.unusedVariables false
set_option maxRecDepth 100000

/-- The cells of a row of bits. -/
def rowA (l : List UInt8) : Array Value := (bcs l).toArray
theorem rowA_size (l : List UInt8) : (rowA l).size = l.length := by simp [rowA, bcs_length]
theorem rowA_one (l : List UInt8) : (rowA l).all (·.oneCell') = true := by
  rw [Array.all_eq_true]
  intro i hi
  simp [rowA, bcs, Value.oneCell']
theorem rowA_at (l : List UInt8) (i : Nat) (h : i < l.length) : (rowA l)[i]? = some (.int .u8 (l[i].toNat : Int)) := by
  simp [rowA, bcs, h]
def zer32 : List UInt8 := List.replicate 32 0
set_option maxRecDepth 100000 in
theorem Try.zero69 : (Try.prog.info? 69).map (fun i => (i.zero, i.size)) = some (some (.agg (rowA zer32)), (rowA zer32).size) := by kernel_rfl
theorem Try.size69 : (Try.prog.info? 69).map (·.size) = some 32 := by kernel_rfl

def goodH (h : Int) : Bool := decide (1 ≤ h) && decide (h ≤ 8)
theorem goodHashes_any (h : Int) (w : World) : Calls Try.prog 53 #[.int .i64 h] w fun e w' => e = .returned (.bool (goodH h)) ∧ w' = w := by
  by_cases h1 : 1 ≤ h <;> by_cases h2 : h ≤ 8
  all_goals
    go_enter Try.func53, Try.ntmps53
    go_wp2
    go_ret
    simp [goodH, h1, h2]


def put3 (w : World) (b : Nat) (x1 x2 x3 : Value) : World := ((w.setCell ⟨b, 0, none⟩ x1).setCell ⟨b, 1, none⟩ x2).setCell ⟨b, 2, none⟩ x3
theorem put3_chg (w : World) (b : Nat) (x1 x2 x3 : Value) : Chg (· = b) w (put3 w b x1 x2 x3) :=
  (((Chg.refl (· = b) w).setCell (p := ⟨b, 0, none⟩) rfl _).setCell (p := ⟨b, 1, none⟩) rfl _).setCell (p := ⟨b, 2, none⟩) rfl _
theorem put3_box {w : World} {b : Nat} {y1 y2 y3 : Value} (h : Box w b [y1, y2, y3]) (x1 x2 x3 : Value) : Box (put3 w b x1 x2 x3) b [x1, x2, x3] :=
  ((h.set 0 x1 (by simp)).set 1 x2 (by simp)).set 2 x3 (by simp)
/-- A struct of three, stored into a variable that the call made. -/
theorem put3_ok {w w2 : World} {b : Nat} {y1 y2 y3 : Value} (hb : Below w.heap.size w w2) (hB : w.heap.size ≤ b) (hx : Box w2 b [y1, y2, y3]) (x1 x2 x3 : Value) :
    ((put3 w2 b x1 x2 x3).cell? ⟨b, 0, none⟩ = some x1 ∧ (put3 w2 b x1 x2 x3).cell? ⟨b, 1, none⟩ = some x2 ∧ (put3 w2 b x1 x2 x3).cell? ⟨b, 2, none⟩ = some x3) ∧ Below w.heap.size w (put3 w2 b x1 x2 x3) :=
  ⟨(put3_box hx x1 x2 x3).c3.2, hb.trans ((put3_chg w2 b x1 x2 x3).below hb.size (fun k hk => by omega))⟩
theorem Box.f3 {w : World} {b : Nat} {v0 v1 v2 : Value} (h : Box w b [v0, v1, v2]) : (w.frozen? ⟨b, 0, none⟩ = false ∧ w.frozen? ⟨b, 1, none⟩ = false ∧ w.frozen? ⟨b, 2, none⟩ = false) ∧ b < w.heap.size ∧ w.cell? ⟨b, 0, none⟩ = some v0 ∧ w.cell? ⟨b, 1, none⟩ = some v1 ∧ w.cell? ⟨b, 2, none⟩ = some v2 :=
  ⟨⟨h.2.2 0, h.2.2 1, h.2.2 2⟩, h.c3⟩
theorem wr_row (w : World) (l : List UInt8) (t : TypeId) : Wr (w.alloc (.cells (rowA l) t)) w.heap.size l := by
  have hb := Box.new w (rowA l) t
  refine ⟨hb.1, fun j hj => ⟨hb.2.1 j _ ?_, hb.2.2 j⟩⟩
  simp [rowA, bcs, hj]
set_option maxRecDepth 100000 in
theorem text_any (l : List UInt8) (hl : l.length = 32) (w : World) : Calls Try.prog 57 #[.agg (rowA l)] w fun e w' => e = .returned (.string ⟨l.toArray⟩) ∧ Below w.heap.size w w' := by
  have hc := conv_wr (cap := 32) (wr_row w l 69) hl
  go_enter Try.func57, Try.ntmps57
  go_wp2
  go_ret
  exact ⟨rfl, below_alloc _ _⟩

def zerS : ByteArray := ⟨zer32.toArray⟩
set_option maxRecDepth 100000 in
set_option maxHeartbeats 1000000 in
theorem implNew_any (n : Int) (w : World) : Calls Try.prog 27 #[.int .i64 n] w fun e w' =>
    e = .returned (if goodH n then .tuple #[.agg #[.int .i64 n, .string zerS, .int .i64 0], .bool true] else .tuple #[.agg #[.int .i64 0, .string ⟨#[]⟩, .int .i64 0], .bool false]) ∧ Below w.heap.size w w' := by
  cases hg : goodH n
  · go_enter Try.func27, Try.ntmps27
    go_wp2_with fail
    refine (goodHashes_any n _).mono ?_
    rintro e w1 ⟨rfl, rfl⟩
    rw [hg]
    go_wp2
    exact bodyPost_ret (v := .tuple #[.agg #[.int .i64 0, .string ⟨#[]⟩, .int .i64 0], .bool false]) (by simp [results, Try.results27, go_sem]) rfl ⟨rfl, below_alloc _ _⟩
  · go_enter Try.func27, Try.ntmps27
    go_wp2_with fail
    refine (goodHashes_any n _).mono ?_
    rintro e w1 ⟨rfl, rfl⟩
    rw [hg]
    have hbx := Box.new w #[.int .i64 0, .string ⟨#[]⟩, .int .i64 0] 24
    have hb := below_alloc w (.cells #[.int .i64 0, .string ⟨#[]⟩, .int .i64 0] 24)
    go_wp2_with (first | (refine wpList_buildAs rfl 69 _ rfl (rowA zer32) (by kernel_rfl) ?_) | fail)
    refine (text_any zer32 rfl _).mono ?_
    rintro e w2 ⟨rfl, hb2⟩
    have bx := hbx.below hb2
    obtain ⟨⟨f0, f1, f2⟩, c0, c1, c2, c3⟩ := bx.f3
    obtain ⟨⟨t0, t1, t2⟩, hB⟩ := put3_ok (below_then hb hb2) (Nat.le_refl _) bx (.int .i64 n) (.string zerS) (.int .i64 0)
    go_wp2
    change bodyPost _ _ _ _ _ (put3 w2 w.heap.size (.int .i64 n) (.string zerS) (.int .i64 0))
    generalize put3 w2 w.heap.size (.int .i64 n) (.string zerS) (.int .i64 0) = W at *
    exact bodyPost_ret (v := .tuple #[.agg #[.int .i64 n, .string zerS, .int .i64 0], .bool true]) (by simp [results, Try.results27, go_sem, t0, t1, t2]) rfl ⟨rfl, hB⟩

def goodF (h : Int) (s : ByteArray) (m : Int) : Bool := goodH h && decide (s.size = 32) && decide (0 ≤ m) && decide (m ≤ 1000000)
set_option maxHeartbeats 1000000 in
theorem implGood_any (n : Int) (s : ByteArray) (m : Int) (w : World) : Calls Try.prog 32 #[.agg #[.int .i64 n, .string s, .int .i64 m]] w fun e w' =>
    e = .returned (.bool (goodF n s m)) ∧ Below w.heap.size w w' := by
  have HG : Hid (goodF n s m = (goodH n && decide (s.size = 32) && decide (0 ≤ m) && decide (m ≤ 1000000))) := rfl
  generalize goodF n s m = r at *
  have e1 : decide (s.size = 32) = ((s.size : Int) == 32) := by rw [Bool.eq_iff_iff]; simp; omega
  rw [e1] at HG; clear e1
  cases hg : goodH n <;> cases h1 : ((s.size : Int) == 32) <;> cases h2 : decide (0 ≤ m) <;> cases h3 : decide (m ≤ 1000000)
  all_goals
    rw [hg, h1, h2, h3] at HG
    obtain rfl := HG.out
    clear HG
    go_enter Try.func32, Try.ntmps32
    go_wp2_with fail
    refine (goodHashes_any n _).mono ?_
    rintro e w1 ⟨rfl, rfl⟩
    rw [hg]
    go_wp2
    go_ret
    exact ⟨rfl, below_alloc _ _⟩
end Go.Proofs.Ytdcglghmhjbkkaa
