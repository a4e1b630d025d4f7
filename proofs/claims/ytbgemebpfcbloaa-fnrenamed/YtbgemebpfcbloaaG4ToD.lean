/-
  toDisk: three new rows.
  The disk's plain functions: which names are names, which lists of names and blobs are good, how many bytes are named.
-/
import Derived.Test.YtbgemebpfcbloaaG1ToG3
import Derived.Test.YtbgemebpfcbloaaxAToxL
namespace Go.Proofs.Ytbgemebpfcbloaa
open Go.RowKit

set_option maxHeartbeats 1000000 in
/-- toDisk makes new rows. -/
theorem toDisk_any (u1 u2 u3 : Value) (bl lv sf : List (ByteArray × Int)) (r : Int) (w : World) (hu1 : PL w u1 bl) (hu2 : PL w u2 lv) (hu3 : PL w u3 sf)
    (hn1 : bl.length ≤ 1048576) (hn2 : lv.length ≤ 1048576) (hn3 : sf.length ≤ 1048576) :
    Calls Try.prog 29 #[.agg #[u1, u2, u3, .int .i64 r]] w fun e w' => (∃ g1 g2 g3 : Nat, g1 < g2 ∧ g2 < g3 ∧ w.heap.size < g1 ∧ e = .returned (.agg #[.slice (some ⟨g1, 0, none⟩) bl.length bl.length, .slice (some ⟨g2, 0, none⟩) lv.length lv.length, .slice (some ⟨g3, 0, none⟩) sf.length sf.length, .int .i64 r]) ∧
      w'.ownsRow g1 43 2 (.slice (some ⟨g1, 0, none⟩) bl.length bl.length) bl.length (flat bl) ∧ w'.ownsRow g2 39 2 (.slice (some ⟨g2, 0, none⟩) lv.length lv.length) lv.length (flat lv) ∧ w'.ownsRow g3 39 2 (.slice (some ⟨g3, 0, none⟩) sf.length sf.length) sf.length (flat sf)) ∧ Below w.heap.size w w' := by
  go_enter Try.func29, Try.ntmps29
  go_wp2_with fail
  refine (toBlobS_ex _ bl _ (((hu1.alloc _).alloc _).alloc _) hn1).mono ?_
  rintro e w1 ⟨g1, hg1, rfl, hown1, hb1⟩
  simp only [World.size_alloc] at hg1
  have hB1 := below_then (below3 _ _ _ _) hb1
  have X1 := (((Box.new w #[u1, u2, u3, .int .i64 r] 55).alloc (.cells #[.slice none 0 0, .slice none 0 0, .slice none 0 0, .int .i64 0] 26)).alloc (.cells #[.slice none 0 0, .slice none 0 0, .slice none 0 0, .int .i64 0] 26)).below hb1
  have Y1 := ((Box.new (w.alloc (.cells #[u1, u2, u3, .int .i64 r] 55)) #[.slice none 0 0, .slice none 0 0, .slice none 0 0, .int .i64 0] 26).alloc (.cells #[.slice none 0 0, .slice none 0 0, .slice none 0 0, .int .i64 0] 26)).below hb1
  have Z1 := (Box.new ((w.alloc (.cells #[u1, u2, u3, .int .i64 r] 55)).alloc (.cells #[.slice none 0 0, .slice none 0 0, .slice none 0 0, .int .i64 0] 26)) #[.slice none 0 0, .slice none 0 0, .slice none 0 0, .int .i64 0] 26).below hb1
  simp only [World.size_alloc] at Y1 Z1
  clear hb1
  obtain ⟨_, p0, p1, p2, p3⟩ := X1.c4
  obtain ⟨_, q0, q1, q2, q3⟩ := Z1.c4
  have qf := Z1.2.2
  go_wp2_with fail
  have hS1 : Below w.heap.size w (w1.setCell ⟨w.heap.size + 1 + 1, 0, none⟩ (.slice (some ⟨g1, 0, none⟩) bl.length bl.length)) := hB1.setCell (by simp; omega) _
  refine (toNameS_ex _ lv _ (hu2.below hS1) hn2).mono ?_
  rintro e w2 ⟨g2, hg2, rfl, hown2, hb2⟩
  simp only [World.size_setCell] at hg2
  have hB2 := below_then hS1 hb2
  have X2 := (X1.setOther ⟨w.heap.size + 1 + 1, 0, none⟩ (.slice (some ⟨g1, 0, none⟩) bl.length bl.length) (by simp; omega)).below hb2
  have Y2 := (Y1.setOther ⟨w.heap.size + 1 + 1, 0, none⟩ (.slice (some ⟨g1, 0, none⟩) bl.length bl.length) (by simp)).below hb2
  have Z2 := (Z1.set 0 (.slice (some ⟨g1, 0, none⟩) bl.length bl.length) (by simp)).below hb2
  simp only [List.set_cons_zero] at Z2
  have ho1 := owns_below (ownsRow_setCell_below hown1 (a := ⟨w.heap.size + 1 + 1, 0, none⟩) (by simp; omega) (.slice (some ⟨g1, 0, none⟩) bl.length bl.length)) hb2
  have hlt1 := (owns_lt hown1).2
  clear p0 p1 p2 p3 q0 q1 q2 q3 qf X1 Y1 Z1 hb2 hown1
  obtain ⟨_, p0, p1, p2, p3⟩ := X2.c4
  obtain ⟨_, q0, q1, q2, q3⟩ := Z2.c4
  have qf := Z2.2.2
  go_wp2_with fail
  have hS2 : Below w.heap.size w (w2.setCell ⟨w.heap.size + 1 + 1, 1, none⟩ (.slice (some ⟨g2, 0, none⟩) lv.length lv.length)) := hB2.setCell (by simp; omega) _
  refine (toNameS_ex _ sf _ (hu3.below hS2) hn3).mono ?_
  rintro e w3 ⟨g3, hg3, rfl, hown3, hb3⟩
  simp only [World.size_setCell] at hg3
  have hB3 := below_then hS2 hb3
  have X3 := (X2.setOther ⟨w.heap.size + 1 + 1, 1, none⟩ (.slice (some ⟨g2, 0, none⟩) lv.length lv.length) (by simp; omega)).below hb3
  have Y3 := (Y2.setOther ⟨w.heap.size + 1 + 1, 1, none⟩ (.slice (some ⟨g2, 0, none⟩) lv.length lv.length) (by simp)).below hb3
  have Z3 := (Z2.set 1 (.slice (some ⟨g2, 0, none⟩) lv.length lv.length) (by simp)).below hb3
  simp only [List.set_cons_zero, List.set_cons_succ] at Z3
  have ho1' := owns_below (ownsRow_setCell_below ho1 (a := ⟨w.heap.size + 1 + 1, 1, none⟩) (by simp; omega) (.slice (some ⟨g2, 0, none⟩) lv.length lv.length)) hb3
  have ho2' := owns_below (ownsRow_setCell_below hown2 (a := ⟨w.heap.size + 1 + 1, 1, none⟩) (by simp; omega) (.slice (some ⟨g2, 0, none⟩) lv.length lv.length)) hb3
  have hlt2 := (owns_lt hown2).2
  clear p0 p1 p2 p3 q0 q1 q2 q3 qf X2 Y2 Z2 hb3 hown2 ho1
  obtain ⟨_, p0, p1, p2, p3⟩ := X3.c4
  obtain ⟨_, q0, q1, q2, q3⟩ := Z3.c4
  have qf := Z3.2.2
  obtain ⟨_, y0, y1, y2, y3⟩ := Y3.c4
  have yf := Y3.2.2
  go_wp2
  refine bodyPost_ret (v := .agg #[(.slice (some ⟨g1, 0, none⟩) bl.length bl.length), (.slice (some ⟨g2, 0, none⟩) lv.length lv.length), (.slice (some ⟨g3, 0, none⟩) sf.length sf.length), .int .i64 r]) ?_ rfl ⟨⟨g1, g2, g3, by omega, by omega, by omega, rfl, ?_, ?_, ?_⟩, ?_⟩
  · have F := ((((((Y3.setOther ⟨w.heap.size + 1 + 1, 2, none⟩ (.slice (some ⟨g3, 0, none⟩) sf.length sf.length) (by simp)).setOther ⟨w.heap.size + 1 + 1, 3, none⟩ (.int .i64 r) (by simp)).set 0 (.slice (some ⟨g1, 0, none⟩) bl.length bl.length) (by simp)).set 1 (.slice (some ⟨g2, 0, none⟩) lv.length lv.length) (by simp)).set 2 (.slice (some ⟨g3, 0, none⟩) sf.length sf.length) (by simp)).set 3 (.int .i64 r) (by simp))
    simp only [List.set_cons_zero, List.set_cons_succ] at F
    obtain ⟨_, t0, t1, t2, t3⟩ := F.c4
    simp [results, Try.results29, go_sem, t0, t1, t2, t3]
  · iterate 6 (refine ownsRow_setCell_below ?_ (by simp; omega) _)
    exact ho1'
  · iterate 6 (refine ownsRow_setCell_below ?_ (by simp; omega) _)
    exact ho2'
  · iterate 6 (refine ownsRow_setCell_below ?_ (by simp; omega) _)
    exact hown3
  · iterate 6 (refine Below.setCell ?_ (by simp; try omega) _)
    exact hB3
end Go.Proofs.Ytbgemebpfcbloaa

namespace Go.Proofs.Ytbgemebpfcbloaa
open Go.RowKit

def okC (n : Int) : Bool := (decide (97 ≤ n) && decide (n ≤ 122)) || (decide (48 ≤ n) && decide (n ≤ 57)) || decide (n = 46)
def okCs (s : ByteArray) (k : Nat) : Bool := (s.data.toList.take k).all fun c => okC c.toNat
def okN (s : ByteArray) : Bool := okCs s s.size && (decide (1 ≤ (s.size : Int)) && decide ((s.size : Int) ≤ 12))
theorem take_snoc (s : ByteArray) (k : Nat) (h : k < s.size) : s.data.toList.take (k + 1) = s.data.toList.take k ++ [s[k]] := by
  rw [List.take_succ_eq_append_getElem (by simpa using h)]; rfl
theorem okCs_succ (s : ByteArray) (k : Nat) (h : k < s.size) : okCs s (k + 1) = (okCs s k && okC s[k].toNat) := by
  unfold okCs; rw [take_snoc s k h, List.all_append]; simp
theorem okCs_zero (s : ByteArray) : okCs s 0 = true := by simp [okCs]
theorem okCs_false (s : ByteArray) (k : Nat) (h : k < s.size) (hb : okC s[k].toNat = false) : okCs s s.size = false := by
  unfold okCs
  rw [List.take_of_length_le (by simp)]
  rw [List.all_eq_false]
  exact ⟨s[k], by rw [show s[k] = s.data.toList[k]'(by simpa using h) from rfl]; exact List.getElem_mem _, by simp [hb]⟩

def okB (x : ByteArray × Int) : Bool := decide ((x.1.size : Int) ≤ 4000) && (decide (0 ≤ x.2) && decide (x.2 ≤ x.1.size))
def okBs (l : List (ByteArray × Int)) : Bool := l.all okB
theorem okBs_succ (l : List (ByteArray × Int)) (k : Nat) (h : k < l.length) : okBs (l.take (k + 1)) = (okBs (l.take k) && okB l[k]) := by
  unfold okBs; rw [List.take_succ_eq_append_getElem h, List.all_append]; simp
theorem okBs_false (l : List (ByteArray × Int)) (k : Nat) (h : k < l.length) (hb : okB l[k] = false) : okBs l = false := by
  unfold okBs; rw [List.all_eq_false]; exact ⟨l[k], List.getElem_mem _, by simp [hb]⟩

def less (a b : ByteArray) : Bool := Op.bytesLess a.toList b.toList
/-- The k-th name is a file's name with a number of a blob, behind the one ahead of it. -/
def okE (l : List (ByteArray × Int)) (n : Nat) (k : Nat) : Bool :=
  okN (l.getD k default).1 && (decide (0 ≤ (l.getD k default).2) && decide ((l.getD k default).2 ≤ n - 1)) && (decide (k = 0) || less (l.getD (k - 1) default).1 (l.getD k default).1)
def okEs (l : List (ByteArray × Int)) (n : Nat) (k : Nat) : Bool := (List.range k).all (okE l n)
def okNs (l : List (ByteArray × Int)) (n : Nat) : Bool := okEs l n l.length && decide ((l.length : Int) ≤ 20)
theorem okEs_zero (l : List (ByteArray × Int)) (n : Nat) : okEs l n 0 = true := by simp [okEs]
theorem okEs_succ (l : List (ByteArray × Int)) (n : Nat) (k : Nat) : okEs l n (k + 1) = (okEs l n k && okE l n k) := by
  unfold okEs; rw [List.range_succ, List.all_append]; simp
theorem okEs_false (l : List (ByteArray × Int)) (n : Nat) (k : Nat) (h : k < l.length) (hb : okE l n k = false) : okEs l n l.length = false := by
  unfold okEs; rw [List.all_eq_false]; exact ⟨k, by simpa using h, by simp [hb]⟩

/-- A name of the list means blob k. -/
def anyK (l : List (ByteArray × Int)) (k : Nat) : Bool := l.any fun x => x.2 == (k : Int)
theorem anyK_succ (l : List (ByteArray × Int)) (k j : Nat) (h : j < l.length) : anyK (l.take (j + 1)) k = (anyK (l.take j) k || l[j].2 == (k : Int)) := by
  unfold anyK; rw [List.take_succ_eq_append_getElem h, List.any_append]; simp
/-- The bytes of those of the first k blobs that have a name. -/
def usedTo (bl lv sf : List (ByteArray × Int)) : Nat → Nat
  | 0 => 0
  | k + 1 => usedTo bl lv sf k + if anyK lv k || anyK sf k then (bl.getD k default).1.size else 0
def used (bl lv sf : List (ByteArray × Int)) : Nat := usedTo bl lv sf bl.length
theorem usedTo_le (bl lv sf : List (ByteArray × Int)) (k : Nat) (h : k ≤ bl.length) : usedTo bl lv sf k ≤ tot (bl.take k) := by
  induction k with
  | zero => simp [usedTo]
  | succ k ih =>
    have := ih (by omega)
    rw [tot_take_succ bl k (by omega)]
    simp only [usedTo]
    have e : (bl.getD k default).1.size = bl[k].1.size := by simp only [List.getD_eq_getElem?_getD, List.getElem?_eq_getElem (show k < bl.length from by omega), Option.getD_some]
    split <;> omega
theorem tot_take_le (l : List (ByteArray × Int)) (k : Nat) : tot (l.take k) ≤ tot l := by
  induction l generalizing k with
  | nil => simp [tot]
  | cons x r ih => cases k with
    | zero => simp [tot]
    | succ k => simp only [List.take_succ_cons, tot]; have := ih k; omega
def goodD (bl lv sf : List (ByteArray × Int)) (r : Int) : Bool :=
  okBs bl && decide ((bl.length : Int) ≤ 60) && okNs lv bl.length && okNs sf bl.length && (decide (0 ≤ r) && decide (r ≤ 100000)) && decide ((used bl lv sf : Int) ≤ r)

/-- A row of n bools, told by a function. -/
def bools (n : Nat) (f : Nat → Bool) : List Value := (List.range n).map fun i => .bool (f i)
theorem bools_made (n : Nat) : (madeCells (Value.bool false).cells (n * 1)).toList = bools n fun _ => false := by
  rw [show (Value.bool false).cells = #[Value.bool false] from rfl, Nat.mul_one, toList_madeCells_one]
  apply List.ext_getElem <;> simp [bools]
theorem bools_get (n : Nat) (f : Nat → Bool) (i : Nat) (h : i < n) : (bools n f)[i]? = some (.bool (f i)) := by simp [bools, h]
theorem bools_set (n : Nat) (f g : Nat → Bool) (p : Nat) (hp : g p = true) (ho : ∀ i, i < n → i ≠ p → g i = f i) : (bools n f).set p (.bool true) = bools n g := by
  apply List.ext_getElem?
  intro i
  by_cases hi : i < n
  · by_cases h : i = p
    · subst h
      rw [List.getElem?_set_self (by simpa [bools] using hi), bools_get _ _ _ hi, hp]
    · rw [List.getElem?_set_ne (by omega), bools_get _ _ _ hi, bools_get _ _ _ hi, ho i hi h]
  · rw [List.getElem?_eq_none (by simp [bools]; omega), List.getElem?_eq_none (by simp [bools]; omega)]
theorem bools_anyK (n : Nat) (l : List (ByteArray × Int)) (pre : Nat → Bool) (j : Nat) (h : j < l.length) (p : Nat) (hp : (p : Int) = l[j].2) :
    (bools n fun i => pre i || anyK (l.take j) i).set p (.bool true) = bools n fun i => pre i || anyK (l.take (j + 1)) i := by
  apply bools_set
  · rw [anyK_succ l p j h, ← hp]; simp
  · intro i _ hne
    rw [anyK_succ l i j h, ← hp, show ((p : Int) == (i : Int)) = false from by simp; omega]
    simp

theorem okNs_range {l : List (ByteArray × Int)} {n : Nat} (h : okNs l n = true) (i : Nat) (hi : i < l.length) : 0 ≤ l[i].2 ∧ l[i].2 < n := by
  simp only [okNs, Bool.and_eq_true] at h
  have h1 := h.1
  unfold okEs at h1
  rw [List.all_eq_true] at h1
  have h2 := h1 i (by simpa using hi)
  simp only [okE, List.getD_eq_getElem?_getD, List.getElem?_eq_getElem hi, Option.getD_some, Bool.and_eq_true, decide_eq_true_eq] at h2
  omega
end Go.Proofs.Ytbgemebpfcbloaa
