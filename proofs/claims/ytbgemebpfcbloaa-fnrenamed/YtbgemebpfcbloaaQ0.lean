/-
  The library's sort, copy and comparing, laid at this program; names compared; a row of pairs that is sorted; a slice of pairs that is copied.
-/
import Derived.Test.YtbgemebpfcbloaaP3
import Derived.Test.YtbgemebpfcbloaaxV1ToE
import Derived.Shelf.SlSortCmp.WholeK
import Derived.Shelf.SlSortCmp.NoneTotal
import Derived.Shelf.SlicesE.Clone
import Derived.Shelf.Small.Strs
import Derived.Shelf.Lay
import Derived.Shelf.SlGeneric
import Derived.Ground.SlsfProg
import Derived.Ground.SlgnProg
import Derived.Ground.NamesProg
namespace Go.Proofs
open Go.Shelf Go.RowKit Go.Lib Go.Sort
shelf_lay_g SlLaysF0.n6 Slsf 6 at Try 129 as Try.sortNames
shelf_lay_g SlLaysE0.n41 Slgn 41 at Try 103 as Try.cloneBlobs
shelf_lay_g SlLaysE0.n41 Slgn 41 at Try 104 as Try.cloneNames
shelf_lay Lays.n106 Nm 106 at Try as Try.textsCompared
namespace Ytbgemebpfcbloaa
set_option linter.unusedVariables false
set_option maxRecDepth 100000

theorem cmp_less : ∀ (a b : List UInt8), decide (Lib.compareBytes a b < 0) = Op.bytesLess a b
  | [], [] => by simp [Lib.compareBytes, Op.bytesLess]
  | [], _ :: _ => by simp [Lib.compareBytes, Op.bytesLess]
  | _ :: _, [] => by simp [Lib.compareBytes, Op.bytesLess]
  | a :: p, b :: q => by
    have ih := cmp_less p q
    simp only [Lib.compareBytes, Op.bytesLess]
    by_cases h1 : a < b
    · simp [h1]
    · by_cases h2 : b < a
      · have h3 : a ≠ b := fun e => by subst e; exact h1 h2
        simp [h1, h2, h3]
      · have h3 : a = b := by
          apply UInt8.toNat_inj.1
          rw [UInt8.lt_iff_toNat_lt] at h1 h2
          omega
        subst h3
        simp only [h1, if_false, decide_false, Bool.false_or, beq_self_eq_true, Bool.true_and]
        exact ih
/-- A pair's two cells, and how two are compared. -/
def encN (x : ByteArray × Int) : List Value := [.string x.1, .int .i64 x.2]
def cmpN (x y : ByteArray × Int) : Int := Lib.compareBytes x.1.data.toList y.1.data.toList
theorem lt_less (x y : ByteArray × Int) : ltOf cmpN x y = less x.1 y.1 := by
  unfold ltOf cmpN less
  rw [cmp_less, ByteArray.toList_eq, ByteArray.toList_eq]
theorem swoN : SWO (ltOf cmpN) where
  irrefl x := by rw [lt_less, less_irrefl]
  trans x y z h1 h2 := by rw [lt_less] at *; exact less_trans h1 h2
  ntrans x y z h1 h2 := by
    rw [lt_less] at *
    cases h : less x.1 z.1 with
    | false => rfl
    | true =>
      cases h3 : less y.1 x.1 with
      | true => rw [less_trans h3 h] at h2; cases h2
      | false => rw [← less_tri h1 h3, h] at h2; cases h2

set_option maxHeartbeats 1000000 in
theorem byName_any (x y : ByteArray × Int) (W : World) : Calls Try.prog 130 #[.agg #[.string x.1, .int .i64 x.2], .agg #[.string y.1, .int .i64 y.2]] W fun e w' => e = .returned (.int .i64 (cmpN x y)) ∧ ∃ q os', w' = grow (W.drewN q) os' := by
  have hcon := fun W' => Any.strings_Compare Try.textsCompared x.1 y.1 W'
  change ∀ W', Calls Try.prog 137 _ _ _ at hcon
  unfold cmpN
  generalize Lib.compareBytes x.1.data.toList y.1.data.toList = r at hcon ⊢
  go_enter Try.func130, Try.ntmps130
  go_wp2_with (go_at_call 137; refine (hcon _).mono ?_; rintro e w' ⟨rfl, rfl⟩)
  go_ret
  exact ⟨rfl, 0, _, by rw [alloc_eq_grow, alloc_eq_grow, grow_grow]; rfl⟩
theorem cmpLaysN (blk off size : Nat) (w : World) : CmpLays Try.prog 130 #[] encN 2 cmpN blk off size w := fun _ _ _ _ x y => byName_any x y _

theorem flatK_flat (l : List (ByteArray × Int)) : (flatK encN 2 l.toArray).toList = flat l := by
  apply List.ext_getElem?
  intro t
  by_cases ht : t < l.length * 2
  · have h1 : (flatK encN 2 l.toArray)[t]! = (encN l.toArray[t / 2]!)[t % 2]! := get_flatK _ _ _ _ (by simpa using ht)
    have hsz : t < (flatK encN 2 l.toArray).size := by simpa using ht
    rw [getElem!_pos _ t hsz] at h1
    rw [Array.getElem?_toList, Array.getElem?_eq_getElem hsz, h1]
    have hd : t / 2 < l.length := by omega
    have e1 : l.toArray[t / 2]! = l[t / 2] := by rw [getElem!_pos _ _ (by simpa using hd)]; simp
    rw [e1]
    rcases Nat.mod_two_eq_zero_or_one t with h | h
    · have e2 : t = t / 2 * 2 := by omega
      have := flat_get0 l (t / 2) hd
      rw [← e2] at this
      rw [this, h]; rfl
    · have e2 : t = t / 2 * 2 + 1 := by omega
      have := flat_get1 l (t / 2) hd
      rw [← e2] at this
      rw [this, h]; rfl
  · rw [List.getElem?_eq_none (by simp; omega), List.getElem?_eq_none (by rw [flat_length]; omega)]
theorem holdsN {w : World} {base g cap : Nat} {e : TypeId} {l : List (ByteArray × Int)} (h : w.ownsRow base e 2 (.slice (some ⟨g, 0, none⟩) l.length cap) l.length (flat l)) : HoldsK encN 2 w g 0 l.toArray := by
  intro j hj
  have hj' : j < (flatK encN 2 l.toArray).size := hj
  have hj2 : j < l.length * 2 := by simpa using hj'
  refine ⟨?_, by rw [Nat.zero_add]; exact h.frozenAt _⟩
  rw [Nat.zero_add, h.cellAt j (by omega), ← flatK_flat, Array.getElem?_toList, Array.getElem?_eq_getElem hj', getElem!_pos _ j hj']
  rfl
theorem heap_sortedK {w : World} {g n : Nat} {os : Array Obj} {cur : Array Value} {e : TypeId} {fr : Nat × Nat} (F : Array Value) (hb : w.heap[g]? = some (.cells cur e fr)) :
    (grow (putRow id (Sort.ahead w n) g 0 F) os).heap[g]? = some (.cells (putCells id 0 F cur) e fr) := by
  have hg : g < w.heap.size := (Array.getElem?_eq_some_iff.1 hb).1
  rw [heap_grow_old _ _ (by simpa using hg)]
  simp [putRow, mapBlock, Sort.ahead, Array.getElem?_modify, hb, onCells]
theorem grownBy_sortedK {w : World} {g n : Nat} {os : Array Obj} (F : Array Value) : w.grownBy (grow (putRow id (Sort.ahead w n) g 0 F) os) (some g) := by
  refine ⟨rfl, rfl, rfl, by simp, fun k hk hne => ?_⟩
  rw [heap_grow_old _ _ (by simpa using hk)]
  have : g ≠ k := fun e => hne (by rw [e])
  simp [putRow, mapBlock, Sort.ahead, Array.getElem?_modify, this]
theorem ownsRow_sortedK {w : World} {base g cap m n : Nat} {e : TypeId} {os : Array Obj} {ss d : List (ByteArray × Int)} (hl : d.length = ss.length) (h : w.ownsRow base e 2 (.slice (some ⟨g, 0, none⟩) n cap) n (flat ss)) (hn : ss.length = n) :
    (sortWorldK encN 2 w g 0 m d.toArray os).ownsRow base e 2 (.slice (some ⟨g, 0, none⟩) n cap) n (flat d) := by
  rcases h.2 with ⟨h0, _⟩ | ⟨g', cap', cur, hv, hbase, hb, h1, h2, h3, h4⟩
  · simp at h0
  · simp only [Value.slice.injEq, Option.some.injEq, Addr.mk.injEq, and_true, true_and] at hv
    obtain ⟨rfl, rfl⟩ := hv
    refine ⟨by rw [flat_length]; omega, .inr ⟨g, cap, _, rfl, hbase, heap_sortedK _ hb, h1, h2, by simp [putCells, h3], ?_⟩⟩
    have hF : (flatK encN 2 d.toArray).size = n * 2 := by simp [hl, hn]
    apply List.ext_getElem?
    intro j
    by_cases hj : j < n * 2
    · have hjc : j < cur.size := by rw [h3]; have := Nat.mul_le_mul_right 2 h1; omega
      rw [List.getElem?_take_of_lt hj, Array.getElem?_toList, ← flatK_flat, Array.getElem?_toList, Array.getElem?_eq_getElem (show j < (flatK encN 2 d.toArray).size from by omega)]
      simp only [putCells, Array.getElem?_mapIdx, Array.getElem?_eq_getElem hjc, Option.map_some, Nat.zero_le, true_and, Nat.zero_add, Nat.sub_zero]
      rw [if_pos (by omega), getElem!_pos _ j (by omega)]
      rfl
    · rw [List.getElem?_take_eq_none (by omega), List.getElem?_eq_none (by rw [flat_length]; omega)]

/-- A slice of pairs with its address. -/
def PX (w : World) (v : Value) (l : List (ByteArray × Int)) : Prop := PL w v l ∧ ((∃ c, v = .slice none l.length c) ∨ ∃ b off c, v = .slice (some ⟨b, off, none⟩) l.length c)
theorem PX.below {w w' : World} {v : Value} {l : List (ByteArray × Int)} (h : PX w v l) (hb : Below w.heap.size w w') : PX w' v l := ⟨h.1.below hb, h.2⟩
theorem PX.alloc {w : World} {v : Value} {l : List (ByteArray × Int)} (h : PX w v l) (o : Obj) : PX (w.alloc o) v l := h.below (below_alloc _ _)
theorem PX_of_owns {w : World} {base : Nat} {e : TypeId} {v : Value} {l : List (ByteArray × Int)} (h : w.ownsRow base e 2 v l.length (flat l)) : PX w v l := by
  refine ⟨PL_of_owns h, ?_⟩
  rcases h.2 with ⟨rfl, h0⟩ | ⟨g, cap, cur, rfl, _⟩
  · exact .inl ⟨0, by rw [h0]⟩
  · exact .inr ⟨g, 0, cap, rfl⟩

theorem flat_one (l : List (ByteArray × Int)) : ∀ u ∈ flat l, u.oneCell' = true := by
  induction l with
  | nil => intro u hu; simp [flat] at hu
  | cons x r ih =>
    intro u hu
    simp only [flat, List.mem_cons] at hu
    rcases hu with rfl | rfl | hu
    · rfl
    · rfl
    · exact ih u hu
theorem PL_flat {w : World} {b off c : Nat} {l : List (ByteArray × Int)} (h : PL w (.slice (some ⟨b, off, none⟩) l.length c) l) : ∀ j u, (flat l)[j]? = some u → w.cell? ⟨b, off + j, none⟩ = some u := by
  intro j u hj
  have hlt : j < l.length * 2 := by rw [← flat_length]; exact (List.getElem?_eq_some_iff.1 hj).1
  obtain ⟨a, cap, hv, hc⟩ := h
  have hl : l ≠ [] := fun e => by subst e; simp at hlt
  obtain ⟨b', off', ha, _, hcell⟩ := hc hl
  simp only [Value.slice.injEq, true_and] at hv
  rw [ha] at hv
  simp only [Option.some.injEq, Addr.mk.injEq, and_true] at hv
  obtain ⟨⟨rfl, rfl⟩, _⟩ := hv
  have hd : j / 2 < l.length := by omega
  rcases Nat.mod_two_eq_zero_or_one j with h | h
  · have e2 : j = j / 2 * 2 := by omega
    have := flat_get0 l (j / 2) hd
    rw [← e2, hj] at this
    rw [e2, (hcell (j / 2) hd).1, ← this]
  · have e2 : j = j / 2 * 2 + 1 := by omega
    have := flat_get1 l (j / 2) hd
    rw [← e2, hj] at this
    have hc1 := (hcell (j / 2) hd).2
    rw [Nat.add_assoc, ← e2] at hc1
    rw [hc1, ← this]
theorem cloneBlobs_any (v : Value) (l : List (ByteArray × Int)) (w : World) (h : PX w v l) (hn : l.length ≤ 1048576) : Calls Try.prog 103 #[v] w fun e w' => ∃ u, e = .returned u ∧ w'.ownsRow w.heap.size 43 2 u l.length (flat l) ∧ Below w.heap.size w w' := by
  obtain ⟨i0, hi, hz0, hzs, hzb⟩ := info_parts Try.info43
  rcases h.2 with ⟨c, rfl⟩ | ⟨b, off, c, rfl⟩
  · have h0 : l = [] := by
      obtain ⟨a, cap, hv, hc⟩ := h.1
      cases l with
      | nil => rfl
      | cons x r =>
        obtain ⟨b', off', ha, _⟩ := hc (by simp)
        simp only [Value.slice.injEq] at hv
        rw [ha] at hv; cases hv.1
    subst h0
    have hcon := AnyE.slices_Clone_nil Try.cloneBlobs 0 c w
    change Calls Try.prog 103 _ _ _ at hcon
    exact hcon.mono fun e w' ⟨he, hw⟩ => ⟨_, he, by rw [hw]; exact World.ownsRow_nil _ _ _ _, by rw [hw]; exact Below.refl _ _⟩
  · have hcon := AnyE.slices_Clone Try.cloneBlobs i0 (.agg #[.string ⟨#[]⟩, .int .i64 0]) 2 24 hi hz0 hzs hzb rfl (by decide) Try.sizeOf43 b off l.length c (flat l) w (flat_length l) (by unfold maxLen; omega) (by omega) (PL_flat h.1) (flat_one l)
    change Calls Try.prog 103 _ _ _ at hcon
    exact hcon.mono fun e w' ⟨u, he, ho, _, hb⟩ => ⟨u, he, ho, hb⟩
theorem cloneNames_any (v : Value) (l : List (ByteArray × Int)) (w : World) (h : PX w v l) (hn : l.length ≤ 1048576) : Calls Try.prog 104 #[v] w fun e w' => ∃ u, e = .returned u ∧ w'.ownsRow w.heap.size 39 2 u l.length (flat l) ∧ Below w.heap.size w w' := by
  obtain ⟨i0, hi, hz0, hzs, hzb⟩ := info_parts Try.info39
  rcases h.2 with ⟨c, rfl⟩ | ⟨b, off, c, rfl⟩
  · have h0 : l = [] := by
      obtain ⟨a, cap, hv, hc⟩ := h.1
      cases l with
      | nil => rfl
      | cons x r =>
        obtain ⟨b', off', ha, _⟩ := hc (by simp)
        simp only [Value.slice.injEq] at hv
        rw [ha] at hv; cases hv.1
    subst h0
    have hcon := AnyE.slices_Clone_nil Try.cloneNames 0 c w
    change Calls Try.prog 104 _ _ _ at hcon
    exact hcon.mono fun e w' ⟨he, hw⟩ => ⟨_, he, by rw [hw]; exact World.ownsRow_nil _ _ _ _, by rw [hw]; exact Below.refl _ _⟩
  · have hcon := AnyE.slices_Clone Try.cloneNames i0 (.agg #[.string ⟨#[]⟩, .int .i64 0]) 2 24 hi hz0 hzs hzb rfl (by decide) Try.sizeOf39 b off l.length c (flat l) w (flat_length l) (by unfold maxLen; omega) (by omega) (PL_flat h.1) (flat_one l)
    change Calls Try.prog 104 _ _ _ at hcon
    exact hcon.mono fun e w' ⟨u, he, ho, _, hb⟩ => ⟨u, he, ho, hb⟩
end Ytbgemebpfcbloaa
end Go.Proofs
