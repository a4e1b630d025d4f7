/-
  impl.fileSet.rising: what the map has, as a rising list, whatever order it is gone through.
-/
import Derived.Test.YtenbdjlhcadhaaaGreatAP1
import Derived.Shelf.SlSortCmp.WholeK
import Derived.Shelf.SlSortCmp.NoneTotal
import Derived.Shelf.Lay
import Derived.Shelf.SlGeneric
import Derived.Ground.SlsfProg
import Derived.Maps.RangeWalk
import Derived.Sort.KeysCollected
import Derived.Sort.OwnSorted
namespace Go.Proofs
open Go.Shelf Go.RowKit Go.Lib Go.Sort
shelf_lay_g SlLaysF0.n6 Slsf 6 at Tryz 76 as Tryz.sortMetas
namespace YtenbdjlhcadhaaaGreat
open Go.Maps
set_option linter.unusedVariables false
set_option maxRecDepth 100000

/-- A meta whose number is small. -/
structure Bm where
  m : Mt
  h : 0 ≤ m.n ∧ m.n ≤ 1000000
instance : Inhabited Bm := ⟨⟨Mt.zero, by simp [Mt.zero]⟩⟩
theorem bm_of (l : List Mt) (h : ∀ x ∈ l, 0 ≤ x.n ∧ x.n ≤ 1000000) : ∃ lb : List Bm, lb.map (·.m) = l := by
  induction l with
  | nil => exact ⟨[], rfl⟩
  | cons x r ih =>
    obtain ⟨lb, hlb⟩ := ih fun y hy => h y (by simp [hy])
    exact ⟨⟨x, h x (by simp)⟩ :: lb, by simp [hlb]⟩
def encB (x : Bm) : List Value := [.int .i64 x.m.n, .int .i64 x.m.d, .string x.m.k, .string x.m.v]
def cmpB (x y : Bm) : Int := x.m.n - y.m.n
theorem lt_num (x y : Bm) : ltOf cmpB x y = decide (x.m.n < y.m.n) := by
  unfold ltOf cmpB
  rw [Bool.eq_iff_iff]
  simp only [decide_eq_true_eq]
  omega
theorem swoB : SWO (ltOf cmpB) where
  irrefl x := by rw [lt_num]; simp
  trans x y z h1 h2 := by rw [lt_num, decide_eq_true_eq] at *; omega
  ntrans x y z h1 h2 := by
    rw [lt_num, decide_eq_false_iff_not] at *
    omega

set_option maxHeartbeats 1000000 in
theorem byNumber_any (x y : Bm) (W : World) : Calls Tryz.prog 77 #[.agg #[.int .i64 x.m.n, .int .i64 x.m.d, .string x.m.k, .string x.m.v], .agg #[.int .i64 y.m.n, .int .i64 y.m.d, .string y.m.k, .string y.m.v]] W fun e w' => e = .returned (.int .i64 (cmpB x y)) ∧ ∃ q os', w' = grow (W.drewN q) os' := by
  obtain ⟨⟨xn, xd, xk, xv⟩, hx⟩ := x
  obtain ⟨⟨yn, yd, yk, yv⟩, hy⟩ := y
  unfold cmpB
  dsimp only at *
  go_enter Tryz.func77, Tryz.ntmps77
  go_wp2
  go_ret
  have hw : wrap64 (xn - yn) = xn - yn := by unfold wrap64; omega
  exact ⟨by show Ending.returned (.int .i64 (wrap64 (xn - yn))) = _; rw [hw], 0, _, by rw [alloc_eq_grow, alloc_eq_grow, grow_grow]; rfl⟩
theorem cmpLaysB (blk off size : Nat) (w : World) : CmpLays Tryz.prog 77 #[] encB 4 cmpB blk off size w := fun _ _ _ _ x y => byNumber_any x y _

theorem flatK_flat4 (l : List Bm) : (flatK encB 4 l.toArray).toList = flat4 (l.map (·.m)) := by
  apply List.ext_getElem?
  intro t
  have hlm : (l.map (·.m)).length = l.length := List.length_map _
  by_cases ht : t < l.length * 4
  · have h1 : (flatK encB 4 l.toArray)[t]! = (encB l.toArray[t / 4]!)[t % 4]! := get_flatK _ _ _ _ (by simpa using ht)
    have hsz : t < (flatK encB 4 l.toArray).size := by simpa using ht
    rw [getElem!_pos _ t hsz] at h1
    rw [Array.getElem?_toList, Array.getElem?_eq_getElem hsz, h1]
    have hd : t / 4 < l.length := by omega
    have e1 : l.toArray[t / 4]! = l[t / 4] := by rw [getElem!_pos _ _ (by simpa using hd)]; simp
    rw [e1]
    obtain ⟨g0, g1, g2, g3⟩ := flat4_get (l.map (·.m)) (t / 4) (by omega)
    simp only [List.getElem_map] at g0 g1 g2 g3
    obtain h | h | h | h : t % 4 = 0 ∨ t % 4 = 1 ∨ t % 4 = 2 ∨ t % 4 = 3 := by omega
    · have e2 : t = t / 4 * 4 := by omega
      rw [← e2] at g0; rw [g0, h]; rfl
    · have e2 : t = t / 4 * 4 + 1 := by omega
      rw [← e2] at g1; rw [g1, h]; rfl
    · have e2 : t = t / 4 * 4 + 2 := by omega
      rw [← e2] at g2; rw [g2, h]; rfl
    · have e2 : t = t / 4 * 4 + 3 := by omega
      rw [← e2] at g3; rw [g3, h]; rfl
  · rw [List.getElem?_eq_none (by simp; omega), List.getElem?_eq_none (by rw [flat4_length]; omega)]
theorem holdsB {w : World} {base g cap : Nat} {e : TypeId} {l : List Bm} (h : w.ownsRow base e 4 (.slice (some ⟨g, 0, none⟩) l.length cap) l.length (flat4 (l.map (·.m)))) : HoldsK encB 4 w g 0 l.toArray := by
  intro j hj
  have hj' : j < (flatK encB 4 l.toArray).size := hj
  have hj2 : j < l.length * 4 := by simpa using hj'
  refine ⟨?_, by rw [Nat.zero_add]; exact h.frozenAt _⟩
  rw [Nat.zero_add, h.cellAt j (by omega), ← flatK_flat4, Array.getElem?_toList, Array.getElem?_eq_getElem hj', getElem!_pos _ j hj']
  rfl
theorem heap_sortedK {w : World} {g n : Nat} {os : Array Obj} {cur : Array Value} {e : TypeId} {fr : Nat × Nat} (F : Array Value) (hb : w.heap[g]? = some (.cells cur e fr)) :
    (grow (putRow id (Sort.ahead w n) g 0 F) os).heap[g]? = some (.cells (putCells id 0 F cur) e fr) := by
  have hg : g < w.heap.size := (Array.getElem?_eq_some_iff.1 hb).1
  rw [heap_grow_old _ _ (by simpa using hg)]
  simp [putRow, mapBlock, Sort.ahead, Array.getElem?_modify, hb, onCells]
theorem grownBy_sortedK {w : World} {g n : Nat} {os : Array Obj} (F : Array Value) : w.grownBy (grow (putRow id (Sort.ahead w n) g 0 F) os) (some g) := by
  refine ⟨rfl, rfl, rfl, by simp, fun k hk hne => ?_⟩
  rw [heap_grow_old _ _ (by simpa using hk)]
  have : g ≠ k := fun e => hne (by rw [e])
  simp [putRow, mapBlock, Sort.ahead, Array.getElem?_modify, this]
theorem ownsRow_sortedK {w : World} {base g cap m n : Nat} {e : TypeId} {os : Array Obj} {ss d : List Bm} (hl : d.length = ss.length) (h : w.ownsRow base e 4 (.slice (some ⟨g, 0, none⟩) n cap) n (flat4 (ss.map (·.m)))) (hn : ss.length = n) :
    (sortWorldK encB 4 w g 0 m d.toArray os).ownsRow base e 4 (.slice (some ⟨g, 0, none⟩) n cap) n (flat4 (d.map (·.m))) := by
  rcases h.2 with ⟨h0, _⟩ | ⟨g', cap', cur, hv, hbase, hb, h1, h2, h3, h4⟩
  · simp at h0
  · simp only [Value.slice.injEq, Option.some.injEq, Addr.mk.injEq, and_true, true_and] at hv
    obtain ⟨rfl, rfl⟩ := hv
    refine ⟨by rw [flat4_length, List.length_map]; omega, .inr ⟨g, cap, _, rfl, hbase, heap_sortedK _ hb, h1, h2, by simp [putCells, h3], ?_⟩⟩
    have hF : (flatK encB 4 d.toArray).size = n * 4 := by simp [hl, hn]
    apply List.ext_getElem?
    intro j
    by_cases hj : j < n * 4
    · have hjc : j < cur.size := by rw [h3]; have := Nat.mul_le_mul_right 4 h1; omega
      rw [List.getElem?_take_of_lt hj, Array.getElem?_toList, ← flatK_flat4, Array.getElem?_toList, Array.getElem?_eq_getElem (show j < (flatK encB 4 d.toArray).size from by omega)]
      simp only [putCells, Array.getElem?_mapIdx, Array.getElem?_eq_getElem hjc, Option.map_some, Nat.zero_le, true_and, Nat.zero_add, Nat.sub_zero]
      rw [if_pos (by omega), getElem!_pos _ j (by omega)]
      rfl
    · rw [List.getElem?_take_eq_none (by omega), List.getElem?_eq_none (by rw [flat4_length, List.length_map]; omega)]

/-- Two rising lists that have the same are the same. -/
theorem rise_ext : ∀ {a b : List Mt}, a.Pairwise (fun x y => x.n < y.n) → b.Pairwise (fun x y => x.n < y.n) → (∀ x, x ∈ a ↔ x ∈ b) → a = b
  | [], [], _, _, _ => rfl
  | [], y :: r, _, _, h => by have := (h y).2 (by simp); simp at this
  | x :: r, [], _, _, h => by have := (h x).1 (by simp); simp at this
  | x :: r, y :: s, ha, hb, h => by
    rw [List.pairwise_cons] at ha hb
    have hxy : x = y := by
      rcases List.mem_cons.1 ((h x).1 (by simp)) with e | e
      · exact e
      · rcases List.mem_cons.1 ((h y).2 (by simp)) with e' | e'
        · exact e'.symm
        · have h1 := hb.1 x e; have h2 := ha.1 y e'; omega
    subst hxy
    rw [rise_ext ha.2 hb.2 fun z => ?_]
    have hz := h z
    rw [List.mem_cons, List.mem_cons] at hz
    constructor
    · intro hzr
      rcases hz.1 (.inr hzr) with e | e
      · subst e; have := ha.1 z hzr; omega
      · exact e
    · intro hzs
      rcases hz.2 (.inr hzs) with e | e
      · subst e; have := hb.1 z hzs; omega
      · exact e

theorem keyN_same (n : Int) : (keyN n).sameKey (keyN n) = true := by simp [keyN, Lit.sameKey]
/-- What was met so far, going through the map. -/
def CollM (D : DataW Unit) (left : Lit → Bool) (ss : List Mt) : Prop :=
  (ss.Pairwise fun x y => x.n ≠ y.n) ∧ ∀ x, x ∈ ss ↔ (Maps.has D (keyN x.n) = true ∧ left (keyN x.n) = false ∧ ∀ z, D.atKey (keyN x.n) z = mtD x)
theorem collM_start (D : DataW Unit) : CollM D (Maps.has D) [] := ⟨List.Pairwise.nil, fun x => ⟨fun h => by simp at h, fun h => by rw [h.1] at h; simp at h⟩⟩
theorem collM_step {D : DataW Unit} {left : Lit → Bool} {ss : List Mt} (h : CollM D left ss) (n : Int) (m : Mt) (hn : m.n = n) (hl : left (keyN n) = true) (hat : ∀ z, D.atKey (keyN n) z = mtD m) :
    CollM D (fun z => left z && !z.sameKey (keyN n)) (ss ++ [m]) := by
  subst hn
  have hnot : ∀ x ∈ ss, x.n ≠ m.n := fun x hx e => by have := ((h.2 x).1 hx).2.1; rw [e, hl] at this; cases this
  refine ⟨List.pairwise_append.2 ⟨h.1, List.pairwise_singleton _ _, fun x hx y hy e => ?_⟩, fun x => ?_⟩
  · simp only [List.mem_singleton] at hy
    subst hy
    exact hnot x hx e
  · rw [List.mem_append, List.mem_singleton]
    show _ ↔ (_ ∧ (left (keyN x.n) && !(keyN x.n).sameKey (keyN m.n)) = false ∧ _)
    by_cases e : x.n = m.n
    · rw [e, keyN_same]
      constructor
      · rintro (hm | rfl)
        · exact absurd e (hnot x hm)
        · exact ⟨has_true_of_atKey hat, by simp, hat⟩
      · rintro ⟨_, _, ha⟩
        exact .inr (mtD_inj ((ha (mtD m)).symm.trans (hat (mtD m))))
    · have hk : (keyN x.n).sameKey (keyN m.n) = false := sameKey_ne fun e' => e (keyN_inj e')
      rw [hk, Bool.not_false, Bool.and_true]
      constructor
      · rintro (hm | rfl)
        · exact (h.2 x).1 hm
        · exact absurd rfl e
      · intro hm; exact .inl ((h.2 x).2 hm)
theorem collM_end {D : DataW Unit} {left : Lit → Bool} {ss l : List Mt} (h : CollM D left ss) (hm : Means D l) (hl : ∀ kl, left kl = false) (x : Mt) : x ∈ ss ↔ x ∈ l := by
  obtain ⟨h1, h2, h3, h4⟩ := hm
  rw [h.2 x]
  constructor
  · rintro ⟨ha, _, hb⟩
    rw [h3, List.any_eq_true] at ha
    obtain ⟨y, hy, he⟩ := ha
    rw [beq_iff_eq] at he
    have := h4 y hy (mtD x)
    rw [he] at this
    rw [mtD_inj ((hb (mtD x)).symm.trans this)]; exact hy
  · intro hx
    exact ⟨by rw [h3, List.any_eq_true]; exact ⟨x, hx, by simp⟩, hl _, h4 x hx⟩

theorem mtV_inj {a b : Mt} (h : mtV a = mtV b) : a = b := by
  unfold mtV at h
  obtain ⟨an, ad, ak, av⟩ := a
  obtain ⟨bn, bd, bk, bv⟩ := b
  simp at h
  obtain ⟨rfl, rfl, rfl, rfl⟩ := h
  rfl
theorem four_new2 (W : World) (o : Obj) (n d : Int) (k v : ByteArray) : ∀ j u, [Value.int .i64 n, .int .i64 d, .string k, .string v][j]? = some u → ((W.alloc o).alloc (.cells #[.int .i64 n, .int .i64 d, .string k, .string v] 71)).cell? ((⟨W.heap.size + 1, 0, none⟩ : Addr).add j) = some u := by
  intro j u h
  have := four_new (W.alloc o) n d k v j u h
  simpa using this
set_option maxHeartbeats 4000000 in
theorem rising_any (b n : Nat) (D : DataW Unit) (l S : List Mt) (w : World) (hown : w.ownsMap Tryz.prog 3 mtE b n D) (hm : Means D l) (hb : ∀ x ∈ l, 0 ≤ x.n ∧ x.n ≤ 1000000) (hS : S.Pairwise fun x y => x.n < y.n) (hSm : ∀ x, x ∈ S ↔ x ∈ l) (hn : n ≤ 1048576) :
    Calls Tryz.prog 48 #[.map (some b)] w fun e w' => ∃ u, e = .returned u ∧ w'.ownsRow w.heap.size 71 4 u S.length (flat4 S) ∧ Below w.heap.size w w' := by
  obtain ⟨i0, hi, hz0, hzs, hzb⟩ := info_parts Tryz.info71
  have hbl := hown.lt
  have hsz := hown.size_le
  have HM : Hid (Means D l) := hm
  have HB : Hid (∀ x ∈ l, 0 ≤ x.n ∧ x.n ≤ 1000000) := hb
  have HS : Hid (S.Pairwise (fun x y => x.n < y.n) ∧ ∀ x, x ∈ S ↔ x ∈ l) := ⟨hS, hSm⟩
  clear hm hb hS hSm
  go_enter Tryz.func48, Tryz.ntmps48
  go_wp2_with (at_range; refine wpList_range_own _ rfl _ 76 rfl 3 71 law3 Tryz.underlying76 _ b n _ rfl hown ?_; intro w0 hrg0 hg0 hs0)
  go_frame
  go_loopw [3] (fun v wr => ∃ (left : Lit → Bool) (cnt : Nat) (ss : List Mt), wr.ranges Tryz.prog 3 mtE b w.heap.size n D left cnt ∧ ss.length + cnt ≤ Maps.size D ∧
      wr.ownsRow w.heap.size 71 4 v ss.length (flat4 ss) ∧ CollM D left ss ∧ Below w.heap.size w wr)
    (fun _ wr => wr.rangeLeft b w.heap.size)
  case atStart =>
    exact ⟨_, _, [], hrg0, by simp, World.ownsRow_nil _ _ _ _, collM_start D, (Below.refl _ _).grown hg0 (Nat.le_refl _) (fun j hj => by cases hj)⟩
  case round =>
    obtain ⟨left, cnt, ss, hrg, hcs, hrow, hC, hnx⟩ := hrel
    have HC : Hid (CollM D left ss) := hC
    clear hC
    go_wp2_with (at_next; refine wpList_next_ranges _ rfl _ rfl 3 law3 mtE (Value.int .i64) mtV (fun key kl hk => by obtain ⟨x, hx, _⟩ := Maps.keyOf_int_inv Tryz.underlying3 hk; exact ⟨x, hx⟩) (fun v y hv => by obtain ⟨c, rfl, _⟩ := mtE_inv hv; exact ⟨c, rfl⟩) b w.heap.size n _ _ _ rfl hrg ?_ ?_)
    · intro hc0 hl0
      have HE : Hid (∀ x, x ∈ ss ↔ x ∈ l) := fun x => collM_end HC.out HM.out hl0 x
      have HP : Hid (ss.Pairwise fun x y => x.n ≠ y.n) := HC.out.1
      clear HC HM hl0
      rcases hrow.2 with ⟨rfl, h0⟩ | ⟨g, cap, cur, rfl, hbase, hb, h1, h2, h3, h4⟩
      · have hs0 : ss = [] := List.length_eq_zero_iff.1 h0
        have hl0 : S = [] := by
          cases S with
          | nil => rfl
          | cons x r => have := (HE.out x).2 ((HS.out.2 x).1 (by simp)); rw [hs0] at this; simp at this
        subst hl0
        have hcon := fun w => AnyF.slices_SortFunc_none Tryz.sortMetas none 0 (.func (.func 77) #[] #[]) w
        change ∀ w, Calls Tryz.prog 76 _ _ _ at hcon
        clear hrow
        go_wp2_with fail
        refine (hcon _).mono ?_
        rintro e w' ⟨rfl, rfl⟩
        go_wp2
        go_ret
        exact ⟨_, rfl, World.ownsRow_nil _ _ _ _, hnx⟩
      · have eg : ∀ args w, (callFunc 77 args).run Tryz.prog w = .ok (.enter 77 args) w := enters_of Tryz.func77 (by kernel_rfl) rfl
        obtain ⟨sb, hsb⟩ := bm_of ss (fun x hx => HB.out x ((HE.out x).1 hx))
        have hsl : ss.length = sb.length := by rw [← hsb, List.length_map]
        have hrow2 : wr.ownsRow w.heap.size 71 4 (.slice (some ⟨g, 0, none⟩) sb.length cap) sb.length (flat4 (sb.map (·.m))) := by rw [hsb, ← hsl]; exact hrow
        have hcon := AnyQ.slices_SortFunc Tryz.sortMetas 4 Tryz.isAgg71 Tryz.sizeOf71 encB (fun _ => rfl) (fun x v hv => by simp [encB] at hv; rcases hv with rfl | rfl | rfl | rfl <;> rfl) cmpB swoB 77 #[] g 0 cap sb.toArray wr eg (cmpLaysB g 0 _ wr) (holdsB hrow2) (Array.getElem?_eq_some_iff.1 hb).1 (by simp; omega)
        change Calls Tryz.prog 76 _ _ _ at hcon
        simp only [List.size_toArray] at hcon
        rw [← hsl] at hcon
        have HROW : Hid _ := hrow2
        have HSB : Hid (sb.map (·.m) = ss) := hsb
        have HSL : Hid (ss.length = sb.length) := hsl
        clear hsl hrow hb h1 h2 h3 h4 cur hrow2 hsb
        go_wp2_with fail
        refine hcon.mono ?_
        rintro e w' ⟨rfl, d', m, os, hp, hs, rfl⟩
        have hsl := HSL.out
        have hdz : d'.size = sb.length := by simpa using hp.1
        have hperm : (d'.toList.map (·.m)).Perm ss := by
          have h2 : d'.toList.length = sb.length := by rw [Array.length_toList]; exact hdz
          have h4 : (List.take sb.length d'.toList).Perm sb := by simpa [hp.1, hsl] using hp.2.2
          rw [List.take_of_length_le (by omega)] at h4
          rw [← HSB.out]; exact h4.map _
        have hdl : d'.toList.map (·.m) = S := by
          refine rise_ext ?_ HS.out.1 fun x => (hperm.mem_iff).trans ((HE.out x).trans (HS.out.2 x).symm)
          have hne : (d'.toList.map (·.m)).Pairwise fun x y => x.n ≠ y.n := (hperm.pairwise_iff (fun {x y} h e => h e.symm)).2 HP.out
          rw [List.pairwise_iff_getElem] at hne ⊢
          intro i j hi hj hij
          have h1 := hne i j hi hj hij
          simp only [List.length_map, Array.length_toList] at hi hj
          have h2 := hs i j (Nat.zero_le _) hij (by omega)
          rw [lt_num, decide_eq_false_iff_not, getElem!_pos d' j hj, getElem!_pos d' i hi] at h2
          simp only [List.getElem_map, Array.getElem_toList] at h1 ⊢
          omega
        have hlen : S.length = ss.length := by rw [← hdl, List.length_map, Array.length_toList, hdz, hsl]
        have hO := ownsRow_sortedK (m := m) (os := os) (d := d'.toList) (by rw [Array.length_toList]; exact hdz) HROW.out rfl
        have hG : wr.grownBy (sortWorldK encB 4 wr g 0 m d' os) (some g) := grownBy_sortedK _
        rw [hdl] at hO
        have hO2 : (sortWorldK encB 4 wr g 0 m d' os).ownsRow w.heap.size 71 4 (.slice (some ⟨g, 0, none⟩) ss.length cap) S.length (flat4 S) := by rw [hlen, hsl]; exact hO
        generalize sortWorldK encB 4 wr g 0 m d' os = w3 at *
        clear HROW hcon hp hs HP HE HSB HSL hsl hO hperm hdl hlen hdz
        go_wp2
        go_ret
        exact ⟨_, rfl, hO2, hnx.grown hG hnx.size (fun j hj => by cases hj; exact hbase)⟩
    · intro x c kl yd yp w2 cnt2 hkey hlk hv hat hrg2 hlt hg2 hs2 hen
      obtain ⟨x', ex, rfl, _⟩ := Maps.keyOf_int_inv Tryz.underlying3 hkey
      obtain rfl : x = x' := by injection ex
      obtain ⟨c', ec, hy⟩ := mtE_inv hv
      obtain rfl : c = c' := mtV_inj ec
      simp only [Prod.mk.injEq] at hy
      obtain ⟨rfl, rfl⟩ := hy
      have hcn : c.n = x := by
        have h1 : Maps.has D (keyN x) = true := has_true_of_atKey hat
        rw [HM.out.2.2.1 x, List.any_eq_true] at h1
        obtain ⟨y, hy, he⟩ := h1
        rw [beq_iff_eq] at he
        have h2 := HM.out.2.2.2 y hy (mtD c)
        rw [he] at h2
        have h3 := mtD_inj ((hat (mtD c)).symm.trans h2)
        rw [h3]; exact he
      have HN : Hid (CollM D (fun z => left z && !z.sameKey (keyN x)) (ss ++ [c])) := collM_step HC.out x c hcn hlk hat
      have hrow2 := hrow.kept hg2 (Or.inr (row_ne_iter hrow hrg).symm)
      have hfl : Hid (flat4 (ss ++ [c]) = flat4 ss ++ [.int .i64 c.n, .int .i64 c.d, .string c.k, .string c.v]) := by show _ = _; rw [flat4_append]; rfl
      have hz2 := hnx.size
      have hz3 := hg2.size
      have hB2 := hnx.grown hg2 hnx.size (fun j hj => by cases hj; exact Nat.le_refl _)
      clear hs2 ex hkey hv hlk hat HC hrow hcn ec
      unfold mtV at *
      obtain ⟨cn, cd, ck, cv⟩ := c
      dsimp only at *
      go_wp2_with (at_builtin; refine wpList_append_own _ rfl _ _ 24 rfl w.heap.size 71 i0 (.agg #[.int .i64 0, .int .i64 0, .string ⟨#[]⟩, .string ⟨#[]⟩]) 4 48 Tryz.underlying24 hi hz0 hzs hzb rfl (by decide) _ ss.length (flat4 ss) rfl ((hrow2.alloc _).alloc _) ⟨w2.heap.size + 1, 0, none⟩ 1 1 [.int .i64 cn, .int .i64 cd, .string ck, .string cv] rfl rfl (four_new2 _ _ cn cd ck cv) (flat4_ones cn cd ck cv) (by unfold maxLen; omega) (by omega) (by simp; omega) ?_; intro v' w3 hown' hg3 hnil3; go_frame)
      have hrg3 := ((hrg2.alloc _).alloc _).kept hg3 (row_ne_low hrow2 hbl) (row_ne_iter hrow2 hrg2)
      go_roundw
      case rel =>
        refine ⟨_, cnt2, ss ++ [⟨cn, cd, ck, cv⟩], hrg3, by simp; omega, ?_, (by have h := HN.out; unfold keyN at h; exact h), ?_⟩
        · rw [hfl.out, List.length_append]; exact hown'
        · exact ((hB2.alloc (by omega) _).alloc (by simp; omega) _).grown hg3 (by simp; omega) (fun j hj => (hrow2.lt j hj).1)
      case measure => rw [hrg3.left_eq, hrg.left_eq]; exact hlt
end YtenbdjlhcadhaaaGreat
end Go.Proofs
