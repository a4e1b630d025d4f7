/-
  CommittedIn: both sides.
-/
import Derived.Test.YtoaponagdfgfeaaC1
namespace Go.Proofs.Ytoaponagdfgfeaa
open Go.RowKit Go.Maps
set_option linter.unusedVariables false
set_option maxRecDepth 100000

def commN (g : Bool) (co : Int) (log : List En) : List En := if g then log.take co.toNat else []
theorem commN_le (g : Bool) (co : Int) (log : List En) : (commN g co log).length ≤ log.length := by
  unfold commN
  cases g
  · simp
  · rw [if_pos rfl, List.length_take]; omega
theorem owns_cap {w : World} {base : Nat} {e : TypeId} {size n m c : Nat} {a : Option Addr} {xs : List Value} (h : w.ownsRow base e size (.slice a m c) n xs) : n ≤ c ∧ m = n := by
  rcases h.2 with ⟨h1, h0⟩ | ⟨g, cap, cur, h1, _, _, hcap, _⟩
  · simp at h1; omega
  · simp at h1; omega
theorem goodN_co {id pe te vo co ro : Int} {log : List En} {vs mt : List Int} (h : goodN id pe te vo co ro log vs mt = true) : 0 ≤ co ∧ co ≤ (log.length : Int) := by
  rw [goodN_spec] at h
  simp [inB] at h
  omega
theorem Nn.sl {a : Option Addr} {n c m : Nat} (h : Nn (.slice a n c)) (hm : m ≤ c) : Nn (.slice a m c) := by
  intro x y he
  simp only [Value.slice.injEq] at he
  obtain ⟨rfl, rfl, rfl⟩ := he
  have := (h _ _ rfl).2
  omega
set_option maxHeartbeats 4000000 in
theorem implComm_any (id pe te vo co ro : Int) (vl vv vm : Value) (log : List En) (vs mt : List Int) (base : Nat) (w : World) (ho : OwnN w base vl vv vm log vs mt) (nl : log.length ≤ 1048576) (nv : vs.length ≤ 1048576) (nm : mt.length ≤ 1048576) (ns : ∀ i (h : i < log.length), log[i].d.size ≤ 1048576) :
    Calls Try.prog 20 #[.agg #[.int .i64 id, .int .i64 pe, .int .i64 te, .int .i64 vo, vl, .int .i64 co, .int .i64 ro, vv, vm]] w fun e w' => ∃ u, e = .returned (.tuple #[u, .bool (goodN id pe te vo co ro log vs mt)]) ∧ w'.ownsRow w.heap.size 51 2 u (commN (goodN id pe te vo co ro log vs mt) co log).length (flat2 (commN (goodN id pe te vo co ro log vs mt) co log)) ∧ Below w.heap.size w w' := by
  have hB := below_alloc w (.cells #[.int .i64 id, .int .i64 pe, .int .i64 te, .int .i64 vo, vl, .int .i64 co, .int .i64 ro, vv, vm] 26)
  have X := Box.new w #[.int .i64 id, .int .i64 pe, .int .i64 te, .int .i64 vo, vl, .int .i64 co, .int .i64 ro, vv, vm] 26
  have ho0 := ho.below hB
  have K := implGoodN_any id pe te vo co ro vl vv vm log vs mt _ ho0.er ho0.iv ho0.im nl nv nm ns
  have HG : goodN id pe te vo co ro log vs mt = true → 0 ≤ co ∧ co ≤ (log.length : Int) := goodN_co
  have E1 := fun W (h : Below w.heap.size w W) => (ho.below h).er
  have N1 := ho.nns.1
  generalize goodN id pe te vo co ro log vs mt = g at *
  obtain ⟨⟨la, lc, rfl⟩, ⟨va, vc, rfl⟩, ma, mc, rfl⟩ := ho.shapes
  have hcap := (owns_cap ho.l).1
  clear ns ho0 ho
  cases g with
  | false =>
    show Calls Try.prog 20 _ w fun e w' => ∃ u, e = .returned (.tuple #[u, .bool false]) ∧ w'.ownsRow w.heap.size 51 2 u 0 (flat2 []) ∧ Below w.heap.size w w'
    clear E1 N1
    go_enter Try.func20, Try.ntmps20
    go_wp2_with fail
    refine K.mono ?_
    rintro e w1 ⟨rfl, hb⟩
    replace hB := below_then hB hb
    clear K hb X
    go_wp2
    go_ret2
    exact ⟨_, rfl, World.ownsRow_nil _ _ _ _, hB⟩
  | true =>
    obtain ⟨c0, c1⟩ := HG rfl
    obtain ⟨c, rfl⟩ := Int.eq_ofNat_of_zero_le c0
    have hc : c ≤ log.length := by omega
    have hlen : (log.take c).length = c := by simp; omega
    show Calls Try.prog 20 _ w fun e w' => ∃ u, e = .returned (.tuple #[u, .bool true]) ∧ w'.ownsRow w.heap.size 51 2 u (log.take c).length (flat2 (log.take c)) ∧ Below w.heap.size w w'
    have HS := fun W => sl_to la log.length lc c W (by omega)
    have CL := fun W (h : Below w.heap.size w W) => cloneE_any (.slice la c lc) (log.take c) W (ER_to (E1 W h) hc) (N1.sl (by omega)) (by omega)
    generalize log.take c = L at *
    have HL : Hid (L.length = c) := hlen
    clear E1 N1 hlen HG c0 c1
    go_enter Try.func20, Try.ntmps20
    go_wp2_with fail
    refine K.mono ?_
    rintro e w1 ⟨rfl, hb⟩
    replace hB := below_then hB hb
    replace X := X.below hb
    obtain ⟨hxl, x0, x1, x2, x3, x4, x5, x6, x7, x8⟩ := X.e9
    clear K hb
    go_wp2_with (first | (refine wpList_sliceOp _ rfl 23 _ _ _ _ rfl _ (HS _) ?_; simp only [Act.put, List.setIfInBounds_toArray, List.set_cons_zero, List.set_cons_succ]))
    refine (CL _ hB).mono ?_
    rintro e w2 ⟨u, rfl, O, hb⟩
    replace hB := hB.trans (hb.mono hB.size)
    obtain ⟨ua, uc, rfl⟩ := owns_shape O
    replace O := owns_mono' O (show w.heap.size ≤ w1.heap.size from by omega)
    clear CL hb HS x0 x1 x2 x3 x4 x5 x6 x7 x8
    go_wp2
    go_ret2
    exact ⟨_, rfl, O, hB⟩
set_option maxHeartbeats 4000000 in
theorem specComm_any (id pe te vo co ro : Int) (vl vv vm : Value) (log : List En) (vs mt : List Int) (base : Nat) (w : World) (ho : OwnN w base vl vv vm log vs mt) (nl : log.length ≤ 1048576) (nv : vs.length ≤ 1048576) (nm : mt.length ≤ 1048576) (ns : ∀ i (h : i < log.length), log[i].d.size ≤ 1048576) :
    Calls Try.prog 55 #[.agg #[.int .i64 id, .int .i64 pe, .int .i64 te, .int .i64 vo, vl, .int .i64 co, .int .i64 ro, vv, vm]] w fun e w' => ∃ u, e = .returned (.tuple #[u, .bool (goodN id pe te vo co ro log vs mt)]) ∧ w'.ownsRow w.heap.size 51 2 u (commN (goodN id pe te vo co ro log vs mt) co log).length (flat2 (commN (goodN id pe te vo co ro log vs mt) co log)) ∧ Below w.heap.size w w' := by
  have hB := below_alloc w (.cells #[.int .i64 id, .int .i64 pe, .int .i64 te, .int .i64 vo, vl, .int .i64 co, .int .i64 ro, vv, vm] 26)
  have X := Box.new w #[.int .i64 id, .int .i64 pe, .int .i64 te, .int .i64 vo, vl, .int .i64 co, .int .i64 ro, vv, vm] 26
  have ho0 := ho.below hB
  have K := specGoodN_any id pe te vo co ro vl vv vm log vs mt _ ho0.er ho0.iv ho0.im nl nv nm ns
  have HG : goodN id pe te vo co ro log vs mt = true → 0 ≤ co ∧ co ≤ (log.length : Int) := goodN_co
  have E1 := fun W (h : Below w.heap.size w W) => (ho.below h).er
  generalize goodN id pe te vo co ro log vs mt = g at *
  obtain ⟨⟨la, lc, rfl⟩, ⟨va, vc, rfl⟩, ma, mc, rfl⟩ := ho.shapes
  have hcap := (owns_cap ho.l).1
  clear ns ho0 ho
  cases g with
  | false =>
    show Calls Try.prog 55 _ w fun e w' => ∃ u, e = .returned (.tuple #[u, .bool false]) ∧ w'.ownsRow w.heap.size 51 2 u 0 (flat2 []) ∧ Below w.heap.size w w'
    clear E1
    go_enter Try.func55, Try.ntmps55
    go_wp2_with fail
    refine K.mono ?_
    rintro e w1 ⟨rfl, hb⟩
    replace hB := below_then hB hb
    clear K hb X
    go_wp2
    go_ret2
    exact ⟨_, rfl, World.ownsRow_nil _ _ _ _, hB⟩
  | true =>
    obtain ⟨c0, c1⟩ := HG rfl
    obtain ⟨c, rfl⟩ := Int.eq_ofNat_of_zero_le c0
    have hc : c ≤ log.length := by omega
    have hlen : (log.take c).length = c := by simp; omega
    show Calls Try.prog 55 _ w fun e w' => ∃ u, e = .returned (.tuple #[u, .bool true]) ∧ w'.ownsRow w.heap.size 51 2 u (log.take c).length (flat2 (log.take c)) ∧ Below w.heap.size w w'
    have HS := fun W => sl_to la log.length lc c W (by omega)
    have EL := fun W (h : Below w.heap.size w W) => ER_to (E1 W h) hc
    generalize log.take c = L at *
    have hL : L.length ≤ 1048576 := by omega
    clear E1 hlen HG c0 c1
    go_enter Try.func55, Try.ntmps55
    go_wp2_with fail
    refine K.mono ?_
    rintro e w1 ⟨rfl, hb⟩
    replace hB := below_then hB hb
    replace X := X.below hb
    obtain ⟨hxl, x0, x1, x2, x3, x4, x5, x6, x7, x8⟩ := X.e9
    have hz1 := hb.size
    have o0 : (w1.alloc (.cells #[] 51)).ownsRow w1.heap.size 51 2 (.slice (some ⟨w1.heap.size, 0, none⟩) 0 0) 0 (flat2 []) := World.ownsRow_lit w1 #[] 0 (Nat.le_refl _) (by simp [maxLen]) (by simp)
    have hBa := below_alloc w1 (.cells #[] 51)
    have hE := EL _ (below_then hB hBa)
    clear K hb EL
    go_wp2_with (first | (refine wpList_sliceOp _ rfl 23 _ _ _ _ rfl _ (HS _) ?_; simp only [Act.put, List.setIfInBounds_toArray, List.set_cons_zero, List.set_cons_succ]) | (at_builtin; refine StopA.go ?_))
    unfold StopA
    refine wpList_append_ent _ rfl _ _ rfl rfl w1.heap.size _ 0 [] rfl o0 _ L rfl hE (by omega) (by simp) ?_
    intro u w2 O hgr
    simp only [Nat.zero_add, List.nil_append] at O
    have hb := grown_below hBa hgr (by simp) (Nat.le_refl _)
    replace hB := below_then hB hb
    obtain ⟨ua, uc, rfl⟩ := owns_shape O
    replace O := owns_mono' O (show w.heap.size ≤ w1.heap.size from by omega)
    clear hgr o0 hBa hE hb HS x0 x1 x2 x3 x4 x5 x6 x7 x8
    go_wp2
    go_ret2
    exact ⟨_, rfl, O, hB⟩
end Go.Proofs.Ytoaponagdfgfeaa
