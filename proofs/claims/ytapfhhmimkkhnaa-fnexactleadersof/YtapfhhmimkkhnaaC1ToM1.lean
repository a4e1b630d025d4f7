/-
  CrashNode: both sides.
  CommittedIn: both sides.
  A message as a struct: the law's own szRaftMsg, toRaftMsg, eqRaftMsg.
-/
import Derived.Test.YtapfhhmimkkhnaaA4
import Derived.Test.YtapfhhmimkkhnaaN2ToA1
namespace Go.Proofs.Ytapfhhmimkkhnaa
open Go.RowKit
set_option linter.unusedVariables false
set_option maxRecDepth 100000

/-- A node. -/
structure Nd where
  id : Int
  pe : Int
  te : Int
  vo : Int
  co : Int
  ro : Int
  log : List En
  vs : List Int
  mt : List Int
def Nd.zero : Nd := ⟨0, 0, 0, 0, 0, 0, [], [], []⟩
def crashN (g : Bool) (id pe te vo : Int) (log : List En) : Nd := if g then ⟨id, pe, te, vo, 0, 0, log, [], []⟩ else Nd.zero
theorem OwnN.nns {w : World} {base : Nat} {vl vv vm : Value} {log : List En} {vs mt : List Int} (h : OwnN w base vl vv vm log vs mt) : Nn vl ∧ Nn vv ∧ Nn vm := ⟨Nn.own h.l, Nn.own h.v, Nn.own h.m⟩
set_option maxHeartbeats 4000000 in
theorem specCrash_any (id pe te vo co ro : Int) (vl vv vm : Value) (log : List En) (vs mt : List Int) (base : Nat) (w : World) (ho : OwnN w base vl vv vm log vs mt) (nl : log.length ≤ 1048576) (nv : vs.length ≤ 1048576) (nm : mt.length ≤ 1048576) (ns : ∀ i (h : i < log.length), log[i].d.size ≤ 1048576) :
    Calls Try.prog 161 #[.agg #[.int .i64 id, .int .i64 pe, .int .i64 te, .int .i64 vo, vl, .int .i64 co, .int .i64 ro, vv, vm]] w fun e w' => ∃ ul uv um, e = .returned (.tuple #[.agg #[.int .i64 (crashN (goodN id pe te vo co ro log vs mt) id pe te vo log).id, .int .i64 (crashN (goodN id pe te vo co ro log vs mt) id pe te vo log).pe, .int .i64 (crashN (goodN id pe te vo co ro log vs mt) id pe te vo log).te, .int .i64 (crashN (goodN id pe te vo co ro log vs mt) id pe te vo log).vo, ul, .int .i64 (crashN (goodN id pe te vo co ro log vs mt) id pe te vo log).co, .int .i64 (crashN (goodN id pe te vo co ro log vs mt) id pe te vo log).ro, uv, um], .bool (goodN id pe te vo co ro log vs mt)]) ∧ OwnN w' w.heap.size ul uv um (crashN (goodN id pe te vo co ro log vs mt) id pe te vo log).log (crashN (goodN id pe te vo co ro log vs mt) id pe te vo log).vs (crashN (goodN id pe te vo co ro log vs mt) id pe te vo log).mt ∧ Below w.heap.size w w' := by
  obtain ⟨W0, hW0⟩ : ∃ W0, W0 = (w.alloc (.cells #[.int .i64 id, .int .i64 pe, .int .i64 te, .int .i64 vo, vl, .int .i64 co, .int .i64 ro, vv, vm] 26)).alloc (.cells #[.int .i64 0, .int .i64 0, .int .i64 0, .int .i64 0, .slice none 0 0, .int .i64 0, .int .i64 0, .slice none 0 0, .slice none 0 0] 26) := ⟨_, rfl⟩
  have hB : Below w.heap.size w W0 := by rw [hW0]; exact below2 _ _ _
  have hz00 : w.heap.size + 1 + 1 ≤ W0.heap.size := by rw [hW0]; simp
  have X : Box W0 w.heap.size [.int .i64 id, .int .i64 pe, .int .i64 te, .int .i64 vo, vl, .int .i64 co, .int .i64 ro, vv, vm] := by rw [hW0]; exact (Box.new w #[.int .i64 id, .int .i64 pe, .int .i64 te, .int .i64 vo, vl, .int .i64 co, .int .i64 ro, vv, vm] 26).alloc _
  have Y : Box W0 (w.heap.size + 1) [.int .i64 0, .int .i64 0, .int .i64 0, .int .i64 0, .slice none 0 0, .int .i64 0, .int .i64 0, .slice none 0 0, .slice none 0 0] := by
    rw [hW0]
    have := Box.new (w.alloc (.cells #[.int .i64 id, .int .i64 pe, .int .i64 te, .int .i64 vo, vl, .int .i64 co, .int .i64 ro, vv, vm] 26)) #[.int .i64 0, .int .i64 0, .int .i64 0, .int .i64 0, .slice none 0 0, .int .i64 0, .int .i64 0, .slice none 0 0, .slice none 0 0] 26
    simpa using this
  have ho0 := ho.below hB
  have K := specGoodN_any id pe te vo co ro vl vv vm log vs mt _ ho0.er ho0.iv ho0.im nl nv nm ns
  have K2 := fun W (h : Below w.heap.size w W) => l11Own_any id pe te vo co ro vl vv vm log vs mt W (ho.below h).er (ho.below h).iv (ho.below h).im ho.nns.1 ho.nns.2.1 ho.nns.2.2 nl nv nm
  generalize goodN id pe te vo co ro log vs mt = g at *
  obtain ⟨⟨la, lc, rfl⟩, ⟨va, vc, rfl⟩, ma, mc, rfl⟩ := ho.shapes
  clear ns ho0 ho
  cases g with
  | false =>
    show Calls Try.prog 161 _ w fun e w' => ∃ ul uv um, e = .returned (.tuple #[.agg #[.int .i64 0, .int .i64 0, .int .i64 0, .int .i64 0, ul, .int .i64 0, .int .i64 0, uv, um], .bool false]) ∧ OwnN w' w.heap.size ul uv um [] [] [] ∧ Below w.heap.size w w'
    go_enter Try.func161, Try.ntmps161
    go_wp2_with fail
    rw [← hW0]; clear hW0
    refine K.mono ?_
    rintro e w1 ⟨rfl, hb⟩
    replace hB := below_then hB hb
    replace Y := Y.below hb
    clear K hb K2 X
    obtain ⟨hyl, y0, y1, y2, y3, y4, y5, y6, y7, y8⟩ := Y.e9
    obtain ⟨f0, f1, f2, f3, f4, f5, f6, f7, f8⟩ := Y.f9
    have hC := put9_chg w1 (w.heap.size + 1) (.int .i64 0) (.int .i64 0) (.int .i64 0) (.int .i64 0) (.slice none 0 0) (.int .i64 0) (.int .i64 0) (.slice none 0 0) (.slice none 0 0)
    have Z := put9_box Y (.int .i64 0) (.int .i64 0) (.int .i64 0) (.int .i64 0) (.slice none 0 0) (.int .i64 0) (.int .i64 0) (.slice none 0 0) (.slice none 0 0)
    have hBE := hB.trans (hC.below (B := w.heap.size) hB.size (fun k hk => by have hk : k = w.heap.size + 1 := hk; omega))
    have O := OwnN.nil (put9 w1 (w.heap.size + 1) (.int .i64 0) (.int .i64 0) (.int .i64 0) (.int .i64 0) (.slice none 0 0) (.int .i64 0) (.int .i64 0) (.slice none 0 0) (.slice none 0 0)) w.heap.size
    obtain ⟨hzl, t0, t1, t2, t3, t4, t5, t6, t7, t8⟩ := Z.e9
    clear Z hC hB Y
    unfold put9 at *
    go_wp2
    exact bodyPost_ret (v := .tuple #[.agg #[.int .i64 0, .int .i64 0, .int .i64 0, .int .i64 0, .slice none 0 0, .int .i64 0, .int .i64 0, .slice none 0 0, .slice none 0 0], .bool false]) (by simp [results, Try.results161, go_sem, t0, t1, t2, t3, t4, t5, t6, t7, t8]) rfl ⟨_, _, _, rfl, O, hBE⟩
  | true =>
    show Calls Try.prog 161 _ w fun e w' => ∃ ul uv um, e = .returned (.tuple #[.agg #[.int .i64 id, .int .i64 pe, .int .i64 te, .int .i64 vo, ul, .int .i64 0, .int .i64 0, uv, um], .bool true]) ∧ OwnN w' w.heap.size ul uv um log [] [] ∧ Below w.heap.size w w'
    go_enter Try.func161, Try.ntmps161
    go_wp2_with fail
    rw [← hW0]; clear hW0
    refine K.mono ?_
    rintro e w1 ⟨rfl, hb⟩
    replace hB := below_then hB hb
    replace Y := Y.below hb
    replace X := X.below hb
    have hz1 := hb.size
    clear K hb
    obtain ⟨hxl, x0, x1, x2, x3, x4, x5, x6, x7, x8⟩ := X.e9
    go_wp2_with fail
    refine (K2 _ hB).mono ?_
    rintro e w2 ⟨u1, u2, u3, rfl, O, hb⟩
    replace hB := below_then hB hb
    replace Y := Y.below hb
    replace X := X.below hb
    have hz2 := hb.size
    have gO := fun b hb => (O.lt b hb).1
    clear K2 hb hxl x0 x1 x2 x3 x4 x5 x6 x7 x8
    obtain ⟨⟨ua, uc, rfl⟩, ⟨xa, xc, rfl⟩, ya, yc, rfl⟩ := O.shapes
    go_wp2_with fail
    refine (l11Follow_any _ _ _ _ _ _ _ _ _ ua log.length uc rfl _ ⟨_, _, _, rfl⟩ ⟨_, _, _, rfl⟩).mono ?_
    rintro e w3 ⟨rfl, hb⟩
    replace hB := below_then hB hb
    replace Y := Y.below hb
    replace X := X.below hb
    replace O := O.below hb
    clear hb
    obtain ⟨hxl, x0, x1, x2, x3, x4, x5, x6, x7, x8⟩ := X.e9
    obtain ⟨e0, e1, e2, e3, e4, e5, e6, e7, e8⟩ := X.f9
    obtain ⟨hyl, y0, y1, y2, y3, y4, y5, y6, y7, y8⟩ := Y.e9
    obtain ⟨f0, f1, f2, f3, f4, f5, f6, f7, f8⟩ := Y.f9
    have hC1 := put9_chg w3 w.heap.size (.int .i64 id) (.int .i64 pe) (.int .i64 te) (.int .i64 vo) (.slice ua log.length uc) (.int .i64 co) (.int .i64 0) (.slice none 0 0) (.slice none 0 0)
    have Z1 := put9_box X (.int .i64 id) (.int .i64 pe) (.int .i64 te) (.int .i64 vo) (.slice ua log.length uc) (.int .i64 co) (.int .i64 0) (.slice none 0 0) (.slice none 0 0)
    have hC2 : Chg (· = w.heap.size) w3 ((put9 w3 w.heap.size (.int .i64 id) (.int .i64 pe) (.int .i64 te) (.int .i64 vo) (.slice ua log.length uc) (.int .i64 co) (.int .i64 0) (.slice none 0 0) (.slice none 0 0)).setCell ⟨w.heap.size, 5, none⟩ (.int .i64 0)) := Chg.setCell (S := fun k => k = w.heap.size) hC1 rfl _
    have Z2 := Z1.set 5 (.int .i64 0) (by simp)
    have Ya := hC2.box Y (by omega)
    have hC3 := put9_chg ((put9 w3 w.heap.size (.int .i64 id) (.int .i64 pe) (.int .i64 te) (.int .i64 vo) (.slice ua log.length uc) (.int .i64 co) (.int .i64 0) (.slice none 0 0) (.slice none 0 0)).setCell ⟨w.heap.size, 5, none⟩ (.int .i64 0)) (w.heap.size + 1) (.int .i64 id) (.int .i64 pe) (.int .i64 te) (.int .i64 vo) (.slice ua log.length uc) (.int .i64 0) (.int .i64 0) (.slice none 0 0) (.slice none 0 0)
    have Z := put9_box Ya (.int .i64 id) (.int .i64 pe) (.int .i64 te) (.int .i64 vo) (.slice ua log.length uc) (.int .i64 0) (.int .i64 0) (.slice none 0 0) (.slice none 0 0)
    have hC : Chg (fun k => k = w.heap.size ∨ k = w.heap.size + 1) w3 _ := (hC2.mono fun k hk => Or.inl hk).trans (hC3.mono fun k hk => Or.inr hk)
    have hO := hC.owns (owns_mono' O.l (show w.heap.size ≤ w1.heap.size from by omega)) (fun b hb hh => by have := gO b (.inl hb); have hh : b = w.heap.size ∨ b = w.heap.size + 1 := hh; omega)
    have hBE := hB.trans (hC.below (B := w.heap.size) hB.size (fun k hk => by omega))
    obtain ⟨hsl, s0, s1, s2, s3, s4, s5, s6, s7, s8⟩ := Z2.e9
    obtain ⟨hzl, t0, t1, t2, t3, t4, t5, t6, t7, t8⟩ := Z.e9
    clear Z hC hB Y X Z1 Z2 Ya hC1 hC2 hC3 gO O
    unfold put9 at *
    go_wp2
    exact bodyPost_ret (v := .tuple #[.agg #[.int .i64 id, .int .i64 pe, .int .i64 te, .int .i64 vo, .slice ua log.length uc, .int .i64 0, .int .i64 0, .slice none 0 0, .slice none 0 0], .bool true]) (by simp [results, Try.results161, go_sem, t0, t1, t2, t3, t4, t5, t6, t7, t8]) rfl ⟨_, _, _, rfl, ⟨hO, World.ownsRow_nil _ _ _ _, World.ownsRow_nil _ _ _ _, fun g hg => by simp [Value.ownBlock] at hg⟩, hBE⟩
end Go.Proofs.Ytapfhhmimkkhnaa

namespace Go.Proofs.Ytapfhhmimkkhnaa
open Go.RowKit Go.Maps
set_option linter.unusedVariables false
set_option maxRecDepth 100000

def commN (g : Bool) (co : Int) (log : List En) : List En := if g then log.take co.toNat else []
theorem commN_le (g : Bool) (co : Int) (log : List En) : (commN g co log).length ≤ log.length := by
  unfold commN
  cases g
  · simp
  · rw [if_pos rfl, List.length_take]; omega
theorem owns_cap {w : World} {base : Nat} {e : TypeId} {size n m c : Nat} {a : Option Addr} {xs : List Value} (h : w.ownsRow base e size (.slice a m c) n xs) : n ≤ c ∧ m = n := by
  rcases h.2 with ⟨h1, h0⟩ | ⟨g, cap, cur, h1, _, _, hcap, _⟩
  · simp at h1; omega
  · simp at h1; omega
theorem goodN_co {id pe te vo co ro : Int} {log : List En} {vs mt : List Int} (h : goodN id pe te vo co ro log vs mt = true) : 0 ≤ co ∧ co ≤ (log.length : Int) := by
  rw [goodN_spec] at h
  simp [inB] at h
  omega
theorem Nn.sl {a : Option Addr} {n c m : Nat} (h : Nn (.slice a n c)) (hm : m ≤ c) : Nn (.slice a m c) := by
  intro x y he
  simp only [Value.slice.injEq] at he
  obtain ⟨rfl, rfl, rfl⟩ := he
  have := (h _ _ rfl).2
  omega
end Go.Proofs.Ytapfhhmimkkhnaa

namespace Go.Proofs.Ytapfhhmimkkhnaa
open Go.RowKit
set_option linter.unusedVariables false
set_option maxRecDepth 100000

set_option maxHeartbeats 2000000 in
theorem szMsg_any (ki fr dst te ix be co : Int) (ye : Bool) (ve : Value) (es : List En) (left : Int) (w : World) (he : ER w ve es) (h0 : 0 ≤ left) (h1 : left ≤ 1048576) (ne : es.length ≤ maxLen) (ns : ∀ i (h : i < es.length), es[i].d.size ≤ maxLen) :
    Calls Try.prog 125 #[.agg #[.int .i64 ki, .int .i64 fr, .int .i64 dst, .int .i64 te, .int .i64 ix, .int .i64 be, ve, .int .i64 co, .bool ye], .int .i64 left] w fun e w' => (∃ r : Int, e = .returned (.int .i64 r) ∧ (r = -1 ∨ (0 ≤ r ∧ (tot2 es : Int) + es.length + r = left))) ∧ Below w.heap.size w w' := by
  have hB := below_alloc w (.cells #[.int .i64 ki, .int .i64 fr, .int .i64 dst, .int .i64 te, .int .i64 ix, .int .i64 be, ve, .int .i64 co, .bool ye] 142)
  have K1 := szEntryS_any ve es left _ (he.below hB) h0 h1 ne ns
  obtain ⟨ea, ec, rfl, hec⟩ := he
  clear hec ns
  go_enter Try.func125, Try.ntmps125
  go_wp2_with fail
  refine K1.mono ?_
  rintro e w1 ⟨⟨r, rfl, hr⟩, hb⟩
  replace hB := below_then hB hb
  clear hb K1
  rcases hr with rfl | ⟨hr0, hr1⟩
  · go_wp2
    go_ret
    exact ⟨⟨-1, rfl, .inl rfl⟩, hB⟩
  have HE : Hid ((tot2 es : Int) + es.length + r = left) := hr1
  have hr2 : ¬ r < 0 := by omega
  clear hr1
  go_wp2
  go_ret
  exact ⟨⟨r, rfl, .inr ⟨hr0, HE.out⟩⟩, hB⟩

set_option maxHeartbeats 4000000 in
theorem toMsg_any (ki fr dst te ix be co : Int) (ye : Bool) (ve : Value) (es : List En) (w : World) (he : ER w ve es) (ne : es.length ≤ 1048576) :
    Calls Try.prog 126 #[.agg #[.int .i64 ki, .int .i64 fr, .int .i64 dst, .int .i64 te, .int .i64 ix, .int .i64 be, ve, .int .i64 co, .bool ye]] w fun e w' => ∃ g1, e = .returned (.agg #[.int .i64 ki, .int .i64 fr, .int .i64 dst, .int .i64 te, .int .i64 ix, .int .i64 be, .slice (some ⟨g1, 0, none⟩) es.length es.length, .int .i64 co, .bool ye]) ∧ w'.ownsRow w.heap.size 34 2 (.slice (some ⟨g1, 0, none⟩) es.length es.length) es.length (flat2 es) ∧ Below w.heap.size w w' := by
  obtain ⟨W0, hW0⟩ : ∃ W0, W0 = ((w.alloc (.cells #[.int .i64 ki, .int .i64 fr, .int .i64 dst, .int .i64 te, .int .i64 ix, .int .i64 be, ve, .int .i64 co, .bool ye] 142)).alloc (.cells #[.int .i64 0, .int .i64 0, .int .i64 0, .int .i64 0, .int .i64 0, .int .i64 0, .slice none 0 0, .int .i64 0, .bool false] 38)).alloc (.cells #[.int .i64 ki, .int .i64 fr, .int .i64 dst, .int .i64 te, .int .i64 ix, .int .i64 be, .slice none 0 0, .int .i64 0, .bool false] 38) := ⟨_, rfl⟩
  have hB : Below w.heap.size w W0 := by rw [hW0]; exact below3 _ _ _ _
  have K1 := toEntryS_any ve es _ (he.below hB) ne
  obtain ⟨ea, ec, rfl, hec⟩ := he
  clear hec
  have X0 : Box W0 w.heap.size [.int .i64 ki, .int .i64 fr, .int .i64 dst, .int .i64 te, .int .i64 ix, .int .i64 be, .slice ea es.length ec, .int .i64 co, .bool ye] := by
    rw [hW0]
    exact ((Box.new w #[.int .i64 ki, .int .i64 fr, .int .i64 dst, .int .i64 te, .int .i64 ix, .int .i64 be, .slice ea es.length ec, .int .i64 co, .bool ye] 142).alloc _).alloc _
  have X1 : Box W0 (w.heap.size + 1) [.int .i64 0, .int .i64 0, .int .i64 0, .int .i64 0, .int .i64 0, .int .i64 0, .slice none 0 0, .int .i64 0, .bool false] := by
    rw [hW0]
    have := (Box.new (w.alloc (.cells #[.int .i64 ki, .int .i64 fr, .int .i64 dst, .int .i64 te, .int .i64 ix, .int .i64 be, .slice ea es.length ec, .int .i64 co, .bool ye] 142)) #[.int .i64 0, .int .i64 0, .int .i64 0, .int .i64 0, .int .i64 0, .int .i64 0, .slice none 0 0, .int .i64 0, .bool false] 38).alloc (.cells #[.int .i64 ki, .int .i64 fr, .int .i64 dst, .int .i64 te, .int .i64 ix, .int .i64 be, .slice none 0 0, .int .i64 0, .bool false] 38)
    simpa using this
  have X2 : Box W0 (w.heap.size + 1 + 1) [.int .i64 ki, .int .i64 fr, .int .i64 dst, .int .i64 te, .int .i64 ix, .int .i64 be, .slice none 0 0, .int .i64 0, .bool false] := by
    rw [hW0]
    have := Box.new ((w.alloc (.cells #[.int .i64 ki, .int .i64 fr, .int .i64 dst, .int .i64 te, .int .i64 ix, .int .i64 be, .slice ea es.length ec, .int .i64 co, .bool ye] 142)).alloc (.cells #[.int .i64 0, .int .i64 0, .int .i64 0, .int .i64 0, .int .i64 0, .int .i64 0, .slice none 0 0, .int .i64 0, .bool false] 38)) #[.int .i64 ki, .int .i64 fr, .int .i64 dst, .int .i64 te, .int .i64 ix, .int .i64 be, .slice none 0 0, .int .i64 0, .bool false] 38
    simpa using this
  have hz0 : W0.heap.size = w.heap.size + 1 + 1 + 1 := by rw [hW0]; simp
  rw [hz0] at K1
  go_enter Try.func126, Try.ntmps126
  go_wp2_with fail
  rw [← hW0]
  refine K1.mono ?_
  rintro e w1 ⟨rfl, o1, hb⟩
  rw [← hz0] at hb
  replace X0 := X0.below hb
  replace X1 := X1.below hb
  replace X2 := X2.below hb
  have hB1 := below_then hB hb
  clear hb hB K1 hz0 hW0 W0
  obtain ⟨G1, hG1⟩ : ∃ G1, G1 = w.heap.size + 1 + 1 + 1 := ⟨_, rfl⟩
  rw [← hG1] at o1 ⊢
  have hG1a : w.heap.size + 1 + 1 + 1 ≤ G1 := by omega
  have hg1 := owns_lt o1
  clear hG1
  have hz1 := hB1.size
  obtain ⟨hxl, x0, x1, x2, x3, x4, x5, x6, x7, x8⟩ := X0.e9
  obtain ⟨hyl, y0, y1, y2, y3, y4, y5, y6, y7, y8⟩ := X2.e9
  obtain ⟨f0, f1, f2, f3, f4, f5, f6, f7, f8⟩ := X2.f9
  obtain ⟨hrl, q0, q1, q2, q3, q4, q5, q6, q7, q8⟩ := X1.e9
  obtain ⟨h0, h1, h2, h3, h4, h5, h6, h7, h8⟩ := X1.f9
  obtain ⟨S1, hS1⟩ : ∃ S1, S1 = Value.slice (some ⟨G1, 0, none⟩) es.length es.length := ⟨_, rfl⟩
  have hCa : Chg (fun k => k = w.heap.size + 1 + 1) w1 (((w1.setCell ⟨w.heap.size + 1 + 1, 6, none⟩ S1).setCell ⟨w.heap.size + 1 + 1, 7, none⟩ (.int .i64 co)).setCell ⟨w.heap.size + 1 + 1, 8, none⟩ (.bool ye)) := by
    iterate 3 (refine Chg.setCell (S := fun k => k = w.heap.size + 1 + 1) ?_ rfl _)
    exact Chg.refl _ _
  have hCb := put9_chg (((w1.setCell ⟨w.heap.size + 1 + 1, 6, none⟩ S1).setCell ⟨w.heap.size + 1 + 1, 7, none⟩ (.int .i64 co)).setCell ⟨w.heap.size + 1 + 1, 8, none⟩ (.bool ye)) (w.heap.size + 1) (.int .i64 ki) (.int .i64 fr) (.int .i64 dst) (.int .i64 te) (.int .i64 ix) (.int .i64 be) S1 (.int .i64 co) (.bool ye)
  have Z := put9_box (hCa.box X1 (by omega)) (.int .i64 ki) (.int .i64 fr) (.int .i64 dst) (.int .i64 te) (.int .i64 ix) (.int .i64 be) S1 (.int .i64 co) (.bool ye)
  have hC : Chg (fun k => k = w.heap.size + 1 + 1 ∨ k = w.heap.size + 1) w1 _ := (hCa.mono fun k hk => Or.inl hk).trans (hCb.mono fun k hk => Or.inr hk)
  have O : w1.ownsRow w.heap.size 34 2 S1 es.length (flat2 es) := by rw [hS1]; exact owns_mono' o1 (by omega)
  have O' := hC.owns O (by
    intro b hb hh
    rw [hS1] at hb
    simp only [Value.ownBlock, Option.some.injEq] at hb
    omega)
  have hBE := hB1.trans (hC.below (B := w.heap.size) hz1 (fun k hk => by omega))
  clear hCa hCb hC O o1 hB1 X1 X2 X0
  subst hS1
  obtain ⟨hzl, t0, t1, t2, t3, t4, t5, t6, t7, t8⟩ := Z.e9
  clear Z
  unfold put9 at *
  go_wp2
  exact bodyPost_ret (v := .agg #[.int .i64 ki, .int .i64 fr, .int .i64 dst, .int .i64 te, .int .i64 ix, .int .i64 be, .slice (some ⟨G1, 0, none⟩) es.length es.length, .int .i64 co, .bool ye]) (by simp [results, Try.results126, go_sem, t0, t1, t2, t3, t4, t5, t6, t7, t8]) rfl ⟨_, rfl, O', hBE⟩

theorem run_neq_b (w : World) (b : Bool) : (binOp .neq 4 (.bool b) (.bool b)).run Try.prog w = .ok (.bool false) w := by
  cases b <;> kernel_rfl
set_option maxHeartbeats 2000000 in
theorem eqMsg_same (ki fr dst te ix be co : Int) (ye : Bool) (ve ue : Value) (es : List En) (w : World) (he : ER w ve es) (ke : ER w ue es) (ne : es.length ≤ 1048576) :
    Calls Try.prog 84 #[.agg #[.int .i64 ki, .int .i64 fr, .int .i64 dst, .int .i64 te, .int .i64 ix, .int .i64 be, ve, .int .i64 co, .bool ye], .agg #[.int .i64 ki, .int .i64 fr, .int .i64 dst, .int .i64 te, .int .i64 ix, .int .i64 be, ue, .int .i64 co, .bool ye]] w fun e w' => e = .returned (.bool true) ∧ Below w.heap.size w w' := by
  obtain ⟨W0, hW0⟩ : ∃ W0, W0 = (w.alloc (.cells #[.int .i64 ki, .int .i64 fr, .int .i64 dst, .int .i64 te, .int .i64 ix, .int .i64 be, ve, .int .i64 co, .bool ye] 38)).alloc (.cells #[.int .i64 ki, .int .i64 fr, .int .i64 dst, .int .i64 te, .int .i64 ix, .int .i64 be, ue, .int .i64 co, .bool ye] 38) := ⟨_, rfl⟩
  have hB : Below w.heap.size w W0 := by rw [hW0]; exact below2 _ _ _
  have X : Box W0 w.heap.size [.int .i64 ki, .int .i64 fr, .int .i64 dst, .int .i64 te, .int .i64 ix, .int .i64 be, ve, .int .i64 co, .bool ye] := by rw [hW0]; exact (Box.new w #[.int .i64 ki, .int .i64 fr, .int .i64 dst, .int .i64 te, .int .i64 ix, .int .i64 be, ve, .int .i64 co, .bool ye] 38).alloc _
  have Y : Box W0 (w.heap.size + 1) [.int .i64 ki, .int .i64 fr, .int .i64 dst, .int .i64 te, .int .i64 ix, .int .i64 be, ue, .int .i64 co, .bool ye] := by
    rw [hW0]
    have := Box.new (w.alloc (.cells #[.int .i64 ki, .int .i64 fr, .int .i64 dst, .int .i64 te, .int .i64 ix, .int .i64 be, ve, .int .i64 co, .bool ye] 38)) #[.int .i64 ki, .int .i64 fr, .int .i64 dst, .int .i64 te, .int .i64 ix, .int .i64 be, ue, .int .i64 co, .bool ye] 38
    simpa using this
  have K1 := eqEntryS_same ve ue es _ (he.below hB) (ke.below hB) ne
  obtain ⟨ea, ec, rfl, _⟩ := he
  obtain ⟨ea', ec', rfl, _⟩ := ke
  have NB := fun W => run_neq_b W ye
  go_enter Try.func84, Try.ntmps84
  go_wp2_with fail
  rw [← hW0]; clear hW0
  refine K1.mono ?_
  rintro e w1 ⟨rfl, hb⟩
  replace hB := below_then hB hb
  replace X := X.below hb
  replace Y := Y.below hb
  clear K1 hb
  obtain ⟨hxl, x0, x1, x2, x3, x4, x5, x6, x7, x8⟩ := X.e9
  obtain ⟨hyl, y0, y1, y2, y3, y4, y5, y6, y7, y8⟩ := Y.e9
  go_wp2
  go_ret
  exact ⟨rfl, hB⟩
end Go.Proofs.Ytapfhhmimkkhnaa
