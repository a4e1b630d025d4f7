/-
  The walk of FnFound.
-/
import Derived.Test.YtdaldkcildbcmaaDoorFU
import Derived.Test.YtdaldkcildbcmaaDoorFE
import Derived.Test.YtdaldkcildbcmaaDoorFQ
import Derived.Deep.Cut
import Derived.Deep.CutRange
namespace Go.Proofs.YtdaldkcildbcmaaDoor
open Go.RowKit
set_option linter.unusedVariables false
set_option maxRecDepth 100000

theorem SeekA.same {hs : List Int} {ts : List Tw} {key k k' v v' : ByteArray} {seq n n' d d' m m' : Int} {ok ok' : Bool} (h : SeekA hs ts key seq k n d v m ok) (h' : SeekA hs ts key seq k' n' d' v' m' ok') : k = k' ∧ n = n' ∧ d = d' ∧ v = v' ∧ m = m' ∧ ok = ok' := by
  rcases h with ⟨c, e1, e2, e3, e4, e5, e6⟩ | ⟨c, e1, e2, e3, e4, e5, e6⟩ <;> rcases h' with ⟨c', f1, f2, f3, f4, f5, f6⟩ | ⟨c', f1, f2, f3, f4, f5, f6⟩
  · exact ⟨e1.trans f1.symm, e2.trans f2.symm, e3.trans f3.symm, e4.trans f4.symm, e5.trans f5.symm, e6.trans f6.symm⟩
  · exact absurd c' c
  · exact absurd c c'
  · exact ⟨e1.trans f1.symm, e2.trans f2.symm, e3.trans f3.symm, e4.trans f4.symm, e5.trans f5.symm, e6.trans f6.symm⟩
theorem FindA.same {hs : List Int} {ts : List Tw} {key k k' v v' : ByteArray} {seq n n' d d' : Int} {ok ok' : Bool} (h : FindA hs ts key seq k n d v ok) (h' : FindA hs ts key seq k' n' d' v' ok') : k = k' ∧ n = n' ∧ d = d' ∧ v = v' ∧ ok = ok' := by
  obtain ⟨a1, a2, a3, a4, a5, a6, ha, hq⟩ := h
  obtain ⟨b1, b2, b3, b4, b5, b6, hb, hr⟩ := h'
  obtain ⟨rfl, rfl, rfl, rfl, rfl, rfl⟩ := ha.same hb
  rcases hq with ⟨c, e1, e2, e3, e4, e5⟩ | ⟨c, e1, e2, e3, e4, e5⟩ <;> rcases hr with ⟨c', f1, f2, f3, f4, f5⟩ | ⟨c', f1, f2, f3, f4, f5⟩
  · exact ⟨e1.trans f1.symm, e2.trans f2.symm, e3.trans f3.symm, e4.trans f4.symm, e5.trans f5.symm⟩
  · rw [c] at c'; cases c'
  · rw [c] at c'; cases c'
  · exact ⟨e1.trans f1.symm, e2.trans f2.symm, e3.trans f3.symm, e4.trans f4.symm, e5.trans f5.symm⟩
theorem keyNe (key : ByteArray) (h : 0 < key.size) : ¬ key.toList = [] := by
  intro e
  have h2 := isEmpty_eq key
  rw [e] at h2
  have h3 : (key.size == 0) = true := h2.symm
  rw [beq_iff_eq] at h3
  omega
set_option maxHeartbeats 32000000 in
theorem law4 (v : Value) (l : List UInt8) (w : World) (hv : YL w v l) (hl : l.length ≤ maxLen) (ht : Tabs w) :
    Calls Tryd.prog 4 #[v] w fun e w' => e = .returned (.bool true) ∧ Below w.heap.size w w' := by
  have hq0 : l.length ≤ 9223372036854775807 := hl
  have DR := drawFind_any v l w hv hq0
  obtain ⟨va, vc, rfl, _⟩ := hv
  go_enter Tryd.func4, Tryd.ntmps4
  by_cases hsz : (1048576 : Int) < (l.length : Int)
  · clear DR
    go_wp2
    go_ret
    exact ⟨rfl, Below.refl _ _⟩
  go_wp2_with fail
  refine DR.mono ?_
  rintro e w1 ⟨⟨hv, tv, H, T, key, n, rfl, hD, hks, hn23⟩, hB⟩
  have hz1 := hB.size
  obtain ⟨ha, hc2, ay, cap, rfl, rfl, hcy, hcm⟩ := hD.sh
  have h5 := hD.h5
  have h60 := hD.t60
  have KFi := fun W (h : Below w1.heap.size w1 W) => implFind_any (.slice ha H.length hc2) ay cap H T key n W (hD.il.below h) (hD.tws.below h) (by omega) (by omega) (ht.below (hB.trans (h.mono hz1))) (by omega) (FitT.f3 hD.fit)
  have KFs := fun W (h : Below w1.heap.size w1 W) => specFind_any (.slice ha H.length hc2) ay cap H T key n W (hD.il.below h) (hD.tws.below h) (by omega) (by omega) hcy hcm (by omega) (FitT.f3 hD.fit)
  have KSi := fun W (h : Below w1.heap.size w1 W) => implSeek_any (.slice ha H.length hc2) ay cap H T key n W (hD.il.below h) (hD.tws.below h) (by omega) (by omega) (ht.below (hB.trans (h.mono hz1))) (by omega) (FitT.f3 hD.fit)
  have KSs := fun W (h : Below w1.heap.size w1 W) => specSeek_any (.slice ha H.length hc2) ay cap H T key n W (hD.il.below h) (hD.tws.below h) (by omega) (by omega) hcy hcm (by omega) (FitT.f3 hD.fit)
  have KLi := fun W (h : Below w1.heap.size w1 W) => implList_any (.slice ha H.length hc2) (.slice ay T.length cap) H T 0 W (hD.il.below h) (hD.tws.below h) (by omega) (by omega) (ht.below (hB.trans (h.mono hz1))) (FitT.f3 hD.fit)
  have hx : Below w1.heap.size w1 w1 := Below.refl _ _
  have R1 := fun (W : World) (b : Bool) => (show (binOp .neq 4 (.bool b) (.bool b)).run Tryd.prog W = .ok (.bool false) W by cases b <;> kernel_rfl)
  clear hD DR hsz
  have hBA := below_alloc w1 (.cells #[.slice ha H.length hc2, .slice ay T.length cap] 26)
  have P := Box.new w1 #[.slice ha H.length hc2, .slice ay T.length cap] 26
  replace hx := below_then hx hBA
  replace hB := below_then hB hBA
  go_upto_region 4 with fail
  obtain ⟨w2, hWn⟩ : ∃ W, W = w1.alloc (.cells #[.slice ha H.length hc2, .slice ay T.length cap] 26) := ⟨_, rfl⟩
  have hzw2 : w1.heap.size < w2.heap.size := by rw [hWn]; simp
  rw [← hWn] at P hx hB ⊢
  clear hWn hBA
  have P : Box w2 w1.heap.size [.slice ha H.length hc2, .slice ay T.length cap] := P
  obtain ⟨b3, hbk⟩ : ∃ b, Hid (w1.heap.size = b) := ⟨_, rfl⟩
  rw [hbk.out] at P ⊢
  have hb3l : w1.heap.size ≤ b3 := by have := hbk.out; omega
  have hb3u : b3 ≤ w1.heap.size := by have := hbk.out; omega
  clear hbk
  obtain ⟨pl, p0, p1⟩ := P.c2
  go_wp2_with fail
  refine (KFi _ hx).mono ?_
  rintro e w3 ⟨⟨k1, n1, d1, v1, ok1, rfl, hF1⟩, hb⟩
  replace hx := below_then hx hb
  replace hB := below_then hB hb
  replace P := P.below hb
  have hzw3 := hb.size
  clear hb
  replace hF1 : Hid _ := hF1
  clear pl p0 p1 KFi
  have hBA := below_alloc w3 (.cells #[.string k1, .int .i64 n1, .int .i64 d1, .string v1] 28)
  have Q1 := Box.new w3 #[.string k1, .int .i64 n1, .int .i64 d1, .string v1] 28
  replace hx := below_then hx hBA
  replace hB := below_then hB hBA
  replace P := P.below hBA
  go_upto_region 5 with fail
  obtain ⟨w4, hWn⟩ : ∃ W, W = w3.alloc (.cells #[.string k1, .int .i64 n1, .int .i64 d1, .string v1] 28) := ⟨_, rfl⟩
  have hzw4 : w3.heap.size < w4.heap.size := by rw [hWn]; simp
  rw [← hWn] at Q1 hx hB P ⊢
  clear hWn hBA
  have Q1 : Box w4 w3.heap.size [.string k1, .int .i64 n1, .int .i64 d1, .string v1] := Q1
  obtain ⟨b6, hbk⟩ : ∃ b, Hid (w3.heap.size = b) := ⟨_, rfl⟩
  rw [hbk.out] at Q1 ⊢
  have hb6l : w3.heap.size ≤ b6 := by have := hbk.out; omega
  have hb6u : b6 ≤ w3.heap.size := by have := hbk.out; omega
  clear hbk
  obtain ⟨pl, p0, p1⟩ := P.c2
  go_wp2_with fail
  refine (KFs _ hx).mono ?_
  rintro e w5 ⟨⟨k2, n2, d2, v2, ok2, rfl, hF2⟩, hb⟩
  replace hx := below_then hx hb
  replace hB := below_then hB hb
  replace P := P.below hb
  replace Q1 := Q1.below hb
  have hzw5 := hb.size
  clear hb
  obtain ⟨rfl, rfl, rfl, rfl, rfl⟩ := FindA.same hF1.out hF2
  clear hF2
  clear pl p0 p1 KFs
  have hBA := below_alloc w5 (.cells #[.string k1, .int .i64 n1, .int .i64 d1, .string v1] 28)
  have Q2 := Box.new w5 #[.string k1, .int .i64 n1, .int .i64 d1, .string v1] 28
  replace hx := below_then hx hBA
  replace hB := below_then hB hBA
  replace P := P.below hBA
  replace Q1 := Q1.below hBA
  go_upto_region 6 with fail
  obtain ⟨w6, hWn⟩ : ∃ W, W = w5.alloc (.cells #[.string k1, .int .i64 n1, .int .i64 d1, .string v1] 28) := ⟨_, rfl⟩
  have hzw6 : w5.heap.size < w6.heap.size := by rw [hWn]; simp
  rw [← hWn] at Q2 hx hB P Q1 ⊢
  clear hWn hBA
  have Q2 : Box w6 w5.heap.size [.string k1, .int .i64 n1, .int .i64 d1, .string v1] := Q2
  obtain ⟨b8, hbk⟩ : ∃ b, Hid (w5.heap.size = b) := ⟨_, rfl⟩
  rw [hbk.out] at Q2 ⊢
  have hb8l : w5.heap.size ≤ b8 := by have := hbk.out; omega
  have hb8u : b8 ≤ w5.heap.size := by have := hbk.out; omega
  clear hbk
  obtain ⟨pl, p0, p1⟩ := P.c2
  go_wp2_with fail
  refine (KSi _ hx).mono ?_
  rintro e w7 ⟨⟨k3, n3, d3, v3, m3, ok3, rfl, hS1⟩, hb⟩
  replace hx := below_then hx hb
  replace hB := below_then hB hb
  replace P := P.below hb
  replace Q1 := Q1.below hb
  replace Q2 := Q2.below hb
  have hzw7 := hb.size
  clear hb
  replace hS1 : Hid _ := hS1
  clear pl p0 p1 KSi
  have hBA := below_alloc w7 (.cells #[.string k3, .int .i64 n3, .int .i64 d3, .string v3] 28)
  have Q3 := Box.new w7 #[.string k3, .int .i64 n3, .int .i64 d3, .string v3] 28
  replace hx := below_then hx hBA
  replace hB := below_then hB hBA
  replace P := P.below hBA
  replace Q1 := Q1.below hBA
  replace Q2 := Q2.below hBA
  go_upto_region 7 with fail
  obtain ⟨w8, hWn⟩ : ∃ W, W = w7.alloc (.cells #[.string k3, .int .i64 n3, .int .i64 d3, .string v3] 28) := ⟨_, rfl⟩
  have hzw8 : w7.heap.size < w8.heap.size := by rw [hWn]; simp
  rw [← hWn] at Q3 hx hB P Q1 Q2 ⊢
  clear hWn hBA
  have Q3 : Box w8 w7.heap.size [.string k3, .int .i64 n3, .int .i64 d3, .string v3] := Q3
  obtain ⟨b10, hbk⟩ : ∃ b, Hid (w7.heap.size = b) := ⟨_, rfl⟩
  rw [hbk.out] at Q3 ⊢
  have hb10l : w7.heap.size ≤ b10 := by have := hbk.out; omega
  have hb10u : b10 ≤ w7.heap.size := by have := hbk.out; omega
  clear hbk
  obtain ⟨pl, p0, p1⟩ := P.c2
  go_wp2_with fail
  refine (KSs _ hx).mono ?_
  rintro e w9 ⟨⟨k4, n4, d4, v4, m4, ok4, rfl, hS2⟩, hb⟩
  replace hx := below_then hx hb
  replace hB := below_then hB hb
  replace P := P.below hb
  replace Q1 := Q1.below hb
  replace Q2 := Q2.below hb
  replace Q3 := Q3.below hb
  have hzw9 := hb.size
  clear hb
  obtain ⟨rfl, rfl, rfl, rfl, rfl, rfl⟩ := SeekA.same hS1.out hS2
  clear hS2
  clear pl p0 p1 KSs
  have hBA := below_alloc w9 (.cells #[.string k3, .int .i64 n3, .int .i64 d3, .string v3] 28)
  have Q4 := Box.new w9 #[.string k3, .int .i64 n3, .int .i64 d3, .string v3] 28
  replace hx := below_then hx hBA
  replace hB := below_then hB hBA
  replace P := P.below hBA
  replace Q1 := Q1.below hBA
  replace Q2 := Q2.below hBA
  replace Q3 := Q3.below hBA
  go_upto_region 8 with fail
  obtain ⟨w10, hWn⟩ : ∃ W, W = w9.alloc (.cells #[.string k3, .int .i64 n3, .int .i64 d3, .string v3] 28) := ⟨_, rfl⟩
  have hzw10 : w9.heap.size < w10.heap.size := by rw [hWn]; simp
  rw [← hWn] at Q4 hx hB P Q1 Q2 Q3 ⊢
  clear hWn hBA
  have Q4 : Box w10 w9.heap.size [.string k3, .int .i64 n3, .int .i64 d3, .string v3] := Q4
  obtain ⟨b13, hbk⟩ : ∃ b, Hid (w9.heap.size = b) := ⟨_, rfl⟩
  rw [hbk.out] at Q4 ⊢
  have hb13l : w9.heap.size ≤ b13 := by have := hbk.out; omega
  have hb13u : b13 ≤ w9.heap.size := by have := hbk.out; omega
  clear hbk
  obtain ⟨pl, p0, p1⟩ := P.c2
  obtain ⟨al, a0, a1, a2, a3⟩ := Q1.c4
  obtain ⟨bl, b0, b1, b2, b3'⟩ := Q2.c4
  obtain ⟨cl, c0, c1, c2, c3⟩ := Q3.c4
  obtain ⟨dl, d0, d1', d2', d3'⟩ := Q4.c4
  have E1 := fun W => neqItemSame k1 v1 n1 d1 W
  have E2 := fun W => neqItemSame k3 v3 n3 d3 W
  go_wp2_with fail
  refine (KLi _ hx).mono ?_
  rintro e w11 ⟨lv, rfl, oL, hb⟩
  replace hx := below_then hx hb
  replace hB := below_then hB hb
  replace P := P.below hb
  replace Q1 := Q1.below hb
  replace Q2 := Q2.below hb
  replace Q3 := Q3.below hb
  replace Q4 := Q4.below hb
  have hzw11 := hb.size
  clear hb
  clear KLi pl p0 p1 al a0 a1 a2 a3 bl b0 b1 b2 b3' cl c0 c1 c2 c3 dl d0 d1' d2' d3' E1 E2 Q2 Q3 Q4 P
  cases hk : lkB H T 0 with
  | false =>
    have hok : ok1 = false := by
      obtain ⟨k', n', d', v', m', ok', hA, hQ⟩ := hF1.out
      rcases hQ with ⟨hq, _, _, _, _, rfl⟩ | ⟨_, _, _, _, _, rfl⟩
      · rcases hA with ⟨_, _, _, _, _, _, rfl⟩ | ⟨ha, _⟩
        · cases hq
        · rw [lkB_true ha.1 (by omega) (by omega)] at hk; cases hk
      · rfl
    subst hok
    clear hk oL hx Q1
    go_wp2
    go_ret
    exact ⟨rfl, hB⟩
  | true =>
    have HG : GoodI H T := by
      by_cases hg : GoodI H T ∧ (0 : Int) ≤ 0 ∧ (0 : Int) < 5
      · exact hg.1
      · rw [lkB_false hg] at hk; cases hk
    obtain ⟨l0, hl0, hll⟩ := lkL_true 0 HG (by omega)
    replace hll : lkL H T 0 = lsL T l0 := hll
    have hn0 : l0.length = reach T 0 := by
      obtain ⟨l', e', hn'⟩ := HG.2.2.2 0 (by omega)
      rw [hl0] at e'
      injection e' with e'
      rw [e']; exact hn'
    have hLL60 := lkL_len H T 0
    rw [hll] at oL hLL60
    have hlk : 0 ≤ m3 ∧ m3 ≤ (l0.length : Int) + 5 := seek_looks HG hS1.out hl0 hn0
    have hFB : Hid (okKey key = true → ok1 = (bst key n (lsL T l0)).2 ∧ (ok1 = true → (bst key n (lsL T l0)).1 = ⟨k1, n1, d1, v1⟩)) := fun hkk => found_best HG hkk (by unfold okSeq; simp; omega) hF1.out hl0 hn0
    rw [← lsL_len T l0] at hlk
    clear hll hl0 hn0 hk hF1 hS1 HG hx
    generalize lsL T l0 = LL at *
    obtain ⟨la, lc, rfl⟩ := slice_of oL
    have HC := IR_of_owns oL rfl
    obtain ⟨a', c', e', HC⟩ := HC
    injection e' with e1 _ e3
    subst e1 e3
    have hrm := owns_room oL
    clear oL
    have hBA := below_alloc w11 (.cells #[.string ⟨#[]⟩, .int .i64 0, .int .i64 0, .string ⟨#[]⟩] 28)
    have D := Box.new w11 #[.string ⟨#[]⟩, .int .i64 0, .int .i64 0, .string ⟨#[]⟩] 28
    replace hB := below_then hB hBA
    have Q1' := Q1.below hBA
    go_upto_region 14 with fail
    obtain ⟨w12, hW12⟩ : ∃ W, W = w11.alloc (.cells #[.string ⟨#[]⟩, .int .i64 0, .int .i64 0, .string ⟨#[]⟩] 28) := ⟨_, rfl⟩
    have hz12 : w11.heap.size < w12.heap.size := by rw [hW12]; simp
    rw [← hW12] at D hB Q1' hBA ⊢
    clear hW12
    have D : Box w12 w11.heap.size [.string ⟨#[]⟩, .int .i64 0, .int .i64 0, .string ⟨#[]⟩] := D
    have hb6 := Q1.1
    clear Q1
    replace HC : LL ≠ [] → ∃ b off, la = some ⟨b, off, none⟩ ∧ b < w11.heap.size ∧ ∀ i (h : i < LL.length), w12.cell? ⟨b, off + i * 4, none⟩ = some (.string LL[i].k) ∧ w12.cell? ⟨b, off + i * 4 + 1, none⟩ = some (.int .i64 LL[i].n) ∧ w12.cell? ⟨b, off + i * 4 + 2, none⟩ = some (.int .i64 LL[i].d) ∧ w12.cell? ⟨b, off + i * 4 + 3, none⟩ = some (.string LL[i].v) := fun hne => by
      obtain ⟨b, off, e, hlt, hc⟩ := HC hne
      refine ⟨b, off, e, hlt, fun i hi => ?_⟩
      obtain ⟨q0, q1, q2, q3⟩ := hc i hi
      exact ⟨(hBA.cell (p := ⟨b, off + i * 4, none⟩) hlt).trans q0, (hBA.cell (p := ⟨b, off + i * 4 + 1, none⟩) hlt).trans q1, (hBA.cell (p := ⟨b, off + i * 4 + 2, none⟩) hlt).trans q2, (hBA.cell (p := ⟨b, off + i * 4 + 3, none⟩) hlt).trans q3⟩
    clear hBA
    have hwb : w.heap.size ≤ w11.heap.size := by have := hB.size; omega
    generalize w11.heap.size = bb at *
    go_wp2_with fail
    go_loopw [19, 96] (fun s19 s96 wr => ∃ k : Nat, k ≤ LL.length ∧ s96 = .int .i64 k ∧ s19 = .bool (bst key n (LL.take k)).2 ∧ Box wr bb [.string (bst key n (LL.take k)).1.k, .int .i64 (bst key n (LL.take k)).1.n, .int .i64 (bst key n (LL.take k)).1.d, .string (bst key n (LL.take k)).1.v] ∧ Below bb w12 wr) (fun _ s96 _ => LL.length - (intOf s96).toNat)
    case atStart => exact ⟨0, Nat.zero_le _, rfl, rfl, D, Below.refl _ _⟩
    case round =>
      clear D
      obtain ⟨k, hkl, rfl, rfl, D, hbb⟩ := hrel
      by_cases hlt : k < LL.length
      · have hltI : (k : Int) < (LL.length : Int) := by omega
        obtain ⟨b, off, rfl, hblt, hcell⟩ := HC (by intro e; simp [e] at hlt)
        obtain ⟨q0, q1, q2, q3⟩ := hcell k hlt
        have c0 := (hbb.cell (p := ⟨b, off + k * 4, none⟩) hblt).trans q0
        have c1 := (hbb.cell (p := ⟨b, off + k * 4 + 1, none⟩) hblt).trans q1
        have c2 := (hbb.cell (p := ⟨b, off + k * 4 + 2, none⟩) hblt).trans q2
        have c3 := (hbb.cell (p := ⟨b, off + k * 4 + 3, none⟩) hblt).trans q3
        obtain ⟨bN, hbN⟩ : ∃ bN, Hid (bst key n (LL.take (k + 1)) = bN) := ⟨_, rfl⟩
        have hbs : Hid (bN = bStep key n (bst key n (LL.take k)) LL[k]) := by
          show _ = _
          rw [← hbN.out, List.take_succ_eq_append_getElem hlt, bst_snoc]
        clear q0 q1 q2 q3 hcell hFB hlk HC Q1'
        generalize bst key n (LL.take k) = b0 at *
        generalize LL[k] = x at *
        obtain ⟨⟨bk, bn, bd, bv⟩, bf⟩ := b0
        obtain ⟨ik, inn, id, iv⟩ := x
        dsimp only at *
        have hzr := hbb.size
        have hBZ := below_alloc wr (.cells #[.string ik, .int .i64 inn, .int .i64 id, .string iv] 28)
        have Z := Box.new wr #[.string ik, .int .i64 inn, .int .i64 id, .string iv] 28
        have hDl := D.1
        replace D := D.below hBZ
        replace hbb := hbb.trans (hBZ.mono (by omega))
        go_upto_region 18 with fail
        obtain ⟨w14, hW14⟩ : ∃ W, W = wr.alloc (.cells #[.string ik, .int .i64 inn, .int .i64 id, .string iv] 28) := ⟨_, rfl⟩
        have hz14 : wr.heap.size < w14.heap.size := by rw [hW14]; simp
        rw [← hW14] at D Z hbb ⊢
        clear hW14 hBZ c0 c1 c2 c3
        have Z : Box w14 wr.heap.size [.string ik, .int .i64 inn, .int .i64 id, .string iv] := Z
        generalize wr.heap.size = bz at *
        obtain ⟨zl, z0, z1, z2, z3⟩ := Z.c4
        obtain ⟨⟨f0, f1, f2, f3⟩, dl, y0, y1, y2, y3⟩ := D.f4
        have hC7 := put4_chg w14 bb (.string ik) (.int .i64 inn) (.int .i64 id) (.string iv)
        have D7 := put4_box D (.string ik) (.int .i64 inn) (.int .i64 id) (.string iv)
        obtain ⟨W7, hW7⟩ : ∃ W, W = put4 w14 bb (.string ik) (.int .i64 inn) (.int .i64 id) (.string iv) := ⟨_, rfl⟩
        rw [← hW7] at hC7 D7
        have hbb7 : Hid (Below bb w12 W7) := hbb.trans (hC7.below (B := bb) (by omega) (fun q e => by have e : q = bb := e; omega))
        replace hbb : Hid (Below bb w12 w14) := hbb
        replace D : Hid _ := D
        replace D7 : Hid _ := D7
        clear Z hC7
        unfold put4 at hW7
        obtain ⟨q1, hq1⟩ : ∃ q, (ik.toList == key.toList) = q := ⟨_, rfl⟩
        have HN : Hid (∀ c : Bool, ((q1 && decide (inn ≤ (n : Int))) && (!bf || decide (bn < inn))) = c → bN = if c = true then (⟨ik, inn, id, iv⟩, true) else (⟨bk, bn, bd, bv⟩, bf)) := fun c hc => by
          rw [hbs.out]
          unfold bStep
          dsimp only
          rw [hq1, hc]
        clear hbs
        cases q1 with
        | false =>
          have e := HN.out false rfl
          subst e
          clear HN D7 hbb7 hW7
          go_wp2_with fail
          go_roundw
          case rel => exact ⟨k + 1, by omega, by go_num, by rw [hbN.out]; rfl, by rw [hbN.out]; exact D.out, hbb.out⟩
          case measure => simp [intOf]; omega
        | true =>
          by_cases h2 : inn ≤ (n : Int)
          rotate_left
          · have e := HN.out false (by rw [decide_eq_false h2]; rfl)
            subst e
            clear HN D7 hbb7 hW7
            go_wp2_with fail
            go_roundw
            case rel => exact ⟨k + 1, by omega, by go_num, by rw [hbN.out]; rfl, by rw [hbN.out]; exact D.out, hbb.out⟩
            case measure => simp [intOf]; omega
          cases bf with
          | false =>
            have e := HN.out true (by rw [decide_eq_true h2]; rfl)
            subst e
            clear HN D hbb
            go_wp2_with fail
            rw [← hW7]
            go_roundw
            case rel => exact ⟨k + 1, by omega, by go_num, by rw [hbN.out]; rfl, by rw [hbN.out]; exact D7.out, hbb7.out⟩
            case measure => simp [intOf]; omega
          | true =>
            by_cases h4 : bn < inn
            · have e := HN.out true (by rw [decide_eq_true h2, decide_eq_true h4]; rfl)
              subst e
              clear HN D hbb
              go_wp2_with fail
              rw [← hW7]
              go_roundw
              case rel => exact ⟨k + 1, by omega, by go_num, by rw [hbN.out]; rfl, by rw [hbN.out]; exact D7.out, hbb7.out⟩
              case measure => simp [intOf]; omega
            · have e := HN.out false (by rw [decide_eq_true h2, decide_eq_false h4]; rfl)
              subst e
              clear HN D7 hbb7 hW7
              go_wp2_with fail
              go_roundw
              case rel => exact ⟨k + 1, by omega, by go_num, by rw [hbN.out]; rfl, by rw [hbN.out]; exact D.out, hbb.out⟩
              case measure => simp [intOf]; omega
      · obtain rfl : k = LL.length := by omega
        rw [List.take_length] at *
        have HB : Hid (Below w.heap.size w wr) := hB.trans (hbb.mono hwb)
        have Qw : Box wr b6 [.string k1, .int .i64 n1, .int .i64 d1, .string v1] := ⟨Nat.lt_of_lt_of_le Q1'.1 hbb.size, fun j u hu => (hbb.cell (p := ⟨b6, j, none⟩) hb6).trans (Q1'.2.1 j u hu), fun j => (hbb.frozen (p := ⟨b6, j, none⟩) hb6).trans (Q1'.2.2 j)⟩
        generalize bst key n LL = bN at *
        obtain ⟨⟨bk, bn, bd, bv⟩, bf⟩ := bN
        dsimp only at *
        obtain ⟨zl, z0, z1, z2, z3⟩ := Qw.c4
        obtain ⟨dl, y0, y1, y2, y3⟩ := D.c4
        have hm : m3 ≤ (LL.length : Int) + 5 := hlk.2
        clear HC hbb hB Q1' Qw D hlk hrm
        by_cases hk0 : key.size = 0
        · obtain rfl : key = ⟨#[]⟩ := by
            cases key with | mk a => congr; exact Array.size_eq_zero_iff.1 hk0
          clear hFB
          go_wp2
          go_ret
          exact ⟨rfl, HB.out⟩
        have hke := keyNe key (by omega)
        by_cases hk16 : 16 < key.size
        · have hk16i : (16 : Int) < (key.size : Int) := by omega
          clear hFB
          go_wp2
          go_ret
          exact ⟨rfl, HB.out⟩
        have hk16i : ¬ (16 : Int) < (key.size : Int) := by omega
        obtain ⟨hf1, hf2⟩ := hFB.out (by unfold okKey; simp; omega)
        subst hf1
        have EE := fun W => eqItemSame k1 v1 n1 d1 W
        cases ok1 with
        | false =>
          clear hf2 hFB
          go_wp2
          go_ret
          exact ⟨rfl, HB.out⟩
        | true =>
          have e := hf2 rfl
          simp only [It.mk.injEq] at e
          obtain ⟨rfl, rfl, rfl, rfl⟩ := e
          clear hf2 hFB
          go_wp2
          go_ret
          exact ⟨rfl, HB.out⟩
end Go.Proofs.YtdaldkcildbcmaaDoor
