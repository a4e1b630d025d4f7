/-
  Both FindSkips, and the walk of the law.
-/
import Derived.Test.YtdaldkcildbcmaaDoorJ7
namespace Go.Proofs.YtdaldkcildbcmaaDoor
open Go.RowKit
set_option linter.unusedVariables false
set_option maxRecDepth 100000

/-- What FindSkip answers. -/
def FindA (hs : List Int) (ts : List Tw) (key : ByteArray) (seq : Int) (k : ByteArray) (n d : Int) (v : ByteArray) (ok : Bool) : Prop :=
  ∃ k' n' d' v' m' ok', SeekA hs ts key seq k' n' d' v' m' ok' ∧
    (((ok' && (k'.toList == key.toList)) = true ∧ k = k' ∧ n = n' ∧ d = d' ∧ v = v' ∧ ok = true) ∨
     ((ok' && (k'.toList == key.toList)) = false ∧ k = ⟨#[]⟩ ∧ n = 0 ∧ d = 0 ∧ v = ⟨#[]⟩ ∧ ok = false))
theorem FindA.same {hs : List Int} {ts : List Tw} {key k k' v v' : ByteArray} {seq n n' d d' : Int} {ok ok' : Bool} (h : FindA hs ts key seq k n d v ok) (h' : FindA hs ts key seq k' n' d' v' ok') : k = k' ∧ n = n' ∧ d = d' ∧ v = v' ∧ ok = ok' := by
  obtain ⟨a1, a2, a3, a4, a5, a6, ha, hq⟩ := h
  obtain ⟨b1, b2, b3, b4, b5, b6, hb, hr⟩ := h'
  obtain ⟨rfl, rfl, rfl, rfl, rfl, rfl⟩ := ha.same hb
  rcases hq with ⟨c, e1, e2, e3, e4, e5⟩ | ⟨c, e1, e2, e3, e4, e5⟩ <;> rcases hr with ⟨c', f1, f2, f3, f4, f5⟩ | ⟨c', f1, f2, f3, f4, f5⟩
  · exact ⟨e1.trans f1.symm, e2.trans f2.symm, e3.trans f3.symm, e4.trans f4.symm, e5.trans f5.symm⟩
  · rw [c] at c'; cases c'
  · rw [c] at c'; cases c'
  · exact ⟨e1.trans f1.symm, e2.trans f2.symm, e3.trans f3.symm, e4.trans f4.symm, e5.trans f5.symm⟩

set_option maxHeartbeats 8000000 in
theorem implFind_any (x : Value) (ay : Option Addr) (cy : Nat) (hs : List Int) (ts : List Tw) (key : ByteArray) (seq : Int) (w : World) (hx : IL w x hs) (hy : TW w (.slice ay ts.length cy) ts) (hn : hs.length ≤ 1048576) (hm : ts.length ≤ 1048576) (ht : Tabs w) (hk : key.size ≤ 1048576)
    (hf : ∀ i : Nat, i < ts.length → (tw ts i).next.length ≤ 1048576 ∧ (tw ts i).key.size ≤ 1048576 ∧ (tw ts i).val.size ≤ 1048576) :
    Calls Tryd.prog 19 #[.agg #[x, .slice ay ts.length cy], .string key, .int .i64 seq] w fun e w' => (∃ k n d v ok, e = .returned (.tuple #[.agg #[.string k, .int .i64 n, .int .i64 d, .string v], .bool ok]) ∧ FindA hs ts key seq k n d v ok) ∧ Below w.heap.size w w' := by
  obtain ⟨ax, cx, hxe, _⟩ := id hx
  subst hxe
  have KE := fun w hx hy ht => implSeek_any (.slice ax hs.length cx) ay cy hs ts key seq w hx hy hn hm ht hk hf
  clear hf
  go_enter Tryd.func19, Tryd.ntmps19
  go_wp2_with fail
  refine (KE _ (hx.below (below2 _ _ _)) (hy.below (below2 _ _ _)) (ht.below (below2 _ _ _))).mono ?_
  rintro e w0 ⟨⟨k1, n1, d1, v1, m1, c1, rfl, hc0⟩, hb0⟩
  have hc : Hid (SeekA hs ts key seq k1 n1 d1 v1 m1 c1) := hc0
  have hb1 := below_then hb0 (below_alloc w0 (.cells #[.string k1, .int .i64 n1, .int .i64 d1, .string v1] 28))
  have hB1 := below_then (below2 _ _ _) hb1
  have Y0 := (Box.new (w.alloc (.cells #[.slice ax hs.length cx, .slice ay ts.length cy] 26)) #[.string ⟨#[]⟩, .int .i64 0, .int .i64 0, .string ⟨#[]⟩] 28).below hb0
  simp only [World.size_alloc] at Y0
  have Y1 := Y0.below (below_alloc w0 (.cells #[.string k1, .int .i64 n1, .int .i64 d1, .string v1] 28))
  obtain ⟨⟨yf0, yf1, yf2, yf3⟩, _, y0, y1, y2, y3⟩ := Y1.f4
  clear hb1 hb0 KE hc0 Y0
  obtain ⟨W0, hW0⟩ : ∃ W0, W0 = w0.alloc (.cells #[.string k1, .int .i64 n1, .int .i64 d1, .string v1] 28) := ⟨_, rfl⟩
  have V1 := Box.new w0 #[.string k1, .int .i64 n1, .int .i64 d1, .string v1] 28
  obtain ⟨_, s0, s1, s2, s3⟩ := V1.c4
  clear hW0 V1 W0
  cases c1 with
  | false =>
    go_wp2
    obtain ⟨⟨r0, r1, r2, r3⟩, hBz⟩ := put4_ok hB1 (by omega) Y1 (.string ⟨#[]⟩) (.int .i64 0) (.int .i64 0) (.string ⟨#[]⟩)
    change bodyPost _ _ _ _ _ (put4 _ (w.heap.size + 1) (.string ⟨#[]⟩) (.int .i64 0) (.int .i64 0) (.string ⟨#[]⟩))
    generalize put4 _ (w.heap.size + 1) (.string ⟨#[]⟩) (.int .i64 0) (.int .i64 0) (.string ⟨#[]⟩) = W' at *
    refine bodyPost_ret (v := .tuple #[.agg #[.string ⟨#[]⟩, .int .i64 0, .int .i64 0, .string ⟨#[]⟩], .bool false]) ?_ rfl ⟨⟨_, _, _, _, _, rfl, ⟨k1, n1, d1, v1, m1, _, hc.out, .inr ⟨rfl, rfl, rfl, rfl, rfl, rfl⟩⟩⟩, hBz⟩
    simp [results, Tryd.results19, go_sem, r0, r1, r2, r3]
  | true =>
    cases hq : (k1.toList == key.toList) with
    | false =>
      go_wp2
      obtain ⟨⟨r0, r1, r2, r3⟩, hBz⟩ := put4_ok hB1 (by omega) Y1 (.string ⟨#[]⟩) (.int .i64 0) (.int .i64 0) (.string ⟨#[]⟩)
      change bodyPost _ _ _ _ _ (put4 _ (w.heap.size + 1) (.string ⟨#[]⟩) (.int .i64 0) (.int .i64 0) (.string ⟨#[]⟩))
      generalize put4 _ (w.heap.size + 1) (.string ⟨#[]⟩) (.int .i64 0) (.int .i64 0) (.string ⟨#[]⟩) = W' at *
      refine bodyPost_ret (v := .tuple #[.agg #[.string ⟨#[]⟩, .int .i64 0, .int .i64 0, .string ⟨#[]⟩], .bool false]) ?_ rfl ⟨⟨_, _, _, _, _, rfl, ⟨k1, n1, d1, v1, m1, _, hc.out, .inr ⟨by rw [hq]; rfl, rfl, rfl, rfl, rfl, rfl⟩⟩⟩, hBz⟩
      simp [results, Tryd.results19, go_sem, r0, r1, r2, r3]
    | true =>
      go_wp2
      obtain ⟨⟨r0, r1, r2, r3⟩, hBz⟩ := put4_ok hB1 (by omega) Y1 (.string k1) (.int .i64 n1) (.int .i64 d1) (.string v1)
      change bodyPost _ _ _ _ _ (put4 _ (w.heap.size + 1) (.string k1) (.int .i64 n1) (.int .i64 d1) (.string v1))
      generalize put4 _ (w.heap.size + 1) (.string k1) (.int .i64 n1) (.int .i64 d1) (.string v1) = W' at *
      refine bodyPost_ret (v := .tuple #[.agg #[.string k1, .int .i64 n1, .int .i64 d1, .string v1], .bool true]) ?_ rfl ⟨⟨_, _, _, _, _, rfl, ⟨k1, n1, d1, v1, m1, _, hc.out, .inl ⟨by rw [hq]; rfl, rfl, rfl, rfl, rfl, rfl⟩⟩⟩, hBz⟩
      simp [results, Tryd.results19, go_sem, r0, r1, r2, r3]

set_option maxHeartbeats 8000000 in
theorem specFind_any (x : Value) (ay : Option Addr) (cy : Nat) (hs : List Int) (ts : List Tw) (key : ByteArray) (seq : Int) (w : World) (hx : IL w x hs) (hy : TW w (.slice ay ts.length cy) ts) (hn : hs.length ≤ 1048576) (hm : ts.length ≤ 1048576) (hcy : ts.length ≤ cy) (hcm : cy ≤ 1048576) (hk : key.size ≤ 1048576)
    (hf : ∀ i : Nat, i < ts.length → (tw ts i).next.length ≤ 1048576 ∧ (tw ts i).key.size ≤ 1048576 ∧ (tw ts i).val.size ≤ 1048576) :
    Calls Tryd.prog 20 #[.agg #[x, .slice ay ts.length cy], .string key, .int .i64 seq] w fun e w' => (∃ k n d v ok, e = .returned (.tuple #[.agg #[.string k, .int .i64 n, .int .i64 d, .string v], .bool ok]) ∧ FindA hs ts key seq k n d v ok) ∧ Below w.heap.size w w' := by
  obtain ⟨ax, cx, hxe, _⟩ := id hx
  subst hxe
  have KE := fun w hx hy => specSeek_any (.slice ax hs.length cx) ay cy hs ts key seq w hx hy hn hm hcy hcm hk hf
  clear hf
  go_enter Tryd.func20, Tryd.ntmps20
  go_wp2_with fail
  refine (KE _ (hx.below (below2 _ _ _)) (hy.below (below2 _ _ _))).mono ?_
  rintro e w0 ⟨⟨k1, n1, d1, v1, m1, c1, rfl, hc0⟩, hb0⟩
  have hc : Hid (SeekA hs ts key seq k1 n1 d1 v1 m1 c1) := hc0
  have hb1 := below_then hb0 (below_alloc w0 (.cells #[.string k1, .int .i64 n1, .int .i64 d1, .string v1] 28))
  have hB1 := below_then (below2 _ _ _) hb1
  have Y0 := (Box.new (w.alloc (.cells #[.slice ax hs.length cx, .slice ay ts.length cy] 26)) #[.string ⟨#[]⟩, .int .i64 0, .int .i64 0, .string ⟨#[]⟩] 28).below hb0
  simp only [World.size_alloc] at Y0
  have Y1 := Y0.below (below_alloc w0 (.cells #[.string k1, .int .i64 n1, .int .i64 d1, .string v1] 28))
  obtain ⟨⟨yf0, yf1, yf2, yf3⟩, _, y0, y1, y2, y3⟩ := Y1.f4
  clear hb1 hb0 KE hc0 Y0
  obtain ⟨W0, hW0⟩ : ∃ W0, W0 = w0.alloc (.cells #[.string k1, .int .i64 n1, .int .i64 d1, .string v1] 28) := ⟨_, rfl⟩
  have V1 := Box.new w0 #[.string k1, .int .i64 n1, .int .i64 d1, .string v1] 28
  obtain ⟨_, s0, s1, s2, s3⟩ := V1.c4
  clear hW0 V1 W0
  cases c1 with
  | false =>
    go_wp2
    obtain ⟨⟨r0, r1, r2, r3⟩, hBz⟩ := put4_ok hB1 (by omega) Y1 (.string ⟨#[]⟩) (.int .i64 0) (.int .i64 0) (.string ⟨#[]⟩)
    change bodyPost _ _ _ _ _ (put4 _ (w.heap.size + 1) (.string ⟨#[]⟩) (.int .i64 0) (.int .i64 0) (.string ⟨#[]⟩))
    generalize put4 _ (w.heap.size + 1) (.string ⟨#[]⟩) (.int .i64 0) (.int .i64 0) (.string ⟨#[]⟩) = W' at *
    refine bodyPost_ret (v := .tuple #[.agg #[.string ⟨#[]⟩, .int .i64 0, .int .i64 0, .string ⟨#[]⟩], .bool false]) ?_ rfl ⟨⟨_, _, _, _, _, rfl, ⟨k1, n1, d1, v1, m1, _, hc.out, .inr ⟨rfl, rfl, rfl, rfl, rfl, rfl⟩⟩⟩, hBz⟩
    simp [results, Tryd.results20, go_sem, r0, r1, r2, r3]
  | true =>
    cases hq : (k1.toList == key.toList) with
    | false =>
      go_wp2
      obtain ⟨⟨r0, r1, r2, r3⟩, hBz⟩ := put4_ok hB1 (by omega) Y1 (.string ⟨#[]⟩) (.int .i64 0) (.int .i64 0) (.string ⟨#[]⟩)
      change bodyPost _ _ _ _ _ (put4 _ (w.heap.size + 1) (.string ⟨#[]⟩) (.int .i64 0) (.int .i64 0) (.string ⟨#[]⟩))
      generalize put4 _ (w.heap.size + 1) (.string ⟨#[]⟩) (.int .i64 0) (.int .i64 0) (.string ⟨#[]⟩) = W' at *
      refine bodyPost_ret (v := .tuple #[.agg #[.string ⟨#[]⟩, .int .i64 0, .int .i64 0, .string ⟨#[]⟩], .bool false]) ?_ rfl ⟨⟨_, _, _, _, _, rfl, ⟨k1, n1, d1, v1, m1, _, hc.out, .inr ⟨by rw [hq]; rfl, rfl, rfl, rfl, rfl, rfl⟩⟩⟩, hBz⟩
      simp [results, Tryd.results20, go_sem, r0, r1, r2, r3]
    | true =>
      go_wp2
      obtain ⟨⟨r0, r1, r2, r3⟩, hBz⟩ := put4_ok hB1 (by omega) Y1 (.string k1) (.int .i64 n1) (.int .i64 d1) (.string v1)
      change bodyPost _ _ _ _ _ (put4 _ (w.heap.size + 1) (.string k1) (.int .i64 n1) (.int .i64 d1) (.string v1))
      generalize put4 _ (w.heap.size + 1) (.string k1) (.int .i64 n1) (.int .i64 d1) (.string v1) = W' at *
      refine bodyPost_ret (v := .tuple #[.agg #[.string k1, .int .i64 n1, .int .i64 d1, .string v1], .bool true]) ?_ rfl ⟨⟨_, _, _, _, _, rfl, ⟨k1, n1, d1, v1, m1, _, hc.out, .inl ⟨by rw [hq]; rfl, rfl, rfl, rfl, rfl, rfl⟩⟩⟩, hBz⟩
      simp [results, Tryd.results20, go_sem, r0, r1, r2, r3]

set_option maxHeartbeats 4000000 in
theorem lawFindSkip (x y : Value) (hs : List Int) (ts : List Tw) (key : ByteArray) (seq : Int) (w : World) (hx : IL w x hs) (hy : TW w y ts) (hn : hs.length ≤ maxLen) (hm : ts.length ≤ maxLen) (hf : ∀ i (h : i < ts.length), ts[i].fits) (hkey : key.size ≤ maxLen) (ht : Tabs w) :
    Calls Tryd.prog 10 #[.agg #[x, y], .string key, .int .i64 seq] w fun e w' => e = .returned (.bool true) ∧ Below w.heap.size w w' := by
  obtain ⟨ax, cx, hxe, _⟩ := id hx
  subst hxe
  obtain ⟨ay, cy, hye, _⟩ := id hy
  subst hye
  unfold maxLen at hkey
  by_cases hk : key.size ≤ 1048576
  case neg =>
    have hki : (1048576 : Int) < key.size := by omega
    go_enter Tryd.func10, Tryd.ntmps10
    go_wp2
    go_ret
    exact ⟨rfl, below_alloc _ _⟩
  have hki : ¬ (1048576 : Int) < key.size := by omega
  go_enter Tryd.func10, Tryd.ntmps10
  go_wp2_with fail
  refine (szSkip_any _ _ hs ts _ (hx.below (below_alloc _ _)) (hy.below (below_alloc _ _)) hn hm hf).mono ?_
  rintro e w1 ⟨⟨q, rfl, hq⟩, hb1⟩
  have hB1 := below_then (below_alloc _ _) hb1
  have X1 := (Box.new w #[.slice ax hs.length cx, .slice ay ts.length cy] 50).below hb1
  clear hb1
  rcases hq with rfl | ⟨hq0, hqe⟩
  · go_wp2
    go_ret
    exact ⟨rfl, hB1⟩
  · have m1 : hs.length ≤ 1048576 := by omega
    have m2 : ts.length ≤ 1048576 := by omega
    have m3 : totT ts ≤ 1048576 := by omega
    have F1 := fits_of_tot m3
    have F2 : ∀ i (h : i < ts.length), ts[i].next.length ≤ 1048576 := fun i h => (F1 i h).1
    have F3 : ∀ i : Nat, i < ts.length → (tw ts i).next.length ≤ 1048576 ∧ (tw ts i).key.size ≤ 1048576 ∧ (tw ts i).val.size ≤ 1048576 := fun i h => by rw [tw_at ts i h]; exact F1 i h
    have hq' : ¬ q < 0 := by omega
    have KT := fun w hx hy => toSkip_il (.slice ax hs.length cx) (.slice ay ts.length cy) hs ts w hx hy m1 m2 F2
    have KS := fun g1 g2 w hx hy => specFind_any (.slice (some ⟨g1, 0, none⟩) hs.length hs.length) (some ⟨g2, 0, none⟩) ts.length hs ts key seq w hx hy m1 m2 (Nat.le_refl _) m2 hk F3
    have KI := fun g1 g2 w hx hy ht => implFind_any (.slice (some ⟨g1, 0, none⟩) hs.length hs.length) (some ⟨g2, 0, none⟩) ts.length hs ts key seq w hx hy m1 m2 ht hk F3
    have KE := fun x y x' y' w hx hy hx' hy' => eqSkip_same x y x' y' hs ts w hx hy hx' hy' m1 m2 F2
    clear hqe hf F1 F2 F3
    obtain ⟨_, p0, p1⟩ := X1.c2
    go_wp2_with fail
    refine (KT _ (hx.below hB1) (hy.below hB1)).mono ?_
    rintro e w2 ⟨⟨g1, g2, rfl, o1, o2⟩, hb2⟩
    have hB2 := below_then hB1 hb2
    have X2 := X1.below hb2
    clear p0 p1 X1 hb2
    go_wp2_with fail
    refine (KS g1 g2 _ o1 o2).mono ?_
    rintro e w3 ⟨⟨k1, n1, d1, v1, c1, rfl, hc1⟩, hb3⟩
    have hB3' := below_then hb3 (below_alloc w3 (.cells #[.string k1, .int .i64 n1, .int .i64 d1, .string v1] 28))
    have hB3 := below_then hB2 hB3'
    have X3 := X2.below hB3'
    have Z3 := Box.new w3 #[.string k1, .int .i64 n1, .int .i64 d1, .string v1] 28
    clear X2 hb3 o1 o2 hB3'
    obtain ⟨_, p0, p1⟩ := X3.c2
    go_wp2_with fail
    refine (KT _ (hx.below hB3) (hy.below hB3)).mono ?_
    rintro e w4 ⟨⟨g3, g4, rfl, o1, o2⟩, hb4⟩
    have hB4 := below_then hB3 hb4
    have X4 := X3.below hb4
    have Z4 := Z3.below hb4
    clear p0 p1 X3 hb4 Z3
    go_wp2_with fail
    have BX : Below w4.heap.size w4 (w4.alloc (.cells #[.slice (some ⟨g3, 0, none⟩) hs.length hs.length, .slice (some ⟨g4, 0, none⟩) ts.length ts.length] 26)) := below_alloc _ _
    refine (KI g3 g4 _ (o1.below BX) (o2.below BX) (ht.below (below_then hB4 BX))).mono ?_
    rintro e w5' ⟨⟨k2, n2, d2, v2, c2, rfl, hc2⟩, hb5''⟩
    obtain ⟨rfl, rfl, rfl, rfl, rfl⟩ := hc1.same hc2
    clear hc1 hc2
    have hBa := below_then BX hb5''
    have Ya := (Box.new w4 #[.slice (some ⟨g3, 0, none⟩) hs.length hs.length, .slice (some ⟨g4, 0, none⟩) ts.length ts.length] 26).below hb5''
    have Za := Z4.below hBa
    have Xa := X4.below hBa
    have hA := below_alloc w5' (.cells #[.string k1, .int .i64 n1, .int .i64 d1, .string v1] 28)
    have hBb := below_then hBa hA
    have Yb := Ya.below hA
    have Zb := Za.below hA
    have Xb := Xa.below hA
    clear X4 Z4 hb5'' hBa Ya Xa hA BX
    obtain ⟨_, z0, z1, z2, z3⟩ := Za.c4
    have hzl := Za.1
    go_wp2_with fail
    refine (eqItem_same k1 v1 n1 d1 _).mono ?_
    rintro e w5 ⟨rfl, hb5⟩
    have hB5' := below_then hBb hb5
    have hB5 := below_then hB4 hB5'
    have X5 := Xb.below hb5
    have Y5 := Yb.below hb5
    have l1 := o1.below hB5'
    have l2 := o2.below hB5'
    clear hb5 o1 o2 hB5' hBb Yb Zb Xb z0 z1 z2 z3 Za hzl
    obtain ⟨hz1, p0, p1⟩ := X5.c2
    obtain ⟨hz2, q0, q1⟩ := Y5.c2
    cases c1
    all_goals
      go_wp2_with fail
      go_region_held3 (fun w' => w'.cell? ⟨w.heap.size, 0, none⟩ = some (.slice ax hs.length cx) ∧ w'.cell? ⟨w.heap.size, 1, none⟩ = some (.slice ay ts.length cy) ∧ w'.cell? ⟨w4.heap.size, 0, none⟩ = some (.slice (some ⟨g3, 0, none⟩) hs.length hs.length) ∧ w'.cell? ⟨w4.heap.size, 1, none⟩ = some (.slice (some ⟨g4, 0, none⟩) ts.length ts.length)) (go_keep) (first | (go_at_call 26; refine (KT _ (hx.below hB5.drew) (hy.below hB5.drew)).mono ?_; rintro e w6 ⟨⟨g5, g6, rfl, o1, o2⟩, hb6'⟩; have hb6 := below_undrew hb6'; obtain ⟨_, p0, p1⟩ := (X5.below hb6).c2; obtain ⟨_, q0, q1⟩ := (Y5.below hb6).c2) | (go_at_call 27; refine (KE _ _ _ _ _ (l1.below hb6) (l2.below hb6) o1 o2).mono ?_; rintro e w7 ⟨rfl, hb7⟩; obtain ⟨_, p0, p1⟩ := ((X5.below hb6).below hb7).c2; obtain ⟨_, q0, q1⟩ := ((Y5.below hb6).below hb7).c2))
      all_goals
        go_wp2
        go_ret
        exact ⟨rfl, below_then (below_then hB5 hb6) hb7⟩
end Go.Proofs.YtdaldkcildbcmaaDoor
