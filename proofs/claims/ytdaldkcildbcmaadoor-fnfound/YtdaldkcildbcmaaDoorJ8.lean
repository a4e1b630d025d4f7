/-
  Both FindSkips, and the walk of the law.
-/
import Derived.Test.YtdaldkcildbcmaaDoorJ6
import Derived.Test.YtdaldkcildbcmaaDoorH4
namespace Go.Proofs.YtdaldkcildbcmaaDoor
open Go.RowKit
set_option linter.unusedVariables false
set_option maxRecDepth 100000

/-- What FindSkip answers. -/
def FindA (hs : List Int) (ts : List Tw) (key : ByteArray) (seq : Int) (k : ByteArray) (n d : Int) (v : ByteArray) (ok : Bool) : Prop :=
  ∃ k' n' d' v' m' ok', SeekA hs ts key seq k' n' d' v' m' ok' ∧
    (((ok' && (k'.toList == key.toList)) = true ∧ k = k' ∧ n = n' ∧ d = d' ∧ v = v' ∧ ok = true) ∨
     ((ok' && (k'.toList == key.toList)) = false ∧ k = ⟨#[]⟩ ∧ n = 0 ∧ d = 0 ∧ v = ⟨#[]⟩ ∧ ok = false))
set_option maxHeartbeats 8000000 in
theorem implFind_any (x : Value) (ay : Option Addr) (cy : Nat) (hs : List Int) (ts : List Tw) (key : ByteArray) (seq : Int) (w : World) (hx : IL w x hs) (hy : TW w (.slice ay ts.length cy) ts) (hn : hs.length ≤ 1048576) (hm : ts.length ≤ 1048576) (ht : Tabs w) (hk : key.size ≤ 1048576)
    (hf : ∀ i : Nat, i < ts.length → (tw ts i).next.length ≤ 1048576 ∧ (tw ts i).key.size ≤ 1048576 ∧ (tw ts i).val.size ≤ 1048576) :
    Calls Tryd.prog 19 #[.agg #[x, .slice ay ts.length cy], .string key, .int .i64 seq] w fun e w' => (∃ k n d v ok, e = .returned (.tuple #[.agg #[.string k, .int .i64 n, .int .i64 d, .string v], .bool ok]) ∧ FindA hs ts key seq k n d v ok) ∧ Below w.heap.size w w' := by
  obtain ⟨ax, cx, hxe, _⟩ := id hx
  subst hxe
  have KE := fun w hx hy ht => implSeek_any (.slice ax hs.length cx) ay cy hs ts key seq w hx hy hn hm ht hk hf
  clear hf
  go_enter Tryd.func19, Tryd.ntmps19
  go_wp2_with fail
  refine (KE _ (hx.below (below2 _ _ _)) (hy.below (below2 _ _ _)) (ht.below (below2 _ _ _))).mono ?_
  rintro e w0 ⟨⟨k1, n1, d1, v1, m1, c1, rfl, hc0⟩, hb0⟩
  have hc : Hid (SeekA hs ts key seq k1 n1 d1 v1 m1 c1) := hc0
  have hb1 := below_then hb0 (below_alloc w0 (.cells #[.string k1, .int .i64 n1, .int .i64 d1, .string v1] 28))
  have hB1 := below_then (below2 _ _ _) hb1
  have Y0 := (Box.new (w.alloc (.cells #[.slice ax hs.length cx, .slice ay ts.length cy] 26)) #[.string ⟨#[]⟩, .int .i64 0, .int .i64 0, .string ⟨#[]⟩] 28).below hb0
  simp only [World.size_alloc] at Y0
  have Y1 := Y0.below (below_alloc w0 (.cells #[.string k1, .int .i64 n1, .int .i64 d1, .string v1] 28))
  obtain ⟨⟨yf0, yf1, yf2, yf3⟩, _, y0, y1, y2, y3⟩ := Y1.f4
  clear hb1 hb0 KE hc0 Y0
  obtain ⟨W0, hW0⟩ : ∃ W0, W0 = w0.alloc (.cells #[.string k1, .int .i64 n1, .int .i64 d1, .string v1] 28) := ⟨_, rfl⟩
  have V1 := Box.new w0 #[.string k1, .int .i64 n1, .int .i64 d1, .string v1] 28
  obtain ⟨_, s0, s1, s2, s3⟩ := V1.c4
  clear hW0 V1 W0
  cases c1 with
  | false =>
    go_wp2
    obtain ⟨⟨r0, r1, r2, r3⟩, hBz⟩ := put4_ok hB1 (by omega) Y1 (.string ⟨#[]⟩) (.int .i64 0) (.int .i64 0) (.string ⟨#[]⟩)
    change bodyPost _ _ _ _ _ (put4 _ (w.heap.size + 1) (.string ⟨#[]⟩) (.int .i64 0) (.int .i64 0) (.string ⟨#[]⟩))
    generalize put4 _ (w.heap.size + 1) (.string ⟨#[]⟩) (.int .i64 0) (.int .i64 0) (.string ⟨#[]⟩) = W' at *
    refine bodyPost_ret (v := .tuple #[.agg #[.string ⟨#[]⟩, .int .i64 0, .int .i64 0, .string ⟨#[]⟩], .bool false]) ?_ rfl ⟨⟨_, _, _, _, _, rfl, ⟨k1, n1, d1, v1, m1, _, hc.out, .inr ⟨rfl, rfl, rfl, rfl, rfl, rfl⟩⟩⟩, hBz⟩
    simp [results, Tryd.results19, go_sem, r0, r1, r2, r3]
  | true =>
    cases hq : (k1.toList == key.toList) with
    | false =>
      go_wp2
      obtain ⟨⟨r0, r1, r2, r3⟩, hBz⟩ := put4_ok hB1 (by omega) Y1 (.string ⟨#[]⟩) (.int .i64 0) (.int .i64 0) (.string ⟨#[]⟩)
      change bodyPost _ _ _ _ _ (put4 _ (w.heap.size + 1) (.string ⟨#[]⟩) (.int .i64 0) (.int .i64 0) (.string ⟨#[]⟩))
      generalize put4 _ (w.heap.size + 1) (.string ⟨#[]⟩) (.int .i64 0) (.int .i64 0) (.string ⟨#[]⟩) = W' at *
      refine bodyPost_ret (v := .tuple #[.agg #[.string ⟨#[]⟩, .int .i64 0, .int .i64 0, .string ⟨#[]⟩], .bool false]) ?_ rfl ⟨⟨_, _, _, _, _, rfl, ⟨k1, n1, d1, v1, m1, _, hc.out, .inr ⟨by rw [hq]; rfl, rfl, rfl, rfl, rfl, rfl⟩⟩⟩, hBz⟩
      simp [results, Tryd.results19, go_sem, r0, r1, r2, r3]
    | true =>
      go_wp2
      obtain ⟨⟨r0, r1, r2, r3⟩, hBz⟩ := put4_ok hB1 (by omega) Y1 (.string k1) (.int .i64 n1) (.int .i64 d1) (.string v1)
      change bodyPost _ _ _ _ _ (put4 _ (w.heap.size + 1) (.string k1) (.int .i64 n1) (.int .i64 d1) (.string v1))
      generalize put4 _ (w.heap.size + 1) (.string k1) (.int .i64 n1) (.int .i64 d1) (.string v1) = W' at *
      refine bodyPost_ret (v := .tuple #[.agg #[.string k1, .int .i64 n1, .int .i64 d1, .string v1], .bool true]) ?_ rfl ⟨⟨_, _, _, _, _, rfl, ⟨k1, n1, d1, v1, m1, _, hc.out, .inl ⟨by rw [hq]; rfl, rfl, rfl, rfl, rfl, rfl⟩⟩⟩, hBz⟩
      simp [results, Tryd.results19, go_sem, r0, r1, r2, r3]

set_option maxHeartbeats 8000000 in
theorem specFind_any (x : Value) (ay : Option Addr) (cy : Nat) (hs : List Int) (ts : List Tw) (key : ByteArray) (seq : Int) (w : World) (hx : IL w x hs) (hy : TW w (.slice ay ts.length cy) ts) (hn : hs.length ≤ 1048576) (hm : ts.length ≤ 1048576) (hcy : ts.length ≤ cy) (hcm : cy ≤ 9223372036854775807) (hk : key.size ≤ 1048576)
    (hf : ∀ i : Nat, i < ts.length → (tw ts i).next.length ≤ 1048576 ∧ (tw ts i).key.size ≤ 1048576 ∧ (tw ts i).val.size ≤ 1048576) :
    Calls Tryd.prog 20 #[.agg #[x, .slice ay ts.length cy], .string key, .int .i64 seq] w fun e w' => (∃ k n d v ok, e = .returned (.tuple #[.agg #[.string k, .int .i64 n, .int .i64 d, .string v], .bool ok]) ∧ FindA hs ts key seq k n d v ok) ∧ Below w.heap.size w w' := by
  obtain ⟨ax, cx, hxe, _⟩ := id hx
  subst hxe
  have KE := fun w hx hy => specSeek_any (.slice ax hs.length cx) ay cy hs ts key seq w hx hy hn hm hcy hcm hk hf
  clear hf
  go_enter Tryd.func20, Tryd.ntmps20
  go_wp2_with fail
  refine (KE _ (hx.below (below2 _ _ _)) (hy.below (below2 _ _ _))).mono ?_
  rintro e w0 ⟨⟨k1, n1, d1, v1, m1, c1, rfl, hc0⟩, hb0⟩
  have hc : Hid (SeekA hs ts key seq k1 n1 d1 v1 m1 c1) := hc0
  have hb1 := below_then hb0 (below_alloc w0 (.cells #[.string k1, .int .i64 n1, .int .i64 d1, .string v1] 28))
  have hB1 := below_then (below2 _ _ _) hb1
  have Y0 := (Box.new (w.alloc (.cells #[.slice ax hs.length cx, .slice ay ts.length cy] 26)) #[.string ⟨#[]⟩, .int .i64 0, .int .i64 0, .string ⟨#[]⟩] 28).below hb0
  simp only [World.size_alloc] at Y0
  have Y1 := Y0.below (below_alloc w0 (.cells #[.string k1, .int .i64 n1, .int .i64 d1, .string v1] 28))
  obtain ⟨⟨yf0, yf1, yf2, yf3⟩, _, y0, y1, y2, y3⟩ := Y1.f4
  clear hb1 hb0 KE hc0 Y0
  obtain ⟨W0, hW0⟩ : ∃ W0, W0 = w0.alloc (.cells #[.string k1, .int .i64 n1, .int .i64 d1, .string v1] 28) := ⟨_, rfl⟩
  have V1 := Box.new w0 #[.string k1, .int .i64 n1, .int .i64 d1, .string v1] 28
  obtain ⟨_, s0, s1, s2, s3⟩ := V1.c4
  clear hW0 V1 W0
  cases c1 with
  | false =>
    go_wp2
    obtain ⟨⟨r0, r1, r2, r3⟩, hBz⟩ := put4_ok hB1 (by omega) Y1 (.string ⟨#[]⟩) (.int .i64 0) (.int .i64 0) (.string ⟨#[]⟩)
    change bodyPost _ _ _ _ _ (put4 _ (w.heap.size + 1) (.string ⟨#[]⟩) (.int .i64 0) (.int .i64 0) (.string ⟨#[]⟩))
    generalize put4 _ (w.heap.size + 1) (.string ⟨#[]⟩) (.int .i64 0) (.int .i64 0) (.string ⟨#[]⟩) = W' at *
    refine bodyPost_ret (v := .tuple #[.agg #[.string ⟨#[]⟩, .int .i64 0, .int .i64 0, .string ⟨#[]⟩], .bool false]) ?_ rfl ⟨⟨_, _, _, _, _, rfl, ⟨k1, n1, d1, v1, m1, _, hc.out, .inr ⟨rfl, rfl, rfl, rfl, rfl, rfl⟩⟩⟩, hBz⟩
    simp [results, Tryd.results20, go_sem, r0, r1, r2, r3]
  | true =>
    cases hq : (k1.toList == key.toList) with
    | false =>
      go_wp2
      obtain ⟨⟨r0, r1, r2, r3⟩, hBz⟩ := put4_ok hB1 (by omega) Y1 (.string ⟨#[]⟩) (.int .i64 0) (.int .i64 0) (.string ⟨#[]⟩)
      change bodyPost _ _ _ _ _ (put4 _ (w.heap.size + 1) (.string ⟨#[]⟩) (.int .i64 0) (.int .i64 0) (.string ⟨#[]⟩))
      generalize put4 _ (w.heap.size + 1) (.string ⟨#[]⟩) (.int .i64 0) (.int .i64 0) (.string ⟨#[]⟩) = W' at *
      refine bodyPost_ret (v := .tuple #[.agg #[.string ⟨#[]⟩, .int .i64 0, .int .i64 0, .string ⟨#[]⟩], .bool false]) ?_ rfl ⟨⟨_, _, _, _, _, rfl, ⟨k1, n1, d1, v1, m1, _, hc.out, .inr ⟨by rw [hq]; rfl, rfl, rfl, rfl, rfl, rfl⟩⟩⟩, hBz⟩
      simp [results, Tryd.results20, go_sem, r0, r1, r2, r3]
    | true =>
      go_wp2
      obtain ⟨⟨r0, r1, r2, r3⟩, hBz⟩ := put4_ok hB1 (by omega) Y1 (.string k1) (.int .i64 n1) (.int .i64 d1) (.string v1)
      change bodyPost _ _ _ _ _ (put4 _ (w.heap.size + 1) (.string k1) (.int .i64 n1) (.int .i64 d1) (.string v1))
      generalize put4 _ (w.heap.size + 1) (.string k1) (.int .i64 n1) (.int .i64 d1) (.string v1) = W' at *
      refine bodyPost_ret (v := .tuple #[.agg #[.string k1, .int .i64 n1, .int .i64 d1, .string v1], .bool true]) ?_ rfl ⟨⟨_, _, _, _, _, rfl, ⟨k1, n1, d1, v1, m1, _, hc.out, .inl ⟨by rw [hq]; rfl, rfl, rfl, rfl, rfl, rfl⟩⟩⟩, hBz⟩
      simp [results, Tryd.results20, go_sem, r0, r1, r2, r3]

end Go.Proofs.YtdaldkcildbcmaaDoor
