/-
  Both SeekSkips.
-/
import Derived.Test.YtdaldkcildbcmaaDoorJ5
namespace Go.Proofs.YtdaldkcildbcmaaDoor
open Go.RowKit
set_option linter.unusedVariables false
set_option maxRecDepth 100000

def put4 (w : World) (b : Nat) (x1 x2 x3 x4 : Value) : World := (((w.setCell ⟨b, 0, none⟩ x1).setCell ⟨b, 1, none⟩ x2).setCell ⟨b, 2, none⟩ x3).setCell ⟨b, 3, none⟩ x4
theorem put4_chg (w : World) (b : Nat) (x1 x2 x3 x4 : Value) : Chg (· = b) w (put4 w b x1 x2 x3 x4) :=
  ((((Chg.refl (· = b) w).setCell (p := ⟨b, 0, none⟩) rfl _).setCell (p := ⟨b, 1, none⟩) rfl _).setCell (p := ⟨b, 2, none⟩) rfl _).setCell (p := ⟨b, 3, none⟩) rfl _
theorem put4_box {w : World} {b : Nat} {y1 y2 y3 y4 : Value} (h : Box w b [y1, y2, y3, y4]) (x1 x2 x3 x4 : Value) : Box (put4 w b x1 x2 x3 x4) b [x1, x2, x3, x4] :=
  (((h.set 0 x1 (by simp)).set 1 x2 (by simp)).set 2 x3 (by simp)).set 3 x4 (by simp)
theorem put4_ok {w w2 : World} {b : Nat} {y1 y2 y3 y4 : Value} (hb : Below w.heap.size w w2) (hB : w.heap.size ≤ b) (hx : Box w2 b [y1, y2, y3, y4]) (x1 x2 x3 x4 : Value) :
    ((put4 w2 b x1 x2 x3 x4).cell? ⟨b, 0, none⟩ = some x1 ∧ (put4 w2 b x1 x2 x3 x4).cell? ⟨b, 1, none⟩ = some x2 ∧ (put4 w2 b x1 x2 x3 x4).cell? ⟨b, 2, none⟩ = some x3 ∧ (put4 w2 b x1 x2 x3 x4).cell? ⟨b, 3, none⟩ = some x4) ∧ Below w.heap.size w (put4 w2 b x1 x2 x3 x4) :=
  ⟨(put4_box hx x1 x2 x3 x4).c4.2, hb.trans ((put4_chg w2 b x1 x2 x3 x4).below hb.size (fun k hk => by omega))⟩
theorem Box.f4 {w : World} {b : Nat} {v0 v1 v2 v3 : Value} (h : Box w b [v0, v1, v2, v3]) : (w.frozen? ⟨b, 0, none⟩ = false ∧ w.frozen? ⟨b, 1, none⟩ = false ∧ w.frozen? ⟨b, 2, none⟩ = false ∧ w.frozen? ⟨b, 3, none⟩ = false) ∧ b < w.heap.size ∧ w.cell? ⟨b, 0, none⟩ = some v0 ∧ w.cell? ⟨b, 1, none⟩ = some v1 ∧ w.cell? ⟨b, 2, none⟩ = some v2 ∧ w.cell? ⟨b, 3, none⟩ = some v3 :=
  ⟨⟨h.2.2 0, h.2.2 1, h.2.2 2, h.2.2 3⟩, h.c4⟩

/-- What is looked for. -/
def skT (key : ByteArray) (seq : Int) : Tw := ⟨key, seq, 0, ⟨#[]⟩, []⟩
def SkOk (hs : List Int) (ts : List Tw) (key : ByteArray) (seq : Int) : Prop := GoodI hs ts ∧ okKey key = true ∧ okSeq seq = true ∧ skN hs ts (skT key seq) ≠ -1
/-- What SeekSkip answers. -/
def SeekA (hs : List Int) (ts : List Tw) (key : ByteArray) (seq : Int) (k : ByteArray) (n d : Int) (v : ByteArray) (m : Int) (ok : Bool) : Prop :=
  (¬ SkOk hs ts key seq ∧ k = ⟨#[]⟩ ∧ n = 0 ∧ d = 0 ∧ v = ⟨#[]⟩ ∧ m = 0 ∧ ok = false) ∨
  (SkOk hs ts key seq ∧ k = (tw ts (skN hs ts (skT key seq))).key ∧ n = (tw ts (skN hs ts (skT key seq))).seq ∧ d = (tw ts (skN hs ts (skT key seq))).kind ∧ v = (tw ts (skN hs ts (skT key seq))).val ∧ m = ((SkS hs ts (skT key seq) 5).2 : Int) ∧ ok = true)
theorem skN_ok {hs : List Int} {ts : List Tw} (G : GoodI hs ts) (t : Tw) : skN hs ts t = -1 ∨ okAt ts 0 (skN hs ts t) := by
  have := good_step G (show 0 < 5 by omega) (SkS_ok G t 5 (by omega) 0 (by omega))
  unfold skN
  rcases this with h | h
  · exact .inl h
  · exact .inr h.1

set_option maxHeartbeats 8000000 in
theorem implSeek_any (x : Value) (ay : Option Addr) (cy : Nat) (hs : List Int) (ts : List Tw) (key : ByteArray) (seq : Int) (w : World) (hx : IL w x hs) (hy : TW w (.slice ay ts.length cy) ts) (hn : hs.length ≤ 1048576) (hm : ts.length ≤ 1048576) (ht : Tabs w) (hk : key.size ≤ 1048576)
    (hf : ∀ i : Nat, i < ts.length → (tw ts i).next.length ≤ 1048576 ∧ (tw ts i).key.size ≤ 1048576 ∧ (tw ts i).val.size ≤ 1048576) :
    Calls Tryd.prog 21 #[.agg #[x, .slice ay ts.length cy], .string key, .int .i64 seq] w fun e w' => (∃ k n d v m ok, e = .returned (.tuple #[.agg #[.string k, .int .i64 n, .int .i64 d, .string v], .int .i64 m, .bool ok]) ∧ SeekA hs ts key seq k n d v m ok) ∧ Below w.heap.size w w' := by
  obtain ⟨ax, cx, hxe, _⟩ := id hx
  subst hxe
  have KG := fun w hx hy ht => implGoodSkip_any (.slice ax hs.length cx) (.slice ay ts.length cy) hs ts w hx hy hn hm ht hf
  have KK := fun w => goodKey_any key w hk
  have KS := fun w => goodSeq_any seq w
  have KF := fun G w hx hy => seek_any (.slice ax hs.length cx) ay cy hs ts (skT key seq) none 0 0 w hx hy G
  clear hf
  go_enter Tryd.func21, Tryd.ntmps21
  go_wp2_with fail
  refine (KG _ (hx.below (below2 _ _ _)) (hy.below (below2 _ _ _)) (ht.below (below2 _ _ _))).mono ?_
  rintro e w1 ⟨⟨c, rfl, hc⟩, hb1⟩
  have hB1 := below_then (below2 _ _ _) hb1
  have X1 := ((Box.new w #[.slice ax hs.length cx, .slice ay ts.length cy] 26).alloc (.cells #[.string ⟨#[]⟩, .int .i64 0, .int .i64 0, .string ⟨#[]⟩] 28)).below hb1
  have Y1 := (Box.new (w.alloc (.cells #[.slice ax hs.length cx, .slice ay ts.length cy] 26)) #[.string ⟨#[]⟩, .int .i64 0, .int .i64 0, .string ⟨#[]⟩] 28).below hb1
  simp only [World.size_alloc] at Y1
  clear hb1 KG
  skip
  cases c with
  | false =>
    have HN : Hid (¬ SkOk hs ts key seq) := fun h => by have := hc.2 h.1; cases this
    clear hc
    obtain ⟨⟨yf0, yf1, yf2, yf3⟩, _, y0, y1, y2, y3⟩ := Y1.f4
    go_wp2
    obtain ⟨⟨r0, r1, r2, r3⟩, hBz⟩ := put4_ok hB1 (by omega) Y1 (.string ⟨#[]⟩) (.int .i64 0) (.int .i64 0) (.string ⟨#[]⟩)
    change bodyPost _ _ _ _ _ (put4 _ (w.heap.size + 1) (.string ⟨#[]⟩) (.int .i64 0) (.int .i64 0) (.string ⟨#[]⟩))
    generalize put4 _ (w.heap.size + 1) (.string ⟨#[]⟩) (.int .i64 0) (.int .i64 0) (.string ⟨#[]⟩) = W' at *
    refine bodyPost_ret (v := .tuple #[.agg #[.string ⟨#[]⟩, .int .i64 0, .int .i64 0, .string ⟨#[]⟩], .int .i64 0, .bool false]) ?_ rfl ⟨⟨_, _, _, _, _, _, rfl, .inl ⟨HN.out, rfl, rfl, rfl, rfl, rfl, rfl⟩⟩, hBz⟩
    simp [results, Tryd.results21, go_sem, r0, r1, r2, r3]
  | true =>
    have G := hc.1 rfl
    clear hc
    cases hK : okKey key with
    | false =>
      have HN : Hid (¬ SkOk hs ts key seq) := fun h => by have := h.2.1; rw [hK] at this; cases this
      rw [hK] at KK
      go_wp2_with fail
      refine (KK _).mono ?_
      rintro e w2 ⟨rfl, hw⟩
      rw [hw]; clear hw KK hK
      obtain ⟨⟨yf0, yf1, yf2, yf3⟩, _, y0, y1, y2, y3⟩ := Y1.f4
      go_wp2
      obtain ⟨⟨r0, r1, r2, r3⟩, hBz⟩ := put4_ok hB1 (by omega) Y1 (.string ⟨#[]⟩) (.int .i64 0) (.int .i64 0) (.string ⟨#[]⟩)
      change bodyPost _ _ _ _ _ (put4 _ (w.heap.size + 1) (.string ⟨#[]⟩) (.int .i64 0) (.int .i64 0) (.string ⟨#[]⟩))
      generalize put4 _ (w.heap.size + 1) (.string ⟨#[]⟩) (.int .i64 0) (.int .i64 0) (.string ⟨#[]⟩) = W' at *
      refine bodyPost_ret (v := .tuple #[.agg #[.string ⟨#[]⟩, .int .i64 0, .int .i64 0, .string ⟨#[]⟩], .int .i64 0, .bool false]) ?_ rfl ⟨⟨_, _, _, _, _, _, rfl, .inl ⟨HN.out, rfl, rfl, rfl, rfl, rfl, rfl⟩⟩, hBz⟩
      simp [results, Tryd.results21, go_sem, r0, r1, r2, r3]
    | true =>
      rw [hK] at KK
      cases hQ : okSeq seq with
      | false =>
        have HN : Hid (¬ SkOk hs ts key seq) := fun h => by have := h.2.2.1; rw [hQ] at this; cases this
        rw [hQ] at KS
        go_wp2_with fail
        refine (KK _).mono ?_
        rintro e w2 ⟨rfl, hw⟩
        rw [hw]; clear hw KK hK
        go_wp2_with fail
        refine (KS _).mono ?_
        rintro e w2 ⟨rfl, hw⟩
        rw [hw]; clear hw KS hQ
        obtain ⟨⟨yf0, yf1, yf2, yf3⟩, _, y0, y1, y2, y3⟩ := Y1.f4
        go_wp2
        obtain ⟨⟨r0, r1, r2, r3⟩, hBz⟩ := put4_ok hB1 (by omega) Y1 (.string ⟨#[]⟩) (.int .i64 0) (.int .i64 0) (.string ⟨#[]⟩)
        change bodyPost _ _ _ _ _ (put4 _ (w.heap.size + 1) (.string ⟨#[]⟩) (.int .i64 0) (.int .i64 0) (.string ⟨#[]⟩))
        generalize put4 _ (w.heap.size + 1) (.string ⟨#[]⟩) (.int .i64 0) (.int .i64 0) (.string ⟨#[]⟩) = W' at *
        refine bodyPost_ret (v := .tuple #[.agg #[.string ⟨#[]⟩, .int .i64 0, .int .i64 0, .string ⟨#[]⟩], .int .i64 0, .bool false]) ?_ rfl ⟨⟨_, _, _, _, _, _, rfl, .inl ⟨HN.out, rfl, rfl, rfl, rfl, rfl, rfl⟩⟩, hBz⟩
        simp [results, Tryd.results21, go_sem, r0, r1, r2, r3]
      | true =>
        rw [hQ] at KS
        have HY : Hid (skN hs ts (skT key seq) ≠ -1 → SkOk hs ts key seq) := fun h => ⟨G, hK, hQ, h⟩
        have HZ : Hid (SkOk hs ts key seq → skN hs ts (skT key seq) ≠ -1) := fun h => h.2.2.2
        have KE := KF G
        have hok := skN_ok G (skT key seq)
        have HA : Hid (∀ k n d v m ok, SeekA hs ts key seq k n d v m ok ↔ SeekA hs ts key seq k n d v m ok) := fun _ _ _ _ _ _ => Iff.rfl
        obtain ⟨_, x0, x1⟩ := X1.c2
        go_wp2_with fail
        refine (KK _).mono ?_
        rintro e w2 ⟨rfl, hw⟩
        rw [hw]; clear hw KK hK
        go_wp2_with fail
        refine (KS _).mono ?_
        rintro e w2 ⟨rfl, hw⟩
        rw [hw]; clear hw KS hQ
        go_wp2_with fail
        refine (KE _ (hx.below hB1) (hy.below hB1)).mono ?_
        rintro e w3 ⟨rfl, hb3⟩
        have hB3 := below_then hB1 hb3
        have X3 := X1.below hb3
        have Y3 := Y1.below hb3
        clear hb3 X1 Y1 KE KF x0 x1
        by_cases hN : skN hs ts (skT key seq) = -1
        · have HN : Hid (¬ SkOk hs ts key seq) := fun h => HZ.out h hN
          rw [hN]
          clear HY HZ hok HA
          obtain ⟨⟨yf0, yf1, yf2, yf3⟩, _, y0, y1, y2, y3⟩ := Y3.f4
          go_wp2
          obtain ⟨⟨r0, r1, r2, r3⟩, hBz⟩ := put4_ok hB3 (by omega) Y3 (.string ⟨#[]⟩) (.int .i64 0) (.int .i64 0) (.string ⟨#[]⟩)
          change bodyPost _ _ _ _ _ (put4 _ (w.heap.size + 1) (.string ⟨#[]⟩) (.int .i64 0) (.int .i64 0) (.string ⟨#[]⟩))
          generalize put4 _ (w.heap.size + 1) (.string ⟨#[]⟩) (.int .i64 0) (.int .i64 0) (.string ⟨#[]⟩) = W' at *
          refine bodyPost_ret (v := .tuple #[.agg #[.string ⟨#[]⟩, .int .i64 0, .int .i64 0, .string ⟨#[]⟩], .int .i64 0, .bool false]) ?_ rfl ⟨⟨_, _, _, _, _, _, rfl, .inl ⟨HN.out, rfl, rfl, rfl, rfl, rfl, rfl⟩⟩, hBz⟩
          simp [results, Tryd.results21, go_sem, r0, r1, r2, r3]
        · have HO : Hid (SkOk hs ts key seq) := HY.out hN
          have hoki : okAt ts 0 (skN hs ts (skT key seq)) := by rcases hok with h | h; exact absurd h hN; exact h
          have HR : Hid (∀ k n d v, k = (tw ts (skN hs ts (skT key seq))).key → n = (tw ts (skN hs ts (skT key seq))).seq → d = (tw ts (skN hs ts (skT key seq))).kind → v = (tw ts (skN hs ts (skT key seq))).val → SeekA hs ts key seq k n d v ((SkS hs ts (skT key seq) 5).2 : Int) true) := fun k n d v h1 h2 h3 h4 => .inr ⟨HO.out, h1, h2, h3, h4, rfl, rfl⟩
          clear HY HZ hok HA HO
          generalize (SkS hs ts (skT key seq) 5).2 = M at *
          generalize skN hs ts (skT key seq) = N at *
          obtain ⟨n0, n1, _⟩ := hoki
          obtain ⟨i, rfl⟩ := Int.eq_ofNat_of_zero_le n0
          have hit : i < ts.length := by omega
          have hnb : ((i : Int) == -1) = false := by simp
          obtain ⟨b, off, cap, u, hv, hbl, ⟨z0, z1, z2, z3, z4⟩, _⟩ := (hy.below hB3).cells i hit
          simp only [Value.slice.injEq, true_and] at hv
          obtain ⟨rfl, rfl⟩ := hv
          have HS' : Hid (SeekA hs ts key seq (tw ts (i : Int)).key (tw ts (i : Int)).seq (tw ts (i : Int)).kind (tw ts (i : Int)).val (M : Int) true) := HR.out _ _ _ _ rfl rfl rfl rfl
          clear HR z4
          generalize tw ts (i : Int) = s at *
          obtain ⟨sk, sn, sd, sv, sx⟩ := s
          dsimp only at z0 z1 z2 z3 HS'
          obtain ⟨_, x0, x1⟩ := X3.c2
          obtain ⟨⟨yf0, yf1, yf2, yf3⟩, _, y0, y1, y2, y3⟩ := Y3.f4
          go_wp2
          obtain ⟨⟨r0, r1, r2, r3⟩, hBz⟩ := put4_ok hB3 (by omega) Y3 (.string sk) (.int .i64 sn) (.int .i64 sd) (.string sv)
          change bodyPost _ _ _ _ _ (put4 _ (w.heap.size + 1) (.string sk) (.int .i64 sn) (.int .i64 sd) (.string sv))
          generalize put4 _ (w.heap.size + 1) (.string sk) (.int .i64 sn) (.int .i64 sd) (.string sv) = W' at *
          refine bodyPost_ret (v := .tuple #[.agg #[.string sk, .int .i64 sn, .int .i64 sd, .string sv], .int .i64 M, .bool true]) ?_ rfl ⟨⟨_, _, _, _, _, _, rfl, HS'.out⟩, hBz⟩
          simp [results, Tryd.results21, go_sem, r0, r1, r2, r3]

set_option maxHeartbeats 8000000 in
theorem specSeek_any (x : Value) (ay : Option Addr) (cy : Nat) (hs : List Int) (ts : List Tw) (key : ByteArray) (seq : Int) (w : World) (hx : IL w x hs) (hy : TW w (.slice ay ts.length cy) ts) (hn : hs.length ≤ 1048576) (hm : ts.length ≤ 1048576) (hcy : ts.length ≤ cy) (hcm : cy ≤ 9223372036854775807) (hk : key.size ≤ 1048576)
    (hf : ∀ i : Nat, i < ts.length → (tw ts i).next.length ≤ 1048576 ∧ (tw ts i).key.size ≤ 1048576 ∧ (tw ts i).val.size ≤ 1048576) :
    Calls Tryd.prog 22 #[.agg #[x, .slice ay ts.length cy], .string key, .int .i64 seq] w fun e w' => (∃ k n d v m ok, e = .returned (.tuple #[.agg #[.string k, .int .i64 n, .int .i64 d, .string v], .int .i64 m, .bool ok]) ∧ SeekA hs ts key seq k n d v m ok) ∧ Below w.heap.size w w' := by
  obtain ⟨ax, cx, hxe, _⟩ := id hx
  subst hxe
  have KG := fun w hx hy => specGoodSkip_any (.slice ax hs.length cx) ay cy hs ts w hx hy hcy hcm hn hf
  have KK := fun w => l4Key_any key w hk
  have KS := fun w => l4Seq_any seq w
  have KF := fun G w hx hy => l4First_any (.slice ax hs.length cx) ay cy hs ts (skT key seq) w hx hy G
  clear hf
  go_enter Tryd.func22, Tryd.ntmps22
  go_wp2_with fail
  refine (KG _ (hx.below (below2 _ _ _)) (hy.below (below2 _ _ _))).mono ?_
  rintro e w1 ⟨⟨c, rfl, hc⟩, hb1⟩
  have hB1 := below_then (below2 _ _ _) hb1
  have X1 := ((Box.new w #[.slice ax hs.length cx, .slice ay ts.length cy] 26).alloc (.cells #[.string ⟨#[]⟩, .int .i64 0, .int .i64 0, .string ⟨#[]⟩] 28)).below hb1
  have Y1 := (Box.new (w.alloc (.cells #[.slice ax hs.length cx, .slice ay ts.length cy] 26)) #[.string ⟨#[]⟩, .int .i64 0, .int .i64 0, .string ⟨#[]⟩] 28).below hb1
  simp only [World.size_alloc] at Y1
  clear hb1 KG
  rw [← good_same] at hc
  cases c with
  | false =>
    have HN : Hid (¬ SkOk hs ts key seq) := fun h => by have := hc.2 h.1; cases this
    clear hc
    obtain ⟨⟨yf0, yf1, yf2, yf3⟩, _, y0, y1, y2, y3⟩ := Y1.f4
    go_wp2
    obtain ⟨⟨r0, r1, r2, r3⟩, hBz⟩ := put4_ok hB1 (by omega) Y1 (.string ⟨#[]⟩) (.int .i64 0) (.int .i64 0) (.string ⟨#[]⟩)
    change bodyPost _ _ _ _ _ (put4 _ (w.heap.size + 1) (.string ⟨#[]⟩) (.int .i64 0) (.int .i64 0) (.string ⟨#[]⟩))
    generalize put4 _ (w.heap.size + 1) (.string ⟨#[]⟩) (.int .i64 0) (.int .i64 0) (.string ⟨#[]⟩) = W' at *
    refine bodyPost_ret (v := .tuple #[.agg #[.string ⟨#[]⟩, .int .i64 0, .int .i64 0, .string ⟨#[]⟩], .int .i64 0, .bool false]) ?_ rfl ⟨⟨_, _, _, _, _, _, rfl, .inl ⟨HN.out, rfl, rfl, rfl, rfl, rfl, rfl⟩⟩, hBz⟩
    simp [results, Tryd.results22, go_sem, r0, r1, r2, r3]
  | true =>
    have G := hc.1 rfl
    clear hc
    cases hK : okKey key with
    | false =>
      have HN : Hid (¬ SkOk hs ts key seq) := fun h => by have := h.2.1; rw [hK] at this; cases this
      rw [hK] at KK
      go_wp2_with fail
      refine (KK _).mono ?_
      rintro e w2 ⟨rfl, hw⟩
      rw [hw]; clear hw KK hK
      obtain ⟨⟨yf0, yf1, yf2, yf3⟩, _, y0, y1, y2, y3⟩ := Y1.f4
      go_wp2
      obtain ⟨⟨r0, r1, r2, r3⟩, hBz⟩ := put4_ok hB1 (by omega) Y1 (.string ⟨#[]⟩) (.int .i64 0) (.int .i64 0) (.string ⟨#[]⟩)
      change bodyPost _ _ _ _ _ (put4 _ (w.heap.size + 1) (.string ⟨#[]⟩) (.int .i64 0) (.int .i64 0) (.string ⟨#[]⟩))
      generalize put4 _ (w.heap.size + 1) (.string ⟨#[]⟩) (.int .i64 0) (.int .i64 0) (.string ⟨#[]⟩) = W' at *
      refine bodyPost_ret (v := .tuple #[.agg #[.string ⟨#[]⟩, .int .i64 0, .int .i64 0, .string ⟨#[]⟩], .int .i64 0, .bool false]) ?_ rfl ⟨⟨_, _, _, _, _, _, rfl, .inl ⟨HN.out, rfl, rfl, rfl, rfl, rfl, rfl⟩⟩, hBz⟩
      simp [results, Tryd.results22, go_sem, r0, r1, r2, r3]
    | true =>
      rw [hK] at KK
      cases hQ : okSeq seq with
      | false =>
        have HN : Hid (¬ SkOk hs ts key seq) := fun h => by have := h.2.2.1; rw [hQ] at this; cases this
        rw [hQ] at KS
        go_wp2_with fail
        refine (KK _).mono ?_
        rintro e w2 ⟨rfl, hw⟩
        rw [hw]; clear hw KK hK
        go_wp2_with fail
        refine (KS _).mono ?_
        rintro e w2 ⟨rfl, hw⟩
        rw [hw]; clear hw KS hQ
        obtain ⟨⟨yf0, yf1, yf2, yf3⟩, _, y0, y1, y2, y3⟩ := Y1.f4
        go_wp2
        obtain ⟨⟨r0, r1, r2, r3⟩, hBz⟩ := put4_ok hB1 (by omega) Y1 (.string ⟨#[]⟩) (.int .i64 0) (.int .i64 0) (.string ⟨#[]⟩)
        change bodyPost _ _ _ _ _ (put4 _ (w.heap.size + 1) (.string ⟨#[]⟩) (.int .i64 0) (.int .i64 0) (.string ⟨#[]⟩))
        generalize put4 _ (w.heap.size + 1) (.string ⟨#[]⟩) (.int .i64 0) (.int .i64 0) (.string ⟨#[]⟩) = W' at *
        refine bodyPost_ret (v := .tuple #[.agg #[.string ⟨#[]⟩, .int .i64 0, .int .i64 0, .string ⟨#[]⟩], .int .i64 0, .bool false]) ?_ rfl ⟨⟨_, _, _, _, _, _, rfl, .inl ⟨HN.out, rfl, rfl, rfl, rfl, rfl, rfl⟩⟩, hBz⟩
        simp [results, Tryd.results22, go_sem, r0, r1, r2, r3]
      | true =>
        rw [hQ] at KS
        have HY : Hid (skN hs ts (skT key seq) ≠ -1 → SkOk hs ts key seq) := fun h => ⟨G, hK, hQ, h⟩
        have HZ : Hid (SkOk hs ts key seq → skN hs ts (skT key seq) ≠ -1) := fun h => h.2.2.2
        have KE := KF G
        have hok := skN_ok G (skT key seq)
        have HA : Hid (∀ k n d v m ok, SeekA hs ts key seq k n d v m ok ↔ SeekA hs ts key seq k n d v m ok) := fun _ _ _ _ _ _ => Iff.rfl
        obtain ⟨_, x0, x1⟩ := X1.c2
        go_wp2_with fail
        refine (KK _).mono ?_
        rintro e w2 ⟨rfl, hw⟩
        rw [hw]; clear hw KK hK
        go_wp2_with fail
        refine (KS _).mono ?_
        rintro e w2 ⟨rfl, hw⟩
        rw [hw]; clear hw KS hQ
        go_wp2_with fail
        refine (KE _ (hx.below hB1) (hy.below hB1)).mono ?_
        rintro e w3 ⟨rfl, hb3⟩
        have hB3 := below_then hB1 hb3
        have X3 := X1.below hb3
        have Y3 := Y1.below hb3
        clear hb3 X1 Y1 KE KF x0 x1
        by_cases hN : skN hs ts (skT key seq) = -1
        · have HN : Hid (¬ SkOk hs ts key seq) := fun h => HZ.out h hN
          rw [hN]
          clear HY HZ hok HA
          obtain ⟨⟨yf0, yf1, yf2, yf3⟩, _, y0, y1, y2, y3⟩ := Y3.f4
          go_wp2
          obtain ⟨⟨r0, r1, r2, r3⟩, hBz⟩ := put4_ok hB3 (by omega) Y3 (.string ⟨#[]⟩) (.int .i64 0) (.int .i64 0) (.string ⟨#[]⟩)
          change bodyPost _ _ _ _ _ (put4 _ (w.heap.size + 1) (.string ⟨#[]⟩) (.int .i64 0) (.int .i64 0) (.string ⟨#[]⟩))
          generalize put4 _ (w.heap.size + 1) (.string ⟨#[]⟩) (.int .i64 0) (.int .i64 0) (.string ⟨#[]⟩) = W' at *
          refine bodyPost_ret (v := .tuple #[.agg #[.string ⟨#[]⟩, .int .i64 0, .int .i64 0, .string ⟨#[]⟩], .int .i64 0, .bool false]) ?_ rfl ⟨⟨_, _, _, _, _, _, rfl, .inl ⟨HN.out, rfl, rfl, rfl, rfl, rfl, rfl⟩⟩, hBz⟩
          simp [results, Tryd.results22, go_sem, r0, r1, r2, r3]
        · have HO : Hid (SkOk hs ts key seq) := HY.out hN
          have hoki : okAt ts 0 (skN hs ts (skT key seq)) := by rcases hok with h | h; exact absurd h hN; exact h
          have HR : Hid (∀ k n d v, k = (tw ts (skN hs ts (skT key seq))).key → n = (tw ts (skN hs ts (skT key seq))).seq → d = (tw ts (skN hs ts (skT key seq))).kind → v = (tw ts (skN hs ts (skT key seq))).val → SeekA hs ts key seq k n d v ((SkS hs ts (skT key seq) 5).2 : Int) true) := fun k n d v h1 h2 h3 h4 => .inr ⟨HO.out, h1, h2, h3, h4, rfl, rfl⟩
          clear HY HZ hok HA HO
          generalize (SkS hs ts (skT key seq) 5).2 = M at *
          generalize skN hs ts (skT key seq) = N at *
          obtain ⟨n0, n1, _⟩ := hoki
          obtain ⟨i, rfl⟩ := Int.eq_ofNat_of_zero_le n0
          have hit : i < ts.length := by omega
          have hnb : ((i : Int) == -1) = false := by simp
          obtain ⟨b, off, cap, u, hv, hbl, ⟨z0, z1, z2, z3, z4⟩, _⟩ := (hy.below hB3).cells i hit
          simp only [Value.slice.injEq, true_and] at hv
          obtain ⟨rfl, rfl⟩ := hv
          have HS' : Hid (SeekA hs ts key seq (tw ts (i : Int)).key (tw ts (i : Int)).seq (tw ts (i : Int)).kind (tw ts (i : Int)).val (M : Int) true) := HR.out _ _ _ _ rfl rfl rfl rfl
          clear HR z4
          generalize tw ts (i : Int) = s at *
          obtain ⟨sk, sn, sd, sv, sx⟩ := s
          dsimp only at z0 z1 z2 z3 HS'
          obtain ⟨_, x0, x1⟩ := X3.c2
          obtain ⟨⟨yf0, yf1, yf2, yf3⟩, _, y0, y1, y2, y3⟩ := Y3.f4
          go_wp2
          obtain ⟨⟨r0, r1, r2, r3⟩, hBz⟩ := put4_ok hB3 (by omega) Y3 (.string sk) (.int .i64 sn) (.int .i64 sd) (.string sv)
          change bodyPost _ _ _ _ _ (put4 _ (w.heap.size + 1) (.string sk) (.int .i64 sn) (.int .i64 sd) (.string sv))
          generalize put4 _ (w.heap.size + 1) (.string sk) (.int .i64 sn) (.int .i64 sd) (.string sv) = W' at *
          refine bodyPost_ret (v := .tuple #[.agg #[.string sk, .int .i64 sn, .int .i64 sd, .string sv], .int .i64 M, .bool true]) ?_ rfl ⟨⟨_, _, _, _, _, _, rfl, HS'.out⟩, hBz⟩
          simp [results, Tryd.results22, go_sem, r0, r1, r2, r3]

end Go.Proofs.YtdaldkcildbcmaaDoor
