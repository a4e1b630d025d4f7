/-
  The cursor's filter.
-/
import Derived.Test.YtdcglghmhjbkkaaD5
import Derived.Test.YtdcglghmhjbkkaaU2
namespace Go.Proofs.Ytdcglghmhjbkkaa
open Go.RowKit
set_option linter.unusedVariables false
set_option maxRecDepth 100000

theorem cur_put3 {w : World} {b g : Nat} {l : List UInt8} {K : Nat} (h : Cur w b l K) (hg : b < g) (x y z : Value) : Cur (put3 w g x y z) b l K :=
  cur_set (cur_set (cur_set h (Nat.le_refl _) ⟨g, 0, none⟩ hg x) (Nat.le_refl _) ⟨g, 1, none⟩ hg y) (Nat.le_refl _) ⟨g, 2, none⟩ hg z
theorem chg_put3 {S : Nat → Prop} {w w1 : World} (h : Chg S w w1) {g : Nat} (hg : w.heap.size ≤ g) (x y z : Value) : Chg S w (put3 w1 g x y z) :=
  chg_new (chg_new (chg_new h ⟨g, 0, none⟩ hg x) ⟨g, 1, none⟩ hg y) ⟨g, 2, none⟩ hg z
theorem foldF_good (n : Int) : ∀ (ks : List ByteArray) (s : ByteArray) (m : Int) (s' : ByteArray) (m' : Int), goodF n s m = true → foldF n ks s m = some (s', m') → goodF n s' m' = true := by
  intro ks
  induction ks with
  | nil => intro s m s' m' hg h; simp only [foldF, Option.some.injEq, Prod.mk.injEq] at h; obtain ⟨rfl, rfl⟩ := h; exact hg
  | cons k ks ih =>
    intro s m s' m' hg h
    unfold foldF at h
    split at h
    · exact ih _ _ _ _ (good_add hg k) h
    · cases h
theorem filF_cases (n : Int) (l : List ByteArray) : filF n l = (0, ⟨#[]⟩, 0, false) ∨ ∃ s m, filF n l = (n, s, m, true) ∧ goodF n s m = true := by
  unfold filF
  split
  · rename_i h
    rw [Bool.and_eq_true] at h
    split
    · rename_i s m e
      exact Or.inr ⟨s, m, rfl, foldF_good n l zerS 0 s m (good_new h.1) e⟩
    · exact Or.inl rfl
  · exact Or.inl rfl

set_option maxHeartbeats 8000000 in
theorem filter_any (b : Nat) (l : List UInt8) (K : Nat) (w : World) (h : Cur w b l K) (hl : l.length ≤ 9223372036854775807) (hK : K ≤ 50000) :
    Calls Try.prog 42 #[.pointer (some ⟨b, 0, none⟩)] w fun e w' => (∃ (n : Int) (s : ByteArray) (m : Int), e = .returned (.agg #[.int .i64 n, .string s, .int .i64 m])) ∧ Cur w' b l (K + 20000) ∧ Chg (· = b) w w' := by
  have hbw := h.lt
  have Z := Box.new w #[.int .i64 0, .string ⟨#[]⟩, .int .i64 0] 24
  have hA := below_alloc w (.cells #[.int .i64 0, .string ⟨#[]⟩, .int .i64 0] 24)
  have hC := h.chg hA
  have hG := Chg.of_below (S := (· = b)) hA
  clear h hA
  go_enter Try.func42, Try.ntmps42
  go_wp2_with fail
  refine (keys_any b l K _ hC hl (by omega)).mono ?_
  rintro e w1 ⟨⟨v, L, rfl, hL, hsz, o1⟩, hC1, hch1⟩
  replace Z := hch1.box Z (by omega)
  replace hG := hG.trans hch1
  have ho1 := owns_ge o1
  clear hC hch1 hsz
  go_wp2_with fail
  refine (pick_any b l _ 4 _ hC1 hl (by omega) (by omega)).mono ?_
  rintro e w2 ⟨⟨p, rfl, hp⟩, hC2, hch2⟩
  replace Z := hch2.box Z (by omega)
  replace hG := hG.trans hch2
  have o2 := hch2.owns o1 (fun g hg h => by have := ho1 g hg; simp at this; omega)
  clear hC1 hch2 o1 ho1
  have SF := fun w hv => specFil (1 + (p : Int)) v L w hv (by omega)
  go_wp2_with fail
  refine (SF _ (SL_of_owns o2)).mono ?_
  rintro e w3 ⟨rfl, hb3⟩
  have Z3 := Z.below hb3
  have hC3 := hC2.chg hb3
  have hG3 := hG.trans (Chg.of_below (S := (· = b)) hb3)
  clear Z hC2 hG o2 SF hb3
  have hz3 := Z3.1
  rcases filF_cases (1 + (p : Int)) L with hf | ⟨s, m, hf, hgf⟩
  · rw [hf]
    clear hf
    have X := Box.new w3 #[.int .i64 0, .string ⟨#[]⟩, .int .i64 0] 24
    have hA := below_alloc w3 (.cells #[.int .i64 0, .string ⟨#[]⟩, .int .i64 0] 24)
    have Z := Z3.below hA
    have hC := hC3.chg hA
    have hG := hG3.trans (Chg.of_below (S := (· = b)) hA)
    clear Z3 hC3 hG3 hA
    go_wp2_with fail
    generalize w3.alloc (.cells #[.int .i64 0, .string ⟨#[]⟩, .int .i64 0] 24) = w4 at *
    generalize w3.heap.size = F at *
    have NW := specNew 2 w4
    have hNF : newF 2 = (2, zerS, 0, true) := rfl
    rw [hNF] at NW
    clear hNF
    refine NW.mono ?_
    rintro e w5 ⟨rfl, hb5⟩
    replace X := X.below hb5
    replace Z := Z.below hb5
    replace hC := hC.chg hb5
    replace hG := hG.trans (Chg.of_below (S := (· = b)) hb5)
    clear NW hb5
    obtain ⟨⟨f0, f1, f2⟩, zx, x0, x1, x2⟩ := X.f3
    have X6 := put3_box X (.int .i64 2) (.string zerS) (.int .i64 0)
    have Z6 := (put3_chg w5 F (.int .i64 2) (.string zerS) (.int .i64 0)).box Z (by omega)
    have C6 := cur_put3 hC (g := F) (by omega) (.int .i64 2) (.string zerS) (.int .i64 0)
    have G6 := chg_put3 hG (g := F) (by omega) (.int .i64 2) (.string zerS) (.int .i64 0)
    clear X Z hC hG
    go_wp2_with fail
    change Calls _ _ _ (put3 w5 F (.int .i64 2) (.string zerS) (.int .i64 0)) _
    clear f0 f1 f2 zx x0 x1 x2
    generalize put3 w5 F (.int .i64 2) (.string zerS) (.int .i64 0) = w6 at *
    have X := X6
    have Z := Z6
    have hC := C6
    have hG := G6
    clear X6 Z6 C6 G6
    have hs32 : zerS.size = 32 := rfl
    generalize zerS = s at *
    refine (pick_any b l _ 40 _ hC hl (by omega) (by omega)).mono ?_
    rintro e v8 ⟨⟨x, rfl, hx⟩, hC8, hch8⟩
    replace X := hch8.box X (by omega)
    replace Z := hch8.box Z (by omega)
    replace hG := hG.trans hch8
    clear hC hch8
    have hC := hC8
    clear hC8
    by_cases hx0 : x = 0
    · subst hx0
      obtain ⟨zx, x0, x1, x2⟩ := X.c3
      go_wp2_with fail
      have hA := below_alloc v8 (.cells #[.int .i64 0, .int .i64 8, .int .i64 9] 3)
      refine (among_any b l _ v8.heap.size [0, 8, 9] _ (hC.chg hA) hl (by omega) (Box.new v8 #[.int .i64 0, .int .i64 8, .int .i64 9] 3) (by omega) (by decide) (by decide)).mono ?_
      rintro e v9 ⟨⟨q, rfl, hq⟩, hC9, hch9⟩
      replace X := hch9.box (X.below hA) (by omega)
      replace Z := hch9.box (Z.below hA) (by omega)
      replace hG := hG.trans ((Chg.of_below (S := (· = b)) hA).trans hch9)
      clear hC hA hch9 hq x0 x1 x2
      obtain ⟨⟨k0, k1, k2⟩, zx, x0, x1, x2⟩ := X.f3
      have X9 := X.set 0 (.int .i64 q) (by simp)
      have Z9 := Z.setOther ⟨F, 0, none⟩ (.int .i64 q) (by simp; omega)
      have C9 := cur_set hC9 (Nat.le_refl _) ⟨F, 0, none⟩ (by simp; omega) (.int .i64 q)
      have G9 := chg_new hG ⟨F, 0, none⟩ (by simp; omega) (.int .i64 q)
      obtain ⟨⟨j0, j1, j2⟩, zq, z0, z1, z2⟩ := Z.f3
      have HC : Hid (Cur (put3 (v9.setCell ⟨F, 0, none⟩ (.int .i64 q)) w.heap.size (.int .i64 q) (.string s) (.int .i64 0)) b l (K + 20000)) := cur_put3 (C9.mono (by omega)) hbw _ _ _
      have HG : Hid (Chg (· = b) w (put3 (v9.setCell ⟨F, 0, none⟩ (.int .i64 q)) w.heap.size (.int .i64 q) (.string s) (.int .i64 0))) := chg_put3 G9 (Nat.le_refl _) _ _ _
      obtain ⟨_, t0, t1, t2⟩ := (put3_box Z9 (.int .i64 q) (.string s) (.int .i64 0)).c3
      clear X9 Z9 C9 G9 hG Z X hC9
      go_wp2
      change bodyPost _ _ _ _ _ (put3 (v9.setCell ⟨F, 0, none⟩ (.int .i64 q)) w.heap.size (.int .i64 q) (.string s) (.int .i64 0))
      generalize put3 (v9.setCell ⟨F, 0, none⟩ (.int .i64 q)) w.heap.size (.int .i64 q) (.string s) (.int .i64 0) = WW at *
      exact bodyPost_ret (v := .agg #[.int .i64 q, .string s, .int .i64 0]) (by simp [results, Try.results42, go_sem, t0, t1, t2]) rfl ⟨⟨_, _, _, rfl⟩, HC.out, HG.out⟩
    · by_cases hx1 : x = 1
      · subst hx1
        obtain ⟨⟨k0, k1, k2⟩, zx, x0, x1, x2⟩ := X.f3
        obtain ⟨t, hsl⟩ : ∃ t, (Instr.slice 9 (.string s) (some (.int .i64 1)) none none).run Try.prog v8 = .ok (.string t) v8 := ⟨_, run_slice_string_l (w := v8) (s := s) (t := 9) Try.underlying9 .i64 1 (by omega) (by have := hs32; omega)⟩
        have Z9 := Z.setOther ⟨F, 1, none⟩ (.string t) (by simp; omega)
        have C9 := cur_set hC (Nat.le_refl _) ⟨F, 1, none⟩ (by simp; omega) (.string t)
        have G9 := chg_new hG ⟨F, 1, none⟩ (by simp; omega) (.string t)
        obtain ⟨⟨j0, j1, j2⟩, zq, z0, z1, z2⟩ := Z.f3
        have HC : Hid (Cur (put3 (v8.setCell ⟨F, 1, none⟩ (.string t)) w.heap.size (.int .i64 2) (.string t) (.int .i64 0)) b l (K + 20000)) := cur_put3 (C9.mono (by omega)) hbw _ _ _
        have HG : Hid (Chg (· = b) w (put3 (v8.setCell ⟨F, 1, none⟩ (.string t)) w.heap.size (.int .i64 2) (.string t) (.int .i64 0))) := chg_put3 G9 (Nat.le_refl _) _ _ _
        obtain ⟨_, t0, t1, t2⟩ := (put3_box Z9 (.int .i64 2) (.string t) (.int .i64 0)).c3
        clear Z9 C9 G9 hG Z X hC
        go_wp2
        change bodyPost _ _ _ _ _ (put3 (v8.setCell ⟨F, 1, none⟩ (.string t)) w.heap.size (.int .i64 2) (.string t) (.int .i64 0))
        generalize put3 (v8.setCell ⟨F, 1, none⟩ (.string t)) w.heap.size (.int .i64 2) (.string t) (.int .i64 0) = WW at *
        exact bodyPost_ret (v := .agg #[.int .i64 2, .string t, .int .i64 0]) (by simp [results, Try.results42, go_sem, t0, t1, t2]) rfl ⟨⟨_, _, _, rfl⟩, HC.out, HG.out⟩
      · by_cases hx2 : x = 2
        · subst hx2
          obtain ⟨zx, x0, x1, x2⟩ := X.c3
          go_wp2_with fail
          have hA := below_alloc v8 (.cells #[.int .i64 (-1), .int .i64 1000000, .int .i64 1000001] 3)
          refine (among_any b l _ v8.heap.size [-1, 1000000, 1000001] _ (hC.chg hA) hl (by omega) (Box.new v8 #[.int .i64 (-1), .int .i64 1000000, .int .i64 1000001] 3) (by omega) (by decide) (by decide)).mono ?_
          rintro e v9 ⟨⟨q, rfl, hq⟩, hC9, hch9⟩
          replace X := hch9.box (X.below hA) (by omega)
          replace Z := hch9.box (Z.below hA) (by omega)
          replace hG := hG.trans ((Chg.of_below (S := (· = b)) hA).trans hch9)
          clear hC hA hch9 hq x0 x1 x2
          obtain ⟨⟨k0, k1, k2⟩, zx, x0, x1, x2⟩ := X.f3
          have X9 := X.set 2 (.int .i64 q) (by simp)
          have Z9 := Z.setOther ⟨F, 2, none⟩ (.int .i64 q) (by simp; omega)
          have C9 := cur_set hC9 (Nat.le_refl _) ⟨F, 2, none⟩ (by simp; omega) (.int .i64 q)
          have G9 := chg_new hG ⟨F, 2, none⟩ (by simp; omega) (.int .i64 q)
          obtain ⟨⟨j0, j1, j2⟩, zq, z0, z1, z2⟩ := Z.f3
          have HC : Hid (Cur (put3 (v9.setCell ⟨F, 2, none⟩ (.int .i64 q)) w.heap.size (.int .i64 2) (.string s) (.int .i64 q)) b l (K + 20000)) := cur_put3 (C9.mono (by omega)) hbw _ _ _
          have HG : Hid (Chg (· = b) w (put3 (v9.setCell ⟨F, 2, none⟩ (.int .i64 q)) w.heap.size (.int .i64 2) (.string s) (.int .i64 q))) := chg_put3 G9 (Nat.le_refl _) _ _ _
          obtain ⟨_, t0, t1, t2⟩ := (put3_box Z9 (.int .i64 2) (.string s) (.int .i64 q)).c3
          clear X9 Z9 C9 G9 hG Z X hC9
          go_wp2
          change bodyPost _ _ _ _ _ (put3 (v9.setCell ⟨F, 2, none⟩ (.int .i64 q)) w.heap.size (.int .i64 2) (.string s) (.int .i64 q))
          generalize put3 (v9.setCell ⟨F, 2, none⟩ (.int .i64 q)) w.heap.size (.int .i64 2) (.string s) (.int .i64 q) = WW at *
          exact bodyPost_ret (v := .agg #[.int .i64 2, .string s, .int .i64 q]) (by simp [results, Try.results42, go_sem, t0, t1, t2]) rfl ⟨⟨_, _, _, rfl⟩, HC.out, HG.out⟩
        · have g0 : ((x : Int) == 0) = false := by simpa using hx0
          have g1 : ((x : Int) == 1) = false := by rw [beq_eq_false_iff_ne]; omega
          have g2 : ((x : Int) == 2) = false := by rw [beq_eq_false_iff_ne]; omega
          obtain ⟨⟨j0, j1, j2⟩, zq, z0, z1, z2⟩ := Z.f3
          obtain ⟨zx, x0, x1, x2⟩ := X.c3
          have HC : Hid (Cur (put3 v8 w.heap.size (.int .i64 2) (.string s) (.int .i64 0)) b l (K + 20000)) := cur_put3 (hC.mono (by omega)) hbw _ _ _
          have HG : Hid (Chg (· = b) w (put3 v8 w.heap.size (.int .i64 2) (.string s) (.int .i64 0))) := chg_put3 hG (Nat.le_refl _) _ _ _
          obtain ⟨_, t0, t1, t2⟩ := (put3_box Z (.int .i64 2) (.string s) (.int .i64 0)).c3
          clear hC hG Z X
          go_wp2
          change bodyPost _ _ _ _ _ (put3 v8 w.heap.size (.int .i64 2) (.string s) (.int .i64 0))
          generalize put3 v8 w.heap.size (.int .i64 2) (.string s) (.int .i64 0) = WW at *
          exact bodyPost_ret (v := .agg #[.int .i64 2, .string s, .int .i64 0]) (by simp [results, Try.results42, go_sem, t0, t1, t2]) rfl ⟨⟨_, _, _, rfl⟩, HC.out, HG.out⟩
  · rw [hf]
    clear hf
    have hs32 := (goodF_parts hgf).2.1
    clear hgf
    have X := Box.new w3 #[.int .i64 (1 + (p : Int)), .string s, .int .i64 m] 24
    have hA := below_alloc w3 (.cells #[.int .i64 (1 + (p : Int)), .string s, .int .i64 m] 24)
    have Z := Z3.below hA
    have hC := hC3.chg hA
    have hG := hG3.trans (Chg.of_below (S := (· = b)) hA)
    clear Z3 hC3 hG3 hA
    go_wp2_with fail
    generalize w3.alloc (.cells #[.int .i64 (1 + (p : Int)), .string s, .int .i64 m] 24) = w4 at *
    generalize w3.heap.size = F at *
    refine (pick_any b l _ 40 _ hC hl (by omega) (by omega)).mono ?_
    rintro e v8 ⟨⟨x, rfl, hx⟩, hC8, hch8⟩
    replace X := hch8.box X (by omega)
    replace Z := hch8.box Z (by omega)
    replace hG := hG.trans hch8
    clear hC hch8
    have hC := hC8
    clear hC8
    by_cases hx0 : x = 0
    · subst hx0
      obtain ⟨zx, x0, x1, x2⟩ := X.c3
      go_wp2_with fail
      have hA := below_alloc v8 (.cells #[.int .i64 0, .int .i64 8, .int .i64 9] 3)
      refine (among_any b l _ v8.heap.size [0, 8, 9] _ (hC.chg hA) hl (by omega) (Box.new v8 #[.int .i64 0, .int .i64 8, .int .i64 9] 3) (by omega) (by decide) (by decide)).mono ?_
      rintro e v9 ⟨⟨q, rfl, hq⟩, hC9, hch9⟩
      replace X := hch9.box (X.below hA) (by omega)
      replace Z := hch9.box (Z.below hA) (by omega)
      replace hG := hG.trans ((Chg.of_below (S := (· = b)) hA).trans hch9)
      clear hC hA hch9 hq x0 x1 x2
      obtain ⟨⟨k0, k1, k2⟩, zx, x0, x1, x2⟩ := X.f3
      have X9 := X.set 0 (.int .i64 q) (by simp)
      have Z9 := Z.setOther ⟨F, 0, none⟩ (.int .i64 q) (by simp; omega)
      have C9 := cur_set hC9 (Nat.le_refl _) ⟨F, 0, none⟩ (by simp; omega) (.int .i64 q)
      have G9 := chg_new hG ⟨F, 0, none⟩ (by simp; omega) (.int .i64 q)
      obtain ⟨⟨j0, j1, j2⟩, zq, z0, z1, z2⟩ := Z.f3
      have HC : Hid (Cur (put3 (v9.setCell ⟨F, 0, none⟩ (.int .i64 q)) w.heap.size (.int .i64 q) (.string s) (.int .i64 m)) b l (K + 20000)) := cur_put3 (C9.mono (by omega)) hbw _ _ _
      have HG : Hid (Chg (· = b) w (put3 (v9.setCell ⟨F, 0, none⟩ (.int .i64 q)) w.heap.size (.int .i64 q) (.string s) (.int .i64 m))) := chg_put3 G9 (Nat.le_refl _) _ _ _
      obtain ⟨_, t0, t1, t2⟩ := (put3_box Z9 (.int .i64 q) (.string s) (.int .i64 m)).c3
      clear X9 Z9 C9 G9 hG Z X hC9
      go_wp2
      change bodyPost _ _ _ _ _ (put3 (v9.setCell ⟨F, 0, none⟩ (.int .i64 q)) w.heap.size (.int .i64 q) (.string s) (.int .i64 m))
      generalize put3 (v9.setCell ⟨F, 0, none⟩ (.int .i64 q)) w.heap.size (.int .i64 q) (.string s) (.int .i64 m) = WW at *
      exact bodyPost_ret (v := .agg #[.int .i64 q, .string s, .int .i64 m]) (by simp [results, Try.results42, go_sem, t0, t1, t2]) rfl ⟨⟨_, _, _, rfl⟩, HC.out, HG.out⟩
    · by_cases hx1 : x = 1
      · subst hx1
        obtain ⟨⟨k0, k1, k2⟩, zx, x0, x1, x2⟩ := X.f3
        obtain ⟨t, hsl⟩ : ∃ t, (Instr.slice 9 (.string s) (some (.int .i64 1)) none none).run Try.prog v8 = .ok (.string t) v8 := ⟨_, run_slice_string_l (w := v8) (s := s) (t := 9) Try.underlying9 .i64 1 (by omega) (by have := hs32; omega)⟩
        have Z9 := Z.setOther ⟨F, 1, none⟩ (.string t) (by simp; omega)
        have C9 := cur_set hC (Nat.le_refl _) ⟨F, 1, none⟩ (by simp; omega) (.string t)
        have G9 := chg_new hG ⟨F, 1, none⟩ (by simp; omega) (.string t)
        obtain ⟨⟨j0, j1, j2⟩, zq, z0, z1, z2⟩ := Z.f3
        have HC : Hid (Cur (put3 (v8.setCell ⟨F, 1, none⟩ (.string t)) w.heap.size (.int .i64 (1 + (p : Int))) (.string t) (.int .i64 m)) b l (K + 20000)) := cur_put3 (C9.mono (by omega)) hbw _ _ _
        have HG : Hid (Chg (· = b) w (put3 (v8.setCell ⟨F, 1, none⟩ (.string t)) w.heap.size (.int .i64 (1 + (p : Int))) (.string t) (.int .i64 m))) := chg_put3 G9 (Nat.le_refl _) _ _ _
        obtain ⟨_, t0, t1, t2⟩ := (put3_box Z9 (.int .i64 (1 + (p : Int))) (.string t) (.int .i64 m)).c3
        clear Z9 C9 G9 hG Z X hC
        go_wp2
        change bodyPost _ _ _ _ _ (put3 (v8.setCell ⟨F, 1, none⟩ (.string t)) w.heap.size (.int .i64 (1 + (p : Int))) (.string t) (.int .i64 m))
        generalize put3 (v8.setCell ⟨F, 1, none⟩ (.string t)) w.heap.size (.int .i64 (1 + (p : Int))) (.string t) (.int .i64 m) = WW at *
        exact bodyPost_ret (v := .agg #[.int .i64 (1 + (p : Int)), .string t, .int .i64 m]) (by simp [results, Try.results42, go_sem, t0, t1, t2]) rfl ⟨⟨_, _, _, rfl⟩, HC.out, HG.out⟩
      · by_cases hx2 : x = 2
        · subst hx2
          obtain ⟨zx, x0, x1, x2⟩ := X.c3
          go_wp2_with fail
          have hA := below_alloc v8 (.cells #[.int .i64 (-1), .int .i64 1000000, .int .i64 1000001] 3)
          refine (among_any b l _ v8.heap.size [-1, 1000000, 1000001] _ (hC.chg hA) hl (by omega) (Box.new v8 #[.int .i64 (-1), .int .i64 1000000, .int .i64 1000001] 3) (by omega) (by decide) (by decide)).mono ?_
          rintro e v9 ⟨⟨q, rfl, hq⟩, hC9, hch9⟩
          replace X := hch9.box (X.below hA) (by omega)
          replace Z := hch9.box (Z.below hA) (by omega)
          replace hG := hG.trans ((Chg.of_below (S := (· = b)) hA).trans hch9)
          clear hC hA hch9 hq x0 x1 x2
          obtain ⟨⟨k0, k1, k2⟩, zx, x0, x1, x2⟩ := X.f3
          have X9 := X.set 2 (.int .i64 q) (by simp)
          have Z9 := Z.setOther ⟨F, 2, none⟩ (.int .i64 q) (by simp; omega)
          have C9 := cur_set hC9 (Nat.le_refl _) ⟨F, 2, none⟩ (by simp; omega) (.int .i64 q)
          have G9 := chg_new hG ⟨F, 2, none⟩ (by simp; omega) (.int .i64 q)
          obtain ⟨⟨j0, j1, j2⟩, zq, z0, z1, z2⟩ := Z.f3
          have HC : Hid (Cur (put3 (v9.setCell ⟨F, 2, none⟩ (.int .i64 q)) w.heap.size (.int .i64 (1 + (p : Int))) (.string s) (.int .i64 q)) b l (K + 20000)) := cur_put3 (C9.mono (by omega)) hbw _ _ _
          have HG : Hid (Chg (· = b) w (put3 (v9.setCell ⟨F, 2, none⟩ (.int .i64 q)) w.heap.size (.int .i64 (1 + (p : Int))) (.string s) (.int .i64 q))) := chg_put3 G9 (Nat.le_refl _) _ _ _
          obtain ⟨_, t0, t1, t2⟩ := (put3_box Z9 (.int .i64 (1 + (p : Int))) (.string s) (.int .i64 q)).c3
          clear X9 Z9 C9 G9 hG Z X hC9
          go_wp2
          change bodyPost _ _ _ _ _ (put3 (v9.setCell ⟨F, 2, none⟩ (.int .i64 q)) w.heap.size (.int .i64 (1 + (p : Int))) (.string s) (.int .i64 q))
          generalize put3 (v9.setCell ⟨F, 2, none⟩ (.int .i64 q)) w.heap.size (.int .i64 (1 + (p : Int))) (.string s) (.int .i64 q) = WW at *
          exact bodyPost_ret (v := .agg #[.int .i64 (1 + (p : Int)), .string s, .int .i64 q]) (by simp [results, Try.results42, go_sem, t0, t1, t2]) rfl ⟨⟨_, _, _, rfl⟩, HC.out, HG.out⟩
        · have g0 : ((x : Int) == 0) = false := by simpa using hx0
          have g1 : ((x : Int) == 1) = false := by rw [beq_eq_false_iff_ne]; omega
          have g2 : ((x : Int) == 2) = false := by rw [beq_eq_false_iff_ne]; omega
          obtain ⟨⟨j0, j1, j2⟩, zq, z0, z1, z2⟩ := Z.f3
          obtain ⟨zx, x0, x1, x2⟩ := X.c3
          have HC : Hid (Cur (put3 v8 w.heap.size (.int .i64 (1 + (p : Int))) (.string s) (.int .i64 m)) b l (K + 20000)) := cur_put3 (hC.mono (by omega)) hbw _ _ _
          have HG : Hid (Chg (· = b) w (put3 v8 w.heap.size (.int .i64 (1 + (p : Int))) (.string s) (.int .i64 m))) := chg_put3 hG (Nat.le_refl _) _ _ _
          obtain ⟨_, t0, t1, t2⟩ := (put3_box Z (.int .i64 (1 + (p : Int))) (.string s) (.int .i64 m)).c3
          clear hC hG Z X
          go_wp2
          change bodyPost _ _ _ _ _ (put3 v8 w.heap.size (.int .i64 (1 + (p : Int))) (.string s) (.int .i64 m))
          generalize put3 v8 w.heap.size (.int .i64 (1 + (p : Int))) (.string s) (.int .i64 m) = WW at *
          exact bodyPost_ret (v := .agg #[.int .i64 (1 + (p : Int)), .string s, .int .i64 m]) (by simp [results, Try.results42, go_sem, t0, t1, t2]) rfl ⟨⟨_, _, _, rfl⟩, HC.out, HG.out⟩
end Go.Proofs.Ytdcglghmhjbkkaa
