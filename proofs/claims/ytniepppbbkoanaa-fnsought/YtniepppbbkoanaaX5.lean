/-
  What is looked for in a run: the walk of FnSought.
-/
import Derived.Test.YtniepppbbkoanaaX4
import Derived.Test.YtniepppbbkoanaaK4
import Derived.Test.YtniepppbbkoanaaI3
namespace Go.Proofs.Ytniepppbbkoanaa
open Go.RowKit
set_option linter.unusedVariables false
set_option maxRecDepth 100000

theorem bless_iff : ∀ (x y : List UInt8), Op.bytesLess x y = true ↔ x < y
  | [], [] => by simp [Op.bytesLess]
  | _ :: _, [] => by simp [Op.bytesLess]
  | [], _ :: _ => by simp [Op.bytesLess]
  | a :: x, b :: y => by
    have ih := bless_iff x y
    simp only [Op.bytesLess, List.cons_lt_cons_iff, Bool.or_eq_true, Bool.and_eq_true, decide_eq_true_eq, beq_iff_eq, ih]
theorem lessIt_iff (a b : It) : lessIt a b ↔ a.k.toList < b.k.toList ∨ (a.k.toList = b.k.toList ∧ b.n < a.n) := by
  unfold lessIt cIt cI
  by_cases h : Op.bytesLess a.k.toList b.k.toList = true
  · rw [if_pos h]
    exact ⟨fun _ => Or.inl ((bless_iff _ _).1 h), fun _ => by omega⟩
  · rw [if_neg h]
    have hn : ¬ a.k.toList < b.k.toList := fun h' => h ((bless_iff _ _).2 h')
    by_cases e : a.k.toList = b.k.toList
    · rw [if_pos (by simpa using e)]
      constructor
      · intro h1
        refine Or.inr ⟨e, ?_⟩
        split at h1
        · assumption
        · split at h1 <;> omega
      · rintro (h1 | ⟨_, h1⟩)
        · exact absurd h1 hn
        · rw [if_pos h1]; omega
    · rw [if_neg (by simpa using e)]
      constructor
      · intro h1; omega
      · rintro (h1 | ⟨h1, _⟩)
        · exact absurd h1 hn
        · exact absurd h1 e
theorem lessIt_trans {a b c : It} (h1 : lessIt a b) (h2 : lessIt b c) : lessIt a c := by
  rw [lessIt_iff] at *
  rcases h1 with h1 | ⟨e1, h1⟩
  · rcases h2 with h2 | ⟨e2, h2⟩
    · exact Or.inl (List.lt_trans h1 h2)
    · exact Or.inl (e2 ▸ h1)
  · rcases h2 with h2 | ⟨e2, h2⟩
    · exact Or.inl (e1 ▸ h2)
    · exact Or.inr ⟨e1.trans e2, by omega⟩
theorem rising {L : List It} (h : goodR L = true) : ∀ (d i : Nat), i + d + 1 < L.length → lessIt (L.getD i default) (L.getD (i + d + 1) default) := by
  intro d
  induction d with
  | zero =>
    intro i hi
    have := goodR_at h (i := i + 1) (by omega)
    unfold okAt at this
    simp only [Bool.and_eq_true, Bool.or_eq_true, beq_iff_eq, decide_eq_true_eq] at this
    rcases this.2 with h1 | h1
    · omega
    · simpa using h1
  | succ d ih =>
    intro i hi
    have h1 := ih i (by omega)
    have := goodR_at h (i := i + (d + 1) + 1) (by omega)
    unfold okAt at this
    simp only [Bool.and_eq_true, Bool.or_eq_true, beq_iff_eq, decide_eq_true_eq] at this
    rcases this.2 with h2 | h2
    · omega
    · rw [show i + (d + 1) + 1 - 1 = i + d + 1 from by omega] at h2
      exact lessIt_trans h1 h2
theorem skF_right (p : Nat → Bool) (n : Nat) (hm : ∀ i j, i < j → j < n → p j = true → p i = true) : ∀ (f lo hi : Nat), hi - lo ≤ f → lo ≤ hi → hi ≤ n → (∀ i, i < lo → p i = true) → (∀ i, hi ≤ i → i < n → p i = false) → ∀ i, i < n → p i = decide (i < skF p lo hi) := by
  intro f
  induction f with
  | zero =>
    intro lo hi h1 h2 h3 h4 h5 i hi'
    rw [skF_end p lo hi (by omega)]
    by_cases h : i < lo
    · rw [h4 i h, decide_eq_true h]
    · rw [h5 i (by omega) hi', decide_eq_false h]
  | succ f ih =>
    intro lo hi h1 h2 h3 h4 h5 i hi'
    by_cases h : lo < hi
    · cases hp : p ((lo + hi) / 2) with
      | true =>
        rw [skF_yes p lo hi h hp]
        refine ih _ _ (by omega) (by omega) h3 (fun j hj => ?_) h5 i hi'
        by_cases hj2 : j = (lo + hi) / 2
        · rw [hj2]; exact hp
        · exact hm j _ (by omega) (by omega) hp
      | false =>
        rw [skF_no p lo hi h hp]
        refine ih _ _ (by omega) (by omega) (by omega) h4 (fun j hj1 hj2 => ?_) i hi'
        cases hpj : p j with
        | false => rfl
        | true =>
          by_cases he : j = (lo + hi) / 2
          · rw [he] at hpj; rw [hp] at hpj; cases hpj
          · rw [hm ((lo + hi) / 2) j (by omega) hj2 hpj] at hp; cases hp
    · rw [skF_end p lo hi h]
      by_cases h' : i < lo
      · rw [h4 i h', decide_eq_true h']
      · rw [h5 i (by omega) hi', decide_eq_false h']
/-- What is looked for is ahead of none that is less, and behind none that is not. -/
theorem seek_right {L : List It} (h : goodR L = true) (x : It) : ∀ i, i < L.length → lessAt L x i = decide (i < seekF L x) := by
  refine skF_right (lessAt L x) L.length ?_ L.length 0 L.length (by omega) (by omega) (Nat.le_refl _) (fun i hi => by omega) (fun i h1 h2 => by omega)
  intro i j hij hj hp
  unfold lessAt at *
  rw [decide_eq_true_eq] at *
  have := rising h (j - i - 1) i (by omega)
  rw [show i + (j - i - 1) + 1 = j from by omega] at this
  exact lessIt_trans this hp
theorem com_text (a b : ByteArray) : a.extract 0 (com (bl a) (bl b)) = b.extract 0 (com (bl a) (bl b)) := by
  apply bl_inj
  rw [bl_to, bl_to]; exact com_same _ _

set_option maxHeartbeats 8000000 in
theorem lawSought (v u : Value) (l m0 : List UInt8) (w : World) (hv : YL w v l) (hn : l.length ≤ maxLen) (hu : YL w u m0) (hn2 : m0.length ≤ maxLen) :
    Calls Try.prog 4 #[v, u] w fun e w' => e = .returned (.bool true) ∧ Below w.heap.size w w' := by
  have hnv := hn
  have hnu := hn2
  unfold maxLen at hn hn2
  have hv' := hv
  have hu' := hu
  obtain ⟨va, vc, rfl, _⟩ := hv'
  obtain ⟨ua, uc, rfl, _⟩ := hu'
  have KD := drawSeek_any _ l w hv hnv
  have KC := fun w h => drawCommon_any (.slice ua m0.length uc) m0 w h hnu
  clear hnv hnu
  by_cases hg : wrap64 ((l.length : Int) + m0.length) ≤ 1048576
  · go_enter Try.func4, Try.ntmps4
    go_wp2_with fail
    refine KD.mono ?_
    rintro e w1 ⟨s, L, key, q, rfl, hir, hle, hsm, hk, hq, hb1⟩
    replace hu := hu.below hb1
    have KI := fun w h => implSeek_any s L key (q : Int) w h (by omega) (small_big hsm) (by omega)
    have KS := fun w h => specSeek_any s L key (q : Int) w h (by omega) (small_big hsm) (by omega)
    clear KD hv
    go_wp2_with fail
    refine (KI _ hir).mono ?_
    rintro e w2 ⟨rfl, hb2⟩
    replace hir := hir.below hb2
    replace hu := hu.below hb2
    have hB := below_then hb1 hb2
    clear KI hb1 hb2
    go_wp2_with fail
    refine (KS _ hir).mono ?_
    rintro e w3 ⟨rfl, hb3⟩
    replace hir := hir.below hb3
    replace hu := hu.below hb3
    replace hB := below_then hB hb3
    clear KS hb3
    cases hok : okSeek L key (q : Int) with
    | false =>
      generalize sekF L key (q : Int) = R at *
      clear hok hir hsm
      go_wp2_with fail
      refine (KC _ hu).mono ?_
      rintro e w4 ⟨a, c, rfl, ha, hc, hb4⟩
      replace hB := below_then hB hb4
      clear KC hu hb4 hg hn hn2 hle hk hq
      have KA := fun w => implCommon_any a c w (by omega) (by omega)
      have KB := fun w => specCommon_any a c w (by omega) (by omega)
      have hcl := com_le (bl a) (bl c)
      rw [bl_len, bl_len] at hcl
      have hct := com_text a c
      have hst : ∀ (x : com (bl a) (bl c) < a.size) (y : com (bl a) (bl c) < c.size), a[com (bl a) (bl c)].toNat ≠ c[com (bl a) (bl c)].toNat := fun x y e => com_stop (bl a) (bl c) (by rw [bl_len]; exact x) (by rw [bl_len]; exact y) (by rw [bl_getElem a _ x, bl_getElem c _ y]; exact UInt8.toNat_inj.1 e)
      generalize com (bl a) (bl c) = n at *
      go_wp2_with fail
      refine (KA _).mono ?_
      rintro e w6 ⟨rfl, hb6⟩
      replace hB := below_then hB hb6
      clear KA hb6
      have hne : Nonempty (WC w6.heap.size w6) := ⟨⟨_, Below.refl _ _⟩⟩
      have hn1 : n ≤ a.size := hcl.1
      have hn2' : n ≤ c.size := hcl.2
      by_cases e1 : n = a.size
      · have g1 : ((n : Int) == (a.size : Int)) = true := by simp [e1]
        have HT : Hid (a.extract 0 n = c.extract 0 n) := hct
        clear e1 hst hcl hct
        have htx : ((a.extract 0 n).toList == (c.extract 0 n).toList) = true := by rw [HT.out]; simp
        go_wp2_with fail
        refine wp_region_calm (B := w6.heap.size) (W := w6) (by kernel_rfl) (by kernel_rfl) (Below.refl _ _) ?_
        repeat (go_big_quiet_step (first | (go_at_call 25; with_reducible exact calm_of_below (Nat.le_refl _) (KB _))))
        refine wpQuiet_nil ?_
        intro _ hw'
        obtain ⟨x, hx⟩ := hw'
        subst hx
        have hB7 := below_then hB x.ok
        clear hne KB hB
        generalize x.w = w7 at *
        clear x
        go_wp2
        go_ret
        exact ⟨rfl, hB7⟩
      · have g1 : ((n : Int) == (a.size : Int)) = false := by simp; omega
        by_cases e2 : n = c.size
        · have g2 : ((n : Int) == (c.size : Int)) = true := by simp [e2]
          have HT : Hid (a.extract 0 n = c.extract 0 n) := hct
          clear e1 e2 hst hcl hct
          have htx : ((a.extract 0 n).toList == (c.extract 0 n).toList) = true := by rw [HT.out]; simp
          go_wp2_with fail
          refine wp_region_calm (B := w6.heap.size) (W := w6) (by kernel_rfl) (by kernel_rfl) (Below.refl _ _) ?_
          repeat (go_big_quiet_step (first | (go_at_call 25; with_reducible exact calm_of_below (Nat.le_refl _) (KB _))))
          refine wpQuiet_nil ?_
          intro _ hw'
          obtain ⟨x, hx⟩ := hw'
          subst hx
          have hB7 := below_then hB x.ok
          clear hne KB hB
          generalize x.w = w7 at *
          clear x
          go_wp2
          go_ret
          exact ⟨rfl, hB7⟩
        · have g2 : ((n : Int) == (c.size : Int)) = false := by simp; omega
          have j1 : n < a.size := by omega
          have j2 : n < c.size := by omega
          have hd := hst j1 j2
          have g3 : (((a[n].toNat : Nat) : Int) == ((c[n].toNat : Nat) : Int)) = false := by simp; omega
          have g4 : (((a[n].toNat : Nat) : Int) != ((c[n].toNat : Nat) : Int)) = true := by simp; omega
          have HT : Hid (a.extract 0 n = c.extract 0 n) := hct
          clear e1 e2 hst hcl hct hd
          have htx : ((a.extract 0 n).toList == (c.extract 0 n).toList) = true := by rw [HT.out]; simp
          go_wp2_with fail
          refine wp_region_calm (B := w6.heap.size) (W := w6) (by kernel_rfl) (by kernel_rfl) (Below.refl _ _) ?_
          repeat (go_big_quiet_step (first | (go_at_call 25; with_reducible exact calm_of_below (Nat.le_refl _) (KB _))))
          refine wpQuiet_nil ?_
          intro _ hw'
          obtain ⟨x, hx⟩ := hw'
          subst hx
          have hB7 := below_then hB x.ok
          clear hne KB hB
          generalize x.w = w7 at *
          clear x
          go_wp2
          go_ret
          exact ⟨rfl, hB7⟩
    | true =>
      have hgr : goodR L = true := by unfold okSeek at hok; rw [Bool.and_eq_true, Bool.and_eq_true] at hok; exact hok.1.1
      have hqk : okKey key = true := by unfold okSeek at hok; rw [Bool.and_eq_true, Bool.and_eq_true] at hok; exact hok.1.2
      have hqs : okSeq (q : Int) = true := by unfold okSeek at hok; rw [Bool.and_eq_true, Bool.and_eq_true] at hok; exact hok.2
      rw [sekF_yes hok]
      have HR : Hid (∀ i (h : i < L.length), decide (cIt L[i].k key L[i].n (q : Int) < 0) = decide (i < seekF L ⟨key, q, 0, ⟨#[]⟩⟩)) := fun i h => by
        have := seek_right hgr ⟨key, q, 0, ⟨#[]⟩⟩ i h
        unfold lessAt lessIt at this
        rw [getD_at L i h] at this
        exact this
      have hskl := seekF_le L ⟨key, q, 0, ⟨#[]⟩⟩
      have HKO : Hid (∀ i (h : i < L.length) w, Calls Try.prog 22 #[.agg #[.string L[i].k, .int .i64 L[i].n, .int .i64 L[i].d, .string L[i].v], .agg #[.string key, .int .i64 (q : Int), .int .i64 0, .string ⟨#[]⟩]] w fun e w' => e = .returned (.tuple #[.int .i64 (cIt L[i].k key L[i].n (q : Int)), .bool true]) ∧ Below w.heap.size w w') := fun i h w => by
        have h1 := specCompare_any L[i].k L[i].v key ⟨#[]⟩ L[i].n L[i].d (q : Int) 0 w (small_big hsm i h).1 (small_big hsm i h).2 (by omega) (by decide)
        have hok1 : okItem L[i].k L[i].n L[i].d L[i].v = true := by
          have := okAt_it (goodR_at hgr h)
          rw [getD_at L i h] at this
          exact this
        have hok2 : okItem key (q : Int) 0 ⟨#[]⟩ = true := by unfold okItem; rw [hqk, hqs]; rfl
        rw [hok1, hok2] at h1
        exact h1
      generalize seekF L ⟨key, q, 0, ⟨#[]⟩⟩ = k at *
      clear hok hgr hqk hqs hsm
      obtain ⟨sa, sc, rfl, hsc⟩ := id hir
      clear hsc
      go_wp2
      go_loopw [56] (fun i wr => ∃ j : Nat, j ≤ L.length ∧ i = .int .i64 j ∧ Below w.heap.size w wr ∧ Below w3.heap.size w3 wr) (fun i _ => L.length - (intOf i).toNat)
      case atStart => exact ⟨0, Nat.zero_le _, rfl, hB, Below.refl _ _⟩
      case round =>
        clear hB
        obtain ⟨j, hj, rfl, hB, hb⟩ := hrel
        have hz := hB.size
        have hzz := hb.size
        by_cases hlt : j < L.length
        · obtain ⟨a', c', hv', hc⟩ := hir
          simp only [Value.slice.injEq, true_and] at hv'
          obtain ⟨rfl, rfl⟩ := hv'
          obtain ⟨b, off, rfl, hbl, hcell⟩ := hc (by intro e; simp [e] at hlt)
          have hc0 := (hb.cell (p := ⟨b, off + j * 4, none⟩) hbl).trans (hcell j hlt).1
          have hc1 := (hb.cell (p := ⟨b, off + j * 4 + 1, none⟩) hbl).trans (hcell j hlt).2.1
          have hc2 := (hb.cell (p := ⟨b, off + j * 4 + 2, none⟩) hbl).trans (hcell j hlt).2.2.1
          have hc3 := (hb.cell (p := ⟨b, off + j * 4 + 3, none⟩) hbl).trans (hcell j hlt).2.2.2
          have KO := HKO.out j hlt
          have hR := HR.out j hlt
          clear hc hcell HKO HR KC hu
          generalize cIt L[j].k key L[j].n (q : Int) = c at *
          generalize L[j] = t at *
          obtain ⟨tk, tn, td, tv⟩ := t
          dsimp only at *
          by_cases hjk : j < k
          · have hcn : c < 0 := by rw [decide_eq_true hjk, decide_eq_true_eq] at hR; exact hR
            have hjk2 : (j : Int) < (k : Int) := by omega
            clear hR
            go_wp2_with fail
            refine (KO _).mono ?_
            rintro e w5 ⟨rfl, hb5⟩
            have hB5 := below_then (hB.alloc hz _) hb5
            have hb55 := below_then (hb.alloc hzz _) hb5
            clear KO hb5 hB hb hc0 hc1 hc2 hc3
            go_wp2
            go_roundw
            case rel => exact ⟨j + 1, by omega, by go_num, hB5, hb55⟩
            case measure => simp [intOf]; omega
          · have hcn : ¬ c < 0 := fun h => by rw [decide_eq_true h] at hR; exact hjk (by simpa using hR.symm)
            have hjk2 : ¬ (j : Int) < (k : Int) := by omega
            clear hR
            go_wp2_with fail
            refine (KO _).mono ?_
            rintro e w5 ⟨rfl, hb5⟩
            have hB5 := below_then (hB.alloc hz _) hb5
            have hb55 := below_then (hb.alloc hzz _) hb5
            clear KO hb5 hB hb hc0 hc1 hc2 hc3
            go_wp2
            go_roundw
            case rel => exact ⟨j + 1, by omega, by go_num, hB5, hb55⟩
            case measure => simp [intOf]; omega
        · obtain rfl : j = L.length := by omega
          replace hu := hu.below hb
          clear HR HKO hir hb
          go_wp2_with fail
          refine (KC _ hu).mono ?_
          rintro e w4 ⟨a, c, rfl, ha, hc, hb4⟩
          replace hB := below_then hB hb4
          clear KC hu hb4 hg hn hn2 hle hk hq
          have KA := fun w => implCommon_any a c w (by omega) (by omega)
          have KB := fun w => specCommon_any a c w (by omega) (by omega)
          have hcl := com_le (bl a) (bl c)
          rw [bl_len, bl_len] at hcl
          have hct := com_text a c
          have hst : ∀ (x : com (bl a) (bl c) < a.size) (y : com (bl a) (bl c) < c.size), a[com (bl a) (bl c)].toNat ≠ c[com (bl a) (bl c)].toNat := fun x y e => com_stop (bl a) (bl c) (by rw [bl_len]; exact x) (by rw [bl_len]; exact y) (by rw [bl_getElem a _ x, bl_getElem c _ y]; exact UInt8.toNat_inj.1 e)
          generalize com (bl a) (bl c) = n at *
          go_wp2_with fail
          refine (KA _).mono ?_
          rintro e w6 ⟨rfl, hb6⟩
          replace hB := below_then hB hb6
          clear KA hb6
          have hne : Nonempty (WC w6.heap.size w6) := ⟨⟨_, Below.refl _ _⟩⟩
          have hn1 : n ≤ a.size := hcl.1
          have hn2' : n ≤ c.size := hcl.2
          by_cases e1 : n = a.size
          · have g1 : ((n : Int) == (a.size : Int)) = true := by simp [e1]
            have HT : Hid (a.extract 0 n = c.extract 0 n) := hct
            clear e1 hst hcl hct
            have htx : ((a.extract 0 n).toList == (c.extract 0 n).toList) = true := by rw [HT.out]; simp
            go_wp2_with fail
            refine wp_region_calm (B := w6.heap.size) (W := w6) (by kernel_rfl) (by kernel_rfl) (Below.refl _ _) ?_
            repeat (go_big_quiet_step (first | (go_at_call 25; with_reducible exact calm_of_below (Nat.le_refl _) (KB _))))
            refine wpQuiet_nil ?_
            intro _ hw'
            obtain ⟨x, hx⟩ := hw'
            subst hx
            have hB7 := below_then hB x.ok
            clear hne KB hB
            generalize x.w = w7 at *
            clear x
            go_wp2
            go_ret
            exact ⟨rfl, hB7⟩
          · have g1 : ((n : Int) == (a.size : Int)) = false := by simp; omega
            by_cases e2 : n = c.size
            · have g2 : ((n : Int) == (c.size : Int)) = true := by simp [e2]
              have HT : Hid (a.extract 0 n = c.extract 0 n) := hct
              clear e1 e2 hst hcl hct
              have htx : ((a.extract 0 n).toList == (c.extract 0 n).toList) = true := by rw [HT.out]; simp
              go_wp2_with fail
              refine wp_region_calm (B := w6.heap.size) (W := w6) (by kernel_rfl) (by kernel_rfl) (Below.refl _ _) ?_
              repeat (go_big_quiet_step (first | (go_at_call 25; with_reducible exact calm_of_below (Nat.le_refl _) (KB _))))
              refine wpQuiet_nil ?_
              intro _ hw'
              obtain ⟨x, hx⟩ := hw'
              subst hx
              have hB7 := below_then hB x.ok
              clear hne KB hB
              generalize x.w = w7 at *
              clear x
              go_wp2
              go_ret
              exact ⟨rfl, hB7⟩
            · have g2 : ((n : Int) == (c.size : Int)) = false := by simp; omega
              have j1 : n < a.size := by omega
              have j2 : n < c.size := by omega
              have hd := hst j1 j2
              have g3 : (((a[n].toNat : Nat) : Int) == ((c[n].toNat : Nat) : Int)) = false := by simp; omega
              have g4 : (((a[n].toNat : Nat) : Int) != ((c[n].toNat : Nat) : Int)) = true := by simp; omega
              have HT : Hid (a.extract 0 n = c.extract 0 n) := hct
              clear e1 e2 hst hcl hct hd
              have htx : ((a.extract 0 n).toList == (c.extract 0 n).toList) = true := by rw [HT.out]; simp
              go_wp2_with fail
              refine wp_region_calm (B := w6.heap.size) (W := w6) (by kernel_rfl) (by kernel_rfl) (Below.refl _ _) ?_
              repeat (go_big_quiet_step (first | (go_at_call 25; with_reducible exact calm_of_below (Nat.le_refl _) (KB _))))
              refine wpQuiet_nil ?_
              intro _ hw'
              obtain ⟨x, hx⟩ := hw'
              subst hx
              have hB7 := below_then hB x.ok
              clear hne KB hB
              generalize x.w = w7 at *
              clear x
              go_wp2
              go_ret
              exact ⟨rfl, hB7⟩
  · have hg' : 1048576 < wrap64 ((l.length : Int) + m0.length) := by omega
    clear KD KC
    go_enter Try.func4, Try.ntmps4
    go_wp2
    go_ret
    exact ⟨rfl, Below.refl _ _⟩
end Go.Proofs.Ytniepppbbkoanaa
