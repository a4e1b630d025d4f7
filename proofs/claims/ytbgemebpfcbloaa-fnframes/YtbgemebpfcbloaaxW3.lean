/-
  Texts come back from their frames, and of frames that are torn just the whole ones ahead: the walk of FnFrames.
-/
import Derived.Test.YtbgemebpfcbloaaxW2
namespace Go.Proofs.Ytbgemebpfcbloaa
open Go.RowKit
set_option linter.unusedVariables false
set_option maxRecDepth 100000

theorem rf_len (s : ByteArray) : ∀ f a, (rf s f a).1.length ≤ f := by
  intro f
  induction f with
  | zero => intro a; simp [rf]
  | succ f ih =>
    intro a
    unfold rf
    split
    · have := ih (a + tfN (s.extract a s.size)); simpa using this
    · simp
theorem framesOf_len (s : ByteArray) : (framesOf s).length ≤ 60 := rf_len s 60 0

set_option maxHeartbeats 8000000 in
theorem lawFrames (v u : Value) (l m0 : List UInt8) (w : World) (hv : YL w v l) (hn : l.length ≤ maxLen) (hu : YL w u m0) (hn2 : m0.length ≤ maxLen) :
    Calls Try.prog 5 #[v, u] w fun e w' => e = .returned (.bool true) ∧ Below w.heap.size w w' := by
  have hnv := hn
  have hnu := hn2
  unfold maxLen at hn hn2
  have hv' := hv
  have hu' := hu
  obtain ⟨va, vc, rfl, _⟩ := hv'
  obtain ⟨ua, uc, rfl, _⟩ := hu'
  have KD := drawFrames_any _ l w hv hnv
  have KE := fun w h => drawRF_any (.slice ua m0.length uc) m0 w h hnu
  have KN := fun w h => numberOf_any (.slice ua m0.length uc) m0 w h (by omega)
  clear hnv hnu
  by_cases hg : wrap64 ((l.length : Int) + m0.length) ≤ 1048576
  · go_enter Try.func5, Try.ntmps5
    go_wp2_with fail
    refine KD.mono ?_
    rintro e w1 ⟨a, c, L, rfl, hsl, hac, hsm, hb1⟩
    replace hu := hu.below hb1
    have KJ := fun w h => implFrames_any (.slice a L.length c) L w h (by have := hsm.1; omega) (fun i h => by have := hsm.2 i h; omega)
    have KS := fun w h => specFrames_any (.slice a L.length c) L w h (by have := hsm.1; omega) (fun i h => by have := hsm.2 i h; omega)
    have hTz := fs_size hsm.1 hsm.2
    have hL61 := hsm.1
    clear KD hv
    go_wp2_with fail
    refine (KJ _ hsl).mono ?_
    rintro e w2 ⟨rfl, hb2⟩
    replace hsl := hsl.below hb2
    replace hu := hu.below hb2
    have hB := below_then hb1 hb2
    clear KJ hb1 hb2
    go_wp2_with fail
    refine (KS _ hsl).mono ?_
    rintro e w3 ⟨rfl, hb3⟩
    replace hsl := hsl.below hb3
    replace hu := hu.below hb3
    replace hB := below_then hB hb3
    clear KS hb3
    cases hok : fsOk L with
    | false =>
      rw [fs_no L hok]
      clear hok hsl hsm hTz KN
      go_wp2_with fail
      refine (KE _ hu).mono ?_
      rintro e wa ⟨t, rfl, ht, hba⟩
      replace hB := below_then hB hba
      have KP := fun w => implReadFrames_any t w (by omega)
      have KQ := fun w => specReadFrames_any t w (by omega)
      have hfl := framesOf_len t
      clear KE hu hba
      generalize ((framesEnd t : Nat) : Int) = FE at *
      generalize framesOf t = FL at *
      generalize (FE == (t.size : Int)) = bb at *
      go_wp2_with fail
      refine (KP _).mono ?_
      rintro e wb ⟨xv, rfl, ox, hbb⟩
      replace hB := below_then hB hbb
      have sx := SL_of_owns ox
      obtain ⟨xa, xc, rfl⟩ := owns_shape ox
      clear KP ox hbb
      go_wp2_with fail
      refine (KQ _).mono ?_
      rintro e wc ⟨yv, rfl, oy, hbc⟩
      replace hB := below_then hB hbc
      replace sx := sx.below hbc
      have sy := SL_of_owns oy
      obtain ⟨ya, yc, rfl⟩ := owns_shape oy
      clear KQ oy hbc
      cases bb
      all_goals
        go_wp2_with fail
        refine (sameTexts_same _ _ FL _ sx sy (by omega)).mono ?_
        rintro e wd ⟨rfl, hbd⟩
        have hB9 := below_then hB hbd
        clear sx sy hbd hB
        go_wp2
        go_ret
        exact ⟨rfl, hB9⟩
    | true =>
      obtain ⟨ra, re⟩ := read_all hok
      have KR : ∀ w, Calls Try.prog 23 #[.string (fsT L)] w fun e w' => ∃ v, e = .returned (.tuple #[v, .int .i64 ((fsT L).size : Int), .bool true]) ∧ w'.ownsRow w.heap.size 9 1 v L.length (L.map Value.string) ∧ Below w.heap.size w w' := fun w => by
        have h := implReadFrames_any (fsT L) w (by omega)
        rw [ra, re, show (((fsT L).size : Int) == ((fsT L).size : Int)) = true from beq_self_eq_true _] at h
        exact h
      have HC : Hid (∀ k, k ≤ (fsT L).size → ∃ p, p ≤ L.length ∧ framesOf ((fsT L).extract 0 k) = L.take p ∧ framesEnd ((fsT L).extract 0 k) ≤ k ∧ (p = L.length → framesEnd ((fsT L).extract 0 k) = (fsT L).size) ∧ ∀ hp : p < L.length, k < framesEnd ((fsT L).extract 0 k) + (frameT L[p]).size) := fun k hk => read_cut hok k hk
      have HSM : Hid (small12 L) := hsm
      clear ra re hok hsm
      generalize fsT L = T at *
      go_wp2_with fail
      refine (KR _).mono ?_
      rintro e w4 ⟨mv, rfl, om, hb4⟩
      replace hsl := hsl.below hb4
      replace hu := hu.below hb4
      replace hB := below_then hB hb4
      have sm := SL_of_owns om
      obtain ⟨ma, mc, rfl⟩ := owns_shape om
      clear KR hb4 om
      go_wp2_with fail
      refine (sameTexts_same _ _ L _ sm hsl (by omega)).mono ?_
      rintro e w5 ⟨rfl, hb5⟩
      replace hsl := hsl.below hb5
      replace hu := hu.below hb5
      replace hB := below_then hB hb5
      clear sm hb5
      by_cases hz : T.size = 0
      · have hz0 : ¬ (0 : Int) < (T.size : Int) := by omega
        clear KN
        obtain ⟨p, hp, f1, f2, f3, f4⟩ := HC.out 0 (by omega)
        have hcs : (T.extract 0 0).size ≤ 1048576 := by rw [ByteArray.size_extract]; omega
        have KR := fun w => implReadFrames_any (T.extract 0 0) w hcs
        rw [f1] at KR
        have hpl : (L.take p).length = p := by rw [List.length_take]; omega
        obtain ⟨S, hS⟩ : ∃ S, S = T.extract 0 0 := ⟨_, rfl⟩
        rw [← hS] at KR f2 f3 f4
        replace hS : S = ByteArray.empty := by rw [hS]; simp
        clear hcs f1 f3
        generalize framesEnd S = FE at *
        generalize ((FE : Int) == (S.size : Int)) = wb at *
        have hFE : ¬ ((0 : Int) < (FE : Int)) := by omega
        have hFE2 : (FE : Int) ≤ (0 : Int) := by omega
        have hk9 : 0 ≤ T.size := by omega
        go_wp2_with fail
        rw [← hS]
        clear hS
        refine (KR _).mono ?_
        rintro e w6 ⟨pv, rfl, op, hb6⟩
        replace hsl := hsl.below hb6
        replace hu := hu.below hb6
        replace hB := below_then hB hb6
        have sp := SL_of_owns op
        obtain ⟨pa, pc, rfl⟩ := owns_shape op
        rw [hpl] at sp ⊢
        clear KR op hb6 HC
        have sl2 := SL_take hsl hp
        have hpi : ¬ ((L.length : Int) < (p : Int)) := by omega
        by_cases hlt : p < L.length
        · have hlti : (p : Int) < (L.length : Int) := by omega
          have h4 := f4 hlt
          have h12 := HSM.out.2 p hlt
          have KZ := fun w => specFrame_any L[p] w (by unfold maxLen; omega)
          obtain ⟨sz, hsz⟩ : ∃ sz, sz = FE + (frameT L[p]).size := ⟨_, rfl⟩
          have E6 : (FE : Int) + ((frameT L[p]).size : Int) = (sz : Int) := by omega
          have V6 : IntKind.i64.wrap (sz : Int) = (sz : Int) := by
            have := frameT_size L[p] (by omega)
            rw [IntKind.wrap_i64]; omega
          have hle6 : ¬ ((sz : Int) ≤ (0 : Int)) := by omega
          obtain ⟨a', c', he, hc⟩ := id hsl
          injection he with e1 e2 e3
          subst e1
          obtain ⟨b, off, rfl, hbl, hcell⟩ := hc (by intro e; rw [e] at hlt; simp at hlt)
          have c0 := hcell p hlt
          clear hsz h4 f4 hc hcell e2 e3 HSM hsl
          generalize frameT L[p] = FT at *
          generalize decide (L[p].size ≤ 1000) = fb at *
          generalize L[p] = lp at *
          go_wp2_with fail
          refine (sameTexts_same _ _ (L.take p) _ sp sl2 (by rw [hpl]; omega)).mono ?_
          rintro e w7 ⟨rfl, hb7⟩
          have c7 := (hb7.cell (p := ⟨b, off + p, none⟩) hbl).trans c0
          replace hu := hu.below hb7
          replace hB := below_then hB hb7
          have hbl7 := Nat.lt_of_lt_of_le hbl hb7.size
          clear sp sl2 hb7 c0 hpl
          go_wp2_with fail
          refine (KZ _).mono ?_
          rintro e w8 ⟨rfl, hb8⟩
          replace hu := hu.below hb8
          replace hB := below_then hB hb8
          clear KZ hb8 c7
          go_wp2_with fail
          refine (KE _ hu).mono ?_
          rintro e wa ⟨t, rfl, ht, hba⟩
          replace hB := below_then hB hba
          have KP := fun w => implReadFrames_any t w (by omega)
          have KQ := fun w => specReadFrames_any t w (by omega)
          have hfl := framesOf_len t
          clear KE hu hba
          generalize ((framesEnd t : Nat) : Int) = FE at *
          generalize framesOf t = FL at *
          generalize (FE == (t.size : Int)) = bb at *
          go_wp2_with fail
          refine (KP _).mono ?_
          rintro e wb ⟨xv, rfl, ox, hbb⟩
          replace hB := below_then hB hbb
          have sx := SL_of_owns ox
          obtain ⟨xa, xc, rfl⟩ := owns_shape ox
          clear KP ox hbb
          go_wp2_with fail
          refine (KQ _).mono ?_
          rintro e wc ⟨yv, rfl, oy, hbc⟩
          replace hB := below_then hB hbc
          replace sx := sx.below hbc
          have sy := SL_of_owns oy
          obtain ⟨ya, yc, rfl⟩ := owns_shape oy
          clear KQ oy hbc
          cases bb
          all_goals
            go_wp2_with fail
            refine (sameTexts_same _ _ FL _ sx sy (by omega)).mono ?_
            rintro e wd ⟨rfl, hbd⟩
            have hB9 := below_then hB hbd
            clear sx sy hbd hB
            go_wp2
            go_ret
            exact ⟨rfl, hB9⟩
        · have hlti : ¬ (p : Int) < (L.length : Int) := by omega
          clear f4 HSM
          go_wp2_with fail
          refine (sameTexts_same _ _ (L.take p) _ sp sl2 (by rw [hpl]; omega)).mono ?_
          rintro e w7 ⟨rfl, hb7⟩
          replace hu := hu.below hb7
          replace hB := below_then hB hb7
          clear sp sl2 hb7 hsl hpl
          go_wp2_with fail
          refine (KE _ hu).mono ?_
          rintro e wa ⟨t, rfl, ht, hba⟩
          replace hB := below_then hB hba
          have KP := fun w => implReadFrames_any t w (by omega)
          have KQ := fun w => specReadFrames_any t w (by omega)
          have hfl := framesOf_len t
          clear KE hu hba
          generalize ((framesEnd t : Nat) : Int) = FE at *
          generalize framesOf t = FL at *
          generalize (FE == (t.size : Int)) = bb at *
          go_wp2_with fail
          refine (KP _).mono ?_
          rintro e wb ⟨xv, rfl, ox, hbb⟩
          replace hB := below_then hB hbb
          have sx := SL_of_owns ox
          obtain ⟨xa, xc, rfl⟩ := owns_shape ox
          clear KP ox hbb
          go_wp2_with fail
          refine (KQ _).mono ?_
          rintro e wc ⟨yv, rfl, oy, hbc⟩
          replace hB := below_then hB hbc
          replace sx := sx.below hbc
          have sy := SL_of_owns oy
          obtain ⟨ya, yc, rfl⟩ := owns_shape oy
          clear KQ oy hbc
          cases bb
          all_goals
            go_wp2_with fail
            refine (sameTexts_same _ _ FL _ sx sy (by omega)).mono ?_
            rintro e wd ⟨rfl, hbd⟩
            have hB9 := below_then hB hbd
            clear sx sy hbd hB
            go_wp2
            go_ret
            exact ⟨rfl, hB9⟩
      · have hz0 : (0 : Int) < (T.size : Int) := by omega
        obtain ⟨n1, hn1⟩ : ∃ n1, n1 = T.size + 1 := ⟨_, rfl⟩
        have E1 : (T.size : Int) + 1 = (n1 : Int) := by omega
        have V1 : IntKind.i64.wrap (n1 : Int) = (n1 : Int) := by rw [IntKind.wrap_i64]; omega
        have hn0 : ¬ (n1 : Int) = 0 := by omega
        go_wp2_with fail
        refine (KN _ hu).mono ?_
        rintro e w9 ⟨⟨x, rfl, hx⟩, rfl⟩
        obtain ⟨k, hk⟩ : ∃ k, k = x % n1 := ⟨_, rfl⟩
        have EK : (x : Int) % (n1 : Int) = (k : Int) := by omega
        have EK2 : Int.tmod (x : Int) (n1 : Int) = (k : Int) := by rw [Int.tmod_eq_emod_of_nonneg (by omega)]; exact EK
        have VK : IntKind.i64.wrap (k : Int) = (k : Int) := by rw [IntKind.wrap_i64]; have := Nat.mod_lt x (show 0 < n1 by omega); omega
        have hkT : k ≤ T.size := by have := Nat.mod_lt x (show 0 < n1 by omega); omega
        clear KN hk hn1
        obtain ⟨p, hp, f1, f2, f3, f4⟩ := HC.out k (by omega)
        have hcs : (T.extract 0 k).size ≤ 1048576 := by rw [ByteArray.size_extract]; omega
        have KR := fun w => implReadFrames_any (T.extract 0 k) w hcs
        rw [f1] at KR
        have hpl : (L.take p).length = p := by rw [List.length_take]; omega
        obtain ⟨S, hS⟩ : ∃ S, S = T.extract 0 k := ⟨_, rfl⟩
        rw [← hS] at KR f2 f3 f4
        clear hcs f1 f3
        generalize framesEnd S = FE at *
        generalize ((FE : Int) == (S.size : Int)) = wb at *
        have hFE : ¬ ((k : Int) < (FE : Int)) := by omega
        have hFE2 : (FE : Int) ≤ (k : Int) := by omega
        have hk9 : k ≤ T.size := by omega
        go_wp2_with fail
        rw [← hS]
        clear hS
        refine (KR _).mono ?_
        rintro e w6 ⟨pv, rfl, op, hb6⟩
        replace hsl := hsl.below hb6
        replace hu := hu.below hb6
        replace hB := below_then hB hb6
        have sp := SL_of_owns op
        obtain ⟨pa, pc, rfl⟩ := owns_shape op
        rw [hpl] at sp ⊢
        clear KR op hb6 HC
        have sl2 := SL_take hsl hp
        have hpi : ¬ ((L.length : Int) < (p : Int)) := by omega
        by_cases hlt : p < L.length
        · have hlti : (p : Int) < (L.length : Int) := by omega
          have h4 := f4 hlt
          have h12 := HSM.out.2 p hlt
          have KZ := fun w => specFrame_any L[p] w (by unfold maxLen; omega)
          obtain ⟨sz, hsz⟩ : ∃ sz, sz = FE + (frameT L[p]).size := ⟨_, rfl⟩
          have E6 : (FE : Int) + ((frameT L[p]).size : Int) = (sz : Int) := by omega
          have V6 : IntKind.i64.wrap (sz : Int) = (sz : Int) := by
            have := frameT_size L[p] (by omega)
            rw [IntKind.wrap_i64]; omega
          have hle6 : ¬ ((sz : Int) ≤ (k : Int)) := by omega
          obtain ⟨a', c', he, hc⟩ := id hsl
          injection he with e1 e2 e3
          subst e1
          obtain ⟨b, off, rfl, hbl, hcell⟩ := hc (by intro e; rw [e] at hlt; simp at hlt)
          have c0 := hcell p hlt
          clear hsz h4 f4 hc hcell e2 e3 HSM hsl
          generalize frameT L[p] = FT at *
          generalize decide (L[p].size ≤ 1000) = fb at *
          generalize L[p] = lp at *
          go_wp2_with fail
          refine (sameTexts_same _ _ (L.take p) _ sp sl2 (by rw [hpl]; omega)).mono ?_
          rintro e w7 ⟨rfl, hb7⟩
          have c7 := (hb7.cell (p := ⟨b, off + p, none⟩) hbl).trans c0
          replace hu := hu.below hb7
          replace hB := below_then hB hb7
          have hbl7 := Nat.lt_of_lt_of_le hbl hb7.size
          clear sp sl2 hb7 c0 hpl
          go_wp2_with fail
          refine (KZ _).mono ?_
          rintro e w8 ⟨rfl, hb8⟩
          replace hu := hu.below hb8
          replace hB := below_then hB hb8
          clear KZ hb8 c7
          go_wp2_with fail
          refine (KE _ hu).mono ?_
          rintro e wa ⟨t, rfl, ht, hba⟩
          replace hB := below_then hB hba
          have KP := fun w => implReadFrames_any t w (by omega)
          have KQ := fun w => specReadFrames_any t w (by omega)
          have hfl := framesOf_len t
          clear KE hu hba
          generalize ((framesEnd t : Nat) : Int) = FE at *
          generalize framesOf t = FL at *
          generalize (FE == (t.size : Int)) = bb at *
          go_wp2_with fail
          refine (KP _).mono ?_
          rintro e wb ⟨xv, rfl, ox, hbb⟩
          replace hB := below_then hB hbb
          have sx := SL_of_owns ox
          obtain ⟨xa, xc, rfl⟩ := owns_shape ox
          clear KP ox hbb
          go_wp2_with fail
          refine (KQ _).mono ?_
          rintro e wc ⟨yv, rfl, oy, hbc⟩
          replace hB := below_then hB hbc
          replace sx := sx.below hbc
          have sy := SL_of_owns oy
          obtain ⟨ya, yc, rfl⟩ := owns_shape oy
          clear KQ oy hbc
          cases bb
          all_goals
            go_wp2_with fail
            refine (sameTexts_same _ _ FL _ sx sy (by omega)).mono ?_
            rintro e wd ⟨rfl, hbd⟩
            have hB9 := below_then hB hbd
            clear sx sy hbd hB
            go_wp2
            go_ret
            exact ⟨rfl, hB9⟩
        · have hlti : ¬ (p : Int) < (L.length : Int) := by omega
          clear f4 HSM
          go_wp2_with fail
          refine (sameTexts_same _ _ (L.take p) _ sp sl2 (by rw [hpl]; omega)).mono ?_
          rintro e w7 ⟨rfl, hb7⟩
          replace hu := hu.below hb7
          replace hB := below_then hB hb7
          clear sp sl2 hb7 hsl hpl
          go_wp2_with fail
          refine (KE _ hu).mono ?_
          rintro e wa ⟨t, rfl, ht, hba⟩
          replace hB := below_then hB hba
          have KP := fun w => implReadFrames_any t w (by omega)
          have KQ := fun w => specReadFrames_any t w (by omega)
          have hfl := framesOf_len t
          clear KE hu hba
          generalize ((framesEnd t : Nat) : Int) = FE at *
          generalize framesOf t = FL at *
          generalize (FE == (t.size : Int)) = bb at *
          go_wp2_with fail
          refine (KP _).mono ?_
          rintro e wb ⟨xv, rfl, ox, hbb⟩
          replace hB := below_then hB hbb
          have sx := SL_of_owns ox
          obtain ⟨xa, xc, rfl⟩ := owns_shape ox
          clear KP ox hbb
          go_wp2_with fail
          refine (KQ _).mono ?_
          rintro e wc ⟨yv, rfl, oy, hbc⟩
          replace hB := below_then hB hbc
          replace sx := sx.below hbc
          have sy := SL_of_owns oy
          obtain ⟨ya, yc, rfl⟩ := owns_shape oy
          clear KQ oy hbc
          cases bb
          all_goals
            go_wp2_with fail
            refine (sameTexts_same _ _ FL _ sx sy (by omega)).mono ?_
            rintro e wd ⟨rfl, hbd⟩
            have hB9 := below_then hB hbd
            clear sx sy hbd hB
            go_wp2
            go_ret
            exact ⟨rfl, hB9⟩
  · have hg' : 1048576 < wrap64 ((l.length : Int) + m0.length) := by omega
    clear KD KE KN
    go_enter Try.func5, Try.ntmps5
    go_wp2
    go_ret
    exact ⟨rfl, Below.refl _ _⟩
end Go.Proofs.Ytbgemebpfcbloaa
