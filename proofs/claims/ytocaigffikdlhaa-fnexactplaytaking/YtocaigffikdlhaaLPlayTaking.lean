/-
  The walk of FnExactPlayTaking.
-/
import Derived.Test.YtocaigffikdlhaaIPL
import Derived.Test.YtocaigffikdlhaaLWantOf
import Derived.Test.YtocaigffikdlhaaK9
namespace Go.Proofs.Ytocaigffikdlhaa
open Go.RowKit Go.Maps
set_option linter.unusedVariables false
set_option maxRecDepth 100000

theorem run_neq_bool_same13 (w : World) (b : Bool) : (binOp .neq 4 (.bool b) (.bool b)).run Try.prog w = .ok (.bool false) w := by
  cases b <;> kernel_rfl
theorem markIL (g cap base : Nat) (O : List Int) (k : Int) (w : World) (ho : w.ownsRow base 3 1 (.slice (some ⟨g, 0, none⟩) O.length cap) O.length (O.map (.int .i64))) (hn : O.length ≤ 1048576) (hk0 : 0 ≤ k) (hk1 : k ≤ 1073741824) :
    Calls Try.prog 59 #[.slice (some ⟨g, 0, none⟩) O.length cap, .int .i64 k] w fun e w' => e = .returned (.int .i64 (k + O.length)) ∧ Chg (· = g) w w' := by
  have h := markIntS_at g cap base (O.map (.int .i64)) k w (by simpa using ho) (by simpa using hn) hk0 hk1
  simp only [List.length_map] at h
  exact h.mono (by rintro e w' ⟨h1, _, h2⟩; exact ⟨h1, h2⟩)
set_option maxHeartbeats 16000000 in
theorem law13 (v ov fv : Value) (L : List ByteArray) (O F : List Int) (w : World) (hv : SL w v L) (ho : IL w ov O) (hf : IL w fv F) (hn0 : L.length ≤ maxLen) (hs0 : ∀ i (h : i < L.length), L[i].size ≤ maxLen) (hO0 : O.length ≤ maxLen) (hF0 : F.length ≤ maxLen) :
    Calls Try.prog 13 #[v, ov, fv] w fun e w' => e = .returned (.bool true) ∧ Below w.heap.size w w' := by
  have SZ := szStringS_any v L 1048576 w hv (by omega) (by omega) hn0 hs0
  have HV := fun W (hb : Below w.heap.size w W) => hv.below hb
  have HO := fun W (hb : Below w.heap.size w W) => ho.below hb
  have HF := fun W (hb : Below w.heap.size w W) => hf.below hb
  obtain ⟨a, cap, rfl, _⟩ := hv
  obtain ⟨oa, oc, rfl, _⟩ := ho
  obtain ⟨fa, fc, rfl, _⟩ := hf
  clear hs0
  have R1 := fun w b => run_neq_bool_same13 w b
  by_cases hO : O.length ≤ 1048576
  rotate_left
  · have g1 : (1048576 : Int) < (O.length : Int) := by omega
    unfold maxLen at hO0
    clear SZ
    go_enter Try.func13, Try.ntmps13
    go_wp2
    go_ret
    exact ⟨rfl, Below.refl _ _⟩
  by_cases hF : F.length ≤ 1048576
  rotate_left
  · have g1 : ¬ (1048576 : Int) < (O.length : Int) := by omega
    have g2 : (1048576 : Int) < (F.length : Int) := by omega
    unfold maxLen at hF0
    clear SZ
    go_enter Try.func13, Try.ntmps13
    go_wp2
    go_ret
    exact ⟨rfl, Below.refl _ _⟩
  have g1 : ¬ (1048576 : Int) < (O.length : Int) := by omega
  have g2 : ¬ (1048576 : Int) < (F.length : Int) := by omega
  clear hn0 hO0 hF0
  go_enter Try.func13, Try.ntmps13
  go_wp2_with fail
  refine SZ.mono ?_
  rintro e w0 ⟨⟨r, rfl, hr⟩, hw0⟩
  have hB : Below w.heap.size w w0 := by rw [hw0]; exact Below.refl _ _
  have hz0 := hB.size
  clear SZ hw0
  rcases hr with rfl | ⟨hr0, hr1⟩
  · go_wp2
    go_ret
    exact ⟨rfl, hB⟩
  have hn : L.length ≤ 1048576 := by omega
  have hs : ∀ i (h : i < L.length), L[i].size ≤ 1048576 := fun i h => by have := totS_mem L i h; omega
  clear hr1
  have T := fun W hb => toStringS_any _ L W (HV W hb) hn
  have TO := fun W hb => toIntS_any _ O W (HO W hb) hO
  have TF := fun W hb => toIntS_any _ F W (HF W hb) hF
  have S := fun x y z W h1 h2 h3 => specPlay_any x y z L O F W h1 h2 h3 hn hs hO hF
  have I := fun x y z W h1 h2 h3 => implPlay_any x y z L O F W h1 h2 h3 hn hs hO hF
  have HL : (ptR L O F).length ≤ 1000 := ptR_len L O F
  generalize ptR L O F = Z at *
  generalize ptN L O F = N at *
  generalize ptB L O F = ok at *
  have HML : Hid ((mkAllS 1 Z.length).length = Z.length) := mkAllS_length _ _
  clear hs
  go_wp2_with fail
  refine (T _ hB).mono ?_
  rintro e w1 ⟨rfl, sA, hb1⟩
  replace hB := below_then hB hb1
  have hz1 := hb1.size
  clear hb1
  go_wp2_with fail
  refine (TO _ hB).mono ?_
  rintro e w2 ⟨rfl, sB, hb2⟩
  replace hB := below_then hB hb2
  replace sA := owns_below sA hb2
  have hz2 := hb2.size
  clear hb2
  go_wp2_with fail
  refine (TF _ hB).mono ?_
  rintro e w3 ⟨rfl, sC, hb3⟩
  replace hB := below_then hB hb3
  replace sA := owns_below sA hb3
  replace sB := owns_below sB hb3
  have hz3 := hb3.size
  clear hb3
  go_wp2_with fail
  refine (S _ _ _ _ (SL_of_owns sA) (IL_of_owns sB rfl) (IL_of_owns sC rfl)).mono ?_
  rintro e w4 ⟨u0, rfl, O0, hb4⟩
  replace hB := below_then hB hb4
  replace sA := owns_below sA hb4
  replace sB := owns_below sB hb4
  replace sC := owns_below sC hb4
  have hz4 := hb4.size
  clear hb4
  have hl0 := owns_below_lt O0
  clear sA sB sC
  go_wp2_with fail
  refine (T _ hB).mono ?_
  rintro e w5 ⟨rfl, XA, hb5⟩
  replace hB := below_then hB hb5
  replace O0 := owns_below O0 hb5
  have hz5 := hb5.size
  clear hb5
  have gA := owns_ge XA
  have lA := owns_below_lt XA
  go_wp2_with fail
  refine (TO _ hB).mono ?_
  rintro e w6 ⟨rfl, XB, hb6⟩
  replace hB := below_then hB hb6
  replace O0 := owns_below O0 hb6
  replace XA := owns_below XA hb6
  have hz6 := hb6.size
  clear hb6
  have gB := owns_ge XB
  have lB := owns_below_lt XB
  have bB := lB _ rfl
  go_wp2_with fail
  refine (TF _ hB).mono ?_
  rintro e w7 ⟨rfl, XC, hb7⟩
  replace hB := below_then hB hb7
  replace O0 := owns_below O0 hb7
  replace XA := owns_below XA hb7
  replace XB := owns_below XB hb7
  have hz7 := hb7.size
  clear hb7
  have gC := owns_ge XC
  have lC := owns_below_lt XC
  have bC := lC _ rfl
  go_wp2_with fail
  refine (I _ _ _ _ (SL_of_owns XA) (IL_of_owns XB rfl) (IL_of_owns XC rfl)).mono ?_
  rintro e w8 ⟨g0, rfl, G0, hb8⟩
  replace hB := below_then hB hb8
  replace O0 := owns_below O0 hb8
  replace XA := owns_below XA hb8
  replace XB := owns_below XB hb8
  replace XC := owns_below XC hb8
  have hz8 := hb8.size
  clear hb8
  have gG := owns_ge G0
  have lG := owns_below_lt G0
  go_wp2_with fail
  refine (eqStringS_same _ _ Z _ (SL_of_owns G0) (SL_of_owns O0) (by omega)).mono ?_
  rintro e w9 ⟨rfl, hb9⟩
  replace hB := below_then hB hb9
  replace O0 := owns_below O0 hb9
  replace XA := owns_below XA hb9
  replace XB := owns_below XB hb9
  replace XC := owns_below XC hb9
  replace G0 := owns_below G0 hb9
  have hz9 := hb9.size
  clear hb9
  go_wp2_with fail
  refine (T _ hB).mono ?_
  rintro e w10 ⟨rfl, kA, hb10⟩
  replace hB := below_then hB hb10
  replace O0 := owns_below O0 hb10
  replace XA := owns_below XA hb10
  replace XB := owns_below XB hb10
  replace XC := owns_below XC hb10
  replace G0 := owns_below G0 hb10
  have hz10 := hb10.size
  clear hb10
  go_wp2_with fail
  refine (eqStringS_same _ _ L _ (SL_of_owns XA) (SL_of_owns kA) hn).mono ?_
  rintro e w11 ⟨rfl, hb11⟩
  replace hB := below_then hB hb11
  replace O0 := owns_below O0 hb11
  replace XA := owns_below XA hb11
  replace XB := owns_below XB hb11
  replace XC := owns_below XC hb11
  replace G0 := owns_below G0 hb11
  replace kA := owns_below kA hb11
  have hz11 := hb11.size
  clear hb11
  clear kA
  go_wp2_with fail
  refine (TO _ hB).mono ?_
  rintro e w12 ⟨rfl, kB, hb12⟩
  replace hB := below_then hB hb12
  replace O0 := owns_below O0 hb12
  replace XA := owns_below XA hb12
  replace XB := owns_below XB hb12
  replace XC := owns_below XC hb12
  replace G0 := owns_below G0 hb12
  have hz12 := hb12.size
  clear hb12
  go_wp2_with fail
  refine (eqIntS_same _ _ O _ (IL_of_owns XB rfl) (IL_of_owns kB rfl) hO).mono ?_
  rintro e w13 ⟨rfl, hb13⟩
  replace hB := below_then hB hb13
  replace O0 := owns_below O0 hb13
  replace XA := owns_below XA hb13
  replace XB := owns_below XB hb13
  replace XC := owns_below XC hb13
  replace G0 := owns_below G0 hb13
  replace kB := owns_below kB hb13
  have hz13 := hb13.size
  clear hb13
  clear kB
  go_wp2_with fail
  refine (TF _ hB).mono ?_
  rintro e w14 ⟨rfl, kC, hb14⟩
  replace hB := below_then hB hb14
  replace O0 := owns_below O0 hb14
  replace XA := owns_below XA hb14
  replace XB := owns_below XB hb14
  replace XC := owns_below XC hb14
  replace G0 := owns_below G0 hb14
  have hz14 := hb14.size
  clear hb14
  go_wp2_with fail
  refine (eqIntS_same _ _ F _ (IL_of_owns XC rfl) (IL_of_owns kC rfl) hF).mono ?_
  rintro e w15 ⟨rfl, hb15⟩
  replace hB := below_then hB hb15
  replace O0 := owns_below O0 hb15
  replace XA := owns_below XA hb15
  replace XB := owns_below XB hb15
  replace XC := owns_below XC hb15
  replace G0 := owns_below G0 hb15
  replace kC := owns_below kC hb15
  have hz15 := hb15.size
  clear hb15
  clear kC
  go_wp2_with fail
  refine (markStringS_own _ _ L 1 _ XA hn (by omega) (by omega)).mono ?_
  rintro e w16 ⟨rfl, _, hc16⟩
  replace hB := hB.trans (hc16.below (B := w.heap.size) (by omega) (fun b h => by have := gA b h; omega))
  replace O0 := hc16.owns O0 (fun b hb hh => by have := hl0 b hb; have := gA b hh; omega)
  replace XB := hc16.owns XB (fun b hb hh => by have := gB b hb; have := lA b hh; omega)
  replace XC := hc16.owns XC (fun b hb hh => by have := gC b hb; have := lA b hh; omega)
  replace G0 := hc16.owns G0 (fun b hb hh => by have := gG b hb; have := lA b hh; omega)
  have hz16 := hc16.size
  clear hc16
  clear XA
  go_wp2_with fail
  refine (markIL _ _ _ O _ _ XB hO (by omega) (by omega)).mono ?_
  rintro e w17 ⟨rfl, hc17⟩
  replace hB := hB.trans (hc17.below (B := w.heap.size) (by omega) (fun b h => by omega))
  replace O0 := hc17.owns O0 (fun b hb hh => by have := hl0 b hb; omega)
  replace XC := hc17.owns XC (fun b hb hh => by have := gC b hb; omega)
  replace G0 := hc17.owns G0 (fun b hb hh => by have := gG b hb; omega)
  have hz17 := hc17.size
  clear hc17
  clear XB
  go_wp2_with fail
  refine (markIL _ _ _ F _ _ XC hF (by omega) (by omega)).mono ?_
  rintro e w18 ⟨rfl, hc18⟩
  replace hB := hB.trans (hc18.below (B := w.heap.size) (by omega) (fun b h => by omega))
  replace O0 := hc18.owns O0 (fun b hb hh => by have := hl0 b hb; omega)
  replace G0 := hc18.owns G0 (fun b hb hh => by have := gG b hb; omega)
  have hz18 := hc18.size
  clear hc18
  clear XC
  go_wp2_with fail
  refine (eqStringS_same _ _ Z _ (SL_of_owns G0) (SL_of_owns O0) (by omega)).mono ?_
  rintro e w19 ⟨rfl, hb19⟩
  replace hB := below_then hB hb19
  replace O0 := owns_below O0 hb19
  replace G0 := owns_below G0 hb19
  have hz19 := hb19.size
  clear hb19
  go_wp2_with fail
  refine (markStringS_own g0 _ Z 1 _ G0 (by omega) (by omega) (by omega)).mono ?_
  rintro e w20 ⟨rfl, Q0, hc20⟩
  replace hB := hB.trans (hc20.below (B := w.heap.size) (by omega) (fun b h => by have := gG b h; omega))
  replace O0 := hc20.owns O0 (fun b hb hh => by have := hl0 b hb; have := gG b hh; omega)
  have hz20 := hc20.size
  clear hc20
  clear G0
  have HI : ∀ W b, W.ownsRow b 9 1 g0 Z.length ((mkAllS 1 Z.length).map Value.string) → SL W g0 (mkAllS 1 Z.length) := fun W b h => SL_of_owns (base := b) (e := 9) (by rw [HML.out]; exact h)
  go_wp2_with fail
  refine (heldStringS_any g0 Z.length 1 _ (HI _ _ Q0) (by omega) (by omega) (by omega)).mono ?_
  rintro e w21 ⟨rfl, hb21⟩
  replace hB := below_then hB hb21
  replace O0 := owns_below O0 hb21
  replace Q0 := owns_below Q0 hb21
  have hz21 := hb21.size
  clear hb21
  go_wp2_with fail
  refine (T _ hB).mono ?_
  rintro e w22 ⟨rfl, tA, hb22⟩
  replace hB := below_then hB hb22
  replace O0 := owns_below O0 hb22
  replace Q0 := owns_below Q0 hb22
  have hz22 := hb22.size
  clear hb22
  go_wp2_with fail
  refine (TO _ hB).mono ?_
  rintro e w23 ⟨rfl, tB, hb23⟩
  replace hB := below_then hB hb23
  replace O0 := owns_below O0 hb23
  replace Q0 := owns_below Q0 hb23
  replace tA := owns_below tA hb23
  have hz23 := hb23.size
  clear hb23
  go_wp2_with fail
  refine (TF _ hB).mono ?_
  rintro e w24 ⟨rfl, tC, hb24⟩
  replace hB := below_then hB hb24
  replace O0 := owns_below O0 hb24
  replace Q0 := owns_below Q0 hb24
  replace tA := owns_below tA hb24
  replace tB := owns_below tB hb24
  have hz24 := hb24.size
  clear hb24
  go_wp2_with fail
  refine (I _ _ _ _ (SL_of_owns tA) (IL_of_owns tB rfl) (IL_of_owns tC rfl)).mono ?_
  rintro e w25 ⟨h0, rfl, H0, hb25⟩
  replace hB := below_then hB hb25
  replace O0 := owns_below O0 hb25
  replace Q0 := owns_below Q0 hb25
  replace tA := owns_below tA hb25
  replace tB := owns_below tB hb25
  replace tC := owns_below tC hb25
  have hz25 := hb25.size
  clear hb25
  clear tA tB tC
  go_wp2_with fail
  refine (eqStringS_same _ _ Z _ (SL_of_owns H0) (SL_of_owns O0) (by omega)).mono ?_
  rintro e w26 ⟨rfl, hb26⟩
  replace hB := below_then hB hb26
  replace O0 := owns_below O0 hb26
  replace Q0 := owns_below Q0 hb26
  replace H0 := owns_below H0 hb26
  have hz26 := hb26.size
  clear hb26
  clear H0 O0
  go_wp2_with fail
  refine (heldStringS_any g0 Z.length 1 _ (HI _ _ Q0) (by omega) (by omega) (by omega)).mono ?_
  rintro e w27 ⟨rfl, hb27⟩
  replace hB := below_then hB hb27
  replace Q0 := owns_below Q0 hb27
  have hz27 := hb27.size
  clear hb27
  clear Q0 HI T TO TF S I
  go_wp2
  go_ret
  exact ⟨rfl, hB⟩
end Go.Proofs.Ytocaigffikdlhaa
