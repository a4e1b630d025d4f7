/-
  Chunks played over a line: impl.PlayTaking.
  The walk of FnExactWantOf.
-/
import Derived.Test.YtocaigffikdlhaaTS
import Derived.Test.YtocaigffikdlhaaFI0
import Derived.Test.YtocaigffikdlhaaX4
import Derived.Test.YtocaigffikdlhaaX2
namespace Go.Proofs.Ytocaigffikdlhaa
open Go.RowKit Go.Maps
set_option linter.unusedVariables false
set_option maxRecDepth 100000

theorem sdTo_size (C : List Ck) (O F : List Int) (B : Nat) (h : ∀ i (hi : i < C.length), C[i].k.size ≤ B) (k : Nat) : ∀ y ∈ sdTo C O F k, y.k.size ≤ B := by
  induction k with
  | zero => simp [sdTo]
  | succ k ih =>
    intro y hy
    rw [sdTo, List.mem_append] at hy
    rcases hy with hy | hy
    · exact ih y hy
    · unfold sd1 at hy
      split at hy
      · rename_i hc
        simp only [List.mem_singleton] at hy
        subst hy
        show (trS _ _).size ≤ B
        rw [trS_size]
        have hi : (O.getD k 0).toNat < C.length := by omega
        rw [List.getD_eq_getElem?_getD (l := C), List.getElem?_eq_getElem hi]
        exact h _ hi
      · simp at hy

set_option maxHeartbeats 16000000 in
theorem implPlay_any (v ov fv : Value) (L : List ByteArray) (O F : List Int) (w : World) (hv : SL w v L) (ho : IL w ov O) (hf : IL w fv F) (hn : L.length ≤ 1048576) (hs : ∀ i (h : i < L.length), L[i].size ≤ 1048576) (hO : O.length ≤ 1048576) (hF : F.length ≤ 1048576) :
    Calls Try.prog 15 #[v, ov, fv] w fun e w' => ∃ u, e = .returned (.tuple #[u, .int .i64 (ptN L O F : Int), .bool (ptB L O F)]) ∧ w'.ownsRow w.heap.size 9 1 u (ptR L O F).length ((ptR L O F).map Value.string) ∧ Below w.heap.size w w' := by
  have KC := fun W' (hb : Below w.heap.size w W') => implChunks_any v L W' (hv.below hb) hn hs
  have KW := fun W' (hb : Below w.heap.size w W') => implWant_any v L W' (hv.below hb) hn hs
  have HO := fun W' (hb : Below w.heap.size w W') => ho.below hb
  have HF := fun W' (hb : Below w.heap.size w W') => hf.below hb
  obtain ⟨a0, c0, rfl, _⟩ := hv
  obtain ⟨oa, ob, rfl, hoc⟩ := ho
  obtain ⟨fa, fb, rfl, hfc⟩ := hf
  cases hpt : ptB L O F with
  | false =>
    have e1 : Hid (ptN L O F = 0) := by show _ = _; unfold ptN; rw [hpt]; rfl
    have e2 : Hid (ptR L O F = []) := by show _ = _; unfold ptR; rw [hpt]; rfl
    rw [e1.out, e2.out]
    have HD : Hid (ckB L = false ∨ (ckB L = true ∧ 400 < O.length) ∨ (ckB L = true ∧ ¬ 400 < O.length ∧ ¬ F.length = O.length)) := by
      show _ ∨ _
      unfold ptB at hpt
      cases hc : ckB L with
      | false => exact .inl rfl
      | true =>
        rw [hc] at hpt
        simp only [Bool.true_and, Bool.and_eq_false_iff, decide_eq_false_iff_not] at hpt
        rcases hpt with h | h
        · exact .inr (.inl ⟨rfl, by omega⟩)
        · by_cases h4 : 400 < O.length
          · exact .inr (.inl ⟨rfl, h4⟩)
          · exact .inr (.inr ⟨rfl, h4, h⟩)
    clear hpt hoc hfc KW e1 e2 hs HO HF
    generalize ckR L = Z at *
    generalize ckB L = ok at *
    go_enter Try.func15, Try.ntmps15
    go_wp2_with fail
    refine (KC _ (Below.refl _ _)).mono ?_
    rintro e w1 ⟨u, rfl, O1, hb1⟩
    obtain ⟨ua, uc, rfl⟩ := owns_shape O1
    clear KC O1
    rcases HD.out with rfl | ⟨rfl, h4⟩ | ⟨rfl, h4, h5⟩
    · go_wp2
      exact bodyPost_ret (v := .tuple #[.slice none 0 0, .int .i64 0, .bool false]) (by simp [results, Try.results15, go_sem]) rfl ⟨_, rfl, World.ownsRow_nil _ _ _ _, hb1⟩
    · have h6 : (400 : Int) < (O.length : Int) := by omega
      go_wp2
      exact bodyPost_ret (v := .tuple #[.slice none 0 0, .int .i64 0, .bool false]) (by simp [results, Try.results15, go_sem]) rfl ⟨_, rfl, World.ownsRow_nil _ _ _ _, hb1⟩
    · have h6 : ¬ (400 : Int) < (O.length : Int) := by omega
      have h7 : ((F.length : Int) != (O.length : Int)) = true := bne_iff_ne.2 (by omega)
      clear h5
      go_wp2
      exact bodyPost_ret (v := .tuple #[.slice none 0 0, .int .i64 0, .bool false]) (by simp [results, Try.results15, go_sem]) rfl ⟨_, rfl, World.ownsRow_nil _ _ _ _, hb1⟩
  | true =>
    have hp : ckB L = true ∧ O.length ≤ 400 ∧ F.length = O.length := by
      unfold ptB at hpt
      simpa [Bool.and_eq_true, and_assoc] using hpt
    obtain ⟨hck, h400, hFO⟩ := hp
    have hgf : gfB L = true := by unfold ckB at hck; simp only [Bool.and_eq_true] at hck; exact hck.1
    have EC : ckR L = ckL L := by unfold ckR; rw [hck]; rfl
    have EW : wtR L = wtL L := by unfold wtR; rw [hgf]; rfl
    have hok := wtL_ok hgf
    have HCL : (ckL L).length ≤ 1000 := by rw [← EC]; exact ckR_len L
    have HCK : ∀ i (h : i < (ckL L).length), (ckL L)[i].k.size ≤ 64 := fun i h => ckL_size L i h
    have e1 : Hid (ptN L O F = (play (wtL L) (sdL (ckL L) O F)).2) := by show _ = _; unfold ptN; rw [hpt]; rfl
    have e2 : Hid (ptR L O F = fnR (wtL L) (play (wtL L) (sdL (ckL L) O F)).1) := by show _ = _; unfold ptR; rw [hpt]; rfl
    rw [e1.out, e2.out]
    rw [hck, EC] at KC
    rw [hgf, EW] at KW
    have hsl : (sdL (ckL L) O F).length ≤ 400 := by have := sdTo_len (ckL L) O F O.length; unfold sdL; omega
    have hss : ∀ i (h : i < (sdL (ckL L) O F).length), (sdL (ckL L) O F)[i].k.size ≤ 1048576 := fun i h => by
      have := sdTo_size (ckL L) O F 64 HCK O.length _ (List.getElem_mem h); omega
    obtain ⟨hgd, h200, hcn⟩ := play_good (wtL L) (sdL (ckL L) O F)
    have KS := fun u W' h h2 h3 => toSend_any u (.slice oa O.length ob) (.slice fa F.length fb) (ckL L) O F W' h h2 h3 (by omega) (by omega) hFO (fun i h => by have := HCK i h; omega)
    have KT := fun a c s W' h h2 => takeSent_any a c s (wtL L) (sdL (ckL L) O F) W' h h2 hok (by omega) hss
    have hGs : ∀ i (h : i < (play (wtL L) (sdL (ckL L) O F)).1.length), (play (wtL L) (sdL (ckL L) O F)).1[i].k.size ≤ 1048576 := fun i h => by
      have h1 := gcB_at hgd h
      unfold gcAt at h1
      rw [Bool.and_eq_true] at h1
      have h2 := (ftB_iff _ _).1 h1.1
      rw [List.getD_eq_getElem?_getD, List.getElem?_eq_getElem h] at h2
      have h3 := h2.2.2.2.2.2.1
      simp only [Option.getD_some] at h3
      omega
    have KF := fun a c W' h => implFin_any a c (wtL L) (play (wtL L) (sdL (ckL L) O F)).1 W' h (by have := hok.1; omega) (by omega) hGs
    rw [hFO] at KS ⊢
    clear e1 e2 hpt EC EW hck hgf hs HCK hss hoc hfc hGs
    generalize hD : sdL (ckL L) O F = D at *
    clear hD
    generalize ckL L = C at *
    generalize wtL L = W at *
    generalize play W D = s at *
    generalize fnR W s.1 = Z at *
    generalize fnB W s.1 = okf at *
    have g4 : ¬ (400 : Int) < (O.length : Int) := by omega
    go_enter Try.func15, Try.ntmps15
    go_wp2_with fail
    refine (KC _ (Below.refl _ _)).mono ?_
    rintro e w1 ⟨u, rfl, CO, hb1⟩
    obtain ⟨xa, xc, rfl⟩ := owns_shape CO
    clear KC
    go_wp2_with fail
    refine (KW _ hb1).mono ?_
    rintro e w2 ⟨u, rfl, WO, hb2⟩
    obtain ⟨ya, yc, rfl⟩ := owns_shape WO
    replace CO := owns_below CO hb2
    have hB := below_then hb1 hb2
    clear KW hb1 hb2
    have iO := HO _ hB
    have iF := HF _ hB
    rw [hFO] at iF
    go_wp2_with fail
    refine (KS _ _ (IR_of_owns CO rfl) (HO _ hB) (by have := HF _ hB; rw [hFO] at this; exact this)).mono ?_
    rintro e w3 ⟨u, rfl, DO, hb3⟩
    obtain ⟨da, dc, rfl⟩ := owns_shape DO
    have OW : OT w3 0 (.slice ya W.length yc) (.slice none 0 0) W [] := ⟨owns_mono' (owns_below WO hb3) (Nat.zero_le _), World.ownsRow_nil _ _ _ _⟩
    replace hB := below_then hB hb3
    clear KS hb3 CO WO iO iF
    go_wp2_with fail
    refine (KT _ _ _ _ OW (IR_of_owns DO rfl)).mono ?_
    rintro e w4 ⟨ta, tc, rfl, iT, hb4⟩
    replace hB := below_then hB hb4
    obtain ⟨⟨za, zb, rfl, _⟩, zc, zd, rfl, _⟩ := id iT
    have BX := below_alloc w4 (.cells #[.slice za W.length zb, .slice zc s.1.length zd] 41)
    have TB := Box.new w4 #[.slice za W.length zb, .slice zc s.1.length zd] 41
    have iT2 := iT.below BX
    replace hB := below_then hB BX
    clear KT hb4 OW DO iT
    obtain ⟨_, p0, p1⟩ := TB.c2
    have hz := hB.size
    go_wp2_with fail
    refine (KF _ _ _ iT2).mono ?_
    rintro e w5 ⟨u, rfl, RO, hb5⟩
    obtain ⟨ra, rc, rfl⟩ := owns_shape RO
    replace hB := below_then hB hb5
    clear KF hb5 iT2 TB BX p0 p1
    go_wp2
    exact bodyPost_ret (v := .tuple #[.slice ra Z.length rc, .int .i64 (s.2 : Int), .bool true]) (by simp [results, Try.results15, go_sem]) rfl ⟨_, rfl, owns_mono' RO hz, hB⟩
end Go.Proofs.Ytocaigffikdlhaa

namespace Go.Proofs.Ytocaigffikdlhaa
open Go.RowKit Go.Maps
set_option linter.unusedVariables false
set_option maxRecDepth 100000

theorem run_neq_bool_same5 (w : World) (b : Bool) : (binOp .neq 4 (.bool b) (.bool b)).run Try.prog w = .ok (.bool false) w := by
  cases b <;> kernel_rfl
theorem totS_mem (l : List ByteArray) (k : Nat) (h : k < l.length) : l[k].size ≤ totS l := by
  induction l generalizing k with
  | nil => simp at h
  | cons x r ih =>
    cases k with
    | zero => simp [totS]
    | succ k => have := ih k (by simpa using h); simp only [totS, List.getElem_cons_succ]; omega
theorem wtR_len (L : List ByteArray) : (wtR L).length ≤ 1000 := by
  unfold wtR
  cases h : gfB L with
  | false => simp
  | true => have := ((gfB_iff L).1 h).1; simp [wtL_length]; omega
set_option maxHeartbeats 8000000 in
theorem law5 (v : Value) (L : List ByteArray) (w : World) (hv : SL w v L) (hn0 : L.length ≤ maxLen) (hs0 : ∀ i (h : i < L.length), L[i].size ≤ maxLen) :
    Calls Try.prog 5 #[v] w fun e w' => e = .returned (.bool true) ∧ Below w.heap.size w w' := by
  have SZ := szStringS_any v L 1048576 w hv (by omega) (by omega) hn0 hs0
  have HV := fun W (hb : Below w.heap.size w W) => hv.below hb
  obtain ⟨a, cap, rfl, _⟩ := hv
  clear hn0 hs0
  have R1 := fun w b => run_neq_bool_same5 w b
  go_enter Try.func5, Try.ntmps5
  go_wp2_with fail
  refine SZ.mono ?_
  rintro e w0 ⟨⟨r, rfl, hr⟩, hw0⟩
  have hB : Below w.heap.size w w0 := by rw [hw0]; exact Below.refl _ _
  have hz0 := hB.size
  clear SZ hw0
  rcases hr with rfl | ⟨hr0, hr1⟩
  · go_wp2
    go_ret
    exact ⟨rfl, hB⟩
  · have hn : L.length ≤ 1048576 := by omega
    have hs : ∀ i (h : i < L.length), L[i].size ≤ 1048576 := fun i h => by have := totS_mem L i h; omega
    clear hr1
    have T := fun W hb => toStringS_any _ L W (HV W hb) hn
    have S := fun u W h => specWant_any u L W h hn hs
    have I := fun u W h => implWant_any u L W h hn hs
    have HL : (wtR L).length ≤ 1000 := wtR_len L
    have HML : (mkWs 1 (wtR L).length).length = (wtR L).length := mkWs_length _ _
    have HQ : Hid (L.length ≤ 1048576) := hn
    generalize wtR L = Z at *
    generalize gfB L = ok at *

    clear hs HV
    have HMZ : Hid _ := HML
    clear HML
    go_wp2_with fail
    refine (T _ hB).mono ?_
    rintro e w1 ⟨rfl, o1, hb1⟩
    replace hB := below_then hB hb1
    have hz1 := hb1.size
    clear hb1
    go_wp2_with fail
    refine (S _ _ (SL_of_owns o1)).mono ?_
    rintro e w2 ⟨u0, rfl, O0, hb2⟩
    replace hB := below_then hB hb2
    replace o1 := owns_below o1 hb2
    have hz2 := hb2.size
    clear hb2
    have hl0 := owns_below_lt O0
    clear o1
    go_wp2_with fail
    refine (T _ hB).mono ?_
    rintro e w3 ⟨rfl, x0, hb3⟩
    replace hB := below_then hB hb3
    replace O0 := owns_below O0 hb3
    have hz3 := hb3.size
    clear hb3
    have hx0 := (owns_lt x0).2
    go_wp2_with fail
    refine (I _ _ (SL_of_owns x0)).mono ?_
    rintro e w4 ⟨g0, rfl, G0, hb4⟩
    replace hB := below_then hB hb4
    replace O0 := owns_below O0 hb4
    replace x0 := owns_below x0 hb4
    have hz4 := hb4.size
    clear hb4
    have hg0 := owns_ge G0
    have hg1 := owns_below_lt G0
    go_wp2_with fail
    refine (eqWantedS_same _ _ Z _ (WR_of_owns G0 rfl) (WR_of_owns O0 rfl) (by omega)).mono ?_
    rintro e w5 ⟨rfl, hb5⟩
    replace hB := below_then hB hb5
    replace O0 := owns_below O0 hb5
    replace x0 := owns_below x0 hb5
    replace G0 := owns_below G0 hb5
    have hz5 := hb5.size
    clear hb5
    go_wp2_with fail
    refine (T _ hB).mono ?_
    rintro e w6 ⟨rfl, o5, hb6⟩
    replace hB := below_then hB hb6
    replace O0 := owns_below O0 hb6
    replace x0 := owns_below x0 hb6
    replace G0 := owns_below G0 hb6
    have hz6 := hb6.size
    clear hb6
    go_wp2_with fail
    refine (eqStringS_same _ _ L _ (SL_of_owns x0) (SL_of_owns o5) hn).mono ?_
    rintro e w7 ⟨rfl, hb7⟩
    replace hB := below_then hB hb7
    replace O0 := owns_below O0 hb7
    replace x0 := owns_below x0 hb7
    replace G0 := owns_below G0 hb7
    replace o5 := owns_below o5 hb7
    have hz7 := hb7.size
    clear hb7
    clear o5
    go_wp2_with fail
    refine (markStringS_at _ _ _ L 1 _ x0 hn (by omega) (by omega)).mono ?_
    rintro e w8 ⟨rfl, _, hc8⟩
    replace hB := hB.trans (hc8.below (B := w.heap.size) (by omega) (fun b h => by omega))
    replace O0 := hc8.owns O0 (fun b hb hh => by have := hl0 b hb; omega)
    replace G0 := hc8.owns G0 (fun b hb hh => by have := hg0 b hb; omega)
    have hz8 := hc8.size
    clear hc8
    clear x0
    go_wp2_with fail
    refine (eqWantedS_same _ _ Z _ (WR_of_owns G0 rfl) (WR_of_owns O0 rfl) (by omega)).mono ?_
    rintro e w9 ⟨rfl, hb9⟩
    replace hB := below_then hB hb9
    replace O0 := owns_below O0 hb9
    replace G0 := owns_below G0 hb9
    have hz9 := hb9.size
    clear hb9
    go_wp2_with fail
    refine (markWantedS_own g0 _ Z 1 _ G0 (by omega) (by omega) (by omega)).mono ?_
    rintro e w10 ⟨rfl, Q0, hc10⟩
    replace hB := hB.trans (hc10.below (B := w.heap.size) (by omega) (fun b h => by have := hg0 b h; omega))
    replace O0 := hc10.owns O0 (fun b hb hh => by have := hl0 b hb; have := hg0 b hh; omega)
    have hz10 := hc10.size
    clear hc10
    clear G0
    have HI : ∀ W b, W.ownsRow b 54 2 g0 Z.length (flat2 (mkWs 1 Z.length)) → WR W g0 (mkWs 1 Z.length) := fun W b h => WR_of_owns h HMZ.out.symm
    go_wp2_with fail
    refine (heldWantedS_at g0 Z.length 1 _ (HI _ _ Q0) (by omega) (by omega) (by omega)).mono ?_
    rintro e w11 ⟨rfl, hb11⟩
    replace hB := below_then hB hb11
    replace O0 := owns_below O0 hb11
    replace Q0 := owns_below Q0 hb11
    have hz11 := hb11.size
    clear hb11
    go_wp2_with fail
    refine (T _ hB).mono ?_
    rintro e w12 ⟨rfl, o9, hb12⟩
    replace hB := below_then hB hb12
    replace O0 := owns_below O0 hb12
    replace Q0 := owns_below Q0 hb12
    have hz12 := hb12.size
    clear hb12
    go_wp2_with fail
    refine (I _ _ (SL_of_owns o9)).mono ?_
    rintro e w13 ⟨h0, rfl, H0, hb13⟩
    replace hB := below_then hB hb13
    replace O0 := owns_below O0 hb13
    replace Q0 := owns_below Q0 hb13
    replace o9 := owns_below o9 hb13
    have hz13 := hb13.size
    clear hb13
    clear o9
    go_wp2_with fail
    refine (eqWantedS_same _ _ Z _ (WR_of_owns H0 rfl) (WR_of_owns O0 rfl) (by omega)).mono ?_
    rintro e w14 ⟨rfl, hb14⟩
    replace hB := below_then hB hb14
    replace O0 := owns_below O0 hb14
    replace Q0 := owns_below Q0 hb14
    replace H0 := owns_below H0 hb14
    have hz14 := hb14.size
    clear hb14
    clear H0 O0
    go_wp2_with fail
    refine (heldWantedS_at g0 Z.length 1 _ (HI _ _ Q0) (by omega) (by omega) (by omega)).mono ?_
    rintro e w15 ⟨rfl, hb15⟩
    replace hB := below_then hB hb15
    replace Q0 := owns_below Q0 hb15
    have hz15 := hb15.size
    clear hb15
    clear Q0 HI T S I
    go_wp2
    go_ret
    exact ⟨rfl, hB⟩
end Go.Proofs.Ytocaigffikdlhaa
