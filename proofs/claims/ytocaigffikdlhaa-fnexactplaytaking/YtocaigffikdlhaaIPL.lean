/-
  Chunks played over a line: impl.PlayTaking.
-/
import Derived.Test.YtocaigffikdlhaaTS
import Derived.Test.YtocaigffikdlhaaFI0
import Derived.Test.YtocaigffikdlhaaX4
namespace Go.Proofs.Ytocaigffikdlhaa
open Go.RowKit Go.Maps
set_option linter.unusedVariables false
set_option maxRecDepth 100000

theorem sdTo_size (C : List Ck) (O F : List Int) (B : Nat) (h : ∀ i (hi : i < C.length), C[i].k.size ≤ B) (k : Nat) : ∀ y ∈ sdTo C O F k, y.k.size ≤ B := by
  induction k with
  | zero => simp [sdTo]
  | succ k ih =>
    intro y hy
    rw [sdTo, List.mem_append] at hy
    rcases hy with hy | hy
    · exact ih y hy
    · unfold sd1 at hy
      split at hy
      · rename_i hc
        simp only [List.mem_singleton] at hy
        subst hy
        show (trS _ _).size ≤ B
        rw [trS_size]
        have hi : (O.getD k 0).toNat < C.length := by omega
        rw [List.getD_eq_getElem?_getD (l := C), List.getElem?_eq_getElem hi]
        exact h _ hi
      · simp at hy

set_option maxHeartbeats 16000000 in
theorem implPlay_any (v ov fv : Value) (L : List ByteArray) (O F : List Int) (w : World) (hv : SL w v L) (ho : IL w ov O) (hf : IL w fv F) (hn : L.length ≤ 1048576) (hs : ∀ i (h : i < L.length), L[i].size ≤ 1048576) (hO : O.length ≤ 1048576) (hF : F.length ≤ 1048576) :
    Calls Try.prog 15 #[v, ov, fv] w fun e w' => ∃ u, e = .returned (.tuple #[u, .int .i64 (ptN L O F : Int), .bool (ptB L O F)]) ∧ w'.ownsRow w.heap.size 9 1 u (ptR L O F).length ((ptR L O F).map Value.string) ∧ Below w.heap.size w w' := by
  have KC := fun W' (hb : Below w.heap.size w W') => implChunks_any v L W' (hv.below hb) hn hs
  have KW := fun W' (hb : Below w.heap.size w W') => implWant_any v L W' (hv.below hb) hn hs
  have HO := fun W' (hb : Below w.heap.size w W') => ho.below hb
  have HF := fun W' (hb : Below w.heap.size w W') => hf.below hb
  obtain ⟨a0, c0, rfl, _⟩ := hv
  obtain ⟨oa, ob, rfl, hoc⟩ := ho
  obtain ⟨fa, fb, rfl, hfc⟩ := hf
  cases hpt : ptB L O F with
  | false =>
    have e1 : Hid (ptN L O F = 0) := by show _ = _; unfold ptN; rw [hpt]; rfl
    have e2 : Hid (ptR L O F = []) := by show _ = _; unfold ptR; rw [hpt]; rfl
    rw [e1.out, e2.out]
    have HD : Hid (ckB L = false ∨ (ckB L = true ∧ 400 < O.length) ∨ (ckB L = true ∧ ¬ 400 < O.length ∧ ¬ F.length = O.length)) := by
      show _ ∨ _
      unfold ptB at hpt
      cases hc : ckB L with
      | false => exact .inl rfl
      | true =>
        rw [hc] at hpt
        simp only [Bool.true_and, Bool.and_eq_false_iff, decide_eq_false_iff_not] at hpt
        rcases hpt with h | h
        · exact .inr (.inl ⟨rfl, by omega⟩)
        · by_cases h4 : 400 < O.length
          · exact .inr (.inl ⟨rfl, h4⟩)
          · exact .inr (.inr ⟨rfl, h4, h⟩)
    clear hpt hoc hfc KW e1 e2 hs HO HF
    generalize ckR L = Z at *
    generalize ckB L = ok at *
    go_enter Try.func15, Try.ntmps15
    go_wp2_with fail
    refine (KC _ (Below.refl _ _)).mono ?_
    rintro e w1 ⟨u, rfl, O1, hb1⟩
    obtain ⟨ua, uc, rfl⟩ := owns_shape O1
    clear KC O1
    rcases HD.out with rfl | ⟨rfl, h4⟩ | ⟨rfl, h4, h5⟩
    · go_wp2
      exact bodyPost_ret (v := .tuple #[.slice none 0 0, .int .i64 0, .bool false]) (by simp [results, Try.results15, go_sem]) rfl ⟨_, rfl, World.ownsRow_nil _ _ _ _, hb1⟩
    · have h6 : (400 : Int) < (O.length : Int) := by omega
      go_wp2
      exact bodyPost_ret (v := .tuple #[.slice none 0 0, .int .i64 0, .bool false]) (by simp [results, Try.results15, go_sem]) rfl ⟨_, rfl, World.ownsRow_nil _ _ _ _, hb1⟩
    · have h6 : ¬ (400 : Int) < (O.length : Int) := by omega
      have h7 : ((F.length : Int) != (O.length : Int)) = true := bne_iff_ne.2 (by omega)
      clear h5
      go_wp2
      exact bodyPost_ret (v := .tuple #[.slice none 0 0, .int .i64 0, .bool false]) (by simp [results, Try.results15, go_sem]) rfl ⟨_, rfl, World.ownsRow_nil _ _ _ _, hb1⟩
  | true =>
    have hp : ckB L = true ∧ O.length ≤ 400 ∧ F.length = O.length := by
      unfold ptB at hpt
      simpa [Bool.and_eq_true, and_assoc] using hpt
    obtain ⟨hck, h400, hFO⟩ := hp
    have hgf : gfB L = true := by unfold ckB at hck; simp only [Bool.and_eq_true] at hck; exact hck.1
    have EC : ckR L = ckL L := by unfold ckR; rw [hck]; rfl
    have EW : wtR L = wtL L := by unfold wtR; rw [hgf]; rfl
    have hok := wtL_ok hgf
    have HCL : (ckL L).length ≤ 1000 := by rw [← EC]; exact ckR_len L
    have HCK : ∀ i (h : i < (ckL L).length), (ckL L)[i].k.size ≤ 64 := fun i h => ckL_size L i h
    have e1 : Hid (ptN L O F = (play (wtL L) (sdL (ckL L) O F)).2) := by show _ = _; unfold ptN; rw [hpt]; rfl
    have e2 : Hid (ptR L O F = fnR (wtL L) (play (wtL L) (sdL (ckL L) O F)).1) := by show _ = _; unfold ptR; rw [hpt]; rfl
    rw [e1.out, e2.out]
    rw [hck, EC] at KC
    rw [hgf, EW] at KW
    have hsl : (sdL (ckL L) O F).length ≤ 400 := by have := sdTo_len (ckL L) O F O.length; unfold sdL; omega
    have hss : ∀ i (h : i < (sdL (ckL L) O F).length), (sdL (ckL L) O F)[i].k.size ≤ 1048576 := fun i h => by
      have := sdTo_size (ckL L) O F 64 HCK O.length _ (List.getElem_mem h); omega
    obtain ⟨hgd, h200, hcn⟩ := play_good (wtL L) (sdL (ckL L) O F)
    have KS := fun u W' h h2 h3 => toSend_any u (.slice oa O.length ob) (.slice fa F.length fb) (ckL L) O F W' h h2 h3 (by omega) (by omega) hFO (fun i h => by have := HCK i h; omega)
    have KT := fun a c s W' h h2 => takeSent_any a c s (wtL L) (sdL (ckL L) O F) W' h h2 hok (by omega) hss
    have hGs : ∀ i (h : i < (play (wtL L) (sdL (ckL L) O F)).1.length), (play (wtL L) (sdL (ckL L) O F)).1[i].k.size ≤ 1048576 := fun i h => by
      have h1 := gcB_at hgd h
      unfold gcAt at h1
      rw [Bool.and_eq_true] at h1
      have h2 := (ftB_iff _ _).1 h1.1
      rw [List.getD_eq_getElem?_getD, List.getElem?_eq_getElem h] at h2
      have h3 := h2.2.2.2.2.2.1
      simp only [Option.getD_some] at h3
      omega
    have KF := fun a c W' h => implFin_any a c (wtL L) (play (wtL L) (sdL (ckL L) O F)).1 W' h (by have := hok.1; omega) (by omega) hGs
    rw [hFO] at KS ⊢
    clear e1 e2 hpt EC EW hck hgf hs HCK hss hoc hfc hGs
    generalize hD : sdL (ckL L) O F = D at *
    clear hD
    generalize ckL L = C at *
    generalize wtL L = W at *
    generalize play W D = s at *
    generalize fnR W s.1 = Z at *
    generalize fnB W s.1 = okf at *
    have g4 : ¬ (400 : Int) < (O.length : Int) := by omega
    go_enter Try.func15, Try.ntmps15
    go_wp2_with fail
    refine (KC _ (Below.refl _ _)).mono ?_
    rintro e w1 ⟨u, rfl, CO, hb1⟩
    obtain ⟨xa, xc, rfl⟩ := owns_shape CO
    clear KC
    go_wp2_with fail
    refine (KW _ hb1).mono ?_
    rintro e w2 ⟨u, rfl, WO, hb2⟩
    obtain ⟨ya, yc, rfl⟩ := owns_shape WO
    replace CO := owns_below CO hb2
    have hB := below_then hb1 hb2
    clear KW hb1 hb2
    have iO := HO _ hB
    have iF := HF _ hB
    rw [hFO] at iF
    go_wp2_with fail
    refine (KS _ _ (IR_of_owns CO rfl) (HO _ hB) (by have := HF _ hB; rw [hFO] at this; exact this)).mono ?_
    rintro e w3 ⟨u, rfl, DO, hb3⟩
    obtain ⟨da, dc, rfl⟩ := owns_shape DO
    have OW : OT w3 0 (.slice ya W.length yc) (.slice none 0 0) W [] := ⟨owns_mono' (owns_below WO hb3) (Nat.zero_le _), World.ownsRow_nil _ _ _ _⟩
    replace hB := below_then hB hb3
    clear KS hb3 CO WO iO iF
    go_wp2_with fail
    refine (KT _ _ _ _ OW (IR_of_owns DO rfl)).mono ?_
    rintro e w4 ⟨ta, tc, rfl, iT, hb4⟩
    replace hB := below_then hB hb4
    obtain ⟨⟨za, zb, rfl, _⟩, zc, zd, rfl, _⟩ := id iT
    have BX := below_alloc w4 (.cells #[.slice za W.length zb, .slice zc s.1.length zd] 41)
    have TB := Box.new w4 #[.slice za W.length zb, .slice zc s.1.length zd] 41
    have iT2 := iT.below BX
    replace hB := below_then hB BX
    clear KT hb4 OW DO iT
    obtain ⟨_, p0, p1⟩ := TB.c2
    have hz := hB.size
    go_wp2_with fail
    refine (KF _ _ _ iT2).mono ?_
    rintro e w5 ⟨u, rfl, RO, hb5⟩
    obtain ⟨ra, rc, rfl⟩ := owns_shape RO
    replace hB := below_then hB hb5
    clear KF hb5 iT2 TB BX p0 p1
    go_wp2
    exact bodyPost_ret (v := .tuple #[.slice ra Z.length rc, .int .i64 (s.2 : Int), .bool true]) (by simp [results, Try.results15, go_sem]) rfl ⟨_, rfl, owns_mono' RO hz, hB⟩
end Go.Proofs.Ytocaigffikdlhaa
