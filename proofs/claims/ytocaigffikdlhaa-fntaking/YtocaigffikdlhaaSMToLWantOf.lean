/-
  laws.sameChunks, laws.sameTexts of the same.
  The walk of FnExactWantOf.
-/
import Derived.Test.YtocaigffikdlhaaDX
import Derived.Test.YtocaigffikdlhaaKP
import Derived.Test.YtocaigffikdlhaaD5ToK2
import Derived.Test.YtocaigffikdlhaaX2
namespace Go.Proofs.Ytocaigffikdlhaa
open Go.RowKit Go.Maps
set_option linter.unusedVariables false
set_option maxRecDepth 100000

theorem neqCk_self (n d : Int) (k : ByteArray) (v : Int) (w : World) : (binOp .neq 37 (.agg #[.int .i64 n, .int .i64 d, .string k, .int .u32 v]) (.agg #[.int .i64 n, .int .i64 d, .string k, .int .u32 v])).run Try.prog w = .ok (.bool false) w := by
  have h := neqCkV ⟨n, d, k, v⟩ ⟨n, d, k, v⟩ w
  rw [(ckEq_iff _ _).2 rfl] at h
  exact h
set_option maxHeartbeats 4000000 in
theorem sameChunks_any (u v : Value) (l : List Ck) (w : World) (hu : IR w u l) (hv : IR w v l) (hn : l.length ≤ 1048576) :
    Calls Try.prog 20 #[u, v] w fun e w' => e = .returned (.bool true) ∧ Below w.heap.size w w' := by
  obtain ⟨a, cap, rfl, hc⟩ := hu
  obtain ⟨a', cap', rfl, hc'⟩ := hv
  have EN := neqCk_self
  go_enter Try.func20, Try.ntmps20
  go_wp2
  go_loopw [13] (fun i wr => ∃ k : Nat, k ≤ l.length ∧ i = .int .i64 k ∧ Below w.heap.size w wr) (fun i _ => l.length - (intOf i).toNat)
  case atStart => exact ⟨0, Nat.zero_le _, rfl, Below.refl _ _⟩
  case round =>
    obtain ⟨k, hk, rfl, hb⟩ := hrel
    by_cases hlt : k < l.length
    · obtain ⟨b, off, rfl, hbl, hcell⟩ := hc (by intro e; simp [e] at hlt)
      obtain ⟨b', off', rfl, hbl', hcell'⟩ := hc' (by intro e; simp [e] at hlt)
      obtain ⟨s, hse⟩ : ∃ s, s = l[k] := ⟨_, rfl⟩
      have hc0 := (hb.cell (p := ⟨b, off + k * 4, none⟩) hbl).trans (hcell k hlt).1
      have hc1 := (hb.cell (p := ⟨b, off + k * 4 + 1, none⟩) hbl).trans (hcell k hlt).2.1
      have hc2 := (hb.cell (p := ⟨b, off + k * 4 + 2, none⟩) hbl).trans (hcell k hlt).2.2.1
      have hc3 := (hb.cell (p := ⟨b, off + k * 4 + 3, none⟩) hbl).trans (hcell k hlt).2.2.2
      have hd0 := (hb.cell (p := ⟨b', off' + k * 4, none⟩) hbl').trans (hcell' k hlt).1
      have hd1 := (hb.cell (p := ⟨b', off' + k * 4 + 1, none⟩) hbl').trans (hcell' k hlt).2.1
      have hd2 := (hb.cell (p := ⟨b', off' + k * 4 + 2, none⟩) hbl').trans (hcell' k hlt).2.2.1
      have hd3 := (hb.cell (p := ⟨b', off' + k * 4 + 3, none⟩) hbl').trans (hcell' k hlt).2.2.2
      rw [← hse] at hc0 hc1 hc2 hc3 hd0 hd1 hd2 hd3
      clear hcell hse hc hcell' hc'
      have hz := hb.size
      obtain ⟨sn, sd, sk, sv⟩ := s
      dsimp only at hc0 hc1 hc2 hc3 hd0 hd1 hd2 hd3
      go_wp2_with fail
      go_quiet (fail)
      go_wp2
      go_roundw
      case rel => exact ⟨k + 1, by omega, by go_num, below_drewN hb _⟩
      case measure => simp [intOf]; omega
    · clear hc hc'
      go_wp2
      go_ret
      exact ⟨rfl, hb⟩
set_option maxHeartbeats 4000000 in
theorem sameTexts_any (u v : Value) (l : List ByteArray) (w : World) (hu : SL w u l) (hv : SL w v l) (hn : l.length ≤ 1048576) :
    Calls Try.prog 17 #[u, v] w fun e w' => e = .returned (.bool true) ∧ Below w.heap.size w w' := by
  obtain ⟨a, cap, rfl, hc⟩ := hu
  obtain ⟨a', cap', rfl, hc'⟩ := hv
  go_enter Try.func17, Try.ntmps17
  go_wp2
  go_loopw [13] (fun i wr => ∃ k : Nat, k ≤ l.length ∧ i = .int .i64 k ∧ Below w.heap.size w wr) (fun i _ => l.length - (intOf i).toNat)
  case atStart => exact ⟨0, Nat.zero_le _, rfl, Below.refl _ _⟩
  case round =>
    obtain ⟨k, hk, rfl, hb⟩ := hrel
    by_cases hlt : k < l.length
    · obtain ⟨b, off, rfl, hbl, hcell⟩ := hc (by intro e; simp [e] at hlt)
      obtain ⟨b', off', rfl, hbl', hcell'⟩ := hc' (by intro e; simp [e] at hlt)
      obtain ⟨s, hse⟩ : ∃ s, s = l[k] := ⟨_, rfl⟩
      have hc0 := (hb.cell (p := ⟨b, off + k, none⟩) hbl).trans (hcell k hlt)
      have hd0 := (hb.cell (p := ⟨b', off' + k, none⟩) hbl').trans (hcell' k hlt)
      rw [← hse] at hc0 hd0
      clear hcell hse hc hcell' hc'
      have hz := hb.size
      go_wp2_with fail
      go_quiet (fail)
      go_wp2
      go_roundw
      case rel => exact ⟨k + 1, by omega, by go_num, below_drewN hb _⟩
      case measure => simp [intOf]; omega
    · clear hc hc'
      go_wp2
      go_ret
      exact ⟨rfl, hb⟩
end Go.Proofs.Ytocaigffikdlhaa

namespace Go.Proofs.Ytocaigffikdlhaa
open Go.RowKit Go.Maps
set_option linter.unusedVariables false
set_option maxRecDepth 100000

theorem run_neq_bool_same5 (w : World) (b : Bool) : (binOp .neq 4 (.bool b) (.bool b)).run Try.prog w = .ok (.bool false) w := by
  cases b <;> kernel_rfl
theorem totS_mem (l : List ByteArray) (k : Nat) (h : k < l.length) : l[k].size ≤ totS l := by
  induction l generalizing k with
  | nil => simp at h
  | cons x r ih =>
    cases k with
    | zero => simp [totS]
    | succ k => have := ih k (by simpa using h); simp only [totS, List.getElem_cons_succ]; omega
theorem wtR_len (L : List ByteArray) : (wtR L).length ≤ 1000 := by
  unfold wtR
  cases h : gfB L with
  | false => simp
  | true => have := ((gfB_iff L).1 h).1; simp [wtL_length]; omega
set_option maxHeartbeats 8000000 in
theorem law5 (v : Value) (L : List ByteArray) (w : World) (hv : SL w v L) (hn0 : L.length ≤ maxLen) (hs0 : ∀ i (h : i < L.length), L[i].size ≤ maxLen) :
    Calls Try.prog 5 #[v] w fun e w' => e = .returned (.bool true) ∧ Below w.heap.size w w' := by
  have SZ := szStringS_any v L 1048576 w hv (by omega) (by omega) hn0 hs0
  have HV := fun W (hb : Below w.heap.size w W) => hv.below hb
  obtain ⟨a, cap, rfl, _⟩ := hv
  clear hn0 hs0
  have R1 := fun w b => run_neq_bool_same5 w b
  go_enter Try.func5, Try.ntmps5
  go_wp2_with fail
  refine SZ.mono ?_
  rintro e w0 ⟨⟨r, rfl, hr⟩, hw0⟩
  have hB : Below w.heap.size w w0 := by rw [hw0]; exact Below.refl _ _
  have hz0 := hB.size
  clear SZ hw0
  rcases hr with rfl | ⟨hr0, hr1⟩
  · go_wp2
    go_ret
    exact ⟨rfl, hB⟩
  · have hn : L.length ≤ 1048576 := by omega
    have hs : ∀ i (h : i < L.length), L[i].size ≤ 1048576 := fun i h => by have := totS_mem L i h; omega
    clear hr1
    have T := fun W hb => toStringS_any _ L W (HV W hb) hn
    have S := fun u W h => specWant_any u L W h hn hs
    have I := fun u W h => implWant_any u L W h hn hs
    have HL : (wtR L).length ≤ 1000 := wtR_len L
    have HML : (mkWs 1 (wtR L).length).length = (wtR L).length := mkWs_length _ _
    have HQ : Hid (L.length ≤ 1048576) := hn
    generalize wtR L = Z at *
    generalize gfB L = ok at *

    clear hs HV
    have HMZ : Hid _ := HML
    clear HML
    go_wp2_with fail
    refine (T _ hB).mono ?_
    rintro e w1 ⟨rfl, o1, hb1⟩
    replace hB := below_then hB hb1
    have hz1 := hb1.size
    clear hb1
    go_wp2_with fail
    refine (S _ _ (SL_of_owns o1)).mono ?_
    rintro e w2 ⟨u0, rfl, O0, hb2⟩
    replace hB := below_then hB hb2
    replace o1 := owns_below o1 hb2
    have hz2 := hb2.size
    clear hb2
    have hl0 := owns_below_lt O0
    clear o1
    go_wp2_with fail
    refine (T _ hB).mono ?_
    rintro e w3 ⟨rfl, x0, hb3⟩
    replace hB := below_then hB hb3
    replace O0 := owns_below O0 hb3
    have hz3 := hb3.size
    clear hb3
    have hx0 := (owns_lt x0).2
    go_wp2_with fail
    refine (I _ _ (SL_of_owns x0)).mono ?_
    rintro e w4 ⟨g0, rfl, G0, hb4⟩
    replace hB := below_then hB hb4
    replace O0 := owns_below O0 hb4
    replace x0 := owns_below x0 hb4
    have hz4 := hb4.size
    clear hb4
    have hg0 := owns_ge G0
    have hg1 := owns_below_lt G0
    go_wp2_with fail
    refine (eqWantedS_same _ _ Z _ (WR_of_owns G0 rfl) (WR_of_owns O0 rfl) (by omega)).mono ?_
    rintro e w5 ⟨rfl, hb5⟩
    replace hB := below_then hB hb5
    replace O0 := owns_below O0 hb5
    replace x0 := owns_below x0 hb5
    replace G0 := owns_below G0 hb5
    have hz5 := hb5.size
    clear hb5
    go_wp2_with fail
    refine (T _ hB).mono ?_
    rintro e w6 ⟨rfl, o5, hb6⟩
    replace hB := below_then hB hb6
    replace O0 := owns_below O0 hb6
    replace x0 := owns_below x0 hb6
    replace G0 := owns_below G0 hb6
    have hz6 := hb6.size
    clear hb6
    go_wp2_with fail
    refine (eqStringS_same _ _ L _ (SL_of_owns x0) (SL_of_owns o5) hn).mono ?_
    rintro e w7 ⟨rfl, hb7⟩
    replace hB := below_then hB hb7
    replace O0 := owns_below O0 hb7
    replace x0 := owns_below x0 hb7
    replace G0 := owns_below G0 hb7
    replace o5 := owns_below o5 hb7
    have hz7 := hb7.size
    clear hb7
    clear o5
    go_wp2_with fail
    refine (markStringS_at _ _ _ L 1 _ x0 hn (by omega) (by omega)).mono ?_
    rintro e w8 ⟨rfl, _, hc8⟩
    replace hB := hB.trans (hc8.below (B := w.heap.size) (by omega) (fun b h => by omega))
    replace O0 := hc8.owns O0 (fun b hb hh => by have := hl0 b hb; omega)
    replace G0 := hc8.owns G0 (fun b hb hh => by have := hg0 b hb; omega)
    have hz8 := hc8.size
    clear hc8
    clear x0
    go_wp2_with fail
    refine (eqWantedS_same _ _ Z _ (WR_of_owns G0 rfl) (WR_of_owns O0 rfl) (by omega)).mono ?_
    rintro e w9 ⟨rfl, hb9⟩
    replace hB := below_then hB hb9
    replace O0 := owns_below O0 hb9
    replace G0 := owns_below G0 hb9
    have hz9 := hb9.size
    clear hb9
    go_wp2_with fail
    refine (markWantedS_own g0 _ Z 1 _ G0 (by omega) (by omega) (by omega)).mono ?_
    rintro e w10 ⟨rfl, Q0, hc10⟩
    replace hB := hB.trans (hc10.below (B := w.heap.size) (by omega) (fun b h => by have := hg0 b h; omega))
    replace O0 := hc10.owns O0 (fun b hb hh => by have := hl0 b hb; have := hg0 b hh; omega)
    have hz10 := hc10.size
    clear hc10
    clear G0
    have HI : ∀ W b, W.ownsRow b 54 2 g0 Z.length (flat2 (mkWs 1 Z.length)) → WR W g0 (mkWs 1 Z.length) := fun W b h => WR_of_owns h HMZ.out.symm
    go_wp2_with fail
    refine (heldWantedS_at g0 Z.length 1 _ (HI _ _ Q0) (by omega) (by omega) (by omega)).mono ?_
    rintro e w11 ⟨rfl, hb11⟩
    replace hB := below_then hB hb11
    replace O0 := owns_below O0 hb11
    replace Q0 := owns_below Q0 hb11
    have hz11 := hb11.size
    clear hb11
    go_wp2_with fail
    refine (T _ hB).mono ?_
    rintro e w12 ⟨rfl, o9, hb12⟩
    replace hB := below_then hB hb12
    replace O0 := owns_below O0 hb12
    replace Q0 := owns_below Q0 hb12
    have hz12 := hb12.size
    clear hb12
    go_wp2_with fail
    refine (I _ _ (SL_of_owns o9)).mono ?_
    rintro e w13 ⟨h0, rfl, H0, hb13⟩
    replace hB := below_then hB hb13
    replace O0 := owns_below O0 hb13
    replace Q0 := owns_below Q0 hb13
    replace o9 := owns_below o9 hb13
    have hz13 := hb13.size
    clear hb13
    clear o9
    go_wp2_with fail
    refine (eqWantedS_same _ _ Z _ (WR_of_owns H0 rfl) (WR_of_owns O0 rfl) (by omega)).mono ?_
    rintro e w14 ⟨rfl, hb14⟩
    replace hB := below_then hB hb14
    replace O0 := owns_below O0 hb14
    replace Q0 := owns_below Q0 hb14
    replace H0 := owns_below H0 hb14
    have hz14 := hb14.size
    clear hb14
    clear H0 O0
    go_wp2_with fail
    refine (heldWantedS_at g0 Z.length 1 _ (HI _ _ Q0) (by omega) (by omega) (by omega)).mono ?_
    rintro e w15 ⟨rfl, hb15⟩
    replace hB := below_then hB hb15
    replace Q0 := owns_below Q0 hb15
    have hz15 := hb15.size
    clear hb15
    clear Q0 HI T S I
    go_wp2
    go_ret
    exact ⟨rfl, hB⟩
end Go.Proofs.Ytocaigffikdlhaa
