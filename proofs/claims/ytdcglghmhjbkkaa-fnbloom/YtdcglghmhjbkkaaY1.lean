/-
  Filters, plainly: what was put is had; how many ones. spec.DrawFilterOf.
-/
import Derived.Test.YtdcglghmhjbkkaaD7
import Derived.Test.YtdcglghmhjbkkaaM2
import Derived.Test.YtdcglghmhjbkkaaO1
namespace Go.Proofs.Ytdcglghmhjbkkaa
open Go.RowKit
set_option linter.unusedVariables false
set_option maxRecDepth 100000

theorem hasBs_self (l : List UInt8) (ps : List Nat) (h : ∀ p ∈ ps, p / 8 < l.length) : hasBs (setBs l ps) ps = true := by
  induction ps generalizing l with
  | nil => rfl
  | cons p ps ih =>
    have hp := h p (List.mem_cons_self ..)
    have ht : ∀ q ∈ ps, q / 8 < (setB l p).length := fun x hx => by rw [setB_length]; exact h x (List.mem_cons_of_mem _ hx)
    have h1 := hasB_setBs (setB l p) ps p ht (hasB_self l p hp)
    have h2 := ih (setB l p) ht
    simp only [hasBs, List.all_cons, Bool.and_eq_true]
    exact ⟨h1, h2⟩
theorem addB_list (s : ByteArray) (n : Int) (k : ByteArray) : (addB s n k).data.toList = setBs s.data.toList (plK k n.toNat) := by
  unfold addB
  generalize setBs s.data.toList (plK k n.toNat) = q
  simp
theorem may_add {n : Int} {s : ByteArray} {m : Int} {k : ByteArray} (hk : goodK k = true) (hg : goodF n s m = true) : mayF n (addB s n k) (cap6 (m + 1)) k = (true, true) := by
  have hl : s.data.toList.length = 32 := by simpa using (goodF_parts hg).2.1
  unfold mayF
  rw [hk, good_add hg k, addB_list, hasBs_self _ _ (fun p hp => by have := plK_lt k n.toNat p hp; omega)]
  rfl
theorem bit_ones : ∀ (c : Fin 256) (i : Fin 8), pc 8 c.val ≤ pc 8 (c.val ||| 2 ^ i.val) ∧ pc 8 (c.val ||| 2 ^ i.val) ≤ pc 8 c.val + 1 := by decide +kernel
theorem ones_bit (c : UInt8) (i : Nat) (h : i < 8) : ones c ≤ ones (c ||| UInt8.ofNat (2 ^ i)) ∧ ones (c ||| UInt8.ofNat (2 ^ i)) ≤ ones c + 1 := by
  unfold ones
  rw [or_u8, pow_u8 i h]
  exact bit_ones ⟨c.toNat, c.toNat_lt⟩ ⟨i, h⟩
theorem onesL_cons (c : UInt8) (l : List UInt8) : onesL (c :: l) = ones c + onesL l := by simp [onesL]
theorem onesL_set (l : List UInt8) (j : Nat) (x : UInt8) (h : j < l.length) : onesL (l.set j x) + ones l[j] = onesL l + ones x := by
  induction l generalizing j with
  | nil => simp at h
  | cons c l ih =>
    cases j with
    | zero => simp only [List.set_cons_zero, List.getElem_cons_zero, onesL_cons]; omega
    | succ j =>
      have := ih j (by simpa using h)
      simp only [List.set_cons_succ, List.getElem_cons_succ, onesL_cons]; omega
theorem ones_setB (l : List UInt8) (p : Nat) (h : p / 8 < l.length) : onesL l ≤ onesL (setB l p) ∧ onesL (setB l p) ≤ onesL l + 1 := by
  have hg : l.getD (p / 8) 0 = l[p / 8] := by simp [h]
  have e := onesL_set l (p / 8) (l.getD (p / 8) 0 ||| UInt8.ofNat (2 ^ (p % 8))) h
  have b := ones_bit (l.getD (p / 8) 0) (p % 8) (Nat.mod_lt _ (by omega))
  rw [hg] at e b
  unfold setB
  rw [hg]
  omega
theorem ones_setBs (l : List UInt8) (ps : List Nat) (h : ∀ p ∈ ps, p / 8 < l.length) : onesL l ≤ onesL (setBs l ps) ∧ onesL (setBs l ps) ≤ onesL l + ps.length := by
  induction ps generalizing l with
  | nil => simp [setBs]
  | cons p ps ih =>
    have hp := ones_setB l p (h p (List.mem_cons_self ..))
    have ht := ih (setB l p) (fun x hx => by rw [setB_length]; exact h x (List.mem_cons_of_mem _ hx))
    simp only [setBs, List.foldl_cons, List.length_cons] at *
    omega
theorem ones_add {n : Int} {s : ByteArray} {m : Int} {k : ByteArray} (hg : goodF n s m = true) :
    (onesF n s m).2 = true ∧ (onesF n (addB s n k) (cap6 (m + 1))).2 = true ∧ (onesF n s m).1 ≤ (onesF n (addB s n k) (cap6 (m + 1))).1 ∧ (onesF n (addB s n k) (cap6 (m + 1))).1 ≤ (onesF n s m).1 + n ∧ 0 ≤ (onesF n s m).1 ∧ (onesF n s m).1 ≤ 256 := by
  have hl : s.data.toList.length = 32 := by simpa using (goodF_parts hg).2.1
  obtain ⟨nh, hn, h1, h8⟩ := goodH_nat (goodF_parts hg).1
  have hb := ones_setBs s.data.toList (plK k n.toNat) (fun p hp => by have := plK_lt k n.toNat p hp; omega)
  have hle := onesL_le s.data.toList
  rw [plK_length] at hb
  unfold onesF
  rw [hg, good_add hg k, addB_list]
  simp only [if_true]
  refine ⟨trivial, trivial, ?_, ?_, ?_, ?_⟩ <;> omega
/-- Every key that was put is had at the end. -/
theorem fold_mono (n : Int) : ∀ (ks : List ByteArray) (s : ByteArray) (m : Int) (s' : ByteArray) (m' : Int), s.size = 32 → foldF n ks s m = some (s', m') → ∀ q, hasB s.data.toList q = true → hasB s'.data.toList q = true := by
  intro ks
  induction ks with
  | nil => intro s m s' m' _ h q hq; simp only [foldF, Option.some.injEq, Prod.mk.injEq] at h; rw [← h.1]; exact hq
  | cons k ks ih =>
    intro s m s' m' hs h q hq
    have hl : s.data.toList.length = 32 := by simpa using hs
    unfold foldF at h
    split at h
    · refine ih _ _ _ _ ?_ h q ?_
      · show (setBs s.data.toList (plK k n.toNat)).toArray.size = 32
        rw [List.size_toArray, setBs_length]; exact hl
      · rw [addB_list]
        exact hasB_setBs _ _ q (fun p hp => by have := plK_lt k n.toNat p hp; omega) hq
    · cases h
theorem fold_has (n : Int) : ∀ (ks : List ByteArray) (s : ByteArray) (m : Int) (s' : ByteArray) (m' : Int), s.size = 32 → foldF n ks s m = some (s', m') → ∀ k ∈ ks, goodK k = true ∧ hasBs s'.data.toList (plK k n.toNat) = true := by
  intro ks
  induction ks with
  | nil => intro s m s' m' _ _ k hk; simp at hk
  | cons k0 ks ih =>
    intro s m s' m' hs h k hk
    have hl : s.data.toList.length = 32 := by simpa using hs
    have hz : (addB s n k0).size = 32 := by
      show (setBs s.data.toList (plK k0 n.toNat)).toArray.size = 32
      rw [List.size_toArray, setBs_length]; exact hl
    unfold foldF at h
    split at h
    · rename_i hgk
      rcases List.mem_cons.1 hk with rfl | hk2
      · refine ⟨hgk, ?_⟩
        have h0 := hasBs_self s.data.toList (plK k n.toNat) (fun p hp => by have := plK_lt k n.toNat p hp; omega)
        rw [← addB_list] at h0
        unfold hasBs at *
        rw [List.all_eq_true] at *
        exact fun p hp => fold_mono n ks _ _ _ _ hz h p (h0 p hp)
      · exact ih _ _ _ _ hz h k hk2
    · cases h
theorem fil_may (n : Int) (l : List ByteArray) (s : ByteArray) (m : Int) (h : filF n l = (n, s, m, true)) (hg : goodF n s m = true) : ∀ k ∈ l, goodK k = true ∧ mayF n s m k = (true, true) := by
  unfold filF at h
  split at h
  · split at h
    · rename_i s' m' e
      simp only [Prod.mk.injEq, true_and, and_true] at h
      obtain ⟨rfl, rfl⟩ := h
      intro k hk
      have hh := fold_has n l zerS 0 s' m' rfl e k hk
      refine ⟨hh.1, ?_⟩
      unfold mayF
      rw [hh.1, hg, hh.2]; rfl
    · simp at h
  · simp at h
set_option maxHeartbeats 4000000 in
theorem drawFil_any (v : Value) (l : List UInt8) (w : World) (hv : YL w v l) (hl : l.length ≤ 9223372036854775807) :
    Calls Try.prog 18 #[v] w fun e w' => (∃ (u : Value) (L : List ByteArray) (p : Nat), e = .returned (.tuple #[u, .int .i64 (p : Int)]) ∧ L.length ≤ 201 ∧ SL w' u L) ∧ Below w.heap.size w w' := by
  have hv' := hv
  obtain ⟨a, cap, rfl, _⟩ := hv'
  have hC := cur_new hv
  have hB := below_alloc w (.cells #[.slice a l.length cap, .int .i64 0, .int .u64 0] 64)
  go_enter Try.func18, Try.ntmps18
  go_wp2_with fail
  refine (keys_any _ l 0 _ hC hl (by omega)).mono ?_
  rintro e w1 ⟨⟨u, L, rfl, hL, _, o1⟩, hC1, hch1⟩
  replace hB := hB.trans (hch1.below (B := w.heap.size) hB.size (fun k hk => by omega))
  have hge := owns_ge o1
  clear hC hch1
  go_wp2_with fail
  refine (pick_any _ l _ 10 _ hC1 hl (by omega) (by omega)).mono ?_
  rintro e w2 ⟨⟨p, rfl, hp⟩, hC2, hch2⟩
  replace hB := hB.trans (hch2.below (B := w.heap.size) hB.size (fun k hk => by omega))
  have o2 := hch2.owns o1 (fun g hg h => by have := hge g hg; simp at this; omega)
  have hsl := SL_of_owns o2
  clear hC1 hC2 hch2 o1 o2
  go_wp2
  go_ret2
  exact ⟨⟨_, L, p, rfl, hL, hsl⟩, hB⟩
end Go.Proofs.Ytdcglghmhjbkkaa
