/-
  What a call that writes into some blocks alone leaves; a row that is marked, and a row that is held against its marks.
  NewSkip: both; slices of numbers: eqIntS, markIntS, heldIntS; the helpers of a list without towers.
  laws.markText; slices of texts: eqStringS, markStringS, heldStringS.
-/
import Derived.Test.YtocaigffikdlhaaAToB
import Derived.Test.YtocaigffikdlhaaCToV1
import Derived.Deep.QuietTactic
import Derived.BigQuiet
namespace Go.Proofs.Ytocaigffikdlhaa
open Go.RowKit
set_option linter.unusedVariables false

/-- Behind the call all blocks are as they were but those of S (and new ones). -/
structure Chg (S : Nat → Prop) (w w' : World) : Prop where
  os : w'.os = w.os
  tape : w'.tape = w.tape
  output : w'.output = w.output
  size : w.heap.size ≤ w'.heap.size
  block : ∀ k, k < w.heap.size → ¬ S k → w'.heap[k]? = w.heap[k]?
theorem Chg.refl (S : Nat → Prop) (w : World) : Chg S w w := ⟨rfl, rfl, rfl, Nat.le_refl _, fun _ _ _ => rfl⟩
theorem Chg.of_below {S : Nat → Prop} {w w' : World} (h : Below w.heap.size w w') : Chg S w w' := ⟨h.os, h.tape, h.output, h.size, fun k hk _ => h.block k hk⟩
theorem Chg.trans {S : Nat → Prop} {a b c : World} (h : Chg S a b) (k : Chg S b c) : Chg S a c :=
  ⟨k.os.trans h.os, k.tape.trans h.tape, k.output.trans h.output, Nat.le_trans h.size k.size, fun j hj hs => (k.block j (Nat.lt_of_lt_of_le hj h.size) hs).trans (h.block j hj hs)⟩
theorem Chg.mono {S T : Nat → Prop} {a b : World} (h : Chg S a b) (hst : ∀ k, S k → T k) : Chg T a b := ⟨h.os, h.tape, h.output, h.size, fun k hk ht => h.block k hk fun hs => ht (hst k hs)⟩
theorem Chg.setCell {S : Nat → Prop} {a w : World} (h : Chg S a w) {p : Addr} (hp : S p.block) (u : Value) : Chg S a (w.setCell p u) :=
  ⟨h.os, h.tape, h.output, by simpa using h.size, fun k hk hs => (Below.heap_setCell w p u k (fun e => hs (e ▸ hp))).trans (h.block k hk hs)⟩
/-- Where S lies above B, what is below B is as it was. -/
theorem Chg.below {S : Nat → Prop} {w w' : World} (h : Chg S w w') {B : Nat} (hB : B ≤ w.heap.size) (hs : ∀ k, S k → B ≤ k) : Below B w w' :=
  ⟨h.os, h.tape, h.output, h.size, fun k hk => h.block k (Nat.lt_of_lt_of_le hk hB) fun hk' => by have := hs k hk'; omega⟩
theorem Chg.owns {S : Nat → Prop} {w w' : World} (h : Chg S w w') {base : Nat} {e : TypeId} {size : Nat} {v : Value} {n : Nat} {xs : List Value} (ho : w.ownsRow base e size v n xs) (hs : ∀ g, v.ownBlock = some g → ¬ S g) : w'.ownsRow base e size v n xs := by
  obtain ⟨hl, ho⟩ := ho
  refine ⟨hl, ?_⟩
  rcases ho with ho | ⟨g, cap, cur, hv, hbg, hh, ho⟩
  · exact .inl ho
  · refine .inr ⟨g, cap, cur, hv, hbg, ?_, ho⟩
    rw [h.block g (Array.getElem?_eq_some_iff.1 hh).1 (hs g (by rw [hv]; rfl))]
    exact hh
theorem Chg.box {S : Nat → Prop} {w w' : World} (h : Chg S w w') {b : Nat} {vs : List Value} (hx : Box w b vs) (hs : ¬ S b) : Box w' b vs := by
  have hb := h.block b hx.1 hs
  exact ⟨Nat.lt_of_lt_of_le hx.1 h.size, fun j v hv => (World.cell?_of_block (w := w) (a := ⟨b, j, none⟩) hb).trans (hx.2.1 j v hv), fun j => (World.frozen?_of_block (w := w) (a := ⟨b, j, none⟩) hb).trans (hx.2.2 j)⟩
end Go.Proofs.Ytocaigffikdlhaa

namespace Go.Proofs.Ytocaigffikdlhaa
open Go.RowKit
set_option linter.unusedVariables false
set_option maxRecDepth 100000

theorem Box.under {w w' : World} {b B : Nat} {vs : List Value} (h : Box w b vs) (hb : Below B w w') (hB : b < B) : Box w' b vs :=
  ⟨Nat.lt_of_lt_of_le h.1 hb.size, fun j v hv => (hb.cell (p := ⟨b, j, none⟩) hB).trans (h.2.1 j v hv), fun j => (hb.frozen (p := ⟨b, j, none⟩) hB).trans (h.2.2 j)⟩

/-- The value v is a slice of the numbers zs. -/
def IL (w : World) (v : Value) (zs : List Int) : Prop :=
  ∃ a cap, v = .slice a zs.length cap ∧ (zs ≠ [] → ∃ b off, a = some ⟨b, off, none⟩ ∧ b < w.heap.size ∧ ∀ i (h : i < zs.length), w.cell? ⟨b, off + i, none⟩ = some (.int .i64 zs[i]))
theorem IL.below {w w' : World} {v : Value} {zs : List Int} (h : IL w v zs) (hb : Below w.heap.size w w') : IL w' v zs := by
  obtain ⟨a, cap, hv, hc⟩ := h
  refine ⟨a, cap, hv, fun hl => ?_⟩
  obtain ⟨b, off, ha, hbl, hcell⟩ := hc hl
  exact ⟨b, off, ha, Nat.lt_of_lt_of_le hbl hb.size, fun i hi => (hb.cell (p := ⟨b, off + i, none⟩) hbl).trans (hcell i hi)⟩
theorem IL_of_box {w : World} {g cap : Nat} {zs : List Int} (h : Box w g (zs.map (.int .i64))) : IL w (.slice (some ⟨g, 0, none⟩) zs.length cap) zs :=
  ⟨_, _, rfl, fun _ => ⟨g, 0, rfl, h.1, fun i hi => h.2.1 _ _ (by simp [hi])⟩⟩
theorem IL_of_owns {w : World} {base n : Nat} {v : Value} {zs : List Int} (h : w.ownsRow base 3 1 v n (zs.map (.int .i64))) (hn : n = zs.length) : IL w v zs := by
  have h' := h
  obtain ⟨hl, h⟩ := h
  rcases h with ⟨rfl, h0⟩ | ⟨g, cap, cur, rfl, hbg, hh, hcap, hm, hsz, htk⟩
  · refine ⟨none, 0, by rw [← hn, h0], fun hne => absurd (List.length_eq_zero_iff.1 (by omega)) hne⟩
  · refine ⟨_, cap, by rw [hn], fun _ => ⟨g, 0, rfl, (Array.getElem?_eq_some_iff.1 hh).1, fun i hi => ?_⟩⟩
    rw [Nat.zero_add, h'.cellAt i (by omega)]; simp [hi]

/-- Marks from k on. -/
def mkI (k : Int) (n : Nat) : List Value := (List.range n).map fun i : Nat => .int .i64 (k + (i : Int))
theorem mkI_length (k : Int) (n : Nat) : (mkI k n).length = n := by simp [mkI]
theorem mkI_at (k : Int) (n i : Nat) (h : i < n) : (mkI k n)[i]? = some (.int .i64 (k + (i : Int))) := by simp [mkI, h]
def mkJ (l : List Value) (k : Int) (j : Nat) : List Value := (mkI k l.length).take j ++ l.drop j
theorem mkJ_length (l : List Value) (k : Int) (j : Nat) (h : j ≤ l.length) : (mkJ l k j).length = l.length := by
  unfold mkJ
  rw [List.length_append, List.length_take, List.length_drop, mkI_length]; omega
theorem mkJ_set (l : List Value) (k : Int) (j : Nat) (h : j < l.length) : (mkJ l k j).set j (.int .i64 (k + (j : Int))) = mkJ l k (j + 1) := by
  unfold mkJ
  have h1 : ((mkI k l.length).take j).length = j := by rw [List.length_take, mkI_length]; omega
  have h2 : (mkI k l.length)[j]'(by rw [mkI_length]; exact h) = .int .i64 (k + (j : Int)) := by simp [mkI]
  rw [List.set_append_right _ _ (by omega), h1, Nat.sub_self, List.take_succ_eq_append_getElem (by rw [mkI_length]; exact h), h2, List.drop_eq_getElem_cons h, List.set_cons_zero, List.append_assoc]
  rfl
theorem mkJ_all (l : List Value) (k : Int) : mkJ l k l.length = mkI k l.length := by
  unfold mkJ
  rw [List.take_of_length_le (by rw [mkI_length]; omega), List.drop_eq_nil_of_le (by omega), List.append_nil]

end Go.Proofs.Ytocaigffikdlhaa

namespace Go.Proofs.Ytocaigffikdlhaa
open Go.RowKit
set_option linter.unusedVariables false

def mkD : Nat → Nat → List UInt8 → List UInt8
  | 0, _, acc => acc
  | f + 1, k, acc => if k = 0 then acc else mkD f (k / 10) (UInt8.ofNat (48 + k % 10) :: acc)
def mkT (k : Int) : ByteArray := if k ≤ 0 then ⟨#[109, 48]⟩ else ⟨(109 :: mkD 20 k.toNat []).toArray⟩

theorem mkD_zero (f : Nat) (acc : List UInt8) : mkD f 0 acc = acc := by cases f <;> simp [mkD]
theorem bcat (a b : List UInt8) : (⟨a.toArray⟩ : ByteArray) ++ ⟨b.toArray⟩ = ⟨(a ++ b).toArray⟩ := by
  apply ByteArray.ext
  simp
theorem mkT_pos (n : Nat) (h : 1 ≤ n) : mkT (n : Int) = ⟨(109 :: mkD 20 n []).toArray⟩ := by simp [mkT]; omega

set_option maxRecDepth 100000 in
set_option maxHeartbeats 1000000 in
theorem markText_any (k : Int) (w : World) (h1 : 1 ≤ k) (h2 : k ≤ 100000000) :
    Calls Try.prog 83 #[.int .i64 k] w fun e w' => e = .returned (.string (mkT k)) ∧ Below w.heap.size w w' := by
  obtain ⟨n, rfl⟩ := Int.eq_ofNat_of_zero_le (show 0 ≤ k from by omega)
  go_enter Try.func83, Try.ntmps83
  go_wp2
  go_loopw [0, 3] (fun k s wr => ∃ (j m : Nat) (acc : List UInt8), j ≤ 20 ∧ acc.length ≤ j ∧ m ≤ 100000000 ∧ m < 10 ^ (20 - j) ∧ k = .int .i64 m ∧ s = .string ⟨acc.toArray⟩ ∧ mkD 20 n [] = mkD (20 - j) m acc ∧ Below w.heap.size w wr) (fun k _ _ => (intOf k).toNat)
  case atStart => exact ⟨0, n, [], by omega, by simp, by omega, by omega, rfl, rfl, rfl, Below.refl _ _⟩
  case round =>
    obtain ⟨j, m, acc, hj, ha, hm, hp, rfl, rfl, he, hb⟩ := hrel
    have HE : Hid (mkD 20 n [] = mkD (20 - j) m acc) := he
    have HP : Hid (m < 10 ^ (20 - j)) := hp
    clear he hp
    by_cases h0 : (0 : Int) < (m : Int)
    · obtain ⟨c, hc⟩ : ∃ c : UInt8, c = UInt8.ofNat (48 + m % 10) := ⟨_, rfl⟩
      have hcn : ((c.toNat : Nat) : Int) = 48 + (m : Int) % 10 := by
        rw [hc, UInt8.toNat_ofNat']; omega
      have hcv : (convert 22 9 (.slice (some ⟨wr.heap.size, 0, none⟩) 1 1)).run Try.prog (wr.alloc (.cells #[.int .u8 (48 + (m : Int) % 10)] 5)) = .ok (.string ⟨#[c]⟩) (wr.alloc (.cells #[.int .u8 (48 + (m : Int) % 10)] 5)) := by
        have := run_convert_bytes_back (P := Try.prog) (wr.alloc (.cells #[.int .u8 (48 + (m : Int) % 10)] 5)) 22 9 5 ⟨wr.heap.size, 0, none⟩ 1 [c] Try.underlying22 Try.underlying5 Try.underlying9 (by
          intro j hj
          have : j = 0 := by simpa using hj
          subst this
          simp [Addr.add, hcn])
        simpa using this
      have hz := hb.size
      have hj20 : j < 20 := by
        rcases Nat.lt_or_ge j 20 with h | h
        · exact h
        · have := HP.out; rw [show 20 - j = 0 from by omega] at this; omega
      have HN : Hid (mkD 20 n [] = mkD (20 - (j + 1)) (m / 10) (c :: acc)) := by
        show mkD 20 n [] = _
        rw [HE.out, show 20 - j = (20 - (j + 1)) + 1 from by omega, mkD, if_neg (by omega), ← hc]
      have HP2 : Hid (m / 10 < 10 ^ (20 - (j + 1))) := by
        show m / 10 < _
        have := HP.out
        rw [show 20 - j = (20 - (j + 1)) + 1 from by omega, Nat.pow_succ] at this
        omega
      clear hc hcn
      go_wp2
      go_roundw
      case rel => exact ⟨j + 1, m / 10, c :: acc, by omega, by simp; omega, by omega, HP2.out, by go_num, congrArg Value.string (bcat [c] acc), HN.out, hb.alloc hz _⟩
      case measure => simp [intOf]; omega
    · obtain rfl : m = 0 := by omega
      go_wp2
      go_ret
      refine ⟨?_, hb⟩
      rw [mkT_pos n (by omega), HE.out, mkD_zero]
      exact congrArg (fun s => Ending.returned (Value.string s)) (bcat [109] acc)

/-- The value v is a slice whose elements are the texts l. -/
def SL (w : World) (v : Value) (l : List ByteArray) : Prop :=
  ∃ a cap, v = .slice a l.length cap ∧ (l ≠ [] → ∃ b off, a = some ⟨b, off, none⟩ ∧ b < w.heap.size ∧ ∀ i (h : i < l.length), w.cell? ⟨b, off + i, none⟩ = some (.string l[i]))
theorem SL_of_owns {w : World} {base : Nat} {e : TypeId} {v : Value} {l : List ByteArray} (h : w.ownsRow base e 1 v l.length (l.map Value.string)) : SL w v l := by
  have h' := h
  obtain ⟨hl, h⟩ := h
  rcases h with ⟨rfl, h0⟩ | ⟨g, cap, cur, rfl, hbg, hh, hcap, hm, hsz, htk⟩
  · exact ⟨none, 0, by rw [h0], fun hne => absurd (List.length_eq_zero_iff.1 h0) hne⟩
  · refine ⟨_, cap, rfl, fun _ => ⟨g, 0, rfl, (Array.getElem?_eq_some_iff.1 hh).1, fun i hi => ?_⟩⟩
    rw [Nat.zero_add, h'.cellAt i (by omega)]
    simp [hi]

set_option maxHeartbeats 400000 in
theorem eqStringS_same (u v : Value) (l : List ByteArray) (w : World) (hu : SL w u l) (hv : SL w v l) (hn : l.length ≤ 1048576) :
    Calls Try.prog 35 #[u, v] w fun e w' => e = .returned (.bool true) ∧ Below w.heap.size w w' := by
  obtain ⟨a, cap, rfl, hc⟩ := hu
  obtain ⟨a', cap', rfl, hc'⟩ := hv
  go_enter Try.func35, Try.ntmps35
  go_wp2
  go_loopw [5] (fun i wr => ∃ k : Nat, k ≤ l.length ∧ i = .int .i64 k ∧ Below w.heap.size w wr) (fun i _ => l.length - (intOf i).toNat)
  case atStart => exact ⟨0, Nat.zero_le _, rfl, Below.refl _ _⟩
  case round =>
    obtain ⟨k, hk, rfl, hb⟩ := hrel
    by_cases hlt : k < l.length
    · obtain ⟨b, off, rfl, hbl, hcell⟩ := hc (by intro e; simp [e] at hlt)
      obtain ⟨b', off', rfl, hbl', hcell'⟩ := hc' (by intro e; simp [e] at hlt)
      obtain ⟨s, hse⟩ : ∃ s, s = l[k] := ⟨_, rfl⟩
      have hc0 : wr.cell? ⟨b, off + k, none⟩ = some (.string s) := by rw [hse]; exact (hb.cell (p := ⟨b, off + k, none⟩) hbl).trans (hcell k hlt)
      have hd0 : wr.cell? ⟨b', off' + k, none⟩ = some (.string s) := by rw [hse]; exact (hb.cell (p := ⟨b', off' + k, none⟩) hbl').trans (hcell' k hlt)
      clear hcell hse hc hcell' hc'
      go_wp2_with fail
      go_quiet (fail)
      go_wp2
      go_roundw
      case rel => exact ⟨k + 1, by omega, by go_num, below_drewN hb _⟩
      case measure => simp [intOf]; omega
    · go_wp2
      go_ret
      exact ⟨rfl, hb⟩

/-- Marks of a row of texts. -/
def mkLS (k : Int) (l : List ByteArray) : Nat → List ByteArray
  | 0 => l
  | j + 1 => (mkLS k l j).set j (mkT (k + j))
theorem mkLS_length (k : Int) (l : List ByteArray) (j : Nat) : (mkLS k l j).length = l.length := by
  induction j with
  | zero => rfl
  | succ j ih => simp [mkLS, ih]
theorem mkLS_get (k : Int) (l : List ByteArray) (j i : Nat) (hi : i < l.length) : (mkLS k l j)[i]? = if i < j then some (mkT (k + i)) else l[i]? := by
  induction j with
  | zero => simp [mkLS]
  | succ j ih =>
    simp only [mkLS]
    by_cases h : i = j
    · subst h
      rw [List.getElem?_set_self (by rw [mkLS_length]; exact hi), if_pos (by omega)]
    · rw [List.getElem?_set_ne (by omega), ih]
      by_cases h2 : i < j
      · rw [if_pos h2, if_pos (by omega)]
      · rw [if_neg h2, if_neg (by omega)]
def mkAllS (k : Int) (n : Nat) : List ByteArray := (List.range n).map fun i : Nat => mkT (k + (i : Int))
theorem mkAllS_length (k : Int) (n : Nat) : (mkAllS k n).length = n := by simp [mkAllS]
theorem mkLS_all (k : Int) (l : List ByteArray) : mkLS k l l.length = mkAllS k l.length := by
  apply List.ext_getElem?
  intro i
  by_cases hi : i < l.length
  · rw [mkLS_get k l _ i hi, if_pos hi]; simp [mkAllS, hi]
  · rw [List.getElem?_eq_none (by rw [mkLS_length]; omega), List.getElem?_eq_none (by rw [mkAllS_length]; omega)]

set_option maxRecDepth 100000 in
set_option maxHeartbeats 1000000 in
theorem markStringS_at (g cap base : Nat) (l : List ByteArray) (k : Int) (w : World) (ho : w.ownsRow base 9 1 (.slice (some ⟨g, 0, none⟩) l.length cap) l.length (l.map Value.string)) (hn : l.length ≤ 1048576) (h1 : 1 ≤ k) (h2 : k ≤ 10000000) :
    Calls Try.prog 36 #[.slice (some ⟨g, 0, none⟩) l.length cap, .int .i64 k] w fun e w' => e = .returned (.int .i64 (k + l.length)) ∧ w'.ownsRow base 9 1 (.slice (some ⟨g, 0, none⟩) l.length cap) l.length ((mkAllS k l.length).map Value.string) ∧ Chg (· = g) w w' := by
  go_enter Try.func36, Try.ntmps36
  go_wp2
  go_loopw [1, 5] (fun t i wr => ∃ j : Nat, j ≤ l.length ∧ i = .int .i64 j ∧ t = .int .i64 (k + j) ∧ wr.ownsRow base 9 1 (.slice (some ⟨g, 0, none⟩) l.length cap) l.length ((mkLS k l j).map Value.string) ∧ Chg (· = g) w wr) (fun _ i _ => l.length - (intOf i).toNat)
  case atStart => exact ⟨0, Nat.zero_le _, rfl, by go_num, ho, Chg.refl _ _⟩
  case round =>
    clear ho
    obtain ⟨j, hj, rfl, rfl, hown, hch⟩ := hrel
    by_cases hlt : j < l.length
    · have HL : Hid ((mkLS k l j).length = l.length) := mkLS_length k l j
      have hgl := (owns_lt hown).2
      go_wp2_with fail
      refine (markText_any _ _ (by omega) (by omega)).mono ?_
      rintro e w1 ⟨rfl, hb1⟩
      have hown1 := owns_below hown hb1
      have hc1 : Chg (· = g) w w1 := hch.trans (Chg.of_below hb1)
      have d0 : w1.cell? ⟨g, j, none⟩ = some (.string ((mkLS k l j)[j]'(by rw [HL.out]; exact hlt))) := by
        rw [hown1.cellAt j (by omega)]; simp [HL.out, hlt]
      have f0 := hown1.frozenAt j
      have HO : Hid _ := (hown1.stored j (.string (mkT (k + j)))).1
      have HN : Hid (((mkLS k l j).map Value.string).set j (.string (mkT (k + j))) = (mkLS k l (j + 1)).map Value.string) := by simp [mkLS, List.map_set, Hid]
      generalize mkT (k + j) = tx at *
      clear hown hown1 hb1 hch
      go_wp2
      go_roundw
      case rel => exact ⟨j + 1, by omega, by go_num, by go_num, by rw [← HN.out]; exact HO.out, hc1.setCell rfl _⟩
      case measure => simp [intOf]; omega
    · have hjj : j = l.length := by omega
      subst hjj
      rw [mkLS_all] at hown
      go_wp2
      go_ret
      exact ⟨rfl, hown, hch⟩
theorem markStringS_none (k : Int) (w : World) :
    Calls Try.prog 36 #[.slice none 0 0, .int .i64 k] w fun e w' => e = .returned (.int .i64 k) ∧ Below w.heap.size w w' := by
  go_enter Try.func36, Try.ntmps36
  go_wp2
  refine wp_loop_rounds 1 ?_; rw [rounds_succ]; go_wp2
  go_ret
  exact ⟨rfl, Below.refl _ _⟩
theorem markStringS_own (v : Value) (base : Nat) (l : List ByteArray) (k : Int) (w : World) (ho : w.ownsRow base 9 1 v l.length (l.map Value.string)) (hn : l.length ≤ 1048576) (h1 : 1 ≤ k) (h2 : k ≤ 10000000) :
    Calls Try.prog 36 #[v, .int .i64 k] w fun e w' => e = .returned (.int .i64 (k + l.length)) ∧ w'.ownsRow base 9 1 v l.length ((mkAllS k l.length).map Value.string) ∧ Chg (fun b => v.ownBlock = some b) w w' := by
  rcases ho.2 with ⟨rfl, h0⟩ | ⟨g, cap, cur, rfl, _⟩
  · refine (markStringS_none k w).mono fun e w' ⟨he, hb⟩ => ⟨by rw [he, h0]; simp, ?_, Chg.of_below hb⟩
    have hl : l = [] := List.length_eq_zero_iff.1 h0
    subst hl
    exact owns_below ho hb
  · exact (markStringS_at g cap base l k w ho hn h1 h2).mono fun e w' ⟨he, hw, hc⟩ => ⟨he, hw, hc.mono fun b hb => by rw [hb]; rfl⟩

set_option maxRecDepth 100000 in
set_option maxHeartbeats 1000000 in
theorem heldStringS_any (v : Value) (n : Nat) (k : Int) (w : World) (hv : SL w v (mkAllS k n)) (hn : n ≤ 1048576) (h1 : 1 ≤ k) (h2 : k ≤ 10000000) :
    Calls Try.prog 56 #[v, .int .i64 k] w fun e w' => e = .returned (.int .i64 (k + n)) ∧ Below w.heap.size w w' := by
  obtain ⟨a, cap, rfl, hc⟩ := hv
  rw [mkAllS_length]
  go_enter Try.func56, Try.ntmps56
  go_wp2
  go_loopw [1, 5] (fun t i wr => ∃ j : Nat, j ≤ n ∧ i = .int .i64 j ∧ t = .int .i64 (k + j) ∧ Below w.heap.size w wr) (fun _ i _ => n - (intOf i).toNat)
  case atStart => exact ⟨0, Nat.zero_le _, rfl, by go_num, Below.refl _ _⟩
  case round =>
    obtain ⟨j, hj, rfl, rfl, hb⟩ := hrel
    by_cases hlt : j < n
    · obtain ⟨b, off, rfl, hbl, hcell⟩ := hc (by intro e; rw [← mkAllS_length k n, e] at hlt; simp at hlt)
      have hl : j < (mkAllS k n).length := by rw [mkAllS_length]; exact hlt
      obtain ⟨tx, htx⟩ : ∃ tx, tx = mkT (k + j) := ⟨_, rfl⟩
      have hg : (mkAllS k n)[j] = tx := by rw [htx]; simp [mkAllS]
      have hc0 : wr.cell? ⟨b, off + j, none⟩ = some (.string tx) := by rw [hb.cell (p := ⟨b, off + j, none⟩) hbl, hcell j hl, hg]
      have hz := hb.size
      have hbl' : b < wr.heap.size := by omega
      have p0 : ∀ x : WC wr.heap.size wr, x.w.cell? ⟨b, off + j, none⟩ = some (.string tx) := fun x => (x.ok.cell (p := ⟨b, off + j, none⟩) hbl').trans hc0
      have KT : Hid (∀ x : WC wr.heap.size wr, Calls Try.prog 83 #[.int .i64 (k + j)] x.w fun e w'' => e = .returned (.string tx) ∧ ∃ m : WC wr.heap.size wr, w'' = m.w) :=
        fun x => calm_of_below (Nat.le_refl _) (by rw [htx]; exact markText_any _ _ (by omega) (by omega))
      have hne : Nonempty (WC wr.heap.size wr) := ⟨⟨_, Below.refl _ _⟩⟩
      clear hcell hc htx hg hc0 hl
      go_wp2_with fail
      refine wp_region_calm (B := wr.heap.size) (W := wr) (by kernel_rfl) (by kernel_rfl) (Below.refl _ _) ?_
      repeat (go_big_quiet_step ((go_at_call 83; exact KT.out _)))
      refine wpQuiet_nil ?_
      intro _ hw'
      obtain ⟨x, hx⟩ := hw'
      subst hx
      go_wp2
      go_roundw
      case rel => exact ⟨j + 1, by omega, by go_num, by go_num, hb.trans (x.ok.mono hz)⟩
      case measure => simp [intOf]; omega
    · have hjj : j = n := by omega
      subst hjj
      go_wp2
      go_ret
      exact ⟨rfl, hb⟩
end Go.Proofs.Ytocaigffikdlhaa
