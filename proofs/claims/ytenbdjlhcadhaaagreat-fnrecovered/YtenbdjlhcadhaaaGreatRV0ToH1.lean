/-
  Frames that are read: spec.l2Frames, spec.ReadFrames, impl.ReadFrames.
  What a call that writes into some blocks alone leaves; a row that is marked, and a row that is held against its marks.
  laws.markText; slices of texts: eqStringS, markStringS, heldStringS.
-/
import Derived.Test.YtenbdjlhcadhaaaGreatF2
import Derived.Test.YtenbdjlhcadhaaaGreatB
import Derived.Test.YtenbdjlhcadhaaaGreatCToV1
import Derived.Deep.QuietTactic
import Derived.BigQuiet
namespace Go.Proofs.YtenbdjlhcadhaaaGreat
open Go.RowKit
set_option linter.unusedVariables false

theorem Tryz.info9 : (Tryz.prog.info? 9).map (fun i => (i.zero, i.size, i.bytes)) = some (some (.string ⟨#[]⟩), 1, 16) := by kernel_rfl
def vlen : Value → Nat
  | .slice _ n _ => n
  | _ => 0
/-- The texts of the frames from byte a on, f at most, and where they end. -/
def rf (s : ByteArray) : Nat → Nat → List ByteArray × Nat
  | 0, a => ([], a)
  | f + 1, a => if tfOk (s.extract a s.size) then (tfT (s.extract a s.size) :: (rf s f (a + tfN (s.extract a s.size))).1, (rf s f (a + tfN (s.extract a s.size))).2) else ([], a)
def framesOf (s : ByteArray) : List ByteArray := (rf s 60 0).1
def framesEnd (s : ByteArray) : Nat := (rf s 60 0).2
theorem tfN_le (r : ByteArray) : tfN r ≤ r.size := by
  unfold tfN
  by_cases h : tfOk r
  · rw [if_pos h]
    simp only [tfOk, Bool.and_eq_true, decide_eq_true_eq] at h
    exact h.1.2.2
  · rw [if_neg h]; omega
theorem ext_size (s : ByteArray) (a : Nat) (h : a ≤ s.size) : (s.extract a s.size).size = s.size - a := by rw [ByteArray.size_extract]; omega
theorem tfOk_empty (r : ByteArray) (h : r.size = 0) : tfOk r = false := by
  have hd : r.data.toList = [] := List.length_eq_zero_iff.1 (by simpa using h)
  have : ¬ tfFits r := by
    unfold tfFits
    rw [hd]
    simp [take, tk_none]
  rw [tfOk, decide_eq_false this]; rfl
theorem tfT_size (r : ByteArray) : (tfT r).size ≤ 1000 := by
  unfold tfT
  by_cases h : tfOk r
  · rw [if_pos h]
    simp only [tfOk, Bool.and_eq_true, decide_eq_true_eq] at h
    rw [tfBody_size r h.1]; exact h.1.2.1
  · rw [if_neg h]; exact Nat.zero_le _
/-- What is read so far, j texts up to byte a, and the rest. -/
def rfAt (s : ByteArray) (L : List ByteArray) (a : Nat) : Prop := (rf s 60 0).1 = L ++ (rf s (60 - L.length) a).1 ∧ (rf s 60 0).2 = (rf s (60 - L.length) a).2
theorem rfAt_zero (s : ByteArray) : rfAt s [] 0 := ⟨rfl, rfl⟩
theorem rfAt_succ {s : ByteArray} {L : List ByteArray} {a : Nat} (h : rfAt s L a) (hl : L.length < 60) (hok : tfOk (s.extract a s.size) = true) : rfAt s (L ++ [tfT (s.extract a s.size)]) (a + tfN (s.extract a s.size)) := by
  obtain ⟨h1, h2⟩ := h
  rw [show 60 - L.length = (60 - (L.length + 1)) + 1 from by omega] at h1 h2
  have e : rf s ((60 - (L.length + 1)) + 1) a = (tfT (s.extract a s.size) :: (rf s (60 - (L.length + 1)) (a + tfN (s.extract a s.size))).1, (rf s (60 - (L.length + 1)) (a + tfN (s.extract a s.size))).2) := by rw [rf, if_pos hok]
  rw [e] at h1 h2
  exact ⟨by rw [h1, List.length_append]; simp, by rw [h2, List.length_append]; simp⟩
theorem rfAt_stop {s : ByteArray} {L : List ByteArray} {a : Nat} (h : rfAt s L a) (hs : 60 ≤ L.length ∨ tfOk (s.extract a s.size) = false) : framesOf s = L ∧ framesEnd s = a := by
  obtain ⟨h1, h2⟩ := h
  have e : rf s (60 - L.length) a = ([], a) := by
    rcases hs with hs | hs
    · rw [show 60 - L.length = 0 from by omega]; rfl
    · cases hf : 60 - L.length with
      | zero => rfl
      | succ f => rw [rf, if_neg (by rw [hs]; simp)]
  rw [e] at h1 h2
  exact ⟨by rw [framesOf, h1]; simp, by rw [framesEnd, h2]⟩
theorem owns_shapeF {w : World} {base : Nat} {e : TypeId} {size : Nat} {v : Value} {n : Nat} {xs : List Value} (h : w.ownsRow base e size v n xs) : ∃ a cap, v = .slice a n cap := by
  rcases h.2 with ⟨rfl, h0⟩ | ⟨g, cap, cur, rfl, _⟩
  · exact ⟨none, 0, by rw [h0]⟩
  · exact ⟨_, cap, rfl⟩

set_option maxRecDepth 100000 in
set_option maxHeartbeats 1000000 in
theorem l2Frames_any (s : ByteArray) (w : World) (hs : s.size ≤ 1048576) :
    Calls Tryz.prog 37 #[.string s] w fun e w' => ∃ v, e = .returned (.tuple #[v, .int .i64 (framesEnd s : Nat)]) ∧ w'.ownsRow w.heap.size 9 1 v (framesOf s).length ((framesOf s).map Value.string) ∧ Below w.heap.size w w' := by
  obtain ⟨i0, hi, hz0, hzs, hzb⟩ := info_parts Tryz.info9
  go_enter Tryz.func37, Tryz.ntmps37
  go_wp2
  go_loopw [4, 5] (fun v i wr => ∃ (L : List ByteArray) (a : Nat), a ≤ s.size ∧ L.length ≤ 60 ∧ i = .int .i64 a ∧ rfAt s L a ∧ wr.ownsRow w.heap.size 9 1 v L.length (L.map Value.string) ∧ Below w.heap.size w wr) (fun v _ _ => 60 - vlen v)
  case atStart => exact ⟨[], 0, by omega, by simp, rfl, rfAt_zero s, World.ownsRow_nil _ _ _ _, Below.refl _ _⟩
  case round =>
    obtain ⟨L, a, ha, hL, rfl, hat, hown, hb⟩ := hrel
    obtain ⟨va, vcap, rfl⟩ := owns_shapeF hown
    have HA : Hid (rfAt s L a) := hat
    clear hat
    have hz := hb.size
    by_cases hlt : a < s.size
    · by_cases hl60 : L.length < 60
      · obtain ⟨r, hr⟩ : ∃ r, r = s.extract a s.size := ⟨_, rfl⟩
        have hrs : r.size ≤ 1048576 := by rw [hr, ext_size s a ha]; omega
        have hn := tfN_le r
        have hra : a + r.size = s.size := by rw [hr, ext_size s a ha]; omega
        have hT := tfT_size r
        have HS : Hid (tfOk r = true → rfAt s (L ++ [tfT r]) (a + tfN r)) := by rw [hr]; exact fun h => rfAt_succ HA.out hl60 h
        have HE : Hid (tfOk r = false → framesOf s = L ∧ framesEnd s = a) := by rw [hr]; exact fun h => rfAt_stop HA.out (.inr h)
        have hsl : (Instr.slice 9 (.string s) (some (.int .i64 (a : Int))) none none).run Tryz.prog wr = .ok (.string r) wr := by
          rw [run_slice_string_l (w := wr) (s := s) (t := 9) Tryz.underlying9 .i64 a (by omega) (by omega), hr]; rfl
        clear hr
        have KT := l2TakeFrame_any r wr hrs
        cases hok : tfOk r with
        | true =>
          rw [hok] at KT HS
          go_wp2_with fail
          refine KT.mono ?_
          rintro e w1 ⟨rfl, hb1⟩
          generalize tfT r = T at *
          generalize tfN r = n at *
          have hown1 := owns_below hown hb1
          have hz1 := hb1.size
          go_wp2_with (at_builtin; refine wpList_append_own _ rfl _ _ 42 rfl w.heap.size 9 i0 (.string ⟨#[]⟩) 1 16 Tryz.underlying42 hi hz0 hzs hzb rfl (by decide) _ L.length (L.map Value.string) rfl (owns_below hown1 (below_alloc _ _)) ⟨w1.heap.size, 0, none⟩ 1 1 [.string T] rfl rfl (by intro j u hj; match j, hj with | 0, hj => simp at hj; subst hj; simp [Addr.add]) (by intro u hu; simp at hu; subst hu; rfl) (by unfold maxLen; omega) (by omega) (by simp; omega) ?_; intro v' w2 hown2 hgrow2 _)
          go_roundw
          case rel =>
            refine ⟨L ++ [T], a + n, by omega, by simp; omega, by go_num, HS.out trivial, ?_, ((hb.trans (hb1.mono hz)).alloc (by omega) _).grown hgrow2 (by simp; omega) (owns_ge hown)⟩
            rw [List.length_append, List.map_append]; exact hown2
          case measure =>
            obtain ⟨g, cp, rfl⟩ := owns_some hown2
            simp [vlen]; omega
        | false =>
          rw [hok] at KT
          obtain ⟨e1, e2⟩ := HE.out hok
          have HE1 : Hid (framesOf s = L) := e1
          have HE2 : Hid (framesEnd s = a) := e2
          clear e1 e2
          go_wp2_with fail
          refine KT.mono ?_
          rintro e w1 ⟨rfl, hb1⟩
          go_wp2
          go_ret2
          refine ⟨_, by rw [HE2.out]; rfl, ?_, hb.trans (hb1.mono hz)⟩
          rw [HE1.out]
          exact owns_below hown hb1
      · obtain ⟨e1, e2⟩ := rfAt_stop HA.out (.inl (by omega))
        have HE1 : Hid (framesOf s = L) := e1
        have HE2 : Hid (framesEnd s = a) := e2
        clear e1 e2
        go_wp2
        go_ret2
        refine ⟨_, by rw [HE2.out]; rfl, ?_, hb⟩
        rw [HE1.out]
        exact hown
    · obtain ⟨e1, e2⟩ := rfAt_stop HA.out (.inr (tfOk_empty _ (by rw [ext_size s a ha]; omega)))
      have HE1 : Hid (framesOf s = L) := e1
      have HE2 : Hid (framesEnd s = a) := e2
      clear e1 e2
      go_wp2
      go_ret2
      refine ⟨_, by rw [HE2.out]; rfl, ?_, hb⟩
      rw [HE1.out]
      exact hown

end Go.Proofs.YtenbdjlhcadhaaaGreat

namespace Go.Proofs.YtenbdjlhcadhaaaGreat
open Go.RowKit
set_option linter.unusedVariables false

/-- Behind the call all blocks are as they were but those of S (and new ones). -/
structure Chg (S : Nat → Prop) (w w' : World) : Prop where
  os : w'.os = w.os
  tape : w'.tape = w.tape
  output : w'.output = w.output
  size : w.heap.size ≤ w'.heap.size
  block : ∀ k, k < w.heap.size → ¬ S k → w'.heap[k]? = w.heap[k]?
theorem Chg.refl (S : Nat → Prop) (w : World) : Chg S w w := ⟨rfl, rfl, rfl, Nat.le_refl _, fun _ _ _ => rfl⟩
theorem Chg.of_below {S : Nat → Prop} {w w' : World} (h : Below w.heap.size w w') : Chg S w w' := ⟨h.os, h.tape, h.output, h.size, fun k hk _ => h.block k hk⟩
theorem Chg.trans {S : Nat → Prop} {a b c : World} (h : Chg S a b) (k : Chg S b c) : Chg S a c :=
  ⟨k.os.trans h.os, k.tape.trans h.tape, k.output.trans h.output, Nat.le_trans h.size k.size, fun j hj hs => (k.block j (Nat.lt_of_lt_of_le hj h.size) hs).trans (h.block j hj hs)⟩
theorem Chg.mono {S T : Nat → Prop} {a b : World} (h : Chg S a b) (hst : ∀ k, S k → T k) : Chg T a b := ⟨h.os, h.tape, h.output, h.size, fun k hk ht => h.block k hk fun hs => ht (hst k hs)⟩
theorem Chg.setCell {S : Nat → Prop} {a w : World} (h : Chg S a w) {p : Addr} (hp : S p.block) (u : Value) : Chg S a (w.setCell p u) :=
  ⟨h.os, h.tape, h.output, by simpa using h.size, fun k hk hs => (Below.heap_setCell w p u k (fun e => hs (e ▸ hp))).trans (h.block k hk hs)⟩
/-- Where S lies above B, what is below B is as it was. -/
theorem Chg.below {S : Nat → Prop} {w w' : World} (h : Chg S w w') {B : Nat} (hB : B ≤ w.heap.size) (hs : ∀ k, S k → B ≤ k) : Below B w w' :=
  ⟨h.os, h.tape, h.output, h.size, fun k hk => h.block k (Nat.lt_of_lt_of_le hk hB) fun hk' => by have := hs k hk'; omega⟩
theorem Chg.owns {S : Nat → Prop} {w w' : World} (h : Chg S w w') {base : Nat} {e : TypeId} {size : Nat} {v : Value} {n : Nat} {xs : List Value} (ho : w.ownsRow base e size v n xs) (hs : ∀ g, v.ownBlock = some g → ¬ S g) : w'.ownsRow base e size v n xs := by
  obtain ⟨hl, ho⟩ := ho
  refine ⟨hl, ?_⟩
  rcases ho with ho | ⟨g, cap, cur, hv, hbg, hh, ho⟩
  · exact .inl ho
  · refine .inr ⟨g, cap, cur, hv, hbg, ?_, ho⟩
    rw [h.block g (Array.getElem?_eq_some_iff.1 hh).1 (hs g (by rw [hv]; rfl))]
    exact hh
theorem Chg.box {S : Nat → Prop} {w w' : World} (h : Chg S w w') {b : Nat} {vs : List Value} (hx : Box w b vs) (hs : ¬ S b) : Box w' b vs := by
  have hb := h.block b hx.1 hs
  exact ⟨Nat.lt_of_lt_of_le hx.1 h.size, fun j v hv => (World.cell?_of_block (w := w) (a := ⟨b, j, none⟩) hb).trans (hx.2.1 j v hv), fun j => (World.frozen?_of_block (w := w) (a := ⟨b, j, none⟩) hb).trans (hx.2.2 j)⟩
end Go.Proofs.YtenbdjlhcadhaaaGreat

namespace Go.Proofs.YtenbdjlhcadhaaaGreat
open Go.RowKit
set_option maxRecDepth 100000
set_option linter.unusedVariables false

def mkD : Nat → Nat → List UInt8 → List UInt8
  | 0, _, acc => acc
  | f + 1, k, acc => if k = 0 then acc else mkD f (k / 10) (UInt8.ofNat (48 + k % 10) :: acc)
def mkT (k : Int) : ByteArray := if k ≤ 0 then ⟨#[109, 48]⟩ else ⟨(109 :: mkD 20 k.toNat []).toArray⟩

theorem mkD_zero (f : Nat) (acc : List UInt8) : mkD f 0 acc = acc := by cases f <;> simp [mkD]
theorem bcat (a b : List UInt8) : (⟨a.toArray⟩ : ByteArray) ++ ⟨b.toArray⟩ = ⟨(a ++ b).toArray⟩ := by
  apply ByteArray.ext
  simp
theorem mkT_pos (n : Nat) (h : 1 ≤ n) : mkT (n : Int) = ⟨(109 :: mkD 20 n []).toArray⟩ := by simp [mkT]; omega

/-- The value v is a slice whose elements are the texts l. -/
def SL (w : World) (v : Value) (l : List ByteArray) : Prop :=
  ∃ a cap, v = .slice a l.length cap ∧ (l ≠ [] → ∃ b off, a = some ⟨b, off, none⟩ ∧ b < w.heap.size ∧ ∀ i (h : i < l.length), w.cell? ⟨b, off + i, none⟩ = some (.string l[i]))
theorem SL_of_owns {w : World} {base : Nat} {e : TypeId} {v : Value} {l : List ByteArray} (h : w.ownsRow base e 1 v l.length (l.map Value.string)) : SL w v l := by
  have h' := h
  obtain ⟨hl, h⟩ := h
  rcases h with ⟨rfl, h0⟩ | ⟨g, cap, cur, rfl, hbg, hh, hcap, hm, hsz, htk⟩
  · exact ⟨none, 0, by rw [h0], fun hne => absurd (List.length_eq_zero_iff.1 h0) hne⟩
  · refine ⟨_, cap, rfl, fun _ => ⟨g, 0, rfl, (Array.getElem?_eq_some_iff.1 hh).1, fun i hi => ?_⟩⟩
    rw [Nat.zero_add, h'.cellAt i (by omega)]
    simp [hi]

/-- Marks of a row of texts. -/
def mkLS (k : Int) (l : List ByteArray) : Nat → List ByteArray
  | 0 => l
  | j + 1 => (mkLS k l j).set j (mkT (k + j))
theorem mkLS_length (k : Int) (l : List ByteArray) (j : Nat) : (mkLS k l j).length = l.length := by
  induction j with
  | zero => rfl
  | succ j ih => simp [mkLS, ih]
theorem mkLS_get (k : Int) (l : List ByteArray) (j i : Nat) (hi : i < l.length) : (mkLS k l j)[i]? = if i < j then some (mkT (k + i)) else l[i]? := by
  induction j with
  | zero => simp [mkLS]
  | succ j ih =>
    simp only [mkLS]
    by_cases h : i = j
    · subst h
      rw [List.getElem?_set_self (by rw [mkLS_length]; exact hi), if_pos (by omega)]
    · rw [List.getElem?_set_ne (by omega), ih]
      by_cases h2 : i < j
      · rw [if_pos h2, if_pos (by omega)]
      · rw [if_neg h2, if_neg (by omega)]
def mkAllS (k : Int) (n : Nat) : List ByteArray := (List.range n).map fun i : Nat => mkT (k + (i : Int))
theorem mkAllS_length (k : Int) (n : Nat) : (mkAllS k n).length = n := by simp [mkAllS]
theorem mkLS_all (k : Int) (l : List ByteArray) : mkLS k l l.length = mkAllS k l.length := by
  apply List.ext_getElem?
  intro i
  by_cases hi : i < l.length
  · rw [mkLS_get k l _ i hi, if_pos hi]; simp [mkAllS, hi]
  · rw [List.getElem?_eq_none (by rw [mkLS_length]; omega), List.getElem?_eq_none (by rw [mkAllS_length]; omega)]

end Go.Proofs.YtenbdjlhcadhaaaGreat
