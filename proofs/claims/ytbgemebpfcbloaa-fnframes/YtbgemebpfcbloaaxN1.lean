/-
  Texts come back from their frames, and of frames that are cut just the whole ones ahead: plain facts, no walk.
-/
import Derived.Test.YtbgemebpfcbloaaxF3
import Derived.Test.YtbgemebpfcbloaaxG1
import Derived.Test.YtbgemebpfcbloaaxJ
namespace Go.Proofs.Ytbgemebpfcbloaa
open Go.RowKit
set_option linter.unusedVariables false

theorem ext_list (s : ByteArray) (a b : Nat) : (s.extract a b).data.toList = (s.data.toList.drop a).take (b - a) := by
  simp only [ByteArray.data_extract, Array.toList_extract, List.extract_eq_take_drop]
theorem ba_eq {a b : ByteArray} (h : a.data.toList = b.data.toList) : a = b := ByteArray.ext (Array.toList_inj.1 h)
theorem ba_len (a : ByteArray) : a.data.toList.length = a.size := by simp
theorem frameL_len (l : List UInt8) : (frameL l).length = (varL l.length).length + 4 + l.length := by simp [frameL, wordL]; omega

/-- A frame at the front is taken. -/
theorem tf_front (r : ByteArray) (l rest : List UInt8) (hl : l.length ≤ 1000) (hr : r.data.toList = frameL l ++ rest) : tfOk r = true ∧ tfT r = ⟨l.toArray⟩ ∧ tfN r = (frameL l).length := by
  have ht : take r.data.toList = (l.length, (varL l.length).length) := by
    rw [hr, frameL, List.append_assoc, List.append_assoc]
    exact take_var l.length _ (by omega)
  have hsz : r.size = (frameL l).length + rest.length := by rw [← ba_len, hr, List.length_append]
  have hlen := frameL_len l
  have hpos := varL_pos l.length
  have hfit : tfFits r := by
    unfold tfFits
    rw [ht]
    exact ⟨by show (varL l.length).length ≠ 0; omega, hl, by show (varL l.length).length + 4 + l.length ≤ r.size; omega⟩
  have hbody : tfBody r = ⟨l.toArray⟩ := by
    apply ba_eq
    rw [tfBody, ht, ext_list, hr]
    show ((frameL l ++ rest).drop ((varL l.length).length + 4)).take ((varL l.length).length + 4 + l.length - ((varL l.length).length + 4)) = l
    rw [show (varL l.length).length + 4 + l.length - ((varL l.length).length + 4) = l.length from by omega, frameL, List.append_assoc]
    rw [List.drop_append_of_le_length (by simp [wordL]), List.drop_eq_nil_of_le (by simp [wordL]), List.nil_append, List.take_left' rfl]
  have hsaid : tfSaid r = ⟨(wordL (csum l)).toArray⟩ := by
    apply ba_eq
    rw [tfSaid, ht, ext_list, hr]
    show ((frameL l ++ rest).drop (varL l.length).length).take ((varL l.length).length + 4 - (varL l.length).length) = wordL (csum l)
    rw [show (varL l.length).length + 4 - (varL l.length).length = 4 from by omega, frameL, List.append_assoc, List.append_assoc, List.drop_left' rfl]
    exact List.take_left' rfl
  have hw : tfWord r = tfSaid r := by rw [tfWord, hbody, hsaid]
  have hok : tfOk r = true := by rw [tfOk, decide_eq_true hfit, decide_eq_true hw]; rfl
  refine ⟨hok, by rw [tfT, if_pos hok, hbody], ?_⟩
  rw [tfN, if_pos hok, ht, hlen]

/-- A number that is cut is none. -/
theorem tk_cut : ∀ (m f k acc j : Nat) (pre : List UInt8), pre.length = k → j < (varL m).length → tk (pre ++ (varL m).take j) f k acc = (0, 0) := by
  intro m
  induction m using Nat.strongRecOn with
  | _ m ih =>
    intro f k acc j pre hk hj
    cases f with
    | zero => rfl
    | succ g =>
      cases j with
      | zero => rw [List.take_zero, List.append_nil]; exact tk_none _ _ _ _ (by omega)
      | succ j =>
        by_cases h : m < 128
        · rw [varL_lt m h] at hj; simp at hj
        · have hv := varL_ge m h
          have hu : (UInt8.ofNat (m % 128 + 128)).toNat = m % 128 + 128 := by rw [UInt8.toNat_ofNat']; omega
          rw [hv, List.length_cons] at hj
          rw [hv, List.take_succ_cons]
          have hl : k < (pre ++ UInt8.ofNat (m % 128 + 128) :: (varL (m / 128)).take j).length := by simp; omega
          have hg : (pre ++ UInt8.ofNat (m % 128 + 128) :: (varL (m / 128)).take j)[k] = UInt8.ofNat (m % 128 + 128) := by
            rw [List.getElem_append_right (by omega)]
            simp [hk]
          rw [tk_some _ _ _ _ hl, hg, hu, if_neg (by omega)]
          have hs : pre ++ UInt8.ofNat (m % 128 + 128) :: (varL (m / 128)).take j = (pre ++ [UInt8.ofNat (m % 128 + 128)]) ++ (varL (m / 128)).take j := by simp
          rw [hs]
          exact ih (m / 128) (by omega) g (k + 1) _ j _ (by simp [hk]) (by omega)

/-- A frame that is cut is not taken. -/
theorem tf_cut (r : ByteArray) (l : List UInt8) (j : Nat) (hl : l.length ≤ 1000) (hj : j < (frameL l).length) (hr : r.data.toList = (frameL l).take j) : tfOk r = false := by
  have hlen := frameL_len l
  have hsz : r.size = j := by rw [← ba_len, hr, List.length_take]; omega
  have hfit : ¬ tfFits r := by
    by_cases hc : j < (varL l.length).length
    · have ht : take r.data.toList = (0, 0) := by
        rw [hr, frameL, List.append_assoc, List.take_append_of_le_length (by omega)]
        have := tk_cut l.length 9 0 0 j [] rfl hc
        simpa [take] using this
      unfold tfFits
      rw [ht]
      exact fun h => h.1 rfl
    · have ht : take r.data.toList = (l.length, (varL l.length).length) := by
        rw [hr, frameL, List.append_assoc, List.take_append, List.take_of_length_le (show (varL l.length).length ≤ j from by omega)]
        exact take_var l.length _ (by omega)
      unfold tfFits
      rw [ht]
      intro h
      have h3 : (varL l.length).length + 4 + l.length ≤ r.size := h.2.2
      omega
  rw [tfOk, decide_eq_false hfit]; rfl

/-- All frames of a list of texts. -/
def framesL : List (List UInt8) → List UInt8
  | [] => []
  | l :: r => frameL l ++ framesL r
theorem framesL_append (a b : List (List UInt8)) : framesL (a ++ b) = framesL a ++ framesL b := by
  induction a with
  | nil => rfl
  | cons x a ih => simp [framesL, ih]
theorem rf_frames (s : ByteArray) : ∀ (ls : List (List UInt8)) (f a : Nat) (tail : List UInt8), ls.length ≤ f → a ≤ s.size → (∀ l ∈ ls, l.length ≤ 1000) → s.data.toList.drop a = framesL ls ++ tail → (∀ r : ByteArray, r.data.toList = tail → tfOk r = false) →
    rf s f a = (ls.map fun l => ⟨l.toArray⟩, a + (framesL ls).length) := by
  intro ls
  induction ls with
  | nil =>
    intro f a tail _ ha _ hd ht
    cases f with
    | zero => rfl
    | succ f =>
      have hr : (s.extract a s.size).data.toList = tail := by
        rw [ext_list, hd, List.take_of_length_le]; rfl
        rw [← hd, List.length_drop, ba_len]
        exact Nat.le_refl _
      rw [rf, if_neg (by rw [ht _ hr]; simp)]
      rfl
  | cons l ls ih =>
    intro f a tail hf ha hall hd ht
    obtain ⟨g, rfl⟩ : ∃ g, f = g + 1 := ⟨f - 1, by simp at hf; omega⟩
    have hr : (s.extract a s.size).data.toList = frameL l ++ (framesL ls ++ tail) := by
      rw [ext_list, List.take_of_length_le (by rw [List.length_drop, ba_len]; exact Nat.le_refl _), hd]
      simp [framesL]
    obtain ⟨hok, hT, hN⟩ := tf_front _ l _ (hall l (by simp)) hr
    have hlen : s.size - a = (frameL l).length + (framesL ls ++ tail).length := by
      have := congrArg List.length hd
      rw [List.length_drop, ba_len] at this
      simp only [framesL, List.length_append] at this ⊢
      omega
    have hpos : 0 < (frameL l).length := by have := frameL_len l; omega
    rw [rf, if_pos hok, hT, hN, ih g (a + (frameL l).length) tail (by simpa using hf) (by omega) (fun x hx => hall x (by simp [hx])) ?_ ht]
    · simp [framesL]; omega
    · rw [← List.drop_drop, hd, framesL, List.append_assoc, List.drop_left' rfl]

/-- The first k bytes of frames: the whole ones, and a beginning of the next. -/
theorem frames_take : ∀ (ls : List (List UInt8)) (k : Nat), k ≤ (framesL ls).length → ∃ (p : Nat) (tail : List UInt8), p ≤ ls.length ∧ (framesL ls).take k = framesL (ls.take p) ++ tail ∧ (framesL (ls.take p)).length + tail.length = k ∧ (tail = [] ∨ ∃ (h : p < ls.length) (j : Nat), j < (frameL ls[p]).length ∧ tail = (frameL ls[p]).take j) ∧ (∀ h : p < ls.length, k < (framesL (ls.take p)).length + (frameL ls[p]).length) := by
  intro ls
  induction ls with
  | nil =>
    intro k hk
    simp only [framesL, List.length_nil, Nat.le_zero] at hk
    subst hk
    exact ⟨0, [], by simp, rfl, rfl, .inl rfl, fun h => by simp at h⟩
  | cons l ls ih =>
    intro k hk
    by_cases hkl : k < (frameL l).length
    · refine ⟨0, (frameL l).take k, by simp, ?_, ?_, .inr ⟨by simp, k, by simpa using hkl, by simp⟩, fun h => by simpa [framesL] using hkl⟩
      · simp only [framesL, List.take_zero, List.nil_append]
        rw [List.take_append_of_le_length (by omega)]
      · simp [framesL]; omega
    · obtain ⟨p, tail, hp, h1, h2, h3, h4⟩ := ih (k - (frameL l).length) (by simp only [framesL, List.length_append] at hk; omega)
      refine ⟨p + 1, tail, by simpa using hp, ?_, ?_, ?_, ?_⟩
      · simp only [framesL, List.take_succ_cons]
        rw [List.take_append, List.take_of_length_le (by omega), h1, List.append_assoc]
      · simp only [framesL, List.take_succ_cons, List.length_append]; omega
      · rcases h3 with h3 | ⟨h, j, hj, ht⟩
        · exact .inl h3
        · exact .inr ⟨by simpa using h, j, by simpa using hj, by simpa using ht⟩
      · intro h
        have := h4 (by simpa using h)
        simp only [framesL, List.take_succ_cons, List.length_append, List.getElem_cons_succ]; omega
end Go.Proofs.Ytbgemebpfcbloaa
