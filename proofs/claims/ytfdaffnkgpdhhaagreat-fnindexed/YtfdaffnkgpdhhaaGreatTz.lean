/-
  A frame at the front is taken: plain facts.
  What an index tells of a block's size: impl.takeSize.
  The items that a table's index tells of: impl.itemsToldIn.
  The items that a table's index tells of: impl.itemsToldIn, walked.
-/
import Derived.Test.YtfdaffnkgpdhhaaGreatF2
import Derived.Test.YtfdaffnkgpdhhaaGreatJ
import Derived.Test.YtfdaffnkgpdhhaaGreatNz
import Derived.Test.YtfdaffnkgpdhhaaGreatRz
import Derived.Test.YtfdaffnkgpdhhaaGreatQz
import Derived.Laws.AppendOwnNone
import Derived.Deep.QuietTactic
namespace Go.Proofs.YtfdaffnkgpdhhaaGreat
open Go.RowKit
set_option linter.unusedVariables false

theorem ext_list (s : ByteArray) (a b : Nat) : (s.extract a b).data.toList = (s.data.toList.drop a).take (b - a) := by
  simp only [ByteArray.data_extract, Array.toList_extract, List.extract_eq_take_drop]
theorem ba_eq {a b : ByteArray} (h : a.data.toList = b.data.toList) : a = b := ByteArray.ext (Array.toList_inj.1 h)
theorem ba_len (a : ByteArray) : a.data.toList.length = a.size := by simp
theorem frameL_len (l : List UInt8) : (frameL l).length = (varL l.length).length + 4 + l.length := by simp [frameL, wordL]; omega

/-- A frame at the front is taken. -/
theorem tf_front (r : ByteArray) (l rest : List UInt8) (hl : l.length ≤ 1000) (hr : r.data.toList = frameL l ++ rest) : tfOk r = true ∧ tfT r = ⟨l.toArray⟩ ∧ tfN r = (frameL l).length := by
  have ht : take r.data.toList = (l.length, (varL l.length).length) := by
    rw [hr, frameL, List.append_assoc, List.append_assoc]
    exact take_var l.length _ (by omega)
  have hsz : r.size = (frameL l).length + rest.length := by rw [← ba_len, hr, List.length_append]
  have hlen := frameL_len l
  have hpos := varL_pos l.length
  have hfit : tfFits r := by
    unfold tfFits
    rw [ht]
    exact ⟨by show (varL l.length).length ≠ 0; omega, hl, by show (varL l.length).length + 4 + l.length ≤ r.size; omega⟩
  have hbody : tfBody r = ⟨l.toArray⟩ := by
    apply ba_eq
    rw [tfBody, ht, ext_list, hr]
    show ((frameL l ++ rest).drop ((varL l.length).length + 4)).take ((varL l.length).length + 4 + l.length - ((varL l.length).length + 4)) = l
    rw [show (varL l.length).length + 4 + l.length - ((varL l.length).length + 4) = l.length from by omega, frameL, List.append_assoc]
    rw [List.drop_append_of_le_length (by simp [wordL]), List.drop_eq_nil_of_le (by simp [wordL]), List.nil_append, List.take_left' rfl]
  have hsaid : tfSaid r = ⟨(wordL (csum l)).toArray⟩ := by
    apply ba_eq
    rw [tfSaid, ht, ext_list, hr]
    show ((frameL l ++ rest).drop (varL l.length).length).take ((varL l.length).length + 4 - (varL l.length).length) = wordL (csum l)
    rw [show (varL l.length).length + 4 - (varL l.length).length = 4 from by omega, frameL, List.append_assoc, List.append_assoc, List.drop_left' rfl]
    exact List.take_left' rfl
  have hw : tfWord r = tfSaid r := by rw [tfWord, hbody, hsaid]
  have hok : tfOk r = true := by rw [tfOk, decide_eq_true hfit, decide_eq_true hw]; rfl
  refine ⟨hok, by rw [tfT, if_pos hok, hbody], ?_⟩
  rw [tfN, if_pos hok, ht, hlen]

end Go.Proofs.YtfdaffnkgpdhhaaGreat

namespace Go.Proofs.YtfdaffnkgpdhhaaGreat
open Go.RowKit
set_option linter.unusedVariables false
set_option maxRecDepth 100000

/-- The place at the front of an index: where its numbers begin, the size that it tells, what is behind it. -/
def tsFit (s : ByteArray) : Bool := decide ((reA s).1 ≤ s.size - (reA s).2)
def tsS (s : ByteArray) : ByteArray := s.extract ((reA s).2 + (reA s).1) s.size
def tsQ (s : ByteArray) : ByteArray := if reTwo (tsS s) then reS (tsS s) else ⟨#[]⟩
def tsN (s : ByteArray) : Nat := if tsFit s then (reA (tsQ s)).1 else 0
def tsR (s : ByteArray) : ByteArray := if tsFit s then (tsQ s).extract (reA (tsQ s)).2 (tsQ s).size else ⟨#[]⟩
def tsO (s : ByteArray) : Bool := tsFit s && (reTwo (tsS s) && decide (0 < (reA (tsQ s)).2))
theorem tsQ_size (s : ByteArray) : (tsQ s).size ≤ s.size := by
  unfold tsQ
  split
  · have := reS_size (tsS s)
    have h2 : (tsS s).size ≤ s.size := by unfold tsS; rw [ByteArray.size_extract]; omega
    omega
  · exact Nat.zero_le _
theorem tsR_size {s : ByteArray} (h : tsO s = true) : (tsR s).size < s.size := by
  unfold tsO at h
  simp only [Bool.and_eq_true, decide_eq_true_eq] at h
  have h1 := tsQ_size s
  have h2 := reA_le (tsQ s)
  unfold tsR
  rw [if_pos h.1, ByteArray.size_extract]; omega
theorem tsN_lt (s : ByteArray) : tsN s < 9223372036854775808 := by
  unfold tsN
  split
  · exact (reA_le _).2.2
  · omega
/-- The place of a block tells its size. -/
theorem ts_place {l : List It} (h : okT l = true) {i : Nat} (hi : i < nb l) {s : ByteArray} {more : List UInt8} (hs : bl s = plcL l i ++ more) : tsO s = true ∧ tsN s = (blkL (chk l i)).length ∧ bl (tsR s) = more := by
  obtain ⟨t1, t2, t3, t4, t5, t6⟩ := plc_takes h hi more
  have hp := okT_parts h
  have hk := okIt_key (lastI_ok hp.1 hi)
  have v1 := varL_pos (lastI l i).n.toNat
  have v2 := varL_pos (bsL l i).length
  have v3 := varL_pos (blkL (chk l i)).length
  rw [← hs] at t1 t3 t4 t5 t6
  have hA : reA s = ((lastI l i).k.size, 1) := t1
  have hsz : s.size = (plcL l i).length + more.length := by rw [← bl_len, hs, List.length_append]
  have hpl : (plcL l i).length = 1 + (lastI l i).k.size + (varL (lastI l i).n.toNat).length + (varL (bsL l i).length).length + (varL (blkL (chk l i)).length).length := by
    have := var_small (lastI l i).k.size (by omega)
    simp only [plcL, List.length_append, bl_len, this]
  have hfit : tsFit s = true := by unfold tsFit; rw [hA]; simp only [decide_eq_true_eq]; omega
  generalize (lastI l i).k.size = K at *
  generalize (lastI l i).n.toNat = N at *
  generalize (bsL l i).length = Y at *
  generalize (blkL (chk l i)).length = Z at *
  have hS : bl (tsS s) = (bl s).drop (1 + K) := by unfold tsS; rw [hA, bl_from]
  have hSz : (tsS s).size = s.size - (1 + K) := by rw [← bl_len, hS, List.length_drop, bl_len]
  have hA2 : reA (tsS s) = (N, (varL N).length) := by
    show take (bl (tsS s)) = _
    rw [hS, t3]
  have hB2 : reB (tsS s) = (Y, (varL Y).length) := by
    have e : (reA (tsS s)).2 = (varL N).length := by rw [hA2]
    show take (bl ((tsS s).extract (reA (tsS s)).2 (tsS s).size)) = _
    rw [e, bl_from, hS, List.drop_drop, t4]
  have hTwo : reTwo (tsS s) = true := by
    unfold reTwo
    rw [hA2, hB2]
    simp only [Bool.and_eq_true, decide_eq_true_eq]
    exact ⟨by show (varL N).length ≠ 0; omega, by show (varL Y).length ≠ 0; omega⟩
  have hQ : bl (tsQ s) = (bl s).drop (1 + K + (varL N).length + (varL Y).length) := by
    unfold tsQ
    rw [if_pos hTwo]
    have e1 : (reA (tsS s)).2 = (varL N).length := by rw [hA2]
    have e2 : (reB (tsS s)).2 = (varL Y).length := by rw [hB2]
    unfold reS
    rw [e1, e2, bl_from, hS, List.drop_drop, ← Nat.add_assoc]
  have hA3 : reA (tsQ s) = (Z, (varL Z).length) := by
    show take (bl (tsQ s)) = _
    rw [hQ, t5]
  refine ⟨?_, ?_, ?_⟩
  · unfold tsO
    rw [hfit, hTwo, hA3]
    simp only [Bool.true_and, decide_eq_true_eq]
    show 0 < (varL Z).length
    omega
  · unfold tsN
    rw [if_pos hfit, hA3]
  · unfold tsR
    rw [if_pos hfit, hA3, bl_from, hQ, List.drop_drop]
    exact t6

set_option maxHeartbeats 2000000 in
theorem takeSize_any (s : ByteArray) (w : World) (hs : s.size ≤ 1048576) :
    Calls Tryz.prog 118 #[.string s] w fun e w' => e = .returned (.tuple #[.int .i64 (tsN s : Nat), .string (tsR s), .bool (tsO s)]) ∧ Below w.heap.size w w' := by
  have HN : Hid (tsN s = if tsFit s then (reA (tsQ s)).1 else 0) := rfl
  have HR : Hid (tsR s = if tsFit s then (tsQ s).extract (reA (tsQ s)).2 (tsQ s).size else ⟨#[]⟩) := rfl
  have HO : Hid (tsO s = (tsFit s && (reTwo (tsS s) && decide (0 < (reA (tsQ s)).2)))) := rfl
  have HQ : Hid (tsQ s = if reTwo (tsS s) then reS (tsS s) else ⟨#[]⟩) := rfl
  have HF : Hid (tsFit s = decide ((reA s).1 ≤ s.size - (reA s).2)) := rfl
  have HT : Hid (reT (tsS s) = if reTwo (tsS s) then .tuple #[.int .i64 (reA (tsS s)).1, .int .i64 (reB (tsS s)).1, .string (reS (tsS s)), .bool true] else .tuple #[.int .i64 0, .int .i64 0, .string ⟨#[]⟩, .bool false]) := rfl
  have HS : Hid (tsS s = s.extract ((reA s).2 + (reA s).1) s.size) := rfl
  have hq := tsQ_size s
  have hSs : (tsS s).size ≤ s.size := by unfold tsS; rw [ByteArray.size_extract]; omega
  obtain ⟨a1, a2, a3⟩ := reA_le s
  obtain ⟨q1, q2, q3⟩ := reA_le (tsQ s)
  have KA : ∀ w, Calls Tryz.prog 134 #[.string s] w fun e w' => e = .returned (.tuple #[.int .i64 ((reA s).1 : Nat), .int .i64 ((reA s).2 : Nat)]) ∧ w' = w := fun w => implTake_any s w hs
  have KT : ∀ w, Calls Tryz.prog 135 #[.string (s.extract ((reA s).2 + (reA s).1) s.size)] w fun e w' => e = .returned (reT (tsS s)) ∧ Below w.heap.size w w' := fun w => takeTwo_any (tsS s) w (by omega)
  have KQ : ∀ w, Calls Tryz.prog 134 #[.string (tsQ s)] w fun e w' => e = .returned (.tuple #[.int .i64 ((reA (tsQ s)).1 : Nat), .int .i64 ((reA (tsQ s)).2 : Nat)]) ∧ w' = w := fun w => implTake_any (tsQ s) w (by omega)
  generalize tsN s = RN at *
  generalize tsR s = RR at *
  generalize tsO s = RO at *
  generalize (reA s).1 = n at *
  generalize (reA s).2 = t at *
  generalize (reA (tsQ s)).1 = n2 at *
  generalize (reA (tsQ s)).2 = t2 at *
  have go : ∀ R : Value, R = .tuple #[.int .i64 (RN : Nat), .string RR, .bool RO] → True := fun _ _ => trivial
  clear go
  cases hf : tsFit s with
  | false =>
    rw [hf] at HN HR HO HF
    have hlt : s.size - t < n := by have := HF.out; simp only [Bool.false_eq, decide_eq_false_iff_not] at this; omega
    have g1 : decide ((s.size : Int) - (t : Int) < (n : Int)) = true := by simp; omega
    obtain rfl : RN = 0 := HN.out
    obtain rfl : RR = ⟨#[]⟩ := HR.out
    obtain rfl : RO = false := HO.out
    clear HN HR HO HF HT HS HQ KT KQ hf
    go_enter Tryz.func118, Tryz.ntmps118
    go_wp2_with fail
    refine (KA _).mono ?_
    rintro e w1 ⟨rfl, hw⟩
    rw [hw]; clear hw
    go_wp2
    go_ret3
    exact ⟨rfl, Below.refl _ _⟩
  | true =>
    rw [hf] at HN HR HO HF
    have hle : n ≤ s.size - t := by have := HF.out; simp only [Bool.true_eq, decide_eq_true_eq] at this; exact this
    have g1 : decide ((s.size : Int) - (t : Int) < (n : Int)) = false := by simp; omega
    have hqe : (⟨#[]⟩ : ByteArray).size = 0 := rfl
    cases hT : reTwo (tsS s) with
    | false =>
      rw [hT] at HO HQ HT
      rw [show tsQ s = ⟨#[]⟩ from HQ.out] at HR KQ q1 hq
      rw [show reT (tsS s) = .tuple #[.int .i64 0, .int .i64 0, .string ⟨#[]⟩, .bool false] from HT.out] at KT
      obtain rfl : RO = false := HO.out
      obtain rfl : t2 = 0 := by omega
      obtain rfl : RR = ⟨#[]⟩ := HR.out
      obtain rfl : RN = n2 := HN.out
      clear HN HR HO HF HT HS HQ hf hT hqe
      go_enter Tryz.func118, Tryz.ntmps118
      go_wp2_with fail
      refine (KA _).mono ?_
      rintro e w1 ⟨rfl, hw⟩
      rw [hw]; clear hw KA
      go_wp2_with fail
      refine (KT _).mono ?_
      rintro e w2 ⟨rfl, hb2⟩
      clear KT
      go_wp2_with fail
      refine (KQ _).mono ?_
      rintro e w3 ⟨rfl, hw⟩
      rw [hw]; clear hw KQ
      go_wp2_with fail
      go_quiet (fail)
      have hb3 := below_dn hb2 nq
      go_wp2
      go_ret3
      exact ⟨rfl, hb3⟩
    | true =>
      rw [hT] at HO HQ HT
      have hQS : tsQ s = reS (tsS s) := HQ.out
      rw [show reT (tsS s) = .tuple #[.int .i64 (reA (tsS s)).1, .int .i64 (reB (tsS s)).1, .string (reS (tsS s)), .bool true] from HT.out, ← hQS] at KT
      generalize (reA (tsS s)).1 = x1 at *
      generalize (reB (tsS s)).1 = x2 at *
      clear hQS HQ HT
      generalize tsQ s = Q at *
      by_cases h2 : 0 < t2
      · have HOE : Hid (RO = true) := by show _ = _; rw [HO.out, decide_eq_true h2]; rfl
        have HRE : Hid (RR = Q.extract t2 Q.size) := HR.out
        have g2 : decide ((0 : Int) < (t2 : Int)) = true := by simp; omega
        obtain rfl : RN = n2 := HN.out
        clear HN HR HO HF HS hf hT hqe
        go_enter Tryz.func118, Tryz.ntmps118
        go_wp2_with fail
        refine (KA _).mono ?_
        rintro e w1 ⟨rfl, hw⟩
        rw [hw]; clear hw KA
        go_wp2_with fail
        refine (KT _).mono ?_
        rintro e w2 ⟨rfl, hb2⟩
        clear KT
        go_wp2_with fail
        refine (KQ _).mono ?_
        rintro e w3 ⟨rfl, hw⟩
        rw [hw]; clear hw KQ
        go_wp2_with fail
        go_quiet (fail)
        have hb3 := below_dn hb2 nq
        go_wp2
        go_ret3
        exact ⟨by rw [HOE.out, HRE.out]; rfl, hb3⟩
      · obtain rfl : t2 = 0 := by omega
        have HOE : Hid (RO = false) := by show _ = _; rw [HO.out]; rfl
        have HRE : Hid (RR = Q) := HR.out.trans (by apply bl_inj; rw [if_pos rfl, bl_from]; simp)
        obtain rfl : RN = n2 := HN.out
        clear HN HR HO HF HS hf hT hqe h2
        go_enter Tryz.func118, Tryz.ntmps118
        go_wp2_with fail
        refine (KA _).mono ?_
        rintro e w1 ⟨rfl, hw⟩
        rw [hw]; clear hw KA
        go_wp2_with fail
        refine (KT _).mono ?_
        rintro e w2 ⟨rfl, hb2⟩
        clear KT
        go_wp2_with fail
        refine (KQ _).mono ?_
        rintro e w3 ⟨rfl, hw⟩
        rw [hw]; clear hw KQ
        go_wp2_with fail
        go_quiet (fail)
        have hb3 := below_dn hb2 nq
        go_wp2
        go_ret3
        exact ⟨by rw [HOE.out, HRE.out]; rfl, hb3⟩
end Go.Proofs.YtfdaffnkgpdhhaaGreat

namespace Go.Proofs.YtfdaffnkgpdhhaaGreat
open Go.RowKit
set_option linter.unusedVariables false
set_option maxRecDepth 100000

theorem rbL_items (s : ByteArray) : ∀ x ∈ rbL s, x.k.size ≤ 16 ∧ x.v.size ≤ 40 := by
  intro x hx
  rcases rb_res s with ⟨_, hg, _, _⟩ | ⟨_, h, _⟩
  · obtain ⟨i, hi, rfl⟩ := List.getElem_of_mem hx
    have hok := okIt_of hg hi
    rw [List.getD_eq_getElem?_getD, List.getElem?_eq_getElem hi] at hok
    exact ⟨(okIt_key hok).2, (okIt_kind hok).2⟩
  · rw [h] at hx; simp at hx
/-- What is left to be read of any table whose bytes these are. -/
def Told (s : List UInt8) (X B : List UInt8) (acc : List It) : Prop := ∀ m, okT m = true → tbL m = s → ∃ i, i ≤ nb m ∧ X = ixR m i ∧ B = bsR m i ∧ acc = m.take (8 * i)
theorem Told.done {s B : List UInt8} {acc : List It} (h : Told s [] B acc) : ∀ m, okT m = true → tbL m = s → acc = m := by
  intro m hm hs
  obtain ⟨i, hi, hx, _, ha⟩ := h m hm hs
  have := ixR_nil hm hi hx.symm
  subst this
  rw [ha, take_nb]
theorem Told.place {s : List UInt8} {X B : ByteArray} {acc : List It} (h : Told s (bl X) (bl B) acc) (hX : X.size ≠ 0) {m : List It} (hm : okT m = true) (hs : tbL m = s) : ∃ i, i < nb m ∧ bl X = plcL m i ++ ixR m (i + 1) ∧ bl B = blkL (chk m i) ++ bsR m (i + 1) ∧ acc = m.take (8 * i) := by
  obtain ⟨i, hi, hx, hb, ha⟩ := h m hm hs
  have hlt : i < nb m := by
    rcases Nat.lt_or_ge i (nb m) with h1 | h1
    · exact h1
    · obtain rfl : i = nb m := by omega
      rw [ixR_end] at hx
      exact absurd (by rw [← bl_len, hx]; rfl) hX
  exact ⟨i, hlt, by rw [hx, ixR_step hlt], by rw [hb, bsR_step hlt], ha⟩
theorem Told.stop_ok {s : List UInt8} {X B : ByteArray} {acc : List It} (h : Told s (bl X) (bl B) acc) (hX : X.size ≠ 0) (ho : tsO X = false) : ∀ m, okT m = true → tbL m = s → [] = m := by
  intro m hm hs
  obtain ⟨i, hi, hx, _, _⟩ := h.place hX hm hs
  rw [(ts_place hm hi hx).1] at ho
  cases ho
theorem Told.stop_big {s : List UInt8} {X B : ByteArray} {acc : List It} (h : Told s (bl X) (bl B) acc) (hX : X.size ≠ 0) (hn : B.size < tsN X) : ∀ m, okT m = true → tbL m = s → [] = m := by
  intro m hm hs
  obtain ⟨i, hi, hx, hb, _⟩ := h.place hX hm hs
  rw [(ts_place hm hi hx).2.1, ← bl_len, hb, List.length_append] at hn
  omega
theorem Told.step {s : List UInt8} {X B : ByteArray} {acc : List It} (h : Told s (bl X) (bl B) acc) (hX : X.size ≠ 0) : Told s (bl (tsR X)) (bl (B.extract (tsN X) B.size)) (acc ++ rbL (B.extract 0 (tsN X))) := by
  intro m hm hs
  obtain ⟨i, hi, hx, hb, ha⟩ := h.place hX hm hs
  obtain ⟨_, h2, h3⟩ := ts_place hm hi hx
  refine ⟨i + 1, hi, h3, ?_, ?_⟩
  · rw [bl_from, h2, hb, List.drop_left]
  · have hr := rb_res (B.extract 0 (tsN X))
    rw [bl_to, h2, hb, List.take_left] at hr
    have he := (rd_chk (okT_parts hm).1 hr).1
    rw [h2] at *
    rw [he, ha, chk_take]

theorem lo2_word (n : Nat) (q : List UInt8) (hn : n < 65536) : lo2 (wordL n ++ q) 0 = n := by
  unfold lo2 wordL
  simp only [List.cons_append, List.getD_cons_zero, List.getD_cons_succ, UInt8.toNat_ofNat']
  omega
/-- Where the index begins; the two parts. -/
def tbN (s : ByteArray) : Nat := lo2 (bl (s.extract (s.size - 8) s.size)) 0
theorem told_start (s : ByteArray) (h8 : 8 ≤ s.size) : (tbN s ≤ s.size - 8 → Told (bl s) (bl (tfT (s.extract (tbN s) s.size))) (bl (s.extract 0 (tbN s))) []) ∧ (¬ tbN s ≤ s.size - 8 → ∀ m, okT m = true → tbL m = bl s → [] = m) := by
  have key : ∀ m, okT m = true → tbL m = bl s → tbN s = (bsL m (nb m)).length ∧ tbN s ≤ s.size - 8 ∧ bl (tfT (s.extract (tbN s) s.size)) = ixL m (nb m) ∧ bl (s.extract 0 (tbN s)) = bsL m (nb m) := by
    intro m hm hs
    obtain ⟨B, I, F, rfl, rfl, rfl, hI, hF, hB, e⟩ := tb_parts hm
    rw [e] at hs
    have hsz : s.size = (bsL m (nb m)).length + ((frameL (ixL m (nb m))).length + ((frameL (bl (fbT m))).length + 8)) := by
      rw [← bl_len, ← hs]
      simp only [List.length_append, endL_len]
    have hn : tbN s = (bsL m (nb m)).length := by
      unfold tbN
      rw [bl_from, ← hs]
      have e8 : s.size - 8 = (bsL m (nb m) ++ (frameL (ixL m (nb m)) ++ frameL (bl (fbT m)))).length := by
        rw [hsz]; simp only [List.length_append]; omega
      rw [e8, show bsL m (nb m) ++ (frameL (ixL m (nb m)) ++ (frameL (bl (fbT m)) ++ endL (bsL m (nb m)).length)) = (bsL m (nb m) ++ (frameL (ixL m (nb m)) ++ frameL (bl (fbT m)))) ++ endL (bsL m (nb m)).length from by simp, List.drop_left]
      exact lo2_word _ _ (by omega)
    refine ⟨hn, by omega, ?_, ?_⟩
    · have hr : (s.extract (tbN s) s.size).data.toList = frameL (ixL m (nb m)) ++ (frameL (bl (fbT m)) ++ endL (bsL m (nb m)).length) := by
        show bl (s.extract (tbN s) s.size) = _
        rw [bl_from, hn, ← hs, List.drop_left]
      rw [(tf_front _ _ _ (by omega) hr).2.1]; rfl
    · rw [bl_to, hn, ← hs, List.take_left]
  refine ⟨fun _ m hm hs => ?_, fun hn m hm hs => absurd (key m hm hs).2.1 hn⟩
  obtain ⟨_, _, h3, h4⟩ := key m hm hs
  exact ⟨0, Nat.zero_le _, by rw [h3, ixR_zero], by rw [h4, bsR_zero], by simp⟩
theorem tfT_size (s : ByteArray) : (tfT s).size ≤ 1000 := by
  unfold tfT
  split
  · rename_i h
    have hf : tfFits s := by
      unfold tfOk at h
      simp only [Bool.and_eq_true, decide_eq_true_eq] at h
      exact h.1
    rw [tfBody_size s hf]
    exact hf.2.1
  · exact Nat.zero_le _
end Go.Proofs.YtfdaffnkgpdhhaaGreat

namespace Go.Proofs.YtfdaffnkgpdhhaaGreat
open Go.RowKit
set_option linter.unusedVariables false
set_option maxRecDepth 100000

def StopU (p : Prop) : Prop := p
theorem StopU.go {p : Prop} (h : StopU p) : p := h
def SmallIts (l : List It) : Prop := ∀ x ∈ l, x.k.size ≤ 16 ∧ x.v.size ≤ 40
/-- What itemsToldIn answers. -/
def ToldA (s : ByteArray) (w : World) (e : Ending) (w' : World) : Prop :=
  ∃ v l, e = .returned v ∧ w'.ownsRow w.heap.size 33 4 v l.length (flat4 l) ∧ l.length ≤ 40000 ∧ SmallIts l ∧ (∀ m, okT m = true → tbL m = bl s → l = m) ∧ Below w.heap.size w w'
theorem ToldA.none {s : ByteArray} {w w' : World} (h : ∀ m, okT m = true → tbL m = bl s → [] = m) (hb : Below w.heap.size w w') : ToldA s w (.returned (.slice none 0 0)) w' :=
  ⟨_, [], rfl, World.ownsRow_nil _ _ _ _, by simp, by intro x hx; simp at hx, h, hb⟩
theorem notold (s : ByteArray) (h : s.size < 8) : ∀ m, okT m = true → tbL m = bl s → [] = m := by
  intro m hm hs
  obtain ⟨B, I, F, _, _, _, _, _, _, e⟩ := tb_parts hm
  have := congrArg List.length (e.symm.trans hs)
  rw [bl_len] at this
  simp only [List.length_append, endL_len] at this
  omega
theorem flat4_one (l : List It) : ∀ u ∈ flat4 l, u.oneCell' = true := by
  induction l with
  | nil => intro u hu; simp [flat4] at hu
  | cons x r ih =>
    intro u hu
    simp only [flat4, List.mem_cons] at hu
    rcases hu with rfl | rfl | rfl | rfl | hu
    · rfl
    · rfl
    · rfl
    · rfl
    · exact ih u hu
set_option maxHeartbeats 4000000 in
theorem itemsTold_any (s : ByteArray) (w : World) (hs : s.size ≤ 1048576) :
    Calls Tryz.prog 79 #[.string s] w (ToldA s w) := by
  obtain ⟨i0, hi, hz0, hzs, hzb⟩ := info_parts Tryz.info33
  by_cases h8 : s.size < 8
  · have HN : Hid _ := notold s h8
    have g1 : decide ((s.size : Int) - 8 < 0) = true := by simp; omega
    go_enter Tryz.func79, Tryz.ntmps79
    go_wp2
    go_ret
    exact ToldA.none HN.out (Below.refl _ _)
  · have g1 : decide ((s.size : Int) - 8 < 0) = false := by simp; omega
    have HST : Hid _ := told_start s (by omega)
    have KP : ∀ w, Calls Tryz.prog 116 #[.string (s.extract (s.size - 8) s.size)] w fun e w' => e = .returned (.int .i64 (tbN s : Nat)) ∧ Below w.heap.size w w' := fun w => placeFrom_any (s.extract (s.size - 8) s.size) w (by rw [ByteArray.size_extract]; omega) (by rw [ByteArray.size_extract]; omega)
    have hN : tbN s < 65536 := lo2_lt _ _
    generalize tbN s = N at *
    by_cases hle : N ≤ s.size - 8
    · have HT : Hid _ := HST.out.1 hle
      have g2 : decide ((s.size : Int) - 8 < (N : Int)) = false := by simp; omega
      have KF := fun w => implTakeFrame_any (s.extract N s.size) w (by rw [ByteArray.size_extract]; omega)
      have hFs := tfT_size (s.extract N s.size)
      have hBs : (s.extract 0 N).size ≤ 1048576 := by rw [ByteArray.size_extract]; omega
      clear HST
      generalize tfT (s.extract N s.size) = X0 at *
      generalize (tfN (s.extract N s.size)) = x1 at *
      generalize (tfOk (s.extract N s.size)) = x2 at *
      go_enter Tryz.func79, Tryz.ntmps79
      go_wp2_with fail
      refine (KP _).mono ?_
      rintro e w1 ⟨rfl, hb1⟩
      clear KP
      go_wp2_with fail
      refine (KF _).mono ?_
      rintro e w2 ⟨rfl, hb2⟩
      have hB2 := below_then hb1 hb2
      clear KF hb1 hb2
      generalize hB0e : s.extract 0 N = B0 at *
      clear hB0e
      go_wp2_with fail
      go_loopw [5, 6, 7] (fun bv lv xv wr => ∃ (X B : ByteArray) (acc : List It), bv = .string B ∧ xv = .string X ∧ wr.ownsRow w.heap.size 33 4 lv acc.length (flat4 acc) ∧ acc.length + 40 * X.size ≤ 40000 ∧ B.size ≤ 1048576 ∧ SmallIts acc ∧ Told (bl s) (bl X) (bl B) acc ∧ Below w.heap.size w wr) (fun _ _ xv _ => strLen xv)
      case atStart => exact ⟨X0, B0, [], rfl, rfl, World.ownsRow_nil _ _ _ _, by simp; omega, hBs, by intro x hx; simp at hx, HT.out, hB2⟩
      case round =>
        clear hB2 HT hFs hBs
        obtain ⟨X, B, acc, rfl, rfl, hown, hlen, hBs, hsm, htold, hB⟩ := hrel
        have HT : Hid (Told (bl s) (bl X) (bl B) acc) := htold
        clear htold
        obtain ⟨la, lc, rfl⟩ : ∃ la lc, u6 = .slice la acc.length lc := by
          rcases hown.2 with ⟨h, h0⟩ | ⟨g, c, cur, h, _⟩
          · exact ⟨none, 0, by rw [h, h0]⟩
          · exact ⟨_, _, h⟩
        by_cases hX : X.size = 0
        · obtain rfl := empty_of_size hX
          have HD : Hid _ := HT.out.done
          clear HT
          go_wp2
          go_ret
          exact ⟨_, acc, rfl, hown, by omega, hsm, HD.out, hB⟩
        · have hz' : X.toList.isEmpty = false := by rw [isEmpty_eq]; simp [hX]
          have KS := fun w => takeSize_any X w (by omega)
          have hNl := tsN_lt X
          cases hO : tsO X with
          | false =>
            have HD : Hid _ := HT.out.stop_ok hX hO
            rw [hO] at KS
            clear HT hown
            generalize tsN X = n at *
            generalize tsR X = R at *
            go_wp2_with fail
            refine (KS _).mono ?_
            rintro e w3 ⟨rfl, hb3⟩
            have hB3 := below_then hB hb3
            go_wp2
            go_ret
            exact ToldA.none HD.out hB3
          | true =>
            rw [hO] at KS
            have hRs := tsR_size hO
            by_cases hbig : B.size < tsN X
            · have HD : Hid _ := HT.out.stop_big hX hbig
              have g3 : decide ((B.size : Int) < (tsN X : Int)) = true := by simp; omega
              clear HT hown
              generalize tsN X = n at *
              generalize tsR X = R at *
              go_wp2_with fail
              refine (KS _).mono ?_
              rintro e w3 ⟨rfl, hb3⟩
              have hB3 := below_then hB hb3
              go_wp2
              go_ret
              exact ToldA.none HD.out hB3
            · have g3 : decide ((B.size : Int) < (tsN X : Int)) = false := by simp; omega
              have HD : Hid _ := HT.out.step hX
              have KR := fun w => implRead_rb (B.extract 0 (tsN X)) w (by rw [ByteArray.size_extract]; omega)
              have hrl := rbL_len (B.extract 0 (tsN X))
              have hri := rbL_items (B.extract 0 (tsN X))
              have hcs : (B.extract (tsN X) B.size).size ≤ 1048576 := by rw [ByteArray.size_extract]; omega
              have hsm2 : SmallIts (acc ++ rbL (B.extract 0 (tsN X))) := fun x hx => (List.mem_append.1 hx).elim (hsm x) (hri x)
              clear HT hsm hri
              generalize rbOk (B.extract 0 (tsN X)) = ro at *
              generalize rbL (B.extract 0 (tsN X)) = rl at *
              generalize tsR X = R at *
              have hnB : tsN X ≤ B.size := by omega
              generalize tsN X = n at *
              clear hbig
              go_wp2_with fail
              refine (KS _).mono ?_
              rintro e w3 ⟨rfl, hb3⟩
              have hB3 := below_then hB hb3
              have hown3 := owns_below hown hb3
              clear KS hB hb3 hown
              go_wp2_with fail
              refine (KR _).mono ?_
              rintro e w4 ⟨rv, rfl, hro, hb4⟩
              have hB4 := below_then hB3 hb4
              have hown4 := owns_below hown3 hb4
              have hz4 := hB4.size
              clear KR hB3 hown3
              rcases hro.2 with ⟨hrv, hr0⟩ | ⟨g, rc, cur, hrv, hgb, hgh, hrc⟩
              · obtain rfl : rl = [] := List.eq_nil_of_length_eq_zero hr0
                subst hrv
                rw [List.append_nil] at HD hsm2
                clear hro hb4 hrl
                go_wp2_with (first | (at_builtin; refine wpList_append_own_none rfl _ _ 23 rfl w.heap.size 33 i0 4 Tryz.underlying23 hi (.slice la acc.length lc) acc.length (flat4 acc) rfl hown4 rfl ?_) | fail)
                go_quiet (fail)
                have hB5 := below_dn hB4 nq
                have hown5 : (w4.drewN nq).ownsRow w.heap.size 33 4 (.slice la acc.length lc) acc.length (flat4 acc) := hown4
                generalize w4.drewN nq = w5 at *
                clear hown4 hB4
                go_wp2
                go_roundw
                case rel => exact ⟨R, B.extract n B.size, acc, rfl, rfl, hown5, by omega, hcs, hsm2, HD.out, hB5⟩
                case measure => exact hRs
              · subst hrv
                have hnews := hro.cells (g := g) rfl
                have hone : ∀ u ∈ flat4 rl, u.oneCell' = true := flat4_one rl
                have hfl := flat4_length rl
                have hge := owns_ge hown4
                clear hro hb4 hgh hgb hrc
                go_wp2_with (at_builtin; refine wpList_append_own _ rfl _ _ 23 rfl w.heap.size 33 i0 (.agg #[.string ⟨#[]⟩, .int .i64 0, .int .i64 0, .string ⟨#[]⟩]) 4 48 Tryz.underlying23 hi hz0 hzs hzb rfl (by decide) _ acc.length (flat4 acc) rfl hown4 ⟨g, 0, none⟩ rl.length rc (flat4 rl) rfl hfl hnews hone (by unfold maxLen; omega) (by omega) (by omega) ?_; intro v' w5 hown5 hgrow5 _; refine StopU.go ?_)
                have hB5 : Below w.heap.size w w5 := hB4.grown hgrow5 (by omega) hge
                rw [← flat4_append, ← List.length_append] at hown5
                have hal : (acc ++ rl).length = acc.length + rl.length := List.length_append
                clear hgrow5 hnews hone hB4 hown4 hge
                unfold StopU
                go_wp2_with fail
                go_quiet (fail)
                have hB6 := below_dn hB5 nq
                have hown6 : (w5.drewN nq).ownsRow w.heap.size 33 4 v' (acc ++ rl).length (flat4 (acc ++ rl)) := hown5
                generalize w5.drewN nq = w6 at *
                clear hown5 hB5
                go_wp2
                go_roundw
                case rel => exact ⟨R, B.extract n B.size, acc ++ rl, rfl, rfl, hown6, by omega, hcs, hsm2, HD.out, hB6⟩
                case measure => exact hRs
    · have HD : Hid _ := HST.out.2 hle
      have g2 : decide ((s.size : Int) - 8 < (N : Int)) = true := by simp; omega
      clear HST
      go_enter Tryz.func79, Tryz.ntmps79
      go_wp2_with fail
      refine (KP _).mono ?_
      rintro e w1 ⟨rfl, hb1⟩
      clear KP
      go_wp2
      go_ret
      exact ToldA.none HD.out hb1
end Go.Proofs.YtfdaffnkgpdhhaaGreat

