/-
  VisibleAt and ScanAt of the specification.
-/
import Derived.Test.YtjenogmpmkkbiaaU8
import Derived.Test.YtjenogmpmkkbiaaS9
namespace Go.Proofs.Ytjenogmpmkkbiaa
open Go.RowKit
set_option linter.unusedVariables false
set_option maxRecDepth 100000

theorem owns_lower {w : World} {base base' : Nat} {e : TypeId} {size : Nat} {v : Value} {n : Nat} {xs : List Value} (h : w.ownsRow base e size v n xs) (hb : base' ≤ base) : w.ownsRow base' e size v n xs := by
  refine ⟨h.1, ?_⟩
  rcases h.2 with h | ⟨g, c, cur, h, hg, hh⟩
  · exact .inl h
  · exact .inr ⟨g, c, cur, h, by omega, hh⟩
theorem scan_step (P : List (ByteArray × ByteArray)) (f t : ByteArray) (k : Nat) (h : k < P.length) : scanL (P.take (k + 1)) f t = if inB f t P[k].1 = true then scanL (P.take k) f t ++ [(P[k].1, P[k].2)] else scanL (P.take k) f t := by
  rw [List.take_succ_eq_append_getElem h]
  unfold scanL
  rw [List.filter_append]
  by_cases hb : inB f t P[k].1 = true
  · rw [if_pos hb]; simp [hb]
  · rw [if_neg hb]; simp [hb]
theorem scan_len (P : List (ByteArray × ByteArray)) (f t : ByteArray) : (scanL P f t).length ≤ P.length := List.length_filter_le _ _
theorem prs_step (S : List It) (k : Nat) (h : k < S.length) : prs (S.take (k + 1)) = if S[k].d = 1 then prs (S.take k) ++ [(S[k].k, S[k].v)] else prs (S.take k) := by
  rw [List.take_succ_eq_append_getElem h, prs_append, prs_one]
  split
  · rfl
  · simp
theorem prs_len (S : List It) : (prs S).length ≤ S.length := by
  unfold prs; rw [List.length_map]; exact List.length_filter_le _ _

set_option maxHeartbeats 4000000 in
theorem l8Visible_any (v : Value) (l : List It) (q : Int) (w : World) (hv : IR w v l) (hn : l.length ≤ 1048576) (hg : goodR l = true) :
    Calls Try.prog 61 #[v, .int .i64 q] w fun e w' => ∃ u, e = .returned u ∧ w'.ownsRow w.heap.size 45 2 u (prs (seenL l q)).length (flat2 (prs (seenL l q))) ∧ Below w.heap.size w w' := by
  have K := l8Seen_any v l q w hv hn hg
  have hSl : (seenL l q).length ≤ l.length := seenTo_len l q l.length
  obtain ⟨i0, hi, hz0, hzs, hzb⟩ := info_parts Try.info45
  generalize seenL l q = S at *
  clear hv
  go_enter Try.func61, Try.ntmps61
  go_wp2_with fail
  refine K.mono ?_
  rintro e w1 ⟨uS, rfl, hoS, hb1⟩
  obtain ⟨a, cap, rfl, hc⟩ := IR_of_owns hoS rfl
  have hz1 := hb1.size
  clear K hoS
  go_wp2
  go_loopw [5, 12] (fun t i wr => ∃ k : Nat, k ≤ S.length ∧ i = .int .i64 k ∧ wr.ownsRow w1.heap.size 45 2 t (prs (S.take k)).length (flat2 (prs (S.take k))) ∧ Below w1.heap.size w1 wr) (fun _ i _ => S.length - (intOf i).toNat)
  case atStart => exact ⟨0, Nat.zero_le _, rfl, World.ownsRow_nil _ _ _ _, Below.refl _ _⟩
  case round =>
    obtain ⟨k, hk, rfl, hown, hb⟩ := hrel
    have hz := hb.size
    obtain ⟨av, cv, rfl, _⟩ := PR_of_owns hown rfl
    by_cases hlt : k < S.length
    · obtain ⟨b, off, rfl, hbl, hcell⟩ := hc (by intro e; simp [e] at hlt)
      have hc0 := (hb.cell (p := ⟨b, off + k * 4, none⟩) hbl).trans (hcell k hlt).1
      have hc1 := (hb.cell (p := ⟨b, off + k * 4 + 1, none⟩) hbl).trans (hcell k hlt).2.1
      have hc2 := (hb.cell (p := ⟨b, off + k * 4 + 2, none⟩) hbl).trans (hcell k hlt).2.2.1
      have hc3 := (hb.cell (p := ⟨b, off + k * 4 + 3, none⟩) hbl).trans (hcell k hlt).2.2.2
      have hbW : b < wr.heap.size := by omega
      have HT : Hid (prs (S.take (k + 1)) = if S[k].d = 1 then prs (S.take k) ++ [(S[k].k, S[k].v)] else prs (S.take k)) := prs_step S k hlt
      have hlen : (prs (S.take k)).length ≤ k := by have := prs_len (S.take k); rw [List.length_take] at this; omega
      clear hcell hc
      generalize prs (S.take k) = L at *
      generalize S[k] = s at *
      obtain ⟨sk, sn, sd, sv⟩ := s
      dsimp only at *
      obtain ⟨N, hNL⟩ : ∃ N, N = L.length := ⟨_, rfl⟩
      have HN : Hid (N = L.length) := hNL
      rw [← hNL] at hown hlen ⊢
      clear hNL
      by_cases hd : sd = 1
      · have HT2 : Hid (prs (S.take (k + 1)) = L ++ [(sk, sv)]) := by show _ = _; rw [HT.out, if_pos hd]
        subst hd
        clear HT
        have hown2 := owns_below hown (below_alloc wr (.cells #[.string sk, .int .i64 sn, .int .i64 1, .string sv] 83))
        have hcn := cells_new2 (wr.alloc (.cells #[.string sk, .int .i64 sn, .int .i64 1, .string sv] 83)) (sk, sv)
        simp only [World.size_alloc] at hcn
        clear hown
        go_wp2_with (at_builtin; refine wpList_append_own _ rfl _ _ 33 rfl w1.heap.size 45 i0 (.agg #[.string ⟨#[]⟩, .string ⟨#[]⟩]) 2 32 Try.underlying33 hi hz0 hzs hzb rfl (by decide) _ N (flat2 L) rfl (owns_below hown2 (below_alloc _ _)) ⟨wr.heap.size + 1, 0, none⟩ 1 1 (flat2 [(sk, sv)]) rfl rfl hcn (one2 _) (by unfold maxLen; omega) (by omega) (by simp; omega) ?_; intro v' w3 hown3 hgrow3 _)
        go_roundw
        case rel =>
          refine ⟨k + 1, by omega, by go_num, by rw [HT2.out, List.length_append, flat2_append, ← HN.out]; exact hown3, ((hb.alloc hz _).alloc (by simp; omega) _).grown hgrow3 (by simp; omega) (owns_ge hown2)⟩
        case measure => simp [intOf]; omega
      · have HT2 : Hid (prs (S.take (k + 1)) = L) := by show _ = _; rw [HT.out, if_neg hd]
        have hd2 : decide (sd = 1) = false := decide_eq_false hd
        have hd3 : (sd == 1) = false := by simpa using hd
        clear HT hi hz0 hzs hzb
        go_wp2
        go_roundw
        case rel => exact ⟨k + 1, by omega, by go_num, by rw [HT2.out, ← HN.out]; exact owns_below hown (below_alloc _ _), hb.alloc hz _⟩
        case measure => simp [intOf]; omega
    · obtain rfl : k = S.length := by omega
      rw [List.take_length] at hown ⊢
      clear hc hi hz0 hzs hzb
      go_wp2
      go_ret
      refine ⟨_, rfl, ?_, below_then hb1 hb⟩
      exact owns_lower hown hz1
set_option maxHeartbeats 4000000 in
theorem l8Scan_any (v : Value) (P : List (ByteArray × ByteArray)) (f t : ByteArray) (w : World) (hv : PR w v P) (hn : P.length ≤ 1048576) :
    Calls Try.prog 60 #[v, .string f, .string t] w fun e w' => ∃ u, e = .returned u ∧ w'.ownsRow w.heap.size 45 2 u (scanL P f t).length (flat2 (scanL P f t)) ∧ Below w.heap.size w w' := by
  obtain ⟨i0, hi, hz0, hzs, hzb⟩ := info_parts Try.info45
  obtain ⟨a, cap, rfl, hc⟩ := hv
  go_enter Try.func60, Try.ntmps60
  go_wp2
  go_loopw [7, 12] (fun u i wr => ∃ k : Nat, k ≤ P.length ∧ i = .int .i64 k ∧ wr.ownsRow w.heap.size 45 2 u (scanL (P.take k) f t).length (flat2 (scanL (P.take k) f t)) ∧ Below w.heap.size w wr) (fun _ i _ => P.length - (intOf i).toNat)
  case atStart => exact ⟨0, Nat.zero_le _, rfl, World.ownsRow_nil _ _ _ _, Below.refl _ _⟩
  case round =>
    obtain ⟨k, hk, rfl, hown, hb⟩ := hrel
    have hz := hb.size
    obtain ⟨av, cv, rfl, _⟩ := PR_of_owns hown rfl
    by_cases hlt : k < P.length
    · obtain ⟨b, off, rfl, hbl, hcell⟩ := hc (by intro e; simp [e] at hlt)
      have hc0 := (hb.cell (p := ⟨b, off + k * 2, none⟩) hbl).trans (hcell k hlt).1
      have hc1 := (hb.cell (p := ⟨b, off + k * 2 + 1, none⟩) hbl).trans (hcell k hlt).2
      have hbW : b < wr.heap.size := by omega
      have HT : Hid (scanL (P.take (k + 1)) f t = if inB f t P[k].1 = true then scanL (P.take k) f t ++ [(P[k].1, P[k].2)] else scanL (P.take k) f t) := scan_step P f t k hlt
      have hlen : (scanL (P.take k) f t).length ≤ k := by have := scan_len (P.take k) f t; rw [List.length_take] at this; omega
      clear hcell hc
      generalize scanL (P.take k) f t = L at *
      generalize P[k] = s at *
      obtain ⟨sk, sv⟩ := s
      dsimp only at *
      obtain ⟨N, hNL⟩ : ∃ N, N = L.length := ⟨_, rfl⟩
      have HN : Hid (N = L.length) := hNL
      rw [← hNL] at hown hlen ⊢
      clear hNL
      have HI : Hid (inB f t sk = (!Op.bytesLess sk.toList f.toList && (t.toList.isEmpty || Op.bytesLess sk.toList t.toList))) := by show _ = _; unfold inB; rw [isEmpty_eq]
      cases h1 : Op.bytesLess sk.toList f.toList with
      | true =>
        have HT2 : Hid (scanL (P.take (k + 1)) f t = L) := by show _ = _; rw [HT.out, HI.out, h1]; rfl
        clear HT HI hi hz0 hzs hzb
        go_wp2
        go_roundw
        case rel => exact ⟨k + 1, by omega, by go_num, by rw [HT2.out, ← HN.out]; exact owns_below hown (below_alloc _ _), hb.alloc hz _⟩
        case measure => simp [intOf]; omega
      | false =>
        cases h2 : (t.toList.isEmpty || Op.bytesLess sk.toList t.toList) with
        | false =>
          have HT2 : Hid (scanL (P.take (k + 1)) f t = L) := by show _ = _; rw [HT.out, HI.out, h1, h2]; rfl
          rw [Bool.or_eq_false_iff] at h2
          obtain ⟨h3, h4⟩ := h2
          clear HT HI hi hz0 hzs hzb
          go_wp2
          go_roundw
          case rel => exact ⟨k + 1, by omega, by go_num, by rw [HT2.out, ← HN.out]; exact owns_below hown (below_alloc _ _), hb.alloc hz _⟩
          case measure => simp [intOf]; omega
        | true =>
          have HT2 : Hid (scanL (P.take (k + 1)) f t = L ++ [(sk, sv)]) := by show _ = _; rw [HT.out, HI.out, h1, h2]; rfl
          clear HT HI
          have hown2 := owns_below hown (below_alloc wr (.cells #[.string sk, .string sv] 45))
          have hcn := cells_new2 (wr.alloc (.cells #[.string sk, .string sv] 45)) (sk, sv)
          simp only [World.size_alloc] at hcn
          clear hown
          cases h3 : t.toList.isEmpty with
          | true =>
            clear h2
            go_wp2_with (at_builtin; refine wpList_append_own _ rfl _ _ 33 rfl w.heap.size 45 i0 (.agg #[.string ⟨#[]⟩, .string ⟨#[]⟩]) 2 32 Try.underlying33 hi hz0 hzs hzb rfl (by decide) _ N (flat2 L) rfl (owns_below hown2 (below_alloc _ _)) ⟨wr.heap.size + 1, 0, none⟩ 1 1 (flat2 [(sk, sv)]) rfl rfl hcn (one2 _) (by unfold maxLen; omega) (by omega) (by simp; omega) ?_; intro v' w3 hown3 hgrow3 _)
            go_roundw
            case rel =>
              refine ⟨k + 1, by omega, by go_num, by rw [HT2.out, List.length_append, flat2_append, ← HN.out]; exact hown3, ((hb.alloc hz _).alloc (by simp; omega) _).grown hgrow3 (by simp; omega) (owns_ge hown2)⟩
            case measure => simp [intOf]; omega
          | false =>
            rw [h3, Bool.false_or] at h2
            go_wp2_with (at_builtin; refine wpList_append_own _ rfl _ _ 33 rfl w.heap.size 45 i0 (.agg #[.string ⟨#[]⟩, .string ⟨#[]⟩]) 2 32 Try.underlying33 hi hz0 hzs hzb rfl (by decide) _ N (flat2 L) rfl (owns_below hown2 (below_alloc _ _)) ⟨wr.heap.size + 1, 0, none⟩ 1 1 (flat2 [(sk, sv)]) rfl rfl hcn (one2 _) (by unfold maxLen; omega) (by omega) (by simp; omega) ?_; intro v' w3 hown3 hgrow3 _)
            go_roundw
            case rel =>
              refine ⟨k + 1, by omega, by go_num, by rw [HT2.out, List.length_append, flat2_append, ← HN.out]; exact hown3, ((hb.alloc hz _).alloc (by simp; omega) _).grown hgrow3 (by simp; omega) (owns_ge hown2)⟩
            case measure => simp [intOf]; omega
    · obtain rfl : k = P.length := by omega
      rw [List.take_length] at hown ⊢
      clear hc hi hz0 hzs hzb
      go_wp2
      go_ret
      exact ⟨_, rfl, hown, hb⟩

def vsB (l : List It) (q : Int) : Bool := mayM l && okSeq q
def vsL (l : List It) (q : Int) : List (ByteArray × ByteArray) := if vsB l q then prs (seenL l q) else []
def scB (l : List It) (f t : ByteArray) (q : Int) : Bool := mayM l && okSeq q && decide ((f.size : Int) ≤ 16) && decide ((t.size : Int) ≤ 16)
def scL (l : List It) (f t : ByteArray) (q : Int) : List (ByteArray × ByteArray) := if scB l f t q then scanL (prs (seenL l q)) f t else []
theorem mayM_good {l : List It} (h : mayM l = true) : goodR l = true ∧ l.length ≤ 400 := by
  unfold mayM at h
  simp only [Bool.and_eq_true, decide_eq_true_eq] at h
  exact ⟨h.2, h.1⟩
theorem sc_empty (l : List It) (q : Int) : scB l ⟨#[]⟩ ⟨#[]⟩ q = vsB l q ∧ scL l ⟨#[]⟩ ⟨#[]⟩ q = vsL l q := by
  have h1 : scB l ⟨#[]⟩ ⟨#[]⟩ q = vsB l q := by
    have e : decide (((⟨#[]⟩ : ByteArray).size : Int) ≤ 16) = true := by decide
    simp only [scB, vsB, e, Bool.and_true]
  refine ⟨h1, ?_⟩
  unfold scL vsL
  rw [h1, scan_empty]

set_option maxHeartbeats 4000000 in
theorem specVisible_any (v : Value) (l : List It) (q : Int) (w : World) (hv : IR w v l) (hn : l.length ≤ 1048576) (hs : ∀ i (h : i < l.length), l[i].k.size ≤ 1048576 ∧ l[i].v.size ≤ 1048576) :
    Calls Try.prog 40 #[.agg #[v], .int .i64 q] w fun e w' => ∃ u, e = .returned (.tuple #[u, .bool (vsB l q)]) ∧ w'.ownsRow w.heap.size 45 2 u (vsL l q).length (flat2 (vsL l q)) ∧ Below w.heap.size w w' := by
  have hv1 := hv.below (below_alloc w (.cells #[v] 25))
  have K := l8Run_any v l _ hv1 hn hs
  have KQ := fun w => l4Seq_any q w
  have KV := fun w' h => fun hg => l8Visible_any v l q w' h hn hg
  have HV : Hid (vsL l q = if mayM l && okSeq q then prs (seenL l q) else []) := rfl
  have HB : Hid (vsB l q = (mayM l && okSeq q)) := rfl
  have HG := @mayM_good l
  generalize prs (seenL l q) = Z at *
  generalize vsL l q = VL at *
  generalize vsB l q = VB at *
  generalize mayM l = m at *
  generalize goodR l = gr at *
  generalize okSeq q = oq at *
  have hX := Box.new w #[v] 25
  obtain ⟨a, cap, hve, _⟩ := id hv
  have hB0 := below_alloc w (.cells #[v] 25)
  subst hve
  clear hv hs
  go_enter Try.func40, Try.ntmps40
  go_wp2_with fail
  refine K.mono ?_
  rintro e w1 ⟨rfl, hb1⟩
  have X1 := hX.below hb1
  have hv2 := hv1.below hb1
  have hB1 := below_then hB0 hb1
  have c1 := X1.2.1 0 _ rfl
  clear K hX hB0 hb1 hv1
  cases m with
  | false =>
    obtain rfl : VB = false := HB.out
    obtain rfl : VL = [] := HV.out
    clear HV HB HG KQ KV X1 hv2
    go_wp2
    exact bodyPost_ret (v := .tuple #[.slice none 0 0, .bool false]) (by simp [results, Try.results40, go_sem]) rfl ⟨_, rfl, World.ownsRow_nil _ _ _ _, hB1⟩
  | true =>
    have hgr := (HG rfl).1
    go_wp2_with fail
    refine (KQ _).mono ?_
    rintro e w2 ⟨rfl, hw2⟩
    subst hw2
    cases oq with
    | false =>
      obtain rfl : VB = false := HB.out
      obtain rfl : VL = [] := HV.out
      clear HV HB HG KQ KV X1 hv2
      go_wp2
      exact bodyPost_ret (v := .tuple #[.slice none 0 0, .bool false]) (by simp [results, Try.results40, go_sem]) rfl ⟨_, rfl, World.ownsRow_nil _ _ _ _, hB1⟩
    | true =>
      obtain rfl : VB = true := HB.out
      obtain rfl : VL = Z := HV.out
      clear HV HB HG KQ
      go_wp2_with fail
      refine (KV _ hv2 hgr).mono ?_
      rintro e w3 ⟨u, rfl, ho, hb3⟩
      have hB3 := below_then hB1 hb3
      have hO := owns_lower ho hB1.size
      clear ho hb3 KV hB1 X1 c1
      go_wp2
      exact bodyPost_ret (v := .tuple #[u, .bool true]) (by simp [results, Try.results40, go_sem]) rfl ⟨_, rfl, hO, hB3⟩

set_option maxHeartbeats 4000000 in
theorem specScan_any (v : Value) (l : List It) (f t : ByteArray) (q : Int) (w : World) (hv : IR w v l) (hn : l.length ≤ 1048576) (hs : ∀ i (h : i < l.length), l[i].k.size ≤ 1048576 ∧ l[i].v.size ≤ 1048576) (hf : f.size ≤ 1048576) (ht : t.size ≤ 1048576) :
    Calls Try.prog 25 #[.agg #[v], .string f, .string t, .int .i64 q] w fun e w' => ∃ u, e = .returned (.tuple #[u, .bool (scB l f t q)]) ∧ w'.ownsRow w.heap.size 45 2 u (scL l f t q).length (flat2 (scL l f t q)) ∧ Below w.heap.size w w' := by
  have hv1 := hv.below (below_alloc w (.cells #[v] 25))
  have K := l8Run_any v l _ hv1 hn hs
  have KQ := fun w => l4Seq_any q w
  have KV := fun w' h => fun hg => l8Visible_any v l q w' h hn hg
  have hSl : (prs (seenL l q)).length ≤ 1048576 := Nat.le_trans (prs_len _) (Nat.le_trans (seenTo_len l q l.length) hn)
  have KS := fun u w' h => l8Scan_any u (prs (seenL l q)) f t w' h hSl
  have HV : Hid (scL l f t q = if mayM l && okSeq q && decide ((f.size : Int) ≤ 16) && decide ((t.size : Int) ≤ 16) then scanL (prs (seenL l q)) f t else []) := rfl
  have HB : Hid (scB l f t q = (mayM l && okSeq q && decide ((f.size : Int) ≤ 16) && decide ((t.size : Int) ≤ 16))) := rfl
  have HG := @mayM_good l
  generalize scanL (prs (seenL l q)) f t = Z2 at *
  generalize prs (seenL l q) = Z at *
  generalize scL l f t q = VL at *
  generalize scB l f t q = VB at *
  generalize mayM l = m at *
  generalize goodR l = gr at *
  generalize okSeq q = oq at *
  have hX := Box.new w #[v] 25
  obtain ⟨a, cap, hve, _⟩ := id hv
  have hB0 := below_alloc w (.cells #[v] 25)
  subst hve
  clear hv hs
  go_enter Try.func25, Try.ntmps25
  go_wp2_with fail
  refine K.mono ?_
  rintro e w1 ⟨rfl, hb1⟩
  have X1 := hX.below hb1
  have hv2 := hv1.below hb1
  have hB1 := below_then hB0 hb1
  have c1 := X1.2.1 0 _ rfl
  clear K hX hB0 hb1 hv1
  cases m with
  | false =>
    obtain rfl : VB = false := HB.out
    obtain rfl : VL = [] := HV.out
    clear HV HB HG KQ KV X1 hv2 KS hSl
    go_wp2
    exact bodyPost_ret (v := .tuple #[.slice none 0 0, .bool false]) (by simp [results, Try.results25, go_sem]) rfl ⟨_, rfl, World.ownsRow_nil _ _ _ _, hB1⟩
  | true =>
    have hgr := (HG rfl).1
    go_wp2_with fail
    refine (KQ _).mono ?_
    rintro e w2 ⟨rfl, hw2⟩
    subst hw2
    cases oq with
    | false =>
      obtain rfl : VB = false := HB.out
      obtain rfl : VL = [] := HV.out
      clear HV HB HG KQ KV X1 hv2 KS hSl
      go_wp2
      exact bodyPost_ret (v := .tuple #[.slice none 0 0, .bool false]) (by simp [results, Try.results25, go_sem]) rfl ⟨_, rfl, World.ownsRow_nil _ _ _ _, hB1⟩
    | true =>
      by_cases h1 : (f.size : Int) ≤ 16
      · by_cases h2 : (t.size : Int) ≤ 16
        · rw [decide_eq_true h1, decide_eq_true h2] at HB HV
          obtain rfl : VB = true := HB.out
          obtain rfl : VL = Z2 := HV.out
          clear HV HB HG KQ
          go_wp2_with fail
          refine (KV _ hv2 hgr).mono ?_
          rintro e w3 ⟨u, rfl, ho, hb3⟩
          have hB3 := below_then hB1 hb3
          have hp := PR_of_owns ho rfl
          clear ho hb3 KV hB1 X1 c1
          go_wp2_with fail
          refine (KS _ _ hp).mono ?_
          rintro e w4 ⟨u4, rfl, ho4, hb4⟩
          have hB4 := below_then hB3 hb4
          have hO := owns_lower ho4 hB3.size
          clear ho4 hb4 KS hB3 hp
          go_wp2
          exact bodyPost_ret (v := .tuple #[u4, .bool true]) (by simp [results, Try.results25, go_sem]) rfl ⟨_, rfl, hO, hB4⟩
        · rw [decide_eq_true h1, decide_eq_false h2] at HB HV
          obtain rfl : VB = false := HB.out
          obtain rfl : VL = [] := HV.out
          clear HV HB HG KQ KV X1 hv2 KS hSl
          go_wp2
          exact bodyPost_ret (v := .tuple #[.slice none 0 0, .bool false]) (by simp [results, Try.results25, go_sem]) rfl ⟨_, rfl, World.ownsRow_nil _ _ _ _, hB1⟩
      · rw [decide_eq_false h1] at HB HV
        obtain rfl : VB = false := HB.out
        obtain rfl : VL = [] := HV.out
        clear HV HB HG KQ KV X1 hv2 KS hSl
        go_wp2
        exact bodyPost_ret (v := .tuple #[.slice none 0 0, .bool false]) (by simp [results, Try.results25, go_sem]) rfl ⟨_, rfl, World.ownsRow_nil _ _ _ _, hB1⟩
end Go.Proofs.Ytjenogmpmkkbiaa
