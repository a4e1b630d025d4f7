/-
  What FnSent says, plainly: chunks whose bit is turned are not taken, all others are; all of them make the files.
-/
import Derived.Test.YtocaigffikdlhaaKP
import Derived.Test.YtocaigffikdlhaaPL
import Derived.Test.YtocaigffikdlhaaK
namespace Go.Proofs.Ytocaigffikdlhaa
open Go.RowKit Go.Maps
set_option linter.unusedVariables false
set_option maxRecDepth 100000

theorem ckL_pl (L : List ByteArray) : (ckL L).map plOf = plL (wtL L) := by
  unfold ckL
  rw [List.map_map]
  have h : ∀ c ∈ plL (wtL L), (plOf ∘ fil L) c = c := by
    intro c hc
    obtain ⟨i, j, hi, hj, rfl⟩ := plTo_at (wtL L) _ (Nat.le_refl _) c hc
    rfl
  rw [List.map_congr_left h]
  simp
theorem ckL_pw (L : List ByteArray) : (ckL L).Pairwise (fun a b => ltC a b = true) := by
  have h := plTo_pw (wtL L) (wtL L).length (Nat.le_refl _)
  have e := ckL_pl L
  unfold plL at e
  rw [← e, List.pairwise_map] at h
  exact h
theorem wtL_get (L : List ByteArray) (i : Nat) (h : i < L.length) : (wtL L)[i]'(by rw [wtL_length]; exact h) = ⟨(L[i].size : Int), ((csum L[i].data.toList : Nat) : Int)⟩ := by simp only [wtL, List.getElem_map]
theorem ckL_ft (L : List ByteArray) : ∀ c ∈ ckL L, ftB (wtL L) c = true := by
  intro c hc
  unfold ckL at hc
  rw [List.mem_map] at hc
  obtain ⟨p, hp, rfl⟩ := hc
  obtain ⟨i, j, hi, hj, rfl⟩ := plTo_at (wtL L) _ (Nat.le_refl _) p hp
  have hiL : i < L.length := by rw [wtL_length] at hi; exact hi
  have ew := wtL_get L i hiL
  rw [ew] at hj
  have hjn := (np_lt j (show (0 : Int) ≤ (L[i].size : Int) from by omega)).2 hj
  rw [fil_at L i j hiL, ftB_iff]
  have eg : (wtL L).getD ((i : Int)).toNat default = ⟨(L[i].size : Int), ((csum L[i].data.toList : Nat) : Int)⟩ := by
    rw [show ((i : Int)).toNat = i from by omega, List.getD_eq_getElem?_getD, List.getElem?_eq_getElem hi, Option.getD_some, ew]
  simp only [eg]
  refine ⟨by omega, by omega, by omega, hjn, by omega, ?_, trivial⟩
  simp only [ByteArray.size_extract]
  omega
theorem flip_sum (c : Ck) (f : Int) (h0 : 0 ≤ f) (h1 : f < 8 * (c.k.size : Int)) : cks c.n c.d (trS c.k f) ≠ cks c.n c.d c.k := by
  unfold cks
  obtain ⟨P, hP⟩ : ∃ P, P = varT (max c.n 0) ++ varT (max c.d 0) := ⟨_, rfl⟩
  rw [← hP]
  have hl : c.k.size = c.k.data.toList.length := by rw [Array.length_toList]; rfl
  obtain ⟨n, rfl⟩ := Int.eq_ofNat_of_zero_le h0
  have hn8 : n / 8 < c.k.data.toList.length := by omega
  have e1 : (P ++ trS c.k (n : Int)).data.toList = P.data.toList ++ trL c.k.data.toList n := by
    have : trS c.k (n : Int) = ⟨(trL c.k.data.toList n).toArray⟩ := by unfold trS; rw [if_pos ⟨h0, h1⟩]; rfl
    rw [this]; simp
  have e2 : (P ++ c.k).data.toList = P.data.toList ++ c.k.data.toList := by simp
  rw [e1, e2]
  have e3 : P.data.toList ++ trL c.k.data.toList n = (P.data.toList ++ c.k.data.toList).set (P.data.toList.length + n / 8) (trB (c.k.data.toList.getD (n / 8) 0) n) := by
    unfold trL
    rw [List.set_append_right _ _ (by omega), Nat.add_sub_cancel_left]
  have hlt : P.data.toList.length + n / 8 < (P.data.toList ++ c.k.data.toList).length := by rw [List.length_append]; omega
  have hc : (trB (c.k.data.toList.getD (n / 8) 0) n).toNat = (P.data.toList ++ c.k.data.toList)[P.data.toList.length + n / 8].toNat ^^^ 2 ^ (n % 8) := by
    have eg : (P.data.toList ++ c.k.data.toList)[P.data.toList.length + n / 8] = c.k.data.toList[n / 8] := by
      rw [List.getElem_append_right (by omega)]
      congr 1
      omega
    rw [eg, List.getD_eq_getElem?_getD, List.getElem?_eq_getElem hn8, Option.getD_some]
    unfold trB
    rw [UInt8.toNat_xor, UInt8.toNat_ofNat']
    have : 2 ^ (n % 8) < 2 ^ 8 := Nat.pow_lt_pow_right (by omega) (by omega)
    rw [Nat.mod_eq_of_lt this]
  rw [e3]
  have hnum := num_set (P.data.toList ++ c.k.data.toList) _ (n % 8) _ hlt hc
  refine burst (P.data.toList ++ c.k.data.toList) _ (8 * (P.data.toList.length + n / 8) + n % 8) 1 (by simp) (by rw [Nat.mul_one]; exact hnum) ?_ (by omega) (by omega)
  rw [List.length_append]
  omega
theorem flip_ft {W : List Wt} {c : Ck} {f : Int} (h : ftB W c = true) (h0 : 0 ≤ f) (h1 : f < 8 * (c.k.size : Int)) : ftB W (trC c f) = false := by
  rw [Bool.eq_false_iff]
  intro hh
  rw [ftB_iff] at h hh
  have a := h.2.2.2.2.2.2
  have b := hh.2.2.2.2.2.2
  have : c.v = ((cks c.n c.d (trS c.k f) : Nat) : Int) := b
  rw [a] at this
  exact flip_sum c f h0 h1 (by omega)
theorem trC_same {c : Ck} {f : Int} (h : ¬ (0 ≤ f ∧ f < 8 * (c.k.size : Int))) : trC c f = c := by
  unfold trC trS; rw [if_neg h]
/-- What rises within what rises is no longer. -/
theorem rise_len : ∀ {m l : List Ck}, l.Pairwise (fun a b => ltC a b = true) → m.Pairwise (fun a b => ltC a b = true) → (∀ x ∈ l, x ∈ m) → l.length ≤ m.length
  | [], [], _, _, _ => Nat.le_refl _
  | [], x :: l, _, _, h => by have := h x (by simp); simp at this
  | y :: m, [], _, _, _ => by simp
  | y :: m, x :: l, hl, hm, h => by
    rw [List.pairwise_cons] at hl hm
    rcases List.mem_cons.1 (h x (by simp)) with e | e
    · subst e
      have := rise_len (m := m) hl.2 hm.2 fun z hz => by
        rcases List.mem_cons.1 (h z (by simp [hz])) with e2 | e2
        · subst e2; have := hl.1 z hz; rw [ltC_irr] at this; cases this
        · exact e2
      simp; omega
    · have hyx := hm.1 x e
      have := rise_len (m := m) (l := x :: l) (List.pairwise_cons.2 hl) hm.2 fun z hz => by
        rcases List.mem_cons.1 (h z hz) with e2 | e2
        · subst e2
          rcases List.mem_cons.1 hz with e3 | e3
          · subst e3; rw [ltC_irr] at hyx; cases hyx
          · have := ltC_trans hyx (hl.1 z e3); rw [ltC_irr] at this; cases this
        · exact e2
      simp at this ⊢; omega
theorem srt_pw {G : List Ck} (h : Srt G) : G.Pairwise (fun a b => ltC a b = true) := by
  rw [List.pairwise_iff_getElem]
  intro i j hi hj hij
  exact h i j hi hj hij
theorem pw_place {C : List Ck} (h : C.Pairwise (fun a b => ltC a b = true)) {x y : Ck} (hx : x ∈ C) (hy : y ∈ C) (hn : x.n = y.n) (hd : x.d = y.d) : x = y := by
  obtain ⟨i, hi, rfl⟩ := List.getElem_of_mem hx
  obtain ⟨j, hj, rfl⟩ := List.getElem_of_mem hy
  rw [List.pairwise_iff_getElem] at h
  rcases Nat.lt_trichotomy i j with q | q | q
  · have := h i j hi hj q; rw [ltC_iff] at this; omega
  · subst q; rfl
  · have := h j i hj hi q; rw [ltC_iff] at this; omega
theorem pw_place_idx {C : List Ck} (h : C.Pairwise (fun a b => ltC a b = true)) {i j : Nat} (hi : i < C.length) (hj : j < C.length) (e : C[i] = C[j]) : i = j := by
  rw [List.pairwise_iff_getElem] at h
  rcases Nat.lt_trichotomy i j with q | q | q
  · have := h i j hi hj q; rw [e, ltC_irr] at this; cases this
  · exact q
  · have := h j i hj hi q; rw [e, ltC_irr] at this; cases this
/-- A chunk of the files is always taken. -/
theorem take_right {L : List ByteArray} (hb : ckB L = true) {G : List Ck} (hg : gcB (wtL L) G = true) (hs : ∀ x ∈ G, x ∈ ckL L) {y : Ck} (hy : y ∈ ckL L) : tkB (wtL L) G y = true ∧ ∀ x, x ∈ tkG G y ↔ x ∈ G ∨ x = y := by
  have hf := ckL_ft L y hy
  have hsr := gcB_srt hg
  have h200 : (ckL L).length ≤ 200 := by
    unfold ckB at hb
    rw [Bool.and_eq_true, decide_eq_true_eq] at hb
    unfold ckL; rw [List.length_map]; exact hb.2
  cases hh : hasC G y.n y.d with
  | true =>
    obtain ⟨hp, hn, hd⟩ := ((plc_is hsr y).has hsr).1 hh
    have e : G[plc G y] = y := pw_place (ckL_pw L) (hs _ (List.getElem_mem hp)) hy hn hd
    have hm : y ∈ G := by rw [← e]; exact List.getElem_mem hp
    refine ⟨?_, fun x => ?_⟩
    · unfold tkB
      rw [hf, hh, getC_at G _ hp, e]
      simp
    · unfold tkG
      rw [hh]
      simp only [if_true]
      constructor
      · exact fun q => .inl q
      · rintro (q | rfl)
        · exact q
        · exact hm
  | false =>
    have hno : y ∉ G := by
      intro q
      obtain ⟨i, hi, e⟩ := List.getElem_of_mem q
      have : hasC G y.n y.d = true := (hasC_iff _ _ _).2 ⟨i, hi, by rw [e], by rw [e]⟩
      rw [hh] at this; cases this
    have hlen : G.length < 200 := by
      have h1 := filter_one (ckL_pw L) y.n y.d ⟨y, hy, rfl, rfl⟩
      have h2 := rise_len (m := (ckL L).filter fun c => !smP y.n y.d c) (srt_pw hsr) ((ckL_pw L).filter _) fun x hx => by
        rw [List.mem_filter]
        refine ⟨hs x hx, ?_⟩
        rw [Bool.not_eq_true', Bool.eq_false_iff]
        intro q
        simp only [smP, Bool.and_eq_true, decide_eq_true_eq] at q
        have := pw_place (ckL_pw L) (hs x hx) hy q.1 q.2
        subst this
        exact hno hx
      omega
    refine ⟨?_, fun x => ?_⟩
    · unfold tkB
      rw [hf, hh]
      simpa using hlen
    · unfold tkG
      rw [hh]
      simp only [Bool.false_eq_true, if_false, insC, List.mem_append, List.mem_singleton]
      constructor
      · rintro ((q | q) | q)
        · exact .inl (List.mem_of_mem_take q)
        · exact .inr q
        · exact .inl (List.mem_of_mem_drop q)
      · rintro (q | q)
        · rw [← List.take_append_drop (plc G y) G, List.mem_append] at q
          rcases q with q | q
          · exact .inl (.inl q)
          · exact .inr q
        · exact .inl (.inr q)
/-- What is sent is right. -/
def rtB (C : List Ck) (n f : Int) : Bool := decide (0 ≤ n) && (decide (n < C.length) && !(decide (0 ≤ f) && decide (f < 8 * ((C.getD n.toNat default).k.size : Int))))
def rc (C : List Ck) (O F : List Int) : Nat → Nat
  | 0 => 0
  | k + 1 => rc C O F k + if rtB C (O.getD k 0) (F.getD k 0) then 1 else 0
def sn (C : List Ck) (O F : List Int) : Nat → List Bool
  | 0 => List.replicate C.length false
  | k + 1 => if rtB C (O.getD k 0) (F.getD k 0) then (sn C O F k).set (O.getD k 0).toNat true else sn C O F k
theorem sn_length (C : List Ck) (O F : List Int) (k : Nat) : (sn C O F k).length = C.length := by
  induction k with
  | zero => simp [sn]
  | succ k ih => unfold sn; split <;> simp [ih]
theorem rc_le (C : List Ck) (O F : List Int) (k : Nat) : rc C O F k ≤ k := by
  induction k with
  | zero => simp [rc]
  | succ k ih => unfold rc; split <;> omega
theorem play_inv {L : List ByteArray} (hb : ckB L = true) (O F : List Int) (hF : F.length = O.length) : ∀ k, k ≤ O.length →
    (play (wtL L) (sdTo (ckL L) O F k)).2 = rc (ckL L) O F k ∧ (∀ x ∈ (play (wtL L) (sdTo (ckL L) O F k)).1, x ∈ ckL L) ∧ ∀ n (h : n < (ckL L).length), (ckL L)[n] ∈ (play (wtL L) (sdTo (ckL L) O F k)).1 ↔ (sn (ckL L) O F k)[n]'(by rw [sn_length]; exact h) = true := by
  intro k
  induction k with
  | zero => intro _; exact ⟨rfl, fun x hx => by simp [sdTo, play] at hx, fun n h => by simp [sdTo, play, sn]⟩
  | succ k ih =>
    intro hk
    obtain ⟨i1, i2, i3⟩ := ih (by omega)
    have hO : O.getD k 0 = O[k] := by simp [List.getD_eq_getElem?_getD, show k < O.length from by omega]
    have hFk : F.getD k 0 = F[k] := by simp [List.getD_eq_getElem?_getD, show k < F.length from by omega]
    have es : sdTo (ckL L) O F (k + 1) = sdTo (ckL L) O F k ++ sd1 (ckL L) O F k := rfl
    have erc : rc (ckL L) O F (k + 1) = rc (ckL L) O F k + if rtB (ckL L) O[k] F[k] then 1 else 0 := by rw [← hO, ← hFk]; rfl
    have esn : sn (ckL L) O F (k + 1) = if rtB (ckL L) O[k] F[k] then (sn (ckL L) O F k).set O[k].toNat true else sn (ckL L) O F k := by rw [← hO, ← hFk]; rfl
    by_cases hin : 0 ≤ O[k] ∧ O[k] < ((ckL L).length : Int)
    · obtain ⟨m, hm⟩ := Int.eq_ofNat_of_zero_le hin.1
      have hmC : m < (ckL L).length := by omega
      have hmem := List.getElem_mem hmC
      have hft := ckL_ft L _ hmem
      rw [es, sd1_at (by omega) (by omega) hmC hm, play_snoc]
      have eg : ((ckL L).getD O[k].toNat default) = (ckL L)[m] := by rw [hm]; simp [List.getD_eq_getElem?_getD, hmC]
      by_cases hfl : 0 ≤ F[k] ∧ F[k] < 8 * (((ckL L)[m]).k.size : Int)
      · have hr : rtB (ckL L) O[k] F[k] = false := by
          unfold rtB; rw [eg]; simp [hfl.1, hfl.2]
        have hb0 : tkB (wtL L) (play (wtL L) (sdTo (ckL L) O F k)).1 (trC (ckL L)[m] F[k]) = false := by
          unfold tkB; rw [flip_ft hft hfl.1 hfl.2]; rfl
        have e : tkS (wtL L) (play (wtL L) (sdTo (ckL L) O F k)) (trC (ckL L)[m] F[k]) = play (wtL L) (sdTo (ckL L) O F k) := by
          unfold tkS tkN; rw [hb0]; rfl
        rw [e, erc, hr]
        refine ⟨by simpa using i1, i2, fun n h => ?_⟩
        simp only [esn, hr]
        exact i3 n h
      · have hr : rtB (ckL L) O[k] F[k] = true := by
          unfold rtB; rw [eg]
          simp only [Bool.and_eq_true, decide_eq_true_eq, Bool.not_eq_true', Bool.and_eq_false_iff, decide_eq_false_iff_not]
          refine ⟨hin.1, hin.2, ?_⟩
          omega
        rw [trC_same hfl]
        obtain ⟨t1, t2⟩ := take_right hb (play_good (wtL L) (sdTo (ckL L) O F k)).1 i2 hmem
        have e : tkS (wtL L) (play (wtL L) (sdTo (ckL L) O F k)) (ckL L)[m] = (tkG (play (wtL L) (sdTo (ckL L) O F k)).1 (ckL L)[m], (play (wtL L) (sdTo (ckL L) O F k)).2 + 1) := by
          unfold tkS tkN; rw [t1]; rfl
        rw [e, erc, hr]
        refine ⟨by simpa using i1, fun x hx => ?_, fun n h => ?_⟩
        · rcases (t2 x).1 hx with q | rfl
          · exact i2 x q
          · exact hmem
        · have esn2 : sn (ckL L) O F (k + 1) = (sn (ckL L) O F k).set m true := by rw [esn, hr, hm]; rfl
          have e3 : (sn (ckL L) O F (k + 1))[n]'(by rw [sn_length]; exact h) = ((sn (ckL L) O F k).set m true)[n]'(by rw [List.length_set, sn_length]; exact h) := by simp only [esn2]
          rw [e3]
          show (ckL L)[n] ∈ tkG (play (wtL L) (sdTo (ckL L) O F k)).1 (ckL L)[m] ↔ _
          rw [t2, i3 n h]
          by_cases q : m = n
          · subst q; simp
          · rw [List.getElem_set_ne q]
            constructor
            · rintro (r | r)
              · exact r
              · exfalso
                have := pw_place_idx (ckL_pw L) h hmC r
                exact q this.symm
            · exact fun r => .inl r
    · have hr : rtB (ckL L) O[k] F[k] = false := by
        unfold rtB
        rw [Bool.eq_false_iff]
        intro q
        simp only [Bool.and_eq_true, decide_eq_true_eq] at q
        exact hin ⟨q.1, q.2.1⟩
      rw [es, sd1_no (by omega) (by omega), List.append_nil, erc, hr]
      refine ⟨by simpa using i1, i2, fun n h => ?_⟩
      simp only [esn, hr]
      exact i3 n h
theorem ext_cat (s : ByteArray) (a b : Nat) (h : a ≤ b) (hb : b ≤ s.size) : s.extract 0 a ++ s.extract a b = s.extract 0 b := by
  rw [ByteArray.extract_append_extract]
  congr 1 <;> omega
theorem file_pieces (L : List ByteArray) (k : Nat) (hk : k < L.length) : ∀ m, m ≤ np (L[k].size : Int) → ∀ acc : List ByteArray, k < acc.length → ((plF k m).map (fil L)).foldl asS acc = acc.set k (acc.getD k ⟨#[]⟩ ++ L[k].extract 0 (min (64 * m) L[k].size)) := by
  intro m
  induction m with
  | zero =>
    intro _ acc ha
    have e : L[k].extract 0 (min (64 * 0) L[k].size) = ⟨#[]⟩ := by
      apply ByteArray.ext; simp
    rw [e]
    have : acc.getD k ⟨#[]⟩ ++ (⟨#[]⟩ : ByteArray) = acc[k] := by
      rw [List.getD_eq_getElem?_getD, List.getElem?_eq_getElem ha, Option.getD_some]
      apply ByteArray.ext; simp
    rw [this]
    simp [plF]
  | succ m ih =>
    intro hm acc ha
    have h2 := (np_lt m (show (0 : Int) ≤ (L[k].size : Int) from by omega)).2 (by omega)
    rw [plF_succ, List.map_append, List.foldl_append, ih (by omega) acc ha]
    simp only [List.map_cons, List.map_nil, List.foldl_cons, List.foldl_nil]
    rw [fil_at L k m hk]
    unfold asS
    simp only [show ((k : Int)).toNat = k from by omega]
    rw [List.set_set]
    have e1 : (acc.set k (acc.getD k ⟨#[]⟩ ++ L[k].extract 0 (min (64 * m) L[k].size))).getD k ⟨#[]⟩ = acc.getD k ⟨#[]⟩ ++ L[k].extract 0 (min (64 * m) L[k].size) := by
      rw [List.getD_eq_getElem?_getD, List.getElem?_set_self ha, Option.getD_some]
    rw [e1]
    congr 1
    have e2 := ext_cat L[k] (64 * m) (min (64 * (m + 1)) L[k].size) (by omega) (by omega)
    rw [show min (64 * m) L[k].size = 64 * m from by omega, show 64 * m + min 64 (L[k].size - 64 * m) = min (64 * (m + 1)) L[k].size from by omega, ← e2]
    apply ByteArray.ext
    simp [Array.append_assoc]
theorem files_to (L : List ByteArray) : ∀ k, k ≤ L.length → ((plTo (wtL L) k).map (fil L)).foldl asS (List.replicate L.length ⟨#[]⟩) = L.take k ++ List.replicate (L.length - k) ⟨#[]⟩ := by
  intro k
  induction k with
  | zero => intro _; simp [plTo]
  | succ k ih =>
    intro hk
    have hkL : k < L.length := by omega
    rw [plTo_succ (wtL L) k (by rw [wtL_length]; omega), List.map_append, List.foldl_append, ih (by omega)]
    have ew := wtL_get L k hkL
    rw [ew]
    have hla : k < (L.take k ++ List.replicate (L.length - k) (⟨#[]⟩ : ByteArray)).length := by simp; omega
    rw [file_pieces L k hkL _ (Nat.le_refl _) _ hla]
    have hlt : (L.take k).length = k := by simp; omega
    have e1 : (L.take k ++ List.replicate (L.length - k) (⟨#[]⟩ : ByteArray)).getD k ⟨#[]⟩ = ⟨#[]⟩ := by
      rw [List.getD_eq_getElem?_getD, List.getElem?_append_right (by omega), hlt, Nat.sub_self]
      cases hh : L.length - k with
      | zero => rfl
      | succ q => rfl
    have e2 : min (64 * np (L[k].size : Int)) L[k].size = L[k].size := by unfold np; omega
    have e3 : (⟨#[]⟩ : ByteArray) ++ L[k].extract 0 L[k].size = L[k] := by
      apply ByteArray.ext; simp
    rw [e1, e2, e3]
    obtain ⟨q, hq⟩ : ∃ q, L.length - k = q + 1 := ⟨L.length - k - 1, by omega⟩
    rw [hq, List.replicate_succ, List.set_append_right _ _ (by omega), hlt, Nat.sub_self, List.set_cons_zero, List.take_succ_eq_append_getElem hkL, List.append_assoc, show L.length - (k + 1) = q from by omega]
    rfl
theorem asF_all (L : List ByteArray) : asF (wtL L).length (ckL L) = L := by
  unfold asF ckL plL
  rw [wtL_length]
  have := files_to L L.length (Nat.le_refl _)
  rw [this]
  simp
theorem all_true {l : List Bool} : l.all id = true ↔ ∀ n (h : n < l.length), l[n] = true := by
  rw [List.all_eq_true]
  constructor
  · intro h n hn; exact h _ (List.getElem_mem hn)
  · intro h x hx; obtain ⟨n, hn, rfl⟩ := List.getElem_of_mem hx; exact h n hn
theorem fn_false' {W : List Wt} {G : List Ck} (h : fnB W G = false) : fnR W G = [] := by unfold fnR; rw [h]; rfl
/-- Files are taken whole as they were, or not at all. -/
theorem sent {L : List ByteArray} {O F : List Int} (h : ptB L O F = true) :
    ptN L O F = rc (ckL L) O F O.length ∧ ((sn (ckL L) O F O.length).all id = true → ptR L O F = L) ∧ ((sn (ckL L) O F O.length).all id = false → ptR L O F = []) := by
  have hp := h
  unfold ptB at hp
  rw [Bool.and_eq_true, Bool.and_eq_true, decide_eq_true_eq, decide_eq_true_eq] at hp
  obtain ⟨⟨hb, hO⟩, hF⟩ := hp
  obtain ⟨i1, i2, i3⟩ := play_inv hb O F hF O.length (Nat.le_refl _)
  have hg := play_good (wtL L) (sdTo (ckL L) O F O.length)
  have hgf : gfB L = true := by unfold ckB at hb; rw [Bool.and_eq_true] at hb; exact hb.1
  have hok := wtL_ok hgf
  have eN : ptN L O F = (play (wtL L) (sdTo (ckL L) O F O.length)).2 := by unfold ptN; rw [h]; rfl
  have eR : ptR L O F = fnR (wtL L) (play (wtL L) (sdTo (ckL L) O F O.length)).1 := by unfold ptR; rw [h]; rfl
  have hgt : gtB (wtL L) (play (wtL L) (sdTo (ckL L) O F O.length)).1 = true := (gtB_iff _ _).2 ⟨hok, hg.2.1, hg.1⟩
  generalize (play (wtL L) (sdTo (ckL L) O F O.length)).1 = G at *
  have hpl := ckL_pl L
  refine ⟨by rw [eN, i1], fun ha => ?_, fun ha => ?_⟩
  · rw [all_true] at ha
    have eG : G = ckL L := rise_ext (srt_pw (gcB_srt hg.1)) (ckL_pw L) fun x => ⟨i2 x, fun hx => by
      obtain ⟨n, hn, rfl⟩ := List.getElem_of_mem hx
      exact (i3 n hn).2 (ha n _)⟩
    have hm : msL (wtL L) G = [] := by
      unfold msL
      rw [List.filter_eq_nil_iff]
      intro p hp
      rw [← hpl, List.mem_map] at hp
      obtain ⟨c, hc, rfl⟩ := hp
      have : hasC G c.n c.d = true := by
        rw [eG]
        obtain ⟨n, hn, rfl⟩ := List.getElem_of_mem hc
        exact (hasC_iff _ _ _).2 ⟨n, hn, rfl, rfl⟩
      simp only [msP, plOf, this, Bool.not_true]
      simp
    have hs : smB (wtL L) (asF (wtL L).length G) = true := by
      rw [eG, asF_all]
      unfold smB
      rw [List.all_eq_true]
      intro i hi
      rw [List.mem_range, wtL_length] at hi
      have ew := wtL_get L i hi
      rw [decide_eq_true_eq, List.getD_eq_getElem?_getD, List.getD_eq_getElem?_getD, List.getElem?_eq_getElem hi, List.getElem?_eq_getElem (by rw [wtL_length]; exact hi), Option.getD_some, Option.getD_some, ew]
    have hfn : fnB (wtL L) G = true := by unfold fnB lfB; rw [hgt, hm, hs]; rfl
    rw [eR]
    unfold fnR
    rw [hfn, if_pos rfl, eG, asF_all]
  · have hx : ∃ n, ∃ hn : n < (ckL L).length, (ckL L)[n] ∉ G := by
      rw [List.all_eq_false] at ha
      obtain ⟨x, hx, hnx⟩ := ha
      obtain ⟨n, hn, rfl⟩ := List.getElem_of_mem hx
      have hnC : n < (ckL L).length := by rw [sn_length] at hn; exact hn
      exact ⟨n, hnC, fun q => hnx ((i3 n hnC).1 q)⟩
    obtain ⟨n, hn, hno⟩ := hx
    have hmem : plOf (ckL L)[n] ∈ msL (wtL L) G := by
      unfold msL
      rw [List.mem_filter]
      refine ⟨by rw [← hpl]; exact List.mem_map_of_mem (List.getElem_mem hn), ?_⟩
      unfold msP
      rw [Bool.not_eq_true', Bool.eq_false_iff]
      intro q
      rw [hasC_iff] at q
      obtain ⟨i, hi, h1, h2⟩ := q
      have := pw_place (ckL_pw L) (i2 _ (List.getElem_mem hi)) (List.getElem_mem hn) h1 h2
      rw [← this] at hno
      exact hno (List.getElem_mem hi)
    have hfn : fnB (wtL L) G = false := by
      unfold fnB lfB
      have : (msL (wtL L) G).isEmpty = false := by
        cases hh : msL (wtL L) G with
        | nil => rw [hh] at hmem; simp at hmem
        | cons => rfl
      rw [this]; simp
    rw [eR, fn_false' hfn]
end Go.Proofs.Ytocaigffikdlhaa
