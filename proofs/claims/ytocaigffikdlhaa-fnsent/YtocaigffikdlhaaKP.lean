/-
  What FnTaking says, plainly: what is missing behind a chunk that is taken, a chunk that is taken again, files whose chunks are all there.
-/
import Derived.Test.YtocaigffikdlhaaSK
import Derived.Test.YtocaigffikdlhaaFI
import Derived.Test.YtocaigffikdlhaaX4
namespace Go.Proofs.Ytocaigffikdlhaa
open Go.RowKit
set_option linter.unusedVariables false
set_option maxRecDepth 100000

/-- The chunk has that place. -/
def smP (n d : Int) (c : Ck) : Bool := decide (c.n = n) && decide (c.d = d)
theorem plTo_lt (W : List Wt) (k : Nat) : ∀ c ∈ plTo W k, 0 ≤ c.n ∧ c.n < k := by
  intro c hc
  simp only [plTo, List.mem_flatMap, List.mem_range, plF, List.mem_map] at hc
  obtain ⟨i, hi, j, _, rfl⟩ := hc
  simp only; omega
theorem plTo_pw (W : List Wt) (k : Nat) (hk : k ≤ W.length) : (plTo W k).Pairwise (fun a b => ltC a b = true) := by
  induction k with
  | zero => simp [plTo]
  | succ k ih =>
    rw [plTo_succ W k (by omega), List.pairwise_append]
    refine ⟨ih (by omega), ?_, ?_⟩
    · unfold plF
      rw [List.pairwise_map]
      exact List.pairwise_lt_range.imp fun {a b} h => by rw [ltC_iff]; exact .inr ⟨rfl, by show 64 * (a : Int) < 64 * (b : Int); omega⟩
    · intro a ha b hb
      have h1 := plTo_lt W k a ha
      simp only [plF, List.mem_map, List.mem_range] at hb
      obtain ⟨j, _, rfl⟩ := hb
      rw [ltC_iff]; left; simp only; omega
theorem plL_mem {W : List Wt} {y : Ck} (h : ftB W y = true) : (⟨y.n, y.d, ⟨#[]⟩, 0⟩ : Ck) ∈ plL W := by
  rw [ftB_iff] at h
  obtain ⟨h0, h1, h2, h3, h4, _⟩ := h
  simp only [plL, plTo, List.mem_flatMap, List.mem_range, plF, List.mem_map]
  refine ⟨y.n.toNat, by omega, (y.d / 64).toNat, ?_, ?_⟩
  · rw [← np_lt _ (by omega)]; omega
  · simp only [Ck.mk.injEq, and_true]; omega
theorem filter_one {l : List Ck} (hp : l.Pairwise (fun a b => ltC a b = true)) (n d : Int) (hm : ∃ x ∈ l, x.n = n ∧ x.d = d) : (l.filter (fun c => !smP n d c)).length + 1 = l.length := by
  induction l with
  | nil => obtain ⟨x, hx, _⟩ := hm; simp at hx
  | cons x r ih =>
    rw [List.pairwise_cons] at hp
    by_cases hx : x.n = n ∧ x.d = d
    · have hs : smP n d x = true := by simp [smP, hx.1, hx.2]
      have hr : r.filter (fun c => !smP n d c) = r := by
        rw [List.filter_eq_self]
        intro c hc
        have := hp.1 c hc
        rw [ltC_iff] at this
        simp only [smP, Bool.not_eq_true', Bool.and_eq_false_iff, decide_eq_false_iff_not]
        omega
      rw [List.filter_cons, hs]
      simp only [Bool.not_true, Bool.false_eq_true, if_false, List.length_cons]
      rw [hr]
    · have hs : smP n d x = false := by
        rw [Bool.eq_false_iff]; intro e; simp only [smP, Bool.and_eq_true, decide_eq_true_eq] at e; exact hx e
      rw [List.filter_cons, hs]
      simp only [Bool.not_false, if_true, List.length_cons]
      rw [ih hp.2]
      obtain ⟨z, hz, hzn⟩ := hm
      rcases List.mem_cons.1 hz with rfl | hz
      · exact absurd hzn hx
      · exact ⟨z, hz, hzn⟩
theorem hasC_ins (G : List Ck) (p : Nat) (c : Ck) (n d : Int) : hasC (insC G p c) n d = (hasC G n d || (decide (c.n = n) && decide (c.d = d))) := by
  unfold hasC insC
  have e : ∀ f : Ck → Bool, G.any f = ((G.take p).any f || (G.drop p).any f) := fun f => by rw [← List.any_append, List.take_append_drop]
  rw [e, List.any_append, List.any_append]
  simp only [List.any_cons, List.any_nil, Bool.or_false]
  generalize (G.take p).any _ = a
  generalize (G.drop p).any _ = b
  cases a <;> cases b <;> simp
theorem msL_ins (W : List Wt) (G : List Ck) (p : Nat) (y : Ck) : msL W (insC G p y) = (msL W G).filter (fun c => !smP y.n y.d c) := by
  unfold msL
  rw [List.filter_filter]
  congr 1
  funext c
  unfold msP smP
  rw [hasC_ins]
  have e1 : decide (y.n = c.n) = decide (c.n = y.n) := decide_eq_decide.2 ⟨fun h => h.symm, fun h => h.symm⟩
  have e2 : decide (y.d = c.d) = decide (c.d = y.d) := decide_eq_decide.2 ⟨fun h => h.symm, fun h => h.symm⟩
  rw [e1, e2, Bool.not_or, Bool.and_comm]
theorem msL_pw (W : List Wt) (G : List Ck) : (msL W G).Pairwise (fun a b => ltC a b = true) := (plTo_pw W W.length (Nat.le_refl _)).filter _
/-- What is missing behind a chunk that is taken. -/
theorem miss_after {W : List Wt} {G : List Ck} {y : Ck} (h : tkB W G y = true) :
    ((msL W (tkG G y)).length : Int) = (msL W G).length - (if (msL W G).any (smP y.n y.d) then 1 else 0) := by
  have hf : ftB W y = true := by unfold tkB at h; rw [Bool.and_eq_true] at h; exact h.1
  cases hh : hasC G y.n y.d with
  | true =>
    have e : tkG G y = G := by unfold tkG; rw [hh]; rfl
    have hn : (msL W G).any (smP y.n y.d) = false := by
      rw [List.any_eq_false]
      intro c hc
      unfold msL at hc
      rw [List.mem_filter] at hc
      intro hs
      simp only [smP, Bool.and_eq_true, decide_eq_true_eq] at hs
      have := hc.2
      unfold msP at this
      rw [hs.1, hs.2, hh] at this
      cases this
    rw [e, hn]; simp
  | false =>
    have e : tkG G y = insC G (plc G y) y := by unfold tkG; rw [hh]; rfl
    have hm : (⟨y.n, y.d, ⟨#[]⟩, 0⟩ : Ck) ∈ msL W G := by
      unfold msL
      rw [List.mem_filter]
      exact ⟨plL_mem hf, by unfold msP; simp only; rw [hh]; rfl⟩
    have hy : (msL W G).any (smP y.n y.d) = true := by
      rw [List.any_eq_true]
      exact ⟨_, hm, by simp [smP]⟩
    have := filter_one (msL_pw W G) y.n y.d ⟨_, hm, rfl, rfl⟩
    rw [e, hy, msL_ins]
    simp only [if_true]
    omega
/-- A chunk that is taken is taken again, and nothing changes. -/
theorem take_again {W : List Wt} {G : List Ck} {y : Ck} (hg : gtB W G = true) (h : tkB W G y = true) : ctB W (tkG G y) y = true ∧ tkG (tkG G y) y = tkG G y ∧ gtB W (tkG G y) = true := by
  rw [gtB_iff] at hg
  obtain ⟨hok, h200, hgc⟩ := hg
  obtain ⟨g1, g2⟩ := tk_good hgc h200 h
  have hf : ftB W y = true := by unfold tkB at h; rw [Bool.and_eq_true] at h; exact h.1
  have hg1 : gtB W (tkG G y) = true := by rw [gtB_iff]; exact ⟨hok, g2, g1⟩
  cases hh : hasC G y.n y.d with
  | true =>
    have e : tkG G y = G := by unfold tkG; rw [hh]; rfl
    rw [e] at hg1 ⊢
    exact ⟨by unfold ctB; rw [hg1, h]; rfl, e, hg1⟩
  | false =>
    have e : tkG G y = insC G (plc G y) y := by unfold tkG; rw [hh]; rfl
    have hsr := gcB_srt g1
    have hp := plc_le G y
    have hhas : hasC (tkG G y) y.n y.d = true := by rw [e, hasC_ins]; simp
    have e2 : tkG (tkG G y) y = tkG G y := by rw [tkG, hhas]; rfl
    obtain ⟨hq, hqn, hqd⟩ := ((plc_is hsr y).has hsr).1 hhas
    have hl : plc G y < (tkG G y).length := by rw [e, insC_length G _ _ hp]; omega
    have hy : (tkG G y)[plc G y] = y := by
      have : (tkG G y)[plc G y] = (insC G (plc G y) y)[plc G y]'(by rw [insC_length G _ _ hp]; omega) := by congr 1
      rw [this, ins_at G (plc G y) y hp]
      simp
    have hsame : plc (tkG G y) y = plc G y := by
      rcases Nat.lt_trichotomy (plc (tkG G y) y) (plc G y) with q | q | q
      · have := hsr _ _ hq hl q
        rw [hy, ltC_iff] at this; omega
      · exact q
      · have := hsr _ _ hl hq q
        rw [hy, ltC_iff] at this; omega
    have hd : ((tkG G y).getD (plc (tkG G y) y) default).k.toList == y.k.toList := by
      rw [hsame, getC_at _ _ hl, hy]; simp
    refine ⟨?_, e2, hg1⟩
    unfold ctB
    rw [hg1]
    unfold tkB
    rw [hf, hhas]
    simpa using hd
/-- Two lists that rise and have the same members are the same. -/
theorem rise_ext : ∀ {l m : List Ck}, l.Pairwise (fun a b => ltC a b = true) → m.Pairwise (fun a b => ltC a b = true) → (∀ x, x ∈ l ↔ x ∈ m) → l = m
  | [], [], _, _, _ => rfl
  | [], y :: m, _, _, h => by have := (h y).2 (by simp); simp at this
  | x :: l, [], _, _, h => by have := (h x).1 (by simp); simp at this
  | x :: l, y :: m, hl, hm, h => by
    rw [List.pairwise_cons] at hl hm
    have hxy : x = y := by
      have h1 := (h x).1 (by simp)
      have h2 := (h y).2 (by simp)
      rcases List.mem_cons.1 h1 with e | e
      · exact e
      · rcases List.mem_cons.1 h2 with e2 | e2
        · exact e2.symm
        · have a := hl.1 y e2
          have b := hm.1 x e
          rw [ltC_iff] at a b; omega
    subst hxy
    congr 1
    refine rise_ext hl.2 hm.2 fun z => ?_
    have hz := h z
    rw [List.mem_cons, List.mem_cons] at hz
    constructor
    · intro q
      rcases hz.1 (.inr q) with e | e
      · subst e; have := hl.1 z q; rw [ltC_irr] at this; cases this
      · exact e
    · intro q
      rcases hz.2 (.inr q) with e | e
      · subst e; have := hm.1 z q; rw [ltC_irr] at this; cases this
      · exact e
def plOf (c : Ck) : Ck := ⟨c.n, c.d, ⟨#[]⟩, 0⟩
theorem places_eq {W : List Wt} {G : List Ck} (hok : wOk W) (hg : gcB W G = true) (hm : msL W G = []) : G.map plOf = plL W := by
  refine rise_ext ?_ (plTo_pw W W.length (Nat.le_refl _)) fun x => ?_
  · rw [List.pairwise_map, List.pairwise_iff_getElem]
    intro i j hi hj hij
    have := gcB_srt hg i j hi hj hij
    rw [ltC_iff] at this ⊢
    exact this
  · constructor
    · intro h
      rw [List.mem_map] at h
      obtain ⟨c, hc, rfl⟩ := h
      obtain ⟨i, hi, rfl⟩ := List.getElem_of_mem hc
      exact plL_mem (gcB_ft hg i hi)
    · intro h
      have hh : hasC G x.n x.d = true := by
        cases e : hasC G x.n x.d with
        | true => rfl
        | false =>
          have : x ∈ msL W G := by unfold msL; rw [List.mem_filter]; exact ⟨h, by unfold msP; rw [e]; rfl⟩
          rw [hm] at this; simp at this
      rw [hasC_iff] at hh
      obtain ⟨i, hi, h1, h2⟩ := hh
      obtain ⟨a, j, ha, hj, rfl⟩ := plTo_at W W.length (Nat.le_refl _) x h
      rw [List.mem_map]
      exact ⟨G[i], List.getElem_mem hi, by unfold plOf; simp only [Ck.mk.injEq, and_true]; exact ⟨h1, h2⟩⟩
def szF (i : Nat) (G : List Ck) : Nat := (G.map fun c => if c.n.toNat = i then c.k.size else 0).sum
theorem foldS_sz (G : List Ck) : ∀ (acc : List ByteArray) (i : Nat), i < acc.length → ((G.foldl asS acc).getD i ⟨#[]⟩).size = (acc.getD i ⟨#[]⟩).size + szF i G := by
  induction G with
  | nil => intro acc i h; simp [szF]
  | cons c r ih =>
    intro acc i h
    rw [List.foldl_cons, ih (asS acc c) i (by rw [asS_length]; exact h)]
    have e : szF i (c :: r) = (if c.n.toNat = i then c.k.size else 0) + szF i r := by simp [szF]
    rw [e]
    unfold asS
    by_cases q : c.n.toNat = i
    · subst q
      rw [if_pos rfl]
      simp only [List.getD_eq_getElem?_getD, List.getElem?_set_self h, Option.getD_some, ByteArray.size_append]
      omega
    · rw [if_neg q]
      simp only [List.getD_eq_getElem?_getD, List.getElem?_set_ne q]
      omega
def hz (W : List Wt) (i : Nat) (p : Ck) : Nat := if p.n.toNat = i then (min 64 ((W.getD p.n.toNat default).t - p.d)).toNat else 0
theorem szF_pl {W : List Wt} {G : List Ck} (hg : gcB W G = true) (i : Nat) : szF i G = ((G.map plOf).map (hz W i)).sum := by
  unfold szF
  rw [List.map_map]
  congr 1
  apply List.map_congr_left
  intro c hc
  obtain ⟨j, hj, rfl⟩ := List.getElem_of_mem hc
  have := gcB_ft hg j hj
  rw [ftB_iff] at this
  obtain ⟨_, _, _, _, _, h5, _⟩ := this
  show (if G[j].n.toNat = i then G[j].k.size else 0) = hz W i (plOf G[j])
  have e : hz W i (plOf G[j]) = if G[j].n.toNat = i then (min 64 ((W.getD G[j].n.toNat default).t - G[j].d)).toNat else 0 := rfl
  rw [e]
  by_cases q : G[j].n.toNat = i
  · rw [if_pos q, if_pos q]; omega
  · rw [if_neg q, if_neg q]
theorem sum_pieces (W : List Wt) (k : Nat) (hk : k < W.length) (h0 : 0 ≤ W[k].t) : ∀ m, m ≤ np W[k].t → (((plF k m).map (hz W k)).sum : Int) = min (64 * (m : Int)) W[k].t := by
  intro m
  induction m with
  | zero => intro _; simp [plF]; omega
  | succ m ih =>
    intro hm
    rw [plF_succ, List.map_append, List.sum_append]
    have h1 := ih (by omega)
    have h2 := (np_lt m h0).2 (by omega)
    have e : hz W k ⟨(k : Int), 64 * (m : Int), ⟨#[]⟩, 0⟩ = (min 64 (W[k].t - 64 * (m : Int))).toNat := by
      unfold hz; simp [List.getD_eq_getElem?_getD, hk]
    simp only [List.map_cons, List.map_nil, List.sum_cons, List.sum_nil, Nat.add_zero, e]
    omega
theorem sum_other (W : List Wt) (k i : Nat) (hki : k ≠ i) (m : Nat) : ((plF k m).map (hz W i)).sum = 0 := by
  induction m with
  | zero => simp [plF]
  | succ m ih =>
    rw [plF_succ, List.map_append, List.sum_append, ih]
    simp [hz, hki]
theorem sum_to {W : List Wt} (hok : wOk W) (i : Nat) (hi : i < W.length) : ∀ k, k ≤ W.length → (((plTo W k).map (hz W i)).sum : Int) = if i < k then W[i].t else 0 := by
  intro k
  induction k with
  | zero => intro _; simp [plTo]
  | succ k ih =>
    intro hk
    rw [plTo_succ W k (by omega), List.map_append, List.sum_append]
    have h1 := ih (by omega)
    have ht := hok.2 k (by omega)
    by_cases q : k = i
    · subst q
      rw [if_neg (by omega)] at h1
      rw [if_pos (by omega)]
      have h2 := sum_pieces W k (by omega) ht.1 (np W[k].t) (Nat.le_refl _)
      have : W[k].t ≤ 64 * ((np W[k].t : Nat) : Int) := by unfold np; omega
      omega
    · rw [sum_other W k i q]
      by_cases q2 : i < k
      · rw [if_pos q2] at h1; rw [if_pos (by omega)]; omega
      · rw [if_neg q2] at h1; rw [if_neg (by omega)]; omega
/-- Files whose chunks are all there are as wanted. -/
theorem fin_want {W : List Wt} {G : List Ck} (h : fnB W G = true) : gfB (asF W.length G) = true ∧ wtL (asF W.length G) = W := by
  unfold fnB lfB at h
  rw [Bool.and_eq_true, Bool.and_eq_true] at h
  obtain ⟨hg, hm, hs⟩ := h
  rw [gtB_iff] at hg
  obtain ⟨hok, h200, hgc⟩ := hg
  have hme : msL W G = [] := by simpa using hm
  have hpl := places_eq hok hgc hme
  have hlen := asF_length W.length G
  have size : ∀ i (hi : i < W.length), (((asF W.length G).getD i ⟨#[]⟩).size : Int) = W[i].t := by
    intro i hi
    unfold asF
    rw [foldS_sz G _ i (by simpa using hi), szF_pl hgc i, hpl]
    have := sum_to hok i hi W.length (Nat.le_refl _)
    rw [if_pos hi] at this
    have e : ((List.replicate W.length (⟨#[]⟩ : ByteArray)).getD i ⟨#[]⟩).size = 0 := by simp [List.getD_eq_getElem?_getD, hi, ByteArray.size]
    rw [e]
    unfold plL
    omega
  have get : ∀ i (hi : i < (asF W.length G).length), (asF W.length G)[i] = (asF W.length G).getD i ⟨#[]⟩ := fun i hi => by simp [List.getD_eq_getElem?_getD, hi]
  constructor
  · rw [gfB_iff]
    refine ⟨by rw [hlen]; exact hok.1, fun i hi => ?_⟩
    have hi' : i < W.length := by rw [hlen] at hi; exact hi
    have h1 := size i hi'
    have h2 := hok.2 i hi'
    rw [get i hi]
    omega
  · apply List.ext_getElem
    · rw [wtL_length, hlen]
    · intro i h1 h2
      have hi : i < (asF W.length G).length := by rw [hlen]; exact h2
      have hsz := size i h2
      have hsum : ((csum ((asF W.length G).getD i ⟨#[]⟩).data.toList : Nat) : Int) = W[i].d := by
        unfold smB at hs
        rw [List.all_eq_true] at hs
        have := hs i (List.mem_range.2 h2)
        simp only [decide_eq_true_eq, List.getD_eq_getElem?_getD] at this ⊢
        rw [this]
        simp [h2]
      have ew : (wtL (asF W.length G))[i] = ⟨((asF W.length G)[i].size : Int), ((csum (asF W.length G)[i].data.toList : Nat) : Int)⟩ := by simp only [wtL, List.getElem_map]
      rw [ew, get i hi]
      cases hw : W[i] with
      | mk t d =>
        rw [hw] at hsz hsum
        simp only [Wt.mk.injEq]
        exact ⟨hsz, hsum⟩
end Go.Proofs.Ytocaigffikdlhaa
