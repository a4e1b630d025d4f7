/-
  What is lacking: fileSet.lacking, l9Has.
-/
import Derived.Test.YtenbdjlhcadhaaaY9
namespace Go.Proofs.Ytenbdjlhcadhaaa
open Go.RowKit Go.Maps
set_option linter.unusedVariables false
set_option maxRecDepth 100000

theorem any_take_succ' (f : Mt → Bool) (l : List Mt) (k : Nat) (h : k < l.length) : (l.take (k + 1)).any f = ((l.take k).any f || f l[k]) := by
  rw [List.take_succ_eq_append_getElem h, List.any_append]; simp
theorem apart_eq {l : List Mt} (h : l.Pairwise fun a b => a.n ≠ b.n) {a b : Mt} (ha : a ∈ l) (hb : b ∈ l) (hn : a.n = b.n) : a = b := by
  obtain ⟨i, hi, rfl⟩ := List.getElem_of_mem ha
  obtain ⟨j, hj, rfl⟩ := List.getElem_of_mem hb
  rw [List.pairwise_iff_getElem] at h
  rcases Nat.lt_trichotomy i j with hij | hij | hij
  · exact absurd hn (h i j hi hj hij)
  · subst hij; rfl
  · exact absurd hn.symm (h j i hj hi hij)
theorem lk_eq {D : DataW Unit} {la : List Mt} (h : Means D la) {s m : Mt} (hs : 1 ≤ s.n) (hm : D.atKey (keyN s.n) (mtD Mt.zero) = mtD m) : eqM m s = hasM la s := by
  obtain ⟨h1, h2, h3, h4⟩ := h
  by_cases he : ∃ a ∈ la, a.n = s.n
  · obtain ⟨a, ha, hn⟩ := he
    have e := h4 a ha (mtD Mt.zero)
    rw [hn] at e
    have : a = m := mtD_inj (e.symm.trans hm)
    subst this
    rw [Bool.eq_iff_iff, eqM_iff, hasM_iff]
    exact ⟨fun e => e ▸ ha, fun hs => apart_eq h2 ha hs hn⟩
  · have hh : Maps.has D (keyN s.n) = false := by
      rw [h3, List.any_eq_false]
      intro x hx
      simp only [beq_iff_eq]
      exact fun e => he ⟨x, hx, e⟩
    rw [atKey_of_not_has hh] at hm
    have : Mt.zero = m := mtD_inj hm
    subst this
    have e1 : eqM Mt.zero s = false := by
      rw [← Bool.not_eq_true, eqM_iff]
      rintro rfl
      simp [Mt.zero] at hs
    have e2 : hasM la s = false := by
      rw [← Bool.not_eq_true, hasM_iff]
      exact fun hx => he ⟨s, hx, rfl⟩
    rw [e1, e2]
/-- Those of the first k that are not in la just so. -/
def lkL (la l : List Mt) (k : Nat) : List Mt := (l.take k).filter fun m => !hasM la m
theorem lkL_zero (la l : List Mt) : lkL la l 0 = [] := rfl
theorem lkL_yes (la l : List Mt) (k : Nat) (h : k < l.length) (hy : hasM la l[k] = false) : lkL la l (k + 1) = lkL la l k ++ [l[k]] := by
  unfold lkL; rw [List.take_succ_eq_append_getElem h, List.filter_append]; simp [hy]
theorem lkL_no (la l : List Mt) (k : Nat) (h : k < l.length) (hy : hasM la l[k] = true) : lkL la l (k + 1) = lkL la l k := by
  unfold lkL; rw [List.take_succ_eq_append_getElem h, List.filter_append]; simp [hy]
theorem lkL_len (la l : List Mt) (k : Nat) : (lkL la l k).length ≤ k := by
  unfold lkL
  exact Nat.le_trans (List.length_filter_le _ _) (by simp; omega)
theorem four_new (W : World) (n d : Int) (k v : ByteArray) : ∀ j u, [Value.int .i64 n, .int .i64 d, .string k, .string v][j]? = some u → (W.alloc (.cells #[.int .i64 n, .int .i64 d, .string k, .string v] 82)).cell? ((⟨W.heap.size, 0, none⟩ : Addr).add j) = some u := by
  intro j u hj
  have hb := Box.new W #[.int .i64 n, .int .i64 d, .string k, .string v] 82
  rw [show (⟨W.heap.size, 0, none⟩ : Addr).add j = ⟨W.heap.size, j, none⟩ from by simp [Addr.add]; omega]
  exact hb.2.1 j u hj
theorem flat4_one (s : Mt) : flat4 [s] = [.int .i64 s.n, .int .i64 s.d, .string s.k, .string s.v] := rfl
theorem flat4_ones (n d : Int) (k v : ByteArray) : ∀ u ∈ [Value.int .i64 n, .int .i64 d, .string k, .string v], u.oneCell' = true := by
  intro u hu
  simp only [List.mem_cons, List.not_mem_nil, or_false] at hu
  rcases hu with rfl | rfl | rfl | rfl <;> rfl

set_option maxHeartbeats 4000000 in
theorem lacking_any (b0 n0 : Nat) (D : DataW Unit) (la : List Mt) (v : Value) (l : List Mt) (w : World) (hm : w.ownsMap Try.prog 3 mtE b0 n0 D) (hM : Means D la) (hv : IR w v l) (hn : l.length ≤ 30) (hg : ∀ i (h : i < l.length), 1 ≤ l[i].n ∧ l[i].n ≤ 100000) :
    Calls Try.prog 52 #[.map (some b0), v] w fun e w' => ∃ u, e = .returned u ∧ w'.ownsRow w.heap.size 82 4 u (lkL la l l.length).length (flat4 (lkL la l l.length)) ∧ Below w.heap.size w w' := by
  obtain ⟨i0, hi, hz0, hzs, hzb⟩ := info_parts Try.info82
  obtain ⟨a, cap, rfl, hc⟩ := hv
  have HME : Hid (Means D la) := hM
  clear hM
  go_enter Try.func52, Try.ntmps52
  go_wp2
  go_loopw [5, 10] (fun u i wr => ∃ k : Nat, k ≤ l.length ∧ i = .int .i64 k ∧ wr.ownsRow w.heap.size 82 4 u (lkL la l k).length (flat4 (lkL la l k)) ∧ Below w.heap.size w wr) (fun _ i _ => l.length - (intOf i).toNat)
  case atStart => exact ⟨0, Nat.zero_le _, rfl, by rw [lkL_zero]; exact World.ownsRow_nil _ _ _ _, Below.refl _ _⟩
  case round =>
    obtain ⟨k, hk, rfl, hown, hbr⟩ := hrel
    have hzr := hbr.size
    by_cases hlt : k < l.length
    · obtain ⟨b, off, rfl, hbl, hcell⟩ := hc (by intro e; simp [e] at hlt)
      have hc0 := (hbr.cell (p := ⟨b, off + k * 4, none⟩) hbl).trans (hcell k hlt).1
      have hc1 := (hbr.cell (p := ⟨b, off + k * 4 + 1, none⟩) hbl).trans (hcell k hlt).2.1
      have hc2 := (hbr.cell (p := ⟨b, off + k * 4 + 2, none⟩) hbl).trans (hcell k hlt).2.2.1
      have hc3 := (hbr.cell (p := ⟨b, off + k * 4 + 3, none⟩) hbl).trans (hcell k hlt).2.2.2
      have hbl2 : b < wr.heap.size := by omega
      have hgk := hg k hlt
      have hkey := key3 l[k].n (by omega) (by omega)
      have hmA := (map_below hm hbr).alloc (.cells #[.int .i64 l[k].n, .int .i64 l[k].d, .string l[k].k, .string l[k].v] 82)
      obtain ⟨x, ps, hrun, hR⟩ := hmA.lookup law3 Try.underlying78 (zero82 _) (show mtE (mtV Mt.zero) = some (mtD Mt.zero, []) from rfl) hkey
      obtain ⟨m, rfl, hz⟩ := mtE_inv hR
      have hzm : D.atKey (keyN l[k].n) (mtD Mt.zero) = mtD m := congrArg Prod.fst hz
      have HQ := lk_eq HME.out hgk.1 hzm
      have hol := lkL_len la l k
      have HY : Hid (hasM la l[k] = false → lkL la l (k + 1) = lkL la l k ++ [l[k]]) := lkL_yes la l k hlt
      have HN : Hid (hasM la l[k] = true → lkL la l (k + 1) = lkL la l k) := lkL_no la l k hlt
      have hBA := hbr.alloc hzr (.cells #[.int .i64 l[k].n, .int .i64 l[k].d, .string l[k].k, .string l[k].v] 82)
      have OA := owns_below hown (below_alloc wr (.cells #[.int .i64 l[k].n, .int .i64 l[k].d, .string l[k].k, .string l[k].v] 82))
      have eg := eqG82
      clear hcell hc hg hown hz hR hmA hzm hgk HME
      generalize l[k] = t at *
      obtain ⟨tn, td, tk, tv⟩ := t
      obtain ⟨mn, md, mk, mv⟩ := m
      have NE := fun w => neMetaV mk mv tk tv mn md tn td w
      rw [HQ] at NE
      clear HQ
      unfold mtV at hrun
      dsimp only at *
      generalize hasM la ⟨tn, td, tk, tv⟩ = c at *
      generalize lkL la l k = zs at *
      cases c
      · have HY2 : Hid (lkL la l (k + 1) = zs ++ [⟨tn, td, tk, tv⟩]) := HY.out (by trivial)
        have HFL : Hid (flat4 (zs ++ [⟨tn, td, tk, tv⟩]) = flat4 zs ++ [.int .i64 tn, .int .i64 td, .string tk, .string tv]) := by show _ = _; rw [flat4_append]; rfl
        clear HN HY
        have hzA := hBA.size
        have ON := four_new (wr.alloc (.cells #[.int .i64 tn, .int .i64 td, .string tk, .string tv] 82)) tn td tk tv
        rw [World.size_alloc] at ON
        go_wp2_with (at_builtin; refine wpList_append_own _ rfl _ _ 23 rfl w.heap.size 82 i0 (.agg #[.int .i64 0, .int .i64 0, .string ⟨#[]⟩, .string ⟨#[]⟩]) 4 48 Try.underlying23 hi hz0 hzs hzb rfl (by decide) _ zs.length (flat4 zs) rfl (owns_below OA (below_alloc _ _)) ⟨wr.heap.size + 1, 0, none⟩ 1 1 [.int .i64 tn, .int .i64 td, .string tk, .string tv] rfl rfl ON (flat4_ones tn td tk tv) (by unfold maxLen; omega) (by omega) (by simp; omega) ?_; intro v' w4 hown4 hgrow4 _)
        go_roundw
        case rel =>
          refine ⟨k + 1, by omega, by go_num, ?_, ?_⟩
          · rw [HY2.out, HFL.out, List.length_append]; exact hown4
          · exact (hBA.alloc hzA _).grown hgrow4 (by simp; omega) (owns_ge OA)
        case measure => simp [intOf]; omega
      · have HN2 : Hid (lkL la l (k + 1) = zs) := HN.out (by trivial)
        clear HN HY
        go_wp2
        go_roundw
        case rel => exact ⟨k + 1, by omega, by go_num, by rw [HN2.out]; exact OA, hBA⟩
        case measure => simp [intOf]; omega
    · obtain rfl : k = l.length := by omega
      clear hc
      go_wp2
      exact bodyPost_ret (v := u5) (by simp [results, Try.results52, go_sem]) rfl ⟨_, rfl, hown, hbr⟩

set_option maxHeartbeats 2000000 in
theorem l9Has_any (n d : Int) (ka kb : ByteArray) (v : Value) (l : List Mt) (w : World) (hv : IR w v l) (hn : l.length ≤ 1048576) :
    Calls Try.prog 53 #[v, .agg #[.int .i64 n, .int .i64 d, .string ka, .string kb]] w fun e w' => e = .returned (.bool (hasM l ⟨n, d, ka, kb⟩)) ∧ Below w.heap.size w w' := by
  obtain ⟨a, cap, rfl, hc⟩ := hv
  obtain ⟨W0, hW0⟩ : ∃ W0, W0 = w.alloc (.cells #[.int .i64 n, .int .i64 d, .string ka, .string kb] 82) := ⟨_, rfl⟩
  have hB0 : Below w.heap.size w W0 := by rw [hW0]; exact below_alloc _ _
  have X0 : Box W0 w.heap.size [.int .i64 n, .int .i64 d, .string ka, .string kb] := by rw [hW0]; exact Box.new w #[.int .i64 n, .int .i64 d, .string ka, .string kb] 82
  have hz0 := hB0.size
  go_enter Try.func53, Try.ntmps53
  go_wp2
  rw [← hW0]; clear hW0
  go_loopw [9] (fun i wr => ∃ k : Nat, k ≤ l.length ∧ i = .int .i64 k ∧ (l.take k).any (fun x => eqM x ⟨n, d, ka, kb⟩) = false ∧ Below W0.heap.size W0 wr) (fun i _ => l.length - (intOf i).toNat)
  case atStart => exact ⟨0, Nat.zero_le _, rfl, rfl, Below.refl _ _⟩
  case round =>
    obtain ⟨k, hk, rfl, hg, hb⟩ := hrel
    have hbw := hB0.trans (hb.mono hz0)
    have hz := hb.size
    by_cases hlt : k < l.length
    · obtain ⟨b, off, rfl, hbl, hcell⟩ := hc (by intro e; simp [e] at hlt)
      have hc0 := (hbw.cell (p := ⟨b, off + k * 4, none⟩) hbl).trans (hcell k hlt).1
      have hc1 := (hbw.cell (p := ⟨b, off + k * 4 + 1, none⟩) hbl).trans (hcell k hlt).2.1
      have hc2 := (hbw.cell (p := ⟨b, off + k * 4 + 2, none⟩) hbl).trans (hcell k hlt).2.2.1
      have hc3 := (hbw.cell (p := ⟨b, off + k * 4 + 3, none⟩) hbl).trans (hcell k hlt).2.2.2
      have hbl2 : b < wr.heap.size := by omega
      obtain ⟨hxl, x0, x1, x2, x3⟩ := (X0.below hb).c4
      have HT : Hid ((l.take (k + 1)).any (fun x => eqM x ⟨n, d, ka, kb⟩) = eqM l[k] ⟨n, d, ka, kb⟩) := by show _ = _; rw [any_take_succ' _ l k hlt, hg]; rfl
      have HA : Hid (eqM l[k] ⟨n, d, ka, kb⟩ = true → hasM l ⟨n, d, ka, kb⟩ = true) := fun h => List.any_eq_true.2 ⟨l[k], List.getElem_mem hlt, h⟩
      have EQ := fun w => eqMetaV l[k].k l[k].v ka kb l[k].n l[k].d n d w
      have HC : Hid (eqM ⟨l[k].n, l[k].d, l[k].k, l[k].v⟩ ⟨n, d, ka, kb⟩ = eqM l[k] ⟨n, d, ka, kb⟩) := rfl
      rw [HC.out] at EQ
      have eg := eqG82
      clear hcell hc HC hg
      generalize eqM l[k] ⟨n, d, ka, kb⟩ = c at *
      generalize l[k] = t at *
      obtain ⟨tn, td, tk, tv⟩ := t
      dsimp only at *
      have hBA := hb.alloc hz (.cells #[.int .i64 tn, .int .i64 td, .string tk, .string tv] 82)
      have hBE := hB0.trans (hBA.mono hz0)
      cases c
      · go_wp2
        go_roundw
        case rel => exact ⟨k + 1, by omega, by go_num, HT.out, hBA⟩
        case measure => simp [intOf]; omega
      · have HA2 : Hid (hasM l ⟨n, d, ka, kb⟩ = true) := HA.out (by trivial)
        clear HA HT
        go_wp2
        go_ret
        exact ⟨by rw [HA2.out]; rfl, hBE⟩
    · obtain rfl : k = l.length := by omega
      rw [List.take_length] at hg
      have HG : Hid (hasM l ⟨n, d, ka, kb⟩ = false) := hg
      clear hg hc
      go_wp2
      go_ret
      exact ⟨by rw [HG.out]; rfl, hbw⟩
end Go.Proofs.Ytenbdjlhcadhaaa
