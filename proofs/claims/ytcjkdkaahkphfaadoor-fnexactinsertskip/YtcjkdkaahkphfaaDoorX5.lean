/-
  Marks in a list of one's own, and a list held against its marks.
-/
import Derived.Test.YtcjkdkaahkphfaaDoorX1
import Derived.Test.YtcjkdkaahkphfaaDoorP9
import Derived.Test.YtcjkdkaahkphfaaDoorN1ToN2
import Derived.Test.YtcjkdkaahkphfaaDoorO3
namespace Go.Proofs.YtcjkdkaahkphfaaDoor
open Go.RowKit
set_option linter.unusedVariables false
set_option maxRecDepth 100000

def mkZ (k : Int) (n : Nat) : List Int := (List.range n).map fun i : Nat => k + (i : Int)
theorem mkZ_len (k : Int) (n : Nat) : (mkZ k n).length = n := by simp [mkZ]
theorem mkZ_map (k : Int) (n : Nat) : (mkZ k n).map (Value.int .i64) = mkI k n := by simp [mkZ, mkI]
def mkTw (t : Tw) (k : Int) : Tw := ⟨mkT k, k + 1, k + 1 + 1, mkT (k + 1 + 1 + 1), mkZ (k + 1 + 1 + 1 + 1) t.next.length⟩
def mkTs : List Tw → Int → List Tw
  | [], _ => []
  | t :: r, k => mkTw t k :: mkTs r (k + 1 + 1 + 1 + 1 + t.next.length)
def mkTe : List Tw → Int → Int
  | [], k => k
  | t :: r, k => mkTe r (k + 1 + 1 + 1 + 1 + t.next.length)
theorem mkTs_len (T : List Tw) (k : Int) : (mkTs T k).length = T.length := by
  induction T generalizing k with
  | nil => rfl
  | cons t r ih => simp only [mkTs, List.length_cons, ih]
theorem mkTe_succ (T : List Tw) (k : Int) (j : Nat) (h : j < T.length) : mkTe (T.take (j + 1)) k = mkTe (T.take j) k + 1 + 1 + 1 + 1 + T[j].next.length := by
  induction T generalizing k j with
  | nil => simp at h
  | cons t r ih =>
    cases j with
    | zero => simp [mkTe]
    | succ j => simp only [List.take_succ_cons, mkTe, List.getElem_cons_succ]; exact ih _ j (by simpa using h)
theorem mkTs_succ (T : List Tw) (k : Int) (j : Nat) (h : j < T.length) : mkTs (T.take (j + 1)) k = mkTs (T.take j) k ++ [mkTw T[j] (mkTe (T.take j) k)] := by
  induction T generalizing k j with
  | nil => simp at h
  | cons t r ih =>
    cases j with
    | zero => simp [mkTe, mkTs]
    | succ j => simp only [List.take_succ_cons, mkTe, mkTs, List.getElem_cons_succ, List.cons_append]; rw [ih _ j (by simpa using h)]
theorem mkTe_le (T : List Tw) (k : Int) (h : ∀ i (hi : i < T.length), T[i].next.length ≤ 5) : ∀ j, j ≤ T.length → k ≤ mkTe (T.take j) k ∧ mkTe (T.take j) k ≤ k + 9 * (j : Int) := by
  intro j
  induction j with
  | zero => intro _; simp [mkTe]
  | succ j ih =>
    intro hj
    have := ih (by omega)
    have h5 := h j (by omega)
    rw [mkTe_succ T k j (by omega)]
    omega
/-- The first j towers marked. -/
def mkTj (T : List Tw) (k : Int) (j : Nat) : List Tw := mkTs (T.take j) k ++ T.drop j
theorem mkTj_zero (T : List Tw) (k : Int) : mkTj T k 0 = T := by simp [mkTj, mkTs]
theorem mkTj_all (T : List Tw) (k : Int) : mkTj T k T.length = mkTs T k := by simp [mkTj]
theorem mkTj_len (T : List Tw) (k : Int) (j : Nat) (h : j ≤ T.length) : (mkTj T k j).length = T.length := by simp [mkTj, mkTs_len]; omega
theorem mkTj_at (T : List Tw) (k : Int) (j : Nat) (h : j < T.length) : (mkTj T k j)[j]? = some T[j] := by
  unfold mkTj
  have hl : (mkTs (T.take j) k).length = j := by rw [mkTs_len, List.length_take]; omega
  rw [List.getElem?_append_right (by omega), hl, Nat.sub_self, List.getElem?_drop, Nat.add_zero, List.getElem?_eq_getElem h]
theorem mkTj_set (T : List Tw) (k : Int) (j : Nat) (h : j < T.length) : (mkTj T k j).set j (mkTw T[j] (mkTe (T.take j) k)) = mkTj T k (j + 1) := by
  unfold mkTj
  have hl : (mkTs (T.take j) k).length = j := by rw [mkTs_len, List.length_take]; omega
  rw [List.set_append_right _ _ (by omega), hl, Nat.sub_self, List.drop_eq_getElem_cons h, List.set_cons_zero, mkTs_succ T k j h, List.append_assoc]
  rfl
theorem mkTs_at (T : List Tw) (k : Int) (j : Nat) (h : j < T.length) : (mkTs T k)[j]? = some (mkTw T[j] (mkTe (T.take j) k)) := by
  induction T generalizing k j with
  | nil => simp at h
  | cons t r ih =>
    cases j with
    | zero => simp [mkTe, mkTs]
    | succ j => simp only [mkTs, List.getElem?_cons_succ, List.take_succ_cons, mkTe, List.getElem_cons_succ]; exact ih _ j (by simpa using h)

theorem flat5_put (l : List Tc) (i : Nat) (k v : ByteArray) (s d : Int) (h : i < l.length) : ((((flat5 l).set (i * 5) (.string k)).set (i * 5 + 1) (.int .i64 s)).set (i * 5 + 2) (.int .i64 d)).set (i * 5 + 3) (.string v) = flat5 (l.set i ⟨k, s, d, v, l[i].u⟩) := by
  induction l generalizing i with
  | nil => simp at h
  | cons x r ih =>
    cases i with
    | zero => simp [flat5]
    | succ i =>
      rw [show (i + 1) * 5 = i * 5 + 1 + 1 + 1 + 1 + 1 from by omega]
      simp only [flat5, List.set_cons_succ, List.getElem_cons_succ]
      rw [← ih i (by simpa using h)]
theorem rows_set (T : List Tw) (gs cs : List Nat) (a : Nat) (t' : Tw) (ha : a < T.length) (h1 : gs.length = T.length) (h2 : cs.length = gs.length) (hl : t'.next.length = T[a].next.length) :
    List.zipWith rowU (T.set a t') (lnkVs (T.set a t') gs cs) = (List.zipWith rowU T (lnkVs T gs cs)).set a (rowU t' (lnkV t' (gs[a]'(by omega)) (cs[a]'(by omega)))) := by
  apply List.ext_getElem?
  intro i
  have hlV := lnkVs_len T gs cs h1 h2
  have hl' := lnkVs_len (T.set a t') gs cs (by rw [List.length_set]; exact h1) h2
  rw [List.length_set] at hl'
  by_cases hi : i < T.length
  · have hi' : i < (T.set a t').length := by rw [List.length_set]; exact hi
    rw [zipU_at _ _ i hi' (by omega), (List.getElem_eq_iff (show i < (lnkVs (T.set a t') gs cs).length by omega)).2 (lnkVs_at _ gs cs i hi' (by omega) (by omega))]
    by_cases e : a = i
    · subst e
      rw [List.getElem?_set_self (by simp; omega), List.getElem_set_self]
    · rw [List.getElem?_set_ne e, zipU_at _ _ i hi (by omega), (List.getElem_eq_iff (show i < (lnkVs T gs cs).length by omega)).2 (lnkVs_at T gs cs i hi (by omega) (by omega)), List.getElem_set_ne e]
  · rw [List.getElem?_eq_none (by simp; omega), List.getElem?_eq_none (by simp; omega)]
/-- A tower's item and links are written. -/
theorem OwnS.setTw {w w' : World} {base : Nat} {H : List Int} {T : List Tw} {gT n c g1 c1 : Nat} {gs cs : List Nat} (h : OwnS w base H T (.slice (some ⟨gT, 0, none⟩) n c) g1 c1 gs cs) (i : Nat) (hi : i < T.length) (h2 : i < gs.length) (h3 : i < cs.length) (t' : Tw) (hl : t'.next.length = T[i].next.length)
    (hr : w'.ownsRow base 49 5 (.slice (some ⟨gT, 0, none⟩) n c) T.length (flat5 ((List.zipWith rowU T (lnkVs T gs cs)).set i (rowU t' (lnkV t' gs[i] cs[i])))))
    (ho : w'.ownsRow base 3 1 (lnkV t' gs[i] cs[i]) t'.next.length (t'.next.map (.int .i64))) (c' : Chg (fun b => b = gT ∨ b = gs[i]) w w') :
    OwnS w' base H (T.set i t') (.slice (some ⟨gT, 0, none⟩) n c) g1 c1 gs cs := by
  have hd := h.d1 gT rfl
  refine ⟨by rw [List.length_set]; exact h.len, h.room, ?_, fun j j1 j2 j3 => ?_, h.nd, c'.owns h.head (fun b hb e => ?_), h.d1, h.d2⟩
  · rw [rows_set T gs cs i t' hi h.len h.room hl, List.length_set]; exact hr
  · have j1' : j < T.length := by rw [List.length_set] at j1; exact j1
    by_cases e : i = j
    · subst e
      simp only [List.getElem_set_self]; exact ho
    · simp only [List.getElem_set_ne e]
      refine c'.owns (h.lnk j j1' j2 j3) (fun b hb hh => ?_)
      have eb : b = gs[j] := blk_eq hb
      rcases hh with x | x
      · exact hd.1 (by rw [← x, eb]; exact List.getElem_mem _)
      · have hnd := List.pairwise_iff_getElem.1 h.nd
        rcases Nat.lt_or_gt_of_ne e with hlt | hlt
        · exact hnd i j h2 j2 hlt (by rw [← eb, x])
        · exact hnd j i j2 h2 hlt (by rw [← eb, x])
  · have eb := blk_eq hb
    rcases e with x | x
    · exact hd.2 (by omega)
    · exact h.d2 (by rw [← eb, x]; exact List.getElem_mem _)
theorem box_of_owns {w : World} {base : Nat} {e : TypeId} {g n c : Nat} {xs : List Value} (h : w.ownsRow base e 1 (.slice (some ⟨g, 0, none⟩) n c) n xs) : Box w g xs :=
  ⟨(owns_lt h).2, fun j v hv => by
    have hj : j < n * 1 := by
      have := (List.getElem?_eq_some_iff.1 hv).1
      have := h.1
      omega
    rw [h.cellAt j hj]; exact hv, fun j => h.frozenAt j⟩

set_option maxHeartbeats 2000000 in
theorem markInts_own (g cap base n : Nat) (l : List Value) (k : Int) (w : World) (ho : w.ownsRow base 3 1 (.slice (some ⟨g, 0, none⟩) n cap) n l) (hn : n ≤ 1048576) (hk0 : 0 ≤ k) (hk1 : k ≤ 1073741824) :
    Calls Tryd.prog 31 #[.slice (some ⟨g, 0, none⟩) n cap, .int .i64 k] w fun e w' => e = .returned (.int .i64 (k + n)) ∧ w'.ownsRow base 3 1 (.slice (some ⟨g, 0, none⟩) n cap) n (mkI k n) ∧ Chg (· = g) w w' := by
  obtain ⟨N, hl⟩ : ∃ N, l.length = N := ⟨_, rfl⟩
  have hlN : N = n := by have := ho.1; omega
  subst hlN
  have HLL : Hid (l.length = N) := hl
  clear hl
  go_enter Tryd.func31, Tryd.ntmps31
  go_wp2
  go_loopw [1, 5] (fun t i wr => ∃ j : Nat, j ≤ N ∧ i = .int .i64 j ∧ t = .int .i64 (k + j) ∧ wr.ownsRow base 3 1 (.slice (some ⟨g, 0, none⟩) N cap) N (mkJ l k j) ∧ Chg (· = g) w wr) (fun _ i _ => N - (intOf i).toNat)
  case atStart => exact ⟨0, Nat.zero_le _, rfl, by simp, by simpa [mkJ] using ho, Chg.refl _ _⟩
  case round =>
    clear ho
    obtain ⟨j, hj, rfl, rfl, hbx, hch⟩ := hrel
    by_cases hlt : j < N
    · have HN : Hid ((mkJ l k j).set j (.int .i64 (k + (j : Int))) = mkJ l k (j + 1)) := mkJ_set l k j (by have := HLL.out; omega)
      have hgl := (owns_lt hbx).2
      obtain ⟨⟨old, d0⟩, f0⟩ := owns_has hbx j (by omega)
      have HB : Hid ((wr.setCell ⟨g, j, none⟩ (.int .i64 (k + (j : Int)))).ownsRow base 3 1 (.slice (some ⟨g, 0, none⟩) N cap) N (mkJ l k (j + 1))) := by
        show World.ownsRow _ _ _ _ _ _ _; rw [← HN.out]; exact (hbx.stored j _).1
      clear hbx HN
      go_wp2
      go_roundw
      case rel => exact ⟨j + 1, by omega, by go_num, by go_num, HB.out, hch.setCell rfl _⟩
      case measure => simp [intOf]; omega
    · obtain rfl : j = N := by omega
      have e := mkJ_all l k
      rw [HLL.out] at e
      rw [e] at hbx
      clear e
      go_wp2
      go_ret
      exact ⟨rfl, hbx, hch⟩

set_option maxHeartbeats 16000000 in
theorem markTowers_own (gT c base : Nat) (H : List Int) (T : List Tw) (g1 c1 : Nat) (gs cs : List Nat) (k : Int) (w : World) (h : OwnS w base H T (.slice (some ⟨gT, 0, none⟩) T.length c) g1 c1 gs cs) (hn : T.length ≤ 1000) (hx : ∀ i (hi : i < T.length), T[i].next.length ≤ 5) (hk1 : 1 ≤ k) (hk : k ≤ 1000) :
    Calls Tryd.prog 32 #[.slice (some ⟨gT, 0, none⟩) T.length c, .int .i64 k] w fun e w' => e = .returned (.int .i64 (mkTe T k)) ∧ OwnS w' base H (mkTs T k) (.slice (some ⟨gT, 0, none⟩) T.length c) g1 c1 gs cs ∧ Chg (fun b => b = gT ∨ b ∈ gs) w w' := by
  have HLE : Hid (∀ j, j ≤ T.length → k ≤ mkTe (T.take j) k ∧ mkTe (T.take j) k ≤ k + 9 * (j : Int)) := mkTe_le T k hx
  have HX : Hid (∀ i (hi : i < T.length), T[i].next.length ≤ 5) := hx
  clear hx
  have HGL : Hid (gs.length = T.length) := h.len
  have HCL : Hid (cs.length = gs.length) := h.room
  have HD : Hid (gT ∉ gs) := (h.d1 gT rfl).1
  go_enter Tryd.func32, Tryd.ntmps32
  go_wp2
  go_loopw [1, 5] (fun t i wr => ∃ j : Nat, j ≤ T.length ∧ i = .int .i64 j ∧ t = .int .i64 (mkTe (T.take j) k) ∧ OwnS wr base H (mkTj T k j) (.slice (some ⟨gT, 0, none⟩) T.length c) g1 c1 gs cs ∧ Chg (fun b => b = gT ∨ b ∈ gs) w wr) (fun _ i _ => T.length - (intOf i).toNat)
  case atStart => exact ⟨0, Nat.zero_le _, rfl, by simp [mkTe], by rw [mkTj_zero]; exact h, Chg.refl _ _⟩
  case round =>
    clear h
    obtain ⟨j, hj, rfl, rfl, S, hch⟩ := hrel
    by_cases hlt : j < T.length
    · obtain ⟨m, hm⟩ : ∃ m, m = mkTe (T.take j) k := ⟨_, rfl⟩
      have HLj := HLE.out j hj
      rw [← hm] at HLj ⊢
      have HE : Hid (mkTe (T.take (j + 1)) k = m + 1 + 1 + 1 + 1 + T[j].next.length) := by show _ = _; rw [mkTe_succ T k j hlt, ← hm]
      have HT1 : Hid ((mkTj T k j).set j (mkTw T[j] m) = mkTj T k (j + 1)) := by show _ = _; rw [hm]; exact mkTj_set T k j hlt
      have hTl := mkTj_len T k j hj
      have hat := (List.getElem_eq_iff (show j < (mkTj T k j).length by omega)).2 (mkTj_at T k j hlt)
      have h5 := HX.out j hlt
      have hgl := HGL.out
      have hcl := HCL.out
      obtain ⟨_, _, _, hgTl, z0, z1, z2, z3, z4⟩ := S.cells j (by omega) (by omega) (by omega)
      rename_i gT' hgTe hnT
      simp only [Option.some.injEq, Addr.mk.injEq, and_true] at hgTe
      subst hgTe
      clear z0 z1 z2 z3
      have hrows := S.rows
      have lk := S.lnk j (by omega) (by omega) (by omega)
      rw [hat] at z4 lk
      rw [hTl] at hrows
      have hmem : gs[j]'(by omega) ∈ gs := List.getElem_mem _
      have hne : gs[j]'(by omega) ≠ gT := fun e => HD.out (e ▸ hmem)
      have HSET : Hid (∀ W, W.ownsRow base 49 5 (.slice (some ⟨gT, 0, none⟩) T.length c) T.length (((((flat5 (List.zipWith rowU (mkTj T k j) (lnkVs (mkTj T k j) gs cs))).set (j * 5) (.string (mkT m))).set (j * 5 + 1) (.int .i64 (m + 1))).set (j * 5 + 2) (.int .i64 (m + 1 + 1))).set (j * 5 + 3) (.string (mkT (m + 1 + 1 + 1)))) → W.ownsRow base 3 1 (.slice (some ⟨gs[j]'(by omega), 0, none⟩) T[j].next.length (cs[j]'(by omega))) T[j].next.length (mkI (m + 1 + 1 + 1 + 1) T[j].next.length) → Chg (fun b => b = gT ∨ b = gs[j]'(by omega)) wr W → OwnS W base H (mkTj T k (j + 1)) (.slice (some ⟨gT, 0, none⟩) T.length c) g1 c1 gs cs) := fun W hr ho hc => by
        rw [← HT1.out]
        have hll : (mkTw T[j] m).next.length = T[j].next.length := mkZ_len _ _
        have hzl : j < (List.zipWith rowU (mkTj T k j) (lnkVs (mkTj T k j) gs cs)).length := by have := lnkVs_len (mkTj T k j) gs cs (by omega) hcl; simp; omega
        refine S.setTw j (by omega) (by omega) (by omega) (mkTw T[j] m) (by rw [hat]; exact hll) ?_ ?_ hc
        · rw [flat5_put _ _ _ _ _ _ hzl] at hr
          have eu : ((List.zipWith rowU (mkTj T k j) (lnkVs (mkTj T k j) gs cs))[j]'hzl).u = lnkV T[j] (gs[j]'(by omega)) (cs[j]'(by omega)) := by
            have e1 := (List.getElem_eq_iff hzl).2 (zipU_at (mkTj T k j) (lnkVs (mkTj T k j) gs cs) j (by omega) (by have := lnkVs_len (mkTj T k j) gs cs (by omega) hcl; omega))
            have e2 := (List.getElem_eq_iff (show j < (lnkVs (mkTj T k j) gs cs).length by have := lnkVs_len (mkTj T k j) gs cs (by omega) hcl; omega)).2 (lnkVs_at (mkTj T k j) gs cs j (by omega) (by omega) (by omega))
            rw [e1, e2, hat]
            rfl
          rw [eu] at hr
          rw [hTl]
          have ev : lnkV (mkTw T[j] m) (gs[j]'(by omega)) (cs[j]'(by omega)) = lnkV T[j] (gs[j]'(by omega)) (cs[j]'(by omega)) := by unfold lnkV; rw [hll]
          unfold rowU
          rw [ev]
          exact hr
        · unfold lnkV
          rw [hll]
          show World.ownsRow _ _ _ _ _ _ ((mkZ _ _).map _)
          rw [mkZ_map]; exact ho
      unfold lnkV at z4 lk
      clear S HT1 hm hnT
      generalize flat5 (List.zipWith rowU (mkTj T k j) (lnkVs (mkTj T k j) gs cs)) = RW at *
      have HGJ : Hid (gs[j]'(by have := HGL.out; omega) ∈ gs) := hmem
      generalize gs[j]'(by have := HGL.out; omega) = gj at *
      generalize cs[j]'(by have := HGL.out; have := HCL.out; omega) = cj at *
      clear hgl hcl hat hTl
      generalize T[j].next.map (Value.int .i64) = lkv at *
      generalize T[j].next.length = nl at *
      have hz4 := hrows.cellAt (j * 5 + 4) (by omega)
      rw [z4] at hz4
      have HZ4 : Hid (RW[j * 5 + 4]? = some (.slice (some ⟨gj, 0, none⟩) nl cj)) := hz4.symm
      clear hz4 z4 hmem
      go_wp2_with fail
      refine (markText_any m _ (by omega) (by omega)).mono ?_
      rintro e w1 ⟨rfl, hb1⟩
      have R1 := owns_below hrows hb1
      have L1 := owns_below lk hb1
      have C1 : Chg (fun b => b = gT ∨ b = gj) wr w1 := Chg.of_below hb1
      have hgl1 := (owns_lt R1).2
      obtain ⟨⟨o0, d0⟩, f0⟩ := owns_has R1 (j * 5) (by omega)
      obtain ⟨⟨o1, d1⟩, f1⟩ := owns_has R1 (j * 5 + 1) (by omega)
      obtain ⟨⟨o2, d2⟩, f2⟩ := owns_has R1 (j * 5 + 2) (by omega)
      have R2 := ((((R1.stored (j * 5) (.string (mkT m))).1).stored (j * 5 + 1) (.int .i64 (m + 1))).1.stored (j * 5 + 2) (.int .i64 (m + 1 + 1))).1
      have cc := (((Chg.refl (· = gT) w1).setCell (p := ⟨gT, j * 5, none⟩) rfl (.string (mkT m))).setCell (p := ⟨gT, j * 5 + 1, none⟩) rfl (.int .i64 (m + 1))).setCell (p := ⟨gT, j * 5 + 2, none⟩) rfl (.int .i64 (m + 1 + 1))
      have L2 := cc.owns L1 (fun b hb e => by have := blk_eq hb; omega)
      have C2 := C1.trans (cc.mono (fun b e => .inl e))
      clear hrows lk hb1 R1 L1 C1 cc
      generalize mkT m = t1 at *
      go_wp2_with fail
      refine (markText_any (m + 1 + 1 + 1) _ (by omega) (by omega)).mono ?_
      rintro e w2 ⟨rfl, hb2⟩
      have R3 := owns_below R2 hb2
      have L3 := owns_below L2 hb2
      have C3 := C2.trans (Chg.of_below hb2)
      have hgl2 := (owns_lt R3).2
      obtain ⟨⟨o3, d3⟩, f3⟩ := owns_has R3 (j * 5 + 3) (by omega)
      have R4 := (R3.stored (j * 5 + 3) (.string (mkT (m + 1 + 1 + 1)))).1
      have cc := (Chg.refl (· = gT) w2).setCell (p := ⟨gT, j * 5 + 3, none⟩) rfl (.string (mkT (m + 1 + 1 + 1)))
      have L4 := cc.owns L3 (fun b hb e => by have := blk_eq hb; omega)
      have C4 := C3.trans (cc.mono (fun b e => .inl e))
      have d4 := R4.cellAt (j * 5 + 4) (by omega)
      rw [List.getElem?_set_ne (by omega), List.getElem?_set_ne (by omega), List.getElem?_set_ne (by omega), List.getElem?_set_ne (by omega), HZ4.out] at d4
      have KM := markInts_own gj cj base nl _ (m + 1 + 1 + 1 + 1) _ L4 (by omega) (by omega) (by omega)
      have hgl4 := (owns_lt R4).2
      clear d0 f0 d1 f1 d2 f2 R2 L2 C2 R3 L3 C3 hb2 cc HZ4
      have HR4 : Hid _ := R4
      have HC4 : Hid _ := C4
      clear R4 C4 L4
      generalize mkT (m + 1 + 1 + 1) = t2 at *
      go_wp2_with fail
      refine KM.mono ?_
      rintro e w3 ⟨rfl, L5, hc3⟩
      have R5 := hc3.owns HR4.out (fun b hb e => by have := blk_eq hb; omega)
      have C5 := HC4.out.trans (hc3.mono (fun b e => .inr e))
      have S5 := HSET.out w3 R5 L5 C5
      have hch5 := hch.trans (C5.mono (fun b e => e.elim .inl (fun x => .inr (by rw [x]; exact HGJ.out))))
      clear R5 L5 C5 HR4 HC4 HSET KM hc3 d3 f3 d4 hch
      go_wp2
      go_roundw
      case rel => exact ⟨j + 1, by omega, by go_num, by rw [HE.out], S5, hch5⟩
      case measure => simp [intOf]; omega
    · obtain rfl : j = T.length := by omega
      rw [mkTj_all] at S
      rw [List.take_length]
      go_wp2
      go_ret
      exact ⟨rfl, S, hch⟩
end Go.Proofs.YtcjkdkaahkphfaaDoor
