/-
  spec.l1Put, spec.l1Without.
-/
import Derived.Test.YtbgemebpfcbloaaZ1
namespace Go.Proofs.Ytbgemebpfcbloaa
open Go.RowKit Go.Maps
set_option linter.unusedVariables false
set_option maxRecDepth 100000

theorem PZ_take {w : World} {g c : Nat} {l : List (ByteArray × Int)} {base : Nat} {e : TypeId} (h : w.ownsRow base e 2 (.slice (some ⟨g, 0, none⟩) l.length c) l.length (flat l)) (k : Nat) (hk : k ≤ l.length) (cap : Nat) : PZ w (.slice (some ⟨g, 0, none⟩) k cap) (l.take k) := by
  have hl : (l.take k).length = k := by simp; omega
  refine ⟨⟨some ⟨g, 0, none⟩, cap, by rw [hl], fun _ => ⟨g, 0, rfl, (owns_lt h).2, fun i hi => ?_⟩⟩, .inr ⟨g, 0, cap, by rw [hl]⟩⟩
  have hi' : i < l.length := by omega
  rw [Nat.zero_add, List.getElem_take]
  exact ⟨by rw [h.cellAt (i * 2) (by omega), flat_get0 l i hi'], by rw [h.cellAt (i * 2 + 1) (by omega), flat_get1 l i hi']⟩
theorem PZ_drop {w : World} {g c : Nat} {l : List (ByteArray × Int)} {base : Nat} {e : TypeId} (h : w.ownsRow base e 2 (.slice (some ⟨g, 0, none⟩) l.length c) l.length (flat l)) (k : Nat) (hk : k ≤ l.length) (cap : Nat) : PZ w (.slice (some ⟨g, k * 2, none⟩) (l.length - k) cap) (l.drop k) := by
  have hl : (l.drop k).length = l.length - k := by simp
  refine ⟨⟨some ⟨g, k * 2, none⟩, cap, by rw [hl], fun _ => ⟨g, k * 2, rfl, (owns_lt h).2, fun i hi => ?_⟩⟩, .inr ⟨g, k * 2, cap, by rw [hl]⟩⟩
  have hi' : k + i < l.length := by omega
  rw [List.getElem_drop, ← Nat.add_mul]
  exact ⟨by rw [h.cellAt ((k + i) * 2) (by omega), flat_get0 l (k + i) hi'], by rw [h.cellAt ((k + i) * 2 + 1) (by omega), flat_get1 l (k + i) hi']⟩

theorem PZ_empty (w : World) (b off c : Nat) : PZ w (.slice (some ⟨b, off, none⟩) 0 c) [] := ⟨⟨_, _, rfl, fun h => absurd rfl h⟩, .inr ⟨b, off, c, rfl⟩⟩

set_option maxHeartbeats 4000000 in
theorem l1Put_any (g c base : Nat) (lv : List (ByteArray × Int)) (nm : ByteArray) (m : Int) (w : World) (ho : w.ownsRow base 39 2 (.slice (some ⟨g, 0, none⟩) lv.length c) lv.length (flat lv)) (hr : Ris lv) (hn : lv.length ≤ 1000) :
    Calls Try.prog 109 #[.slice (some ⟨g, 0, none⟩) lv.length c, .agg #[.string nm, .int .i64 m]] w fun e w' => (∃ g' c', e = .returned (.slice (some ⟨g', 0, none⟩) (putL lv nm m).length c') ∧ w'.ownsRow w.heap.size 39 2 (.slice (some ⟨g', 0, none⟩) (putL lv nm m).length c') (putL lv nm m).length (flat (putL lv nm m))) ∧ Below w.heap.size w w' := by
  obtain ⟨j0, hj, kz0, kzs, kzb⟩ := info_parts Try.info39
  have hcl : lv.length ≤ c := by
    rcases ho.2 with ⟨h, _⟩ | ⟨g', cap, cur, h, _, _, h1, _⟩
    · simp at h
    · simp only [Value.slice.injEq] at h; omega
  have hcm : c ≤ maxLen := by
    rcases ho.2 with ⟨h, _⟩ | ⟨g', cap, cur, h, _, _, _, h1, _⟩
    · simp at h
    · simp only [Value.slice.injEq] at h; omega
  go_enter Try.func109, Try.ntmps109
  go_wp2_with fail
  refine (l1At_any _ lv nm _ (PL_of_owns (owns_below ho (below_alloc _ _))) (by omega)).mono ?_
  rintro e w1 ⟨⟨k, hk, hb, ha, rfl⟩, hb1⟩
  have hB1 := below_then (below_alloc _ _) hb1
  have X1 := (Box.new w #[.string nm, .int .i64 m] 39).below hb1
  have o1 := owns_below ho hB1
  have HT : Hid (lv.take k = lo nm lv) := take_lo hr nm k hk hb ha
  have HN : Hid ((∀ hk : k < lv.length, lv[k].1 ≠ nm) → lv.drop k = hiN nm lv) := fun h => drop_hi_no hr nm k hk hb ha h
  have HY : Hid (∀ hk : k < lv.length, lv[k].1 = nm → lv.drop (k + 1) = hiN nm lv) := fun hk' he => drop_hi_yes hr nm k hk' hb he
  obtain ⟨H, HH⟩ : ∃ H, H = (decide (k < lv.length) && (lv.getD k default).1.toList == nm.toList) := ⟨_, rfl⟩
  rw [← HH]
  have HH' : Hid (H = (decide (k < lv.length) && (lv.getD k default).1.toList == nm.toList)) := HH
  have gw := (owns_lt ho).2
  clear hb ha hb1 ho HH
  have hz1 := hB1.size
  obtain ⟨hzx, x0, x1⟩ := X1.c2
  have hlt : (lv.take k).length = k := by simp; omega
  have HC : Hid (∀ j u, (flat (lv.take k))[j]? = some u → w1.cell? ⟨g, 0 + j, none⟩ = some u) := PL_flat (by rw [hlt]; exact (PZ_take o1 k hk c).1)
  unfold maxLen at hcm
  have og := (owns_lt o1).2
  go_wp2_with (at_builtin; refine wpList_append_own _ rfl _ _ 24 rfl w.heap.size 39 j0 (.agg #[.string ⟨#[]⟩, .int .i64 0]) 2 24 Try.underlying24 hj kz0 kzs kzb rfl (by decide) (.slice none 0 0) 0 [] rfl (World.ownsRow_nil _ _ _ _) ⟨g, 0, none⟩ k c (flat (lv.take k)) rfl (by rw [flat_length]; simp; omega) (fun j u hj => by rw [Addr.add_lit]; exact HC.out j u hj) (flat_one _) (by unfold maxLen; omega) (by omega) (by omega) ?_; intro v2 w2 o2 hg2 hn2; refine Stop.go ?_)
  rw [Nat.zero_add, List.nil_append] at o2
  have hC2 := chg_grown hg2
  have hB2 : Below w.heap.size w w2 := hB1.trans (hC2.below (by omega) (fun k h => by simp [Value.ownBlock] at h))
  have X2 := hC2.box X1 (fun h => by simp [Value.ownBlock] at h)
  have p1 := hC2.owns o1 (fun g hg h => by simp [Value.ownBlock] at h)
  have hz2 := hg2.size
  clear hC2 X1 o1 x0 x1 hB1 HC hg2
  obtain ⟨hzx2, x0, x1⟩ := X2.c2
  obtain ⟨a2, c2, rfl⟩ := owns_shape o2
  have ge2 := owns_ge o2
  unfold Stop
  go_wp2_with (at_builtin; refine wpList_append_own _ rfl _ _ 24 rfl w.heap.size 39 j0 (.agg #[.string ⟨#[]⟩, .int .i64 0]) 2 24 Try.underlying24 hj kz0 kzs kzb rfl (by decide) (.slice a2 k c2) k (flat (lv.take k)) rfl (o2.alloc _) ⟨w2.heap.size, 0, none⟩ 1 1 [.string nm, .int .i64 m] rfl rfl (by intro j u hj; match j, hj with | 0, hj => simp at hj; subst hj; simp [Addr.add] | 1, hj => simp at hj; subst hj; simp [Addr.add]) (by intro u hu; simp at hu; rcases hu with rfl | rfl <;> rfl) (by unfold maxLen; omega) (by omega) (by simp; omega) ?_; intro v3 w3 o3 hg3 hn3; refine Stop.go ?_)
  have hC3 := (Chg.of_below (S := fun k' => (Value.slice a2 k c2).ownBlock = some k') (below_alloc w2 (.cells #[.string nm, .int .i64 m] 39))).trans (chg_grown hg3)
  have hB3 : Below w.heap.size w w3 := hB2.trans (hC3.below (by omega) (fun k' h => ge2 k' h))
  have p3 := hC3.owns p1 (fun g' hg h => by simp only [Value.ownBlock, Option.some.injEq] at hg; have := ge2 g' h; omega)
  obtain ⟨g3, c3, rfl⟩ : ∃ g3 c3, v3 = .slice (some ⟨g3, 0, none⟩) (k + 1) c3 := by
    rcases o3.2 with ⟨h, h0⟩ | ⟨g', cap, cur, h, _⟩
    · omega
    · exact ⟨g', cap, h⟩
  have ge3 := owns_lt o3
  have hz3 := hC3.size
  clear hC3 X2 o2 x0 x1 hB2 hg3 hn3 p1 hn2 ge2
  unfold Stop
  cases hH : H with
  | true =>
    obtain ⟨hkl, hke⟩ : k < lv.length ∧ ((lv.getD k default).1.toList == nm.toList) = true := by
      have := HH'.out
      rw [hH] at this
      have := this.symm
      simpa using this
    have hke' : lv[k].1 = nm := by rw [getD_lt _ _ hkl] at hke; exact toList_inj (by simpa using hke)
    have HD : Hid (lv.drop (k + 1) = hiN nm lv) := HY.out hkl hke'
    clear hke hke'
    have HL : Hid ((putL lv nm m).length = k + 1 + (lv.drop (k + 1)).length ∧ flat (putL lv nm m) = flat (lv.take k) ++ [.string nm, .int .i64 m] ++ flat (lv.drop (k + 1))) := by
      rw [HD.out]
      refine ⟨?_, ?_⟩
      · simp only [putL, List.length_append, List.length_cons]; rw [← HT.out, hlt]; omega
      · simp only [putL, flat_append, flat]; rw [← HT.out]; simp
    have hld : (lv.drop (k + 1)).length = lv.length - (k + 1) := by simp
    clear HH' HN HY HD
    by_cases hcc : c = k + 1
    · have hcc2 : k + 1 = c := hcc.symm
      subst hcc2
      have HP : Hid (PZ w3 (.slice (some ⟨g, 0, none⟩) 0 0) (lv.drop (k + 1))) := by
        show PZ _ _ _
        rw [List.drop_of_length_le (by omega)]
        exact PZ_empty _ _ _ _
      go_wp2_with (at_builtin; refine Stop.go ?_)
      unfold Stop
      refine append_px rfl _ _ 24 rfl w.heap.size 39 j0 Try.underlying24 hj kz0 kzs kzb (.slice (some ⟨g3, 0, none⟩) (k + 1) c3) (k + 1) _ rfl o3 (by simp) (.slice (some ⟨g, 0, none⟩) 0 0) (lv.drop (k + 1)) rfl HP.out (by omega) (by omega) ?_
      intro g4 c4 w4 o4 hg4
      go_wp2
      go_ret
      have hB4 : Below w.heap.size w w4 := hB3.grown hg4 (by omega) (fun j hj => by simp only [Value.ownBlock, Option.some.injEq] at hj; omega)
      refine ⟨⟨g4, c4, ?_, ?_⟩, hB4⟩
      · rw [HL.out.1, hld]; first | rfl | (rw [show k + 1 + (lv.length - (k + 1)) = k + 1 from by omega]; rfl)
      · rw [HL.out.2, HL.out.1]; exact o4
    · have HP : Hid (PZ w3 (.slice (some ⟨g, (k + 1) * 2, none⟩) (lv.length - (k + 1)) (c - (k + 1))) (lv.drop (k + 1))) := PZ_drop p3 (k + 1) (by omega) _
      have hcc' : k + 1 < c := by omega
      go_wp2_with (at_builtin; refine Stop.go ?_)
      unfold Stop
      refine append_px rfl _ _ 24 rfl w.heap.size 39 j0 Try.underlying24 hj kz0 kzs kzb (.slice (some ⟨g3, 0, none⟩) (k + 1) c3) (k + 1) _ rfl o3 (by simp) (.slice (some ⟨g, (k + 1) * 2, none⟩) (lv.length - (k + 1)) (c - (k + 1))) (lv.drop (k + 1)) rfl HP.out (by omega) (by omega) ?_
      intro g4 c4 w4 o4 hg4
      go_wp2
      go_ret
      have hB4 : Below w.heap.size w w4 := hB3.grown hg4 (by omega) (fun j hj => by simp only [Value.ownBlock, Option.some.injEq] at hj; omega)
      refine ⟨⟨g4, c4, ?_, ?_⟩, hB4⟩
      · rw [HL.out.1, hld]; first | rfl | (rw [show k + 1 + (lv.length - (k + 1)) = k + 1 from by omega]; rfl)
      · rw [HL.out.2, HL.out.1]; exact o4
  | false =>
    have HD : Hid (lv.drop k = hiN nm lv) := HN.out (fun hkl he => by
      have := HH'.out
      rw [hH, decide_eq_true hkl, getD_lt _ _ hkl, he] at this
      simp at this)
    have HL : Hid ((putL lv nm m).length = k + 1 + (lv.drop (k)).length ∧ flat (putL lv nm m) = flat (lv.take k) ++ [.string nm, .int .i64 m] ++ flat (lv.drop (k))) := by
      rw [HD.out]
      refine ⟨?_, ?_⟩
      · simp only [putL, List.length_append, List.length_cons]; rw [← HT.out, hlt]; omega
      · simp only [putL, flat_append, flat]; rw [← HT.out]; simp
    have hld : (lv.drop (k)).length = lv.length - (k) := by simp
    clear HH' HN HY HD
    by_cases hcc : c = k
    · have hcc2 : k = c := hcc.symm
      subst hcc2
      have HP : Hid (PZ w3 (.slice (some ⟨g, 0, none⟩) 0 0) (lv.drop (k))) := by
        show PZ _ _ _
        rw [List.drop_of_length_le (by omega)]
        exact PZ_empty _ _ _ _
      go_wp2_with (at_builtin; refine Stop.go ?_)
      unfold Stop
      refine append_px rfl _ _ 24 rfl w.heap.size 39 j0 Try.underlying24 hj kz0 kzs kzb (.slice (some ⟨g3, 0, none⟩) (k + 1) c3) (k + 1) _ rfl o3 (by simp) (.slice (some ⟨g, 0, none⟩) 0 0) (lv.drop (k)) rfl HP.out (by omega) (by omega) ?_
      intro g4 c4 w4 o4 hg4
      go_wp2
      go_ret
      have hB4 : Below w.heap.size w w4 := hB3.grown hg4 (by omega) (fun j hj => by simp only [Value.ownBlock, Option.some.injEq] at hj; omega)
      refine ⟨⟨g4, c4, ?_, ?_⟩, hB4⟩
      · rw [HL.out.1, hld]; first | rfl | (rw [show k + 1 + (lv.length - k) = k + 1 from by omega]; rfl)
      · rw [HL.out.2, HL.out.1]; exact o4
    · have HP : Hid (PZ w3 (.slice (some ⟨g, (k) * 2, none⟩) (lv.length - (k)) (c - (k))) (lv.drop (k))) := PZ_drop p3 (k) (by omega) _
      have hcc' : k < c := by omega
      go_wp2_with (at_builtin; refine Stop.go ?_)
      unfold Stop
      refine append_px rfl _ _ 24 rfl w.heap.size 39 j0 Try.underlying24 hj kz0 kzs kzb (.slice (some ⟨g3, 0, none⟩) (k + 1) c3) (k + 1) _ rfl o3 (by simp) (.slice (some ⟨g, (k) * 2, none⟩) (lv.length - (k)) (c - (k))) (lv.drop (k)) rfl HP.out (by omega) (by omega) ?_
      intro g4 c4 w4 o4 hg4
      go_wp2
      go_ret
      have hB4 : Below w.heap.size w w4 := hB3.grown hg4 (by omega) (fun j hj => by simp only [Value.ownBlock, Option.some.injEq] at hj; omega)
      refine ⟨⟨g4, c4, ?_, ?_⟩, hB4⟩
      · rw [HL.out.1, hld]; first | rfl | (rw [show k + 1 + (lv.length - k) = k + 1 from by omega]; rfl)
      · rw [HL.out.2, HL.out.1]; exact o4

/-- 'append(s, l...)' at a step of a region that draws its order. -/
theorem step_append_px {w : World} {ops : Array Oper} {o : Oper} {a : Act} {K : Act → World → Prop} {Q : Exit → Act → World → Prop} {E : Prop} (hgd : o.guard = none) (s x : Operand) (t : TypeId)
    (ho : o.op = .call { callee := .builtin .append, args := #[s, x], argTypes := #[t, t] }) (base : Nat) (e : TypeId) (i : TypeInfo) (ht : Try.prog.underlying t = some (.slice e)) (hi : Try.prog.info? e = some i) (hz : i.zero = some (.agg #[.string ⟨#[]⟩, .int .i64 0])) (hsize : i.size = 2) (hby : i.bytes = 24)
    (v : Value) (n : Nat) (xs : List Value) (hs : a.eval s = v) (hown : w.ownsRow base e 2 v n xs) (hne : v ≠ .slice none 0 0) (b off m c : Nat) (l : List (ByteArray × Int)) (hx : a.eval x = .slice (some ⟨b, off, none⟩) m c) (hm : m = l.length) (hu : PL w (.slice (some ⟨b, off, none⟩) l.length c) l) (hn : n + l.length ≤ 1048576) (hbase : base ≤ w.heap.size)
    (h : ∀ g c' w', w'.ownsRow base e 2 (.slice (some ⟨g, 0, none⟩) (n + l.length) c') (n + l.length) (xs ++ flat l) → w.grownBy w' v.ownBlock → K (a.put o.dst (.slice (some ⟨g, 0, none⟩) (n + l.length) c')) w') :
    if Region.wanted o (yielded ops a.tmps) = true then Oper.wp Try.prog o a w K Q else E := by
  have hw : Region.wanted o (yielded ops a.tmps) = true := by simp [Region.wanted, hgd]
  rw [if_pos hw]
  subst hm
  refine wp_append_own w s x t ho base e i _ 2 24 ht hi hz hsize hby rfl (by decide) v n xs hs hown ⟨b, off, none⟩ l.length c (flat l) hx (flat_length l) (fun j u hj => by rw [Addr.add_lit]; exact PL_flat hu j u hj) (flat_one l) (by unfold maxLen; omega) (by omega) hbase ?_
  intro v' w' ho' hg' hnil
  rcases ho'.2 with ⟨h0, _⟩ | ⟨g, cap, cur, rfl, _⟩
  · exact absurd (hnil.1 h0).1 hne
  · exact h g cap w' ho' hg'
theorem w64 (n : Int) (h1 : -9223372036854775808 ≤ n) (h2 : n ≤ 9223372036854775807) : wrap64 n = n := by unfold wrap64; omega
theorem sl_to (g n c k : Nat) (h : k ≤ c) (w : World) : (Instr.slice 24 (.slice (some ⟨g, 0, none⟩) n c) none (some (.int .i64 (k : Int))) none).run Try.prog w = .ok (.slice (some ⟨g, 0, none⟩) k c) w := by
  have h2 : (k : Int) ≤ c := by omega
  simp [go_sem, Try.underlying24, h2]
theorem sl_from_eq (g n k : Nat) (h : k + 1 ≤ n) (w : World) : (Instr.slice 24 (.slice (some ⟨g, 0, none⟩) n (k + 1)) (some (.int .i64 ((k : Int) + 1))) none none).run Try.prog w = .ok (.slice (some ⟨g, 0, none⟩) (n - (k + 1)) 0) w := by
  have h2 : (k : Int) + 1 ≤ n := by omega
  have h3 : (0 : Int) ≤ (k : Int) + 1 := by omega
  simp [go_sem, Try.underlying24, h2, h3]
theorem sl_from_ne (g n c k : Nat) (h : k + 1 ≤ n) (hc : ¬ c = k + 1) (w : World) : (Instr.slice 24 (.slice (some ⟨g, 0, none⟩) n c) (some (.int .i64 ((k : Int) + 1))) none none).run Try.prog w = .ok (.slice (some ⟨g, (k + 1) * 2, none⟩) (n - (k + 1)) (c - (k + 1))) w := by
  have h2 : (k : Int) + 1 ≤ n := by omega
  have h3 : (0 : Int) ≤ (k : Int) + 1 := by omega
  simp [go_sem, Try.underlying24, h2, h3, hc]

theorem wi64 (n : Int) (h1 : -9223372036854775808 ≤ n) (h2 : n ≤ 9223372036854775807) : IntKind.i64.wrap n = n := by rw [IntKind.wrap_i64]; omega

set_option maxHeartbeats 4000000 in
theorem l1Without_any (g c base : Nat) (lv : List (ByteArray × Int)) (nm : ByteArray) (v : Int) (w : World) (ho : w.ownsRow base 39 2 (.slice (some ⟨g, 0, none⟩) lv.length c) lv.length (flat lv)) (hr : Ris lv) (hn : lv.length ≤ 1000) (hlk : lkp nm none lv = some v) :
    Calls Try.prog 110 #[.slice (some ⟨g, 0, none⟩) lv.length c, .string nm] w fun e w' => (∃ g' c', e = .returned (.slice (some ⟨g', 0, none⟩) (woutL lv nm).length c') ∧ w'.ownsRow w.heap.size 39 2 (.slice (some ⟨g', 0, none⟩) (woutL lv nm).length c') (woutL lv nm).length (flat (woutL lv nm))) ∧ Below w.heap.size w w' := by
  obtain ⟨j0, hj, kz0, kzs, kzb⟩ := info_parts Try.info39
  have hcl : lv.length ≤ c := by
    rcases ho.2 with ⟨h, _⟩ | ⟨g', cap, cur, h, _, _, h1, _⟩
    · simp at h
    · simp only [Value.slice.injEq] at h; omega
  have hcm : c ≤ maxLen := by
    rcases ho.2 with ⟨h, _⟩ | ⟨g', cap, cur, h, _, _, _, h1, _⟩
    · simp at h
    · simp only [Value.slice.injEq] at h; omega
  go_enter Try.func110, Try.ntmps110
  go_wp2_with fail
  refine (l1At_any _ lv nm _ (PL_of_owns ho) (by omega)).mono ?_
  rintro e w1 ⟨⟨k, hk, hb, ha, rfl⟩, hB1⟩
  have o1 := owns_below ho hB1
  have gw := (owns_lt ho).2
  have hex : ∃ hkl : k < lv.length, lv[k].1 = nm := by
    by_cases hkl : k < lv.length
    · by_cases he : lv[k].1 = nm
      · exact ⟨hkl, he⟩
      · have := lkp_none nm none lv (fun i hi hx => by
          rcases Nat.lt_trichotomy i k with h1 | h1 | h1
          · have := hb i hi h1; rw [hx, less_irrefl] at this; cases this
          · subst h1; exact he hx
          · have h2 := List.pairwise_iff_getElem.1 hr k i hkl hi h1
            rw [hx, ha hkl] at h2; cases h2)
        rw [this] at hlk; cases hlk
    · have := lkp_none nm none lv (fun i hi hx => by have := hb i hi (by omega); rw [hx, less_irrefl] at this; cases this)
      rw [this] at hlk; cases hlk
  obtain ⟨hkl, hke⟩ := hex
  have HT : Hid (lv.take k = lo nm lv) := take_lo hr nm k hk hb ha
  have HD : Hid (lv.drop (k + 1) = hiN nm lv) := drop_hi_yes hr nm k hkl hb hke
  rw [show (decide (k < lv.length) && (lv.getD k default).1.toList == nm.toList) = true from by rw [decide_eq_true hkl, getD_lt _ _ hkl, hke]; simp]
  have hlt : (lv.take k).length = k := by simp; omega
  have hld : (lv.drop (k + 1)).length = lv.length - (k + 1) := by simp
  have HL : Hid ((woutL lv nm).length = k + (lv.length - (k + 1)) ∧ flat (woutL lv nm) = flat (lv.take k) ++ flat (lv.drop (k + 1))) := by
    refine ⟨?_, ?_⟩
    · simp only [woutL, List.length_append]; rw [← HT.out, ← HD.out, hlt, hld]
    · simp only [woutL, flat_append]; rw [← HT.out, ← HD.out]
  unfold maxLen at hcm
  have hz1 := hB1.size
  clear hb ha ho hke hlk hr HT HD
  obtain ⟨W0, hW0⟩ : ∃ W0, W0 = (w1.alloc (.cells #[] 39)).drew := ⟨_, rfl⟩
  have hB0 : Below w.heap.size w W0 := by rw [hW0]; exact (hB1.alloc hB1.size _).drew
  have E0 : W0.ownsRow w.heap.size 39 2 (.slice (some ⟨w1.heap.size, 0, none⟩) 0 0) 0 [] := by
    rw [hW0]; exact owns_below (World.ownsRow_made (base := w.heap.size) (e := 39) (size := 2) w1 #[] 0 hB1.size (Nat.zero_le _) (by simp)) (Below.refl _ _).drew
  have p0 := owns_below o1 (show Below w1.heap.size w1 W0 from by rw [hW0]; exact ((Below.refl _ _).alloc (Nat.le_refl _) _).drew)
  have hz0 : W0.heap.size = w1.heap.size + 1 := by rw [hW0]; simp
  have T0 := PZ_take p0 k hk c
  have i6 : k + 1 ≤ lv.length := by omega
  have i4 : (k : Int) + 1 ≤ lv.length := by omega
  have i5 : (0 : Int) ≤ (k : Int) + 1 := by omega
  have i2 : (k : Int) ≤ c := by omega
  have S1 := sl_to g lv.length c k (by omega)
  have A1 := wi64 ((k : Int) + 1) (by omega) (by omega)
  have T1 : PL W0 (.slice (some ⟨g, 0, none⟩) (lv.take k).length c) (lv.take k) := by rw [hlt]; exact T0.1
  clear T0
  by_cases hcc : c = k + 1
  · have hcc2 : k + 1 = c := hcc.symm
    subst hcc2
    have HD : ∀ W : World, W.ownsRow base 39 2 (.slice (some ⟨g, 0, none⟩) lv.length (k + 1)) lv.length (flat lv) → PL W (.slice (some ⟨g, 0, none⟩) (lv.drop (k + 1)).length 0) (lv.drop (k + 1)) := fun W _ => by
      rw [List.drop_of_length_le (by omega)]; exact (PZ_empty _ _ _ _).1
    have hld' : 0 = (lv.drop (k + 1)).length := by omega
    have S2 := sl_from_eq g lv.length k i6
    rw [show lv.length - (k + 1) = 0 from by omega] at S2
    have HDH : Hid _ := HD
    have HLD : Hid _ := hld'
    clear HD hld'
    go_wp2_with fail
    go_region_held3 (fun w' => True) (trivial)
      (first
        | (rw [← hW0]; refine step_append_px (by rfl) _ _ 24 (by rfl) w.heap.size 39 j0 Try.underlying24 hj kz0 kzs kzb (.slice (some ⟨w1.heap.size, 0, none⟩) 0 0) 0 [] (by rfl) E0 (by simp) g 0 k (k + 1) (lv.take k) (by rfl) hlt.symm T1 (by omega) (by omega) ?_; intro g2 c2 w2 o2 hg2)
        | (refine step_append_px (by rfl) _ _ 24 (by rfl) w.heap.size 39 j0 Try.underlying24 hj kz0 kzs kzb (.slice (some ⟨g2, 0, none⟩) (0 + (lv.take k).length) c2) (0 + (lv.take k).length) ([] ++ flat (lv.take k)) (by rfl) o2 (by simp) g 0 0 0 (lv.drop (k + 1)) (by rfl) HLD.out (HDH.out w2 ((chg_grown hg2).owns p0 (fun g' hg' h => by simp only [Value.ownBlock, Option.some.injEq] at hg' h; omega))) (by omega) (by have := hg2.size; omega) ?_; intro g4 c4 w4 o4 hg4))
    have z2 := hg2.size
    have z4 := hg4.size
    have q2 := owns_lt o2
    have hB4 : Below w.heap.size w w4 := (hB0.grown hg2 hB0.size (fun j hj => by simp only [Value.ownBlock, Option.some.injEq] at hj; omega)).grown hg4 (by omega) (fun j hj => by simp only [Value.ownBlock, Option.some.injEq] at hj; omega)
    have hLL : 0 + (lv.take k).length + (lv.drop (k + 1)).length = (woutL lv nm).length := by rw [HL.out.1, hlt, hld]; omega
    have hFF : [] ++ flat (lv.take k) ++ flat (lv.drop (k + 1)) = flat (woutL lv nm) := by rw [HL.out.2, List.nil_append]
    rw [hLL, hFF] at o4
    clear hLL hFF HDH HLD S1 S2 A1 p0 E0 o1 o2
    go_wp2
    go_ret
    exact ⟨⟨g4, c4, by rw [HL.out.1]; first | rfl | (rw [show k + (lv.length - (k + 1)) = k from by omega]; rfl), o4⟩, hB4⟩
  · have hcc' : k + 1 < c := by omega
    have HD : ∀ W : World, W.ownsRow base 39 2 (.slice (some ⟨g, 0, none⟩) lv.length c) lv.length (flat lv) → PL W (.slice (some ⟨g, (k + 1) * 2, none⟩) (lv.drop (k + 1)).length (c - (k + 1))) (lv.drop (k + 1)) := fun W h => by rw [hld]; exact (PZ_drop h (k + 1) i6 _).1
    have hld' : lv.length - (k + 1) = (lv.drop (k + 1)).length := by omega
    have S2 := sl_from_ne g lv.length c k i6 hcc
    have HDH : Hid _ := HD
    have HLD : Hid _ := hld'
    clear HD hld'
    go_wp2_with fail
    go_region_held3 (fun w' => True) (trivial)
      (first
        | (rw [← hW0]; refine step_append_px (by rfl) _ _ 24 (by rfl) w.heap.size 39 j0 Try.underlying24 hj kz0 kzs kzb (.slice (some ⟨w1.heap.size, 0, none⟩) 0 0) 0 [] (by rfl) E0 (by simp) g 0 k c (lv.take k) (by rfl) hlt.symm T1 (by omega) (by omega) ?_; intro g2 c2 w2 o2 hg2)
        | (refine step_append_px (by rfl) _ _ 24 (by rfl) w.heap.size 39 j0 Try.underlying24 hj kz0 kzs kzb (.slice (some ⟨g2, 0, none⟩) (0 + (lv.take k).length) c2) (0 + (lv.take k).length) ([] ++ flat (lv.take k)) (by rfl) o2 (by simp) g ((k + 1) * 2) (lv.length - (k + 1)) (c - (k + 1)) (lv.drop (k + 1)) (by rfl) HLD.out (HDH.out w2 ((chg_grown hg2).owns p0 (fun g' hg' h => by simp only [Value.ownBlock, Option.some.injEq] at hg' h; omega))) (by omega) (by have := hg2.size; omega) ?_; intro g4 c4 w4 o4 hg4))
    have z2 := hg2.size
    have z4 := hg4.size
    have q2 := owns_lt o2
    have hB4 : Below w.heap.size w w4 := (hB0.grown hg2 hB0.size (fun j hj => by simp only [Value.ownBlock, Option.some.injEq] at hj; omega)).grown hg4 (by omega) (fun j hj => by simp only [Value.ownBlock, Option.some.injEq] at hj; omega)
    have hLL : 0 + (lv.take k).length + (lv.drop (k + 1)).length = (woutL lv nm).length := by rw [HL.out.1, hlt, hld]; omega
    have hFF : [] ++ flat (lv.take k) ++ flat (lv.drop (k + 1)) = flat (woutL lv nm) := by rw [HL.out.2, List.nil_append]
    rw [hLL, hFF] at o4
    clear hLL hFF HDH HLD S1 S2 A1 p0 E0 o1 o2
    go_wp2
    go_ret
    exact ⟨⟨g4, c4, by rw [HL.out.1]; first | rfl | (rw [show k + (lv.length - (k + 1)) = k from by omega]; rfl), o4⟩, hB4⟩
end Go.Proofs.Ytbgemebpfcbloaa
