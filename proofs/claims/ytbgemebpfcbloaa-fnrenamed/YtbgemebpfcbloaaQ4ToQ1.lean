/-
  impl.copyDisk, impl.blobsOf.
  impl.meaning.rising: what the map has, as a rising list, whatever order it is gone through.
-/
import Derived.Test.YtbgemebpfcbloaaQ3
import Derived.Test.YtbgemebpfcbloaaS1ToR1
import Derived.Test.YtbgemebpfcbloaaR4
import Derived.Test.YtbgemebpfcbloaaG12ToM1
import Derived.Test.YtbgemebpfcbloaaQ0
import Derived.Maps.RangeWalk
import Derived.Sort.KeysCollected
import Derived.Sort.OwnSorted
namespace Go.Proofs.Ytbgemebpfcbloaa
open Go.RowKit Go.Maps
set_option linter.unusedVariables false
set_option maxRecDepth 100000

theorem owns_wk {w : World} {base base' : Nat} {e : TypeId} {size : Nat} {v : Value} {n : Nat} {xs : List Value} (h : w.ownsRow base e size v n xs) (hb : base' ≤ base) : w.ownsRow base' e size v n xs := by
  refine ⟨h.1, ?_⟩
  rcases h.2 with h | ⟨g, cap, cur, hv, hg, hh⟩
  · exact .inl h
  · exact .inr ⟨g, cap, cur, hv, by omega, hh⟩

theorem owns_slice {w : World} {base : Nat} {e : TypeId} {size : Nat} {v : Value} {n : Nat} {xs : List Value} (h : w.ownsRow base e size v n xs) : ∃ a m c, v = .slice a m c := by
  rcases h.2 with ⟨rfl, _⟩ | ⟨g, cap, cur, rfl, _⟩
  · exact ⟨_, _, _, rfl⟩
  · exact ⟨_, _, _, rfl⟩

set_option maxHeartbeats 2000000 in
theorem copyDisk_any (v1 v2 v3 : Value) (bl lv sf : List (ByteArray × Int)) (r : Int) (w : World) (h1 : PX w v1 bl) (h2 : PX w v2 lv) (h3 : PX w v3 sf) (hn1 : bl.length ≤ 1048576) (hn2 : lv.length ≤ 1048576) (hn3 : sf.length ≤ 1048576) :
    Calls Try.prog 54 #[.agg #[v1, v2, v3, .int .i64 r]] w fun e w' => (∃ u1 u2 u3, e = .returned (.agg #[u1, u2, u3, .int .i64 r]) ∧ w'.ownsRow w.heap.size 43 2 u1 bl.length (flat bl) ∧ w'.ownsRow w.heap.size 39 2 u2 lv.length (flat lv) ∧ w'.ownsRow w.heap.size 39 2 u3 sf.length (flat sf) ∧
      (∀ b, u1.ownBlock = some b → u2.ownBlock ≠ some b) ∧ (∀ b, u1.ownBlock = some b → u3.ownBlock ≠ some b) ∧ (∀ b, u2.ownBlock = some b → u3.ownBlock ≠ some b)) ∧ Below w.heap.size w w' := by
  obtain ⟨W0, hW0⟩ : ∃ W0, W0 = (w.alloc (.cells #[v1, v2, v3, .int .i64 r] 26)).alloc (.cells #[.slice none 0 0, .slice none 0 0, .slice none 0 0, .int .i64 0] 26) := ⟨_, rfl⟩
  have hB0 : Below w.heap.size w W0 := by rw [hW0]; exact below2 _ _ _
  have X0 : Box W0 w.heap.size [v1, v2, v3, .int .i64 r] := by rw [hW0]; exact (Box.new w _ _).alloc _
  have Y0 : Box W0 (w.heap.size + 1) [.slice none 0 0, .slice none 0 0, .slice none 0 0, .int .i64 0] := by
    rw [hW0]
    have := Box.new (w.alloc (.cells #[v1, v2, v3, .int .i64 r] 26)) #[.slice none 0 0, .slice none 0 0, .slice none 0 0, .int .i64 0] 26
    simpa using this
  obtain ⟨_, p0, p1, p2, p3⟩ := X0.c4
  obtain ⟨hzy, _⟩ := Y0.c4
  go_enter Try.func54, Try.ntmps54
  go_wp2_with fail
  rw [← hW0]
  clear hW0
  go_region_held3 (fun w' => w'.cell? ⟨w.heap.size, 0, none⟩ = some v1 ∧ w'.cell? ⟨w.heap.size, 1, none⟩ = some v2 ∧ w'.cell? ⟨w.heap.size, 2, none⟩ = some v3 ∧ w'.cell? ⟨w.heap.size, 3, none⟩ = some (.int .i64 r)) (go_keep)
    (first
      | (go_at_call 103; refine (cloneBlobs_any v1 bl _ (h1.below hB0.drew) hn1).mono ?_; rintro e w1 ⟨u1, rfl, o1, hb1'⟩; obtain ⟨a1, m1, c1, rfl⟩ := owns_slice o1; have hb1 := below_undrew hb1'; obtain ⟨_, p0, p1, p2, p3⟩ := (X0.below hb1).c4)
      | (go_at_call_of 104 v2; refine (cloneNames_any v2 lv _ (h2.below (below_then hB0 hb1)) hn2).mono ?_; rintro e w2 ⟨u2, rfl, o2, hb2⟩; obtain ⟨a2, m2, c2, rfl⟩ := owns_slice o2; obtain ⟨_, p0, p1, p2, p3⟩ := ((X0.below hb1).below hb2).c4)
      | (go_at_call_of 104 v3; refine (cloneNames_any v3 sf _ (h3.below (below_then (below_then hB0 hb1) hb2)) hn3).mono ?_; rintro e w3 ⟨u3, rfl, o3, hb3⟩; obtain ⟨a3, m3, c3, rfl⟩ := owns_slice o3; obtain ⟨_, p0, p1, p2, p3⟩ := (((X0.below hb1).below hb2).below hb3).c4; have Y3 := ((Y0.below hb1).below hb2).below hb3; obtain ⟨_, q0, q1, q2, q3⟩ := Y3.c4; have f0 := Y3.2.2 0; have f1 := Y3.2.2 1; have f2 := Y3.2.2 2; have f3 := Y3.2.2 3))
  have g1 := owns_ge o1
  have l1 := owns_blk o1
  have g2 := owns_ge o2
  have l2 := owns_blk o2
  have g3 := owns_ge o3
  have z1 := hb1.size
  have z2 := hb2.size
  have z3 := hb3.size
  have eW : W0.drew.heap.size = W0.heap.size := rfl
  rw [eW] at g1 o1
  have P1 := owns_below (owns_below o1 hb2) hb3
  have P2 := owns_below o2 hb3
  have hB3 := below_then (below_then (below_then hB0 hb1) hb2) hb3
  have zB := hB0.size
  have hc : Chg (· = w.heap.size + 1) w3 ((((w3.setCell ⟨w.heap.size + 1, 0, none⟩ (.slice a1 m1 c1)).setCell ⟨w.heap.size + 1, 1, none⟩ (.slice a2 m2 c2)).setCell ⟨w.heap.size + 1, 2, none⟩ (.slice a3 m3 c3)).setCell ⟨w.heap.size + 1, 3, none⟩ (.int .i64 r)) := ((((Chg.refl (· = w.heap.size + 1) w3).setCell (p := ⟨w.heap.size + 1, 0, none⟩) rfl _).setCell (p := ⟨w.heap.size + 1, 1, none⟩) rfl _).setCell (p := ⟨w.heap.size + 1, 2, none⟩) rfl _).setCell (p := ⟨w.heap.size + 1, 3, none⟩) rfl _
  have Z : Box ((((w3.setCell ⟨w.heap.size + 1, 0, none⟩ (.slice a1 m1 c1)).setCell ⟨w.heap.size + 1, 1, none⟩ (.slice a2 m2 c2)).setCell ⟨w.heap.size + 1, 2, none⟩ (.slice a3 m3 c3)).setCell ⟨w.heap.size + 1, 3, none⟩ (.int .i64 r)) (w.heap.size + 1) [.slice a1 m1 c1, .slice a2 m2 c2, .slice a3 m3 c3, .int .i64 r] := (((Y3.set 0 _ (by simp)).set 1 _ (by simp)).set 2 _ (by simp)).set 3 _ (by simp)
  generalize ((((w3.setCell ⟨w.heap.size + 1, 0, none⟩ (.slice a1 m1 c1)).setCell ⟨w.heap.size + 1, 1, none⟩ (.slice a2 m2 c2)).setCell ⟨w.heap.size + 1, 2, none⟩ (.slice a3 m3 c3)).setCell ⟨w.heap.size + 1, 3, none⟩ (.int .i64 r)) = w4 at *
  clear p0 p1 p2 p3 q0 q1 q2 q3 f0 f1 f2 f3 Y3 X0 Y0 o1 o2 hb1' hb1 hb2 hb3
  obtain ⟨_, t0, t1, t2, t3⟩ := Z.c4
  go_wp2
  refine bodyPost_ret (v := .agg #[.slice a1 m1 c1, .slice a2 m2 c2, .slice a3 m3 c3, .int .i64 r]) (by simp [results, Try.results54, go_sem, t0, t1, t2, t3]) rfl ⟨⟨_, _, _, rfl, ?_, ?_, ?_, ?_, ?_, ?_⟩, hB3.trans (hc.below (by omega) (fun b h => by omega))⟩
  · exact owns_wk (hc.owns P1 (fun g hg h => by have := g1 g hg; omega)) (by omega)
  · exact owns_wk (hc.owns P2 (fun g hg h => by have := g2 g hg; omega)) (by omega)
  · exact owns_wk (hc.owns o3 (fun g hg h => by have := g3 g hg; omega)) (by omega)
  · intro b hb hb'
    have := l1 b hb; have := g2 b hb'; omega
  · intro b hb hb'
    have := l1 b hb; have := g3 b hb'; omega
  · intro b hb hb'
    have := l2 b hb; have := g3 b hb'; omega

theorem crash_cut (x : ByteArray × Int) (mn kn : Nat) (h : x.2 = mn) : crB kn x = (x.1.extract 0 (min x.1.size (mn + kn)), ((min x.1.size (mn + kn) : Nat) : Int)) := by
  simp [crB, h]

set_option maxHeartbeats 2000000 in
theorem blobsOf_any (u : Value) (bl : List (ByteArray × Int)) (base kn : Nat) (w : World) (ho : w.ownsRow base 148 1 u bl.length (bl.map (crashV kn))) (hn : bl.length ≤ 1048576) (hk : kn ≤ 1048576) (hg : okBs bl = true) :
    Calls Try.prog 106 #[u] w fun e w' => ∃ v, e = .returned v ∧ w'.ownsRow w.heap.size 43 2 v bl.length (flat (bl.map (crB kn))) ∧ Below w.heap.size w w' := by
  obtain ⟨i0, hi, hz0, hzs, hzb⟩ := info_parts Try.info43
  have hB := (okBs_iff _).1 hg
  obtain ⟨a, m, c, rfl⟩ := owns_slice ho
  have hcs : m = bl.length ∧ ∀ i (h : i < bl.length), ∃ g, a = some ⟨g, 0, none⟩ ∧ g < w.heap.size ∧ w.cell? ⟨g, i, none⟩ = some (crashV kn bl[i]) := by
    rcases ho.2 with ⟨h, h0⟩ | ⟨g, cap, cur, hv, hbg, hh, h1, h2, h3, h4⟩
    · simp only [Value.slice.injEq] at h
      exact ⟨by omega, fun i h => by omega⟩
    · simp only [Value.slice.injEq] at hv
      obtain ⟨rfl, rfl, rfl⟩ := hv
      refine ⟨rfl, fun i hi => ⟨g, rfl, (Array.getElem?_eq_some_iff.1 hh).1, ?_⟩⟩
      rw [ho.cellAt i (by omega)]; simp [hi]
  obtain ⟨rfl, hcell⟩ := hcs
  clear ho hg
  go_enter Try.func106, Try.ntmps106
  go_wp2
  go_loopw [3, 9] (fun v i wr => ∃ k : Nat, k ≤ bl.length ∧ i = .int .i64 k ∧ wr.ownsRow w.heap.size 43 2 v k (flat ((bl.take k).map (crB kn))) ∧ Below w.heap.size w wr) (fun _ i _ => bl.length - (intOf i).toNat)
  case atStart => exact ⟨0, Nat.zero_le _, rfl, World.ownsRow_nil _ _ _ _, Below.refl _ _⟩
  case round =>
    obtain ⟨k, hkl, rfl, hown, hb⟩ := hrel
    by_cases hlt : k < bl.length
    · obtain ⟨g, rfl, hgl, hc0⟩ := hcell k hlt
      have hbk := hB bl[k] (List.getElem_mem _)
      obtain ⟨mn, hmn⟩ : ∃ mn : Nat, bl[k].2 = mn := ⟨bl[k].2.toNat, by omega⟩
      obtain ⟨s, hse⟩ : ∃ s, s = bl[k].1 := ⟨_, rfl⟩
      have e0 : wr.cell? ⟨g, k, none⟩ = some (.iface 150 (.agg #[.string s, .int .i64 mn, .int .i64 kn])) := by
        rw [(hb.cell (p := ⟨g, k, none⟩) hgl), hc0, hse, ← hmn]; rfl
      obtain ⟨t, hte⟩ : ∃ t, t = s.extract 0 (min s.size (mn + kn)) := ⟨_, rfl⟩
      have hts : t.size = min s.size (mn + kn) := by rw [hte, ByteArray.size_extract]; omega
      have HT : Hid (flat ((bl.take (k + 1)).map (crB kn)) = flat ((bl.take k).map (crB kn)) ++ [.string t, .int .i64 (t.size : Nat)]) := by
        show _ = _
        rw [List.take_succ_eq_append_getElem hlt, List.map_append, flat_append]
        simp only [List.map_cons, List.map_nil, flat]
        rw [crash_cut _ mn kn hmn, ← hse, ← hte, hts]
      have hss : s.size ≤ 4000 := by rw [hse]; exact hbk.1
      have hmm : mn ≤ 4000 := by have := hbk.2.2; have := hbk.1; omega
      have KR := fun w => crashRead_any s mn kn w (by omega) (by omega) hk
      rw [← hte] at KR
      have hmt := method_crash s mn kn
      have hz := hb.size
      have htz : t.size ≤ 4000 := by omega
      clear hbk hmn hse hte hcell hB hc0 hts
      generalize flat ((bl.take k).map (crB kn)) = L at *
      go_wp2_with fail
      refine (KR _).mono ?_
      rintro e w1 ⟨rfl, hb1⟩
      have hown1 := owns_below hown hb1
      have hB1 := below_then hb hb1
      have hz1 := hB1.size
      clear hown hb hb1 KR hmt e0
      go_wp2_with (at_builtin; refine wpList_append_own _ rfl _ _ 23 rfl w.heap.size 43 i0 (.agg #[.string ⟨#[]⟩, .int .i64 0]) 2 24 Try.underlying23 hi hz0 hzs hzb rfl (by decide) _ k L rfl (hown1.alloc _) ⟨w1.heap.size, 0, none⟩ 1 1 [.string t, .int .i64 (t.size : Nat)] rfl rfl (by intro j u hj; match j, hj with | 0, hj => simp at hj; subst hj; simp [Addr.add] | 1, hj => simp at hj; subst hj; simp [Addr.add]) (by intro u hu; simp at hu; rcases hu with rfl | rfl <;> rfl) (by unfold maxLen; omega) (by omega) (by simp; omega) ?_; intro v' w2 hown2 hgrow2 _)
      go_roundw
      case rel =>
        refine ⟨k + 1, by omega, by go_num, ?_, ?_⟩
        · rw [HT.out]; exact hown2
        · exact (hB1.alloc hz1 _).grown hgrow2 (by simp; omega) (owns_ge hown1)
      case measure => simp [intOf]; omega
    · have hkk : k = bl.length := by omega
      subst hkk
      rw [List.take_length] at hown
      go_wp2
      go_ret
      exact ⟨_, rfl, hown, hb⟩
end Go.Proofs.Ytbgemebpfcbloaa

namespace Go.Proofs.Ytbgemebpfcbloaa
open Go.RowKit Go.Maps Go.Sort
set_option linter.unusedVariables false
set_option maxRecDepth 100000

theorem encStr_keyL (x : List UInt8) : keyL ⟨x.toArray⟩ = .string x := by simp [keyL]

set_option maxHeartbeats 2000000 in
theorem rising_any (b n : Nat) (D : DataW Unit) (l : List (ByteArray × Int)) (w : World) (hown : w.ownsMap Try.prog 9 (plainElem Try.prog 3) b n D) (hm : Mean D l) (hr : Ris l) (hn : n ≤ 1048576) :
    Calls Try.prog 105 #[.map (some b)] w fun e w' => ∃ u, e = .returned u ∧ w'.ownsRow w.heap.size 39 2 u l.length (flat l) ∧ Below w.heap.size w w' := by
  obtain ⟨i0, hi, hz0, hzs, hzb⟩ := info_parts Try.info39
  have hbl := hown.lt
  have hsz := hown.size_le
  have HM : Hid (Mean D l) := hm
  clear hm
  go_enter Try.func105, Try.ntmps105
  go_wp2_with (at_range; refine wpList_range_own _ rfl _ 94 rfl 9 3 law9 Try.underlying94 _ b n _ rfl hown ?_; intro w0 hrg0 hg0 hs0)
  go_frame
  go_loopw [3] (fun v wr => ∃ (left : Lit → Bool) (cnt : Nat) (ss : List (ByteArray × Int)), wr.ranges Try.prog 9 (plainElem Try.prog 3) b w.heap.size n D left cnt ∧ ss.length + cnt ≤ Maps.size D ∧
      wr.ownsRow w.heap.size 39 2 v ss.length (flat ss) ∧ Coll D left ss ∧ Below w.heap.size w wr)
    (fun _ wr => wr.rangeLeft b w.heap.size)
  case atStart =>
    exact ⟨_, _, [], hrg0, by simp, World.ownsRow_nil _ _ _ _, coll_start D, (Below.refl _ _).grown hg0 (Nat.le_refl _) (fun j hj => by cases hj)⟩
  case round =>
    obtain ⟨left, cnt, ss, hrg, hcs, hrow, hC, hnx⟩ := hrel
    have HC : Hid (Coll D left ss) := hC
    clear hC
    go_wp2_with (at_next; refine wpList_next_ranges _ rfl _ rfl 9 law9 (plainElem Try.prog 3) encStr (Value.int .i64) (fun key kl hk => by obtain ⟨x, hx, _⟩ := Maps.keyOf_str Try.underlying9 hk; exact ⟨x, hx⟩) (fun v y hv => by obtain ⟨c, rfl, _⟩ := plainElem_int_inv Try.underlying3 hv; exact ⟨c, rfl⟩) b w.heap.size n _ _ _ rfl hrg ?_ ?_)
    · intro hc0 hl0
      have HE : Hid (∀ x, x ∈ ss ↔ x ∈ l) := fun x => coll_end HC.out HM.out hr hl0 x
      have HP : Hid (ss.Pairwise fun x y => x.1 ≠ y.1) := HC.out.1
      clear HC HM hl0
      rcases hrow.2 with ⟨rfl, h0⟩ | ⟨g, cap, cur, rfl, hbase, hb, h1, h2, h3, h4⟩
      · have hs0 : ss = [] := List.length_eq_zero_iff.1 h0
        have hl0 : l = [] := by
          cases l with
          | nil => rfl
          | cons x r => have := (HE.out x).2 (by simp); rw [hs0] at this; simp at this
        subst hl0
        have hcon := fun w => AnyF.slices_SortFunc_none Try.sortNames none 0 (.func (.func 130) #[] #[]) w
        change ∀ w, Calls Try.prog 129 _ _ _ at hcon
        clear hrow
        go_wp2_with fail
        refine (hcon _).mono ?_
        rintro e w' ⟨rfl, rfl⟩
        go_wp2
        go_ret
        exact ⟨_, rfl, World.ownsRow_nil _ _ _ _, hnx⟩
      · have eg : ∀ args w, (callFunc 130 args).run Try.prog w = .ok (.enter 130 args) w := enters_of Try.func130 (by kernel_rfl) rfl
        have hcon := AnyQ.slices_SortFunc Try.sortNames 2 Try.isAgg39 Try.sizeOf39 encN (fun _ => rfl) (fun x v hv => by simp [encN] at hv; rcases hv with rfl | rfl <;> rfl) cmpN swoN 130 #[] g 0 cap ss.toArray wr eg (cmpLaysN g 0 _ wr) (holdsN hrow) (Array.getElem?_eq_some_iff.1 hb).1 (by simp; omega)
        change Calls Try.prog 129 _ _ _ at hcon
        simp only [List.size_toArray] at hcon
        have HROW : Hid _ := hrow
        clear hrow hb h1 h2 h3 h4 cur
        go_wp2_with fail
        refine hcon.mono ?_
        rintro e w' ⟨rfl, d', m, os, hp, hs, rfl⟩
        have hdl : d'.toList = l := by
          refine coll_sorted HP.out HE.out hr ?_ ?_
          · have := hp.2.2
            have h2 : d'.toList.length = ss.length := by rw [Array.length_toList]; simpa using hp.1
            have h3 : List.take ss.length d'.toList = d'.toList := List.take_of_length_le (by omega)
            have h4 : (List.take ss.length d'.toList).Perm ss := by simpa [hp.1] using this
            rw [h3] at h4; exact h4
          · intro i j hj hij
            have h1 := hs i j (Nat.zero_le _) hij (by have := hp.1; simp at this hj; omega)
            rw [lt_less] at h1
            have hj' : j < d'.size := by simpa using hj
            rw [getElem!_pos d' j hj', getElem!_pos d' i (by omega)] at h1
            simpa using h1
        have hlen : l.length = ss.length := by rw [← hdl, Array.length_toList]; simpa using hp.1
        obtain rfl : d' = l.toArray := by rw [← hdl]
        clear hcon hp hs HP HE hdl
        have hO := ownsRow_sortedK (m := m) (os := os) (d := l) hlen HROW.out rfl
        have hG : wr.grownBy (sortWorldK encN 2 wr g 0 m l.toArray os) (some g) := grownBy_sortedK _
        generalize sortWorldK encN 2 wr g 0 m l.toArray os = w3 at *
        clear HROW
        go_wp2
        go_ret
        refine ⟨_, rfl, ?_, hnx.grown hG hnx.size (fun j hj => by cases hj; exact hbase)⟩
        rw [hlen]; exact hO
    · intro x c kl yd yp w2 cnt2 hkey hlk hv hat hrg2 hlt hg2 hs2 hen
      obtain ⟨x', ex, rfl, hxl⟩ := Maps.keyOf_str Try.underlying9 hkey
      obtain rfl : x = x' := encStr_inj ex
      obtain ⟨c', ec, hy, hwc⟩ := plainElem_int_inv Try.underlying3 hv
      cases ec
      simp only [Prod.mk.injEq] at hy
      obtain ⟨rfl, rfl⟩ := hy
      have HN : Hid (Coll D (fun z => left z && !z.sameKey (keyL ⟨x.toArray⟩)) (ss ++ [(⟨x.toArray⟩, c)])) := coll_step HC.out ⟨x.toArray⟩ c (by rw [encStr_keyL]; exact hlk) (by rw [encStr_keyL]; exact hat)
      rw [encStr_keyL] at HN
      have hrow2 := hrow.kept hg2 (Or.inr (row_ne_iter hrow hrg).symm)
      have hfl : Hid (flat (ss ++ [((⟨x.toArray⟩ : ByteArray), c)]) = flat ss ++ [.string ⟨x.toArray⟩, .int .i64 c]) := by show _ = _; rw [flat_append]; rfl
      have hz2 := hnx.size
      have hz3 := hg2.size
      have hB2 := hnx.grown hg2 hnx.size (fun j hj => by cases hj; exact Nat.le_refl _)
      clear hs2 ex hkey hv hlk hat HC hrow
      unfold encStr at *
      generalize (⟨x.toArray⟩ : ByteArray) = sx at *
      go_wp2_with (at_builtin; refine wpList_append_own _ rfl _ _ 24 rfl w.heap.size 39 i0 (.agg #[.string ⟨#[]⟩, .int .i64 0]) 2 24 Try.underlying24 hi hz0 hzs hzb rfl (by decide) _ ss.length (flat ss) rfl (hrow2.alloc _) ⟨w2.heap.size, 0, none⟩ 1 1 [.string sx, .int .i64 c] rfl rfl (by intro j u hj; match j, hj with | 0, hj => simp at hj; subst hj; simp [Addr.add] | 1, hj => simp at hj; subst hj; simp [Addr.add]) (by intro u hu; simp at hu; rcases hu with rfl | rfl <;> rfl) (by unfold maxLen; omega) (by omega) (by simp; omega) ?_; intro v' w3 hown' hg3 hnil3; go_frame)
      have hrg3 := (hrg2.alloc _).kept hg3 (row_ne_low hrow2 hbl) (row_ne_iter hrow2 hrg2)
      go_roundw
      case rel =>
        refine ⟨_, cnt2, ss ++ [(sx, c)], hrg3, by simp; omega, ?_, HN.out, ?_⟩
        · rw [hfl.out, List.length_append]; exact hown'
        · exact (hB2.alloc (by omega) _).grown hg3 (by simp; omega) (fun j hj => (hrow2.lt j hj).1)
      case measure => rw [hrg3.left_eq, hrg.left_eq]; exact hlt
end Go.Proofs.Ytbgemebpfcbloaa
