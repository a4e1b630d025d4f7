/-
  impl.meaning.rising: what the map has, as a rising list, whatever order it is gone through.
-/
import Derived.Test.YtbgemebpfcbloaaQ0
import Derived.Maps.RangeWalk
import Derived.Sort.KeysCollected
import Derived.Sort.OwnSorted
namespace Go.Proofs.Ytbgemebpfcbloaa
open Go.RowKit Go.Maps Go.Sort
set_option linter.unusedVariables false
set_option maxRecDepth 100000

theorem encStr_keyL (x : List UInt8) : keyL ⟨x.toArray⟩ = .string x := by simp [keyL]

set_option maxHeartbeats 2000000 in
theorem rising_any (b n : Nat) (D : DataW Unit) (l : List (ByteArray × Int)) (w : World) (hown : w.ownsMap Try.prog 9 (plainElem Try.prog 3) b n D) (hm : Mean D l) (hr : Ris l) (hn : n ≤ 1048576) :
    Calls Try.prog 105 #[.map (some b)] w fun e w' => ∃ u, e = .returned u ∧ w'.ownsRow w.heap.size 39 2 u l.length (flat l) ∧ Below w.heap.size w w' := by
  obtain ⟨i0, hi, hz0, hzs, hzb⟩ := info_parts Try.info39
  have hbl := hown.lt
  have hsz := hown.size_le
  have HM : Hid (Mean D l) := hm
  clear hm
  go_enter Try.func105, Try.ntmps105
  go_wp2_with (at_range; refine wpList_range_own _ rfl _ 94 rfl 9 3 law9 Try.underlying94 _ b n _ rfl hown ?_; intro w0 hrg0 hg0 hs0)
  go_frame
  go_loopw [3] (fun v wr => ∃ (left : Lit → Bool) (cnt : Nat) (ss : List (ByteArray × Int)), wr.ranges Try.prog 9 (plainElem Try.prog 3) b w.heap.size n D left cnt ∧ ss.length + cnt ≤ Maps.size D ∧
      wr.ownsRow w.heap.size 39 2 v ss.length (flat ss) ∧ Coll D left ss ∧ Below w.heap.size w wr)
    (fun _ wr => wr.rangeLeft b w.heap.size)
  case atStart =>
    exact ⟨_, _, [], hrg0, by simp, World.ownsRow_nil _ _ _ _, coll_start D, (Below.refl _ _).grown hg0 (Nat.le_refl _) (fun j hj => by cases hj)⟩
  case round =>
    obtain ⟨left, cnt, ss, hrg, hcs, hrow, hC, hnx⟩ := hrel
    have HC : Hid (Coll D left ss) := hC
    clear hC
    go_wp2_with (at_next; refine wpList_next_ranges _ rfl _ rfl 9 law9 (plainElem Try.prog 3) encStr (Value.int .i64) (fun key kl hk => by obtain ⟨x, hx, _⟩ := Maps.keyOf_str Try.underlying9 hk; exact ⟨x, hx⟩) (fun v y hv => by obtain ⟨c, rfl, _⟩ := plainElem_int_inv Try.underlying3 hv; exact ⟨c, rfl⟩) b w.heap.size n _ _ _ rfl hrg ?_ ?_)
    · intro hc0 hl0
      have HE : Hid (∀ x, x ∈ ss ↔ x ∈ l) := fun x => coll_end HC.out HM.out hr hl0 x
      have HP : Hid (ss.Pairwise fun x y => x.1 ≠ y.1) := HC.out.1
      clear HC HM hl0
      rcases hrow.2 with ⟨rfl, h0⟩ | ⟨g, cap, cur, rfl, hbase, hb, h1, h2, h3, h4⟩
      · have hs0 : ss = [] := List.length_eq_zero_iff.1 h0
        have hl0 : l = [] := by
          cases l with
          | nil => rfl
          | cons x r => have := (HE.out x).2 (by simp); rw [hs0] at this; simp at this
        subst hl0
        have hcon := fun w => AnyF.slices_SortFunc_none Try.sortNames none 0 (.func (.func 130) #[] #[]) w
        change ∀ w, Calls Try.prog 129 _ _ _ at hcon
        clear hrow
        go_wp2_with fail
        refine (hcon _).mono ?_
        rintro e w' ⟨rfl, rfl⟩
        go_wp2
        go_ret
        exact ⟨_, rfl, World.ownsRow_nil _ _ _ _, hnx⟩
      · have eg : ∀ args w, (callFunc 130 args).run Try.prog w = .ok (.enter 130 args) w := enters_of Try.func130 (by kernel_rfl) rfl
        have hcon := AnyQ.slices_SortFunc Try.sortNames 2 Try.isAgg39 Try.sizeOf39 encN (fun _ => rfl) (fun x v hv => by simp [encN] at hv; rcases hv with rfl | rfl <;> rfl) cmpN swoN 130 #[] g 0 cap ss.toArray wr eg (cmpLaysN g 0 _ wr) (holdsN hrow) (Array.getElem?_eq_some_iff.1 hb).1 (by simp; omega)
        change Calls Try.prog 129 _ _ _ at hcon
        simp only [List.size_toArray] at hcon
        have HROW : Hid _ := hrow
        clear hrow hb h1 h2 h3 h4 cur
        go_wp2_with fail
        refine hcon.mono ?_
        rintro e w' ⟨rfl, d', m, os, hp, hs, rfl⟩
        have hdl : d'.toList = l := by
          refine coll_sorted HP.out HE.out hr ?_ ?_
          · have := hp.2.2
            have h2 : d'.toList.length = ss.length := by rw [Array.length_toList]; simpa using hp.1
            have h3 : List.take ss.length d'.toList = d'.toList := List.take_of_length_le (by omega)
            have h4 : (List.take ss.length d'.toList).Perm ss := by simpa [hp.1] using this
            rw [h3] at h4; exact h4
          · intro i j hj hij
            have h1 := hs i j (Nat.zero_le _) hij (by have := hp.1; simp at this hj; omega)
            rw [lt_less] at h1
            have hj' : j < d'.size := by simpa using hj
            rw [getElem!_pos d' j hj', getElem!_pos d' i (by omega)] at h1
            simpa using h1
        have hlen : l.length = ss.length := by rw [← hdl, Array.length_toList]; simpa using hp.1
        obtain rfl : d' = l.toArray := by rw [← hdl]
        clear hcon hp hs HP HE hdl
        have hO := ownsRow_sortedK (m := m) (os := os) (d := l) hlen HROW.out rfl
        have hG : wr.grownBy (sortWorldK encN 2 wr g 0 m l.toArray os) (some g) := grownBy_sortedK _
        generalize sortWorldK encN 2 wr g 0 m l.toArray os = w3 at *
        clear HROW
        go_wp2
        go_ret
        refine ⟨_, rfl, ?_, hnx.grown hG hnx.size (fun j hj => by cases hj; exact hbase)⟩
        rw [hlen]; exact hO
    · intro x c kl yd yp w2 cnt2 hkey hlk hv hat hrg2 hlt hg2 hs2 hen
      obtain ⟨x', ex, rfl, hxl⟩ := Maps.keyOf_str Try.underlying9 hkey
      obtain rfl : x = x' := encStr_inj ex
      obtain ⟨c', ec, hy, hwc⟩ := plainElem_int_inv Try.underlying3 hv
      cases ec
      simp only [Prod.mk.injEq] at hy
      obtain ⟨rfl, rfl⟩ := hy
      have HN : Hid (Coll D (fun z => left z && !z.sameKey (keyL ⟨x.toArray⟩)) (ss ++ [(⟨x.toArray⟩, c)])) := coll_step HC.out ⟨x.toArray⟩ c (by rw [encStr_keyL]; exact hlk) (by rw [encStr_keyL]; exact hat)
      rw [encStr_keyL] at HN
      have hrow2 := hrow.kept hg2 (Or.inr (row_ne_iter hrow hrg).symm)
      have hfl : Hid (flat (ss ++ [((⟨x.toArray⟩ : ByteArray), c)]) = flat ss ++ [.string ⟨x.toArray⟩, .int .i64 c]) := by show _ = _; rw [flat_append]; rfl
      have hz2 := hnx.size
      have hz3 := hg2.size
      have hB2 := hnx.grown hg2 hnx.size (fun j hj => by cases hj; exact Nat.le_refl _)
      clear hs2 ex hkey hv hlk hat HC hrow
      unfold encStr at *
      generalize (⟨x.toArray⟩ : ByteArray) = sx at *
      go_wp2_with (at_builtin; refine wpList_append_own _ rfl _ _ 24 rfl w.heap.size 39 i0 (.agg #[.string ⟨#[]⟩, .int .i64 0]) 2 24 Try.underlying24 hi hz0 hzs hzb rfl (by decide) _ ss.length (flat ss) rfl (hrow2.alloc _) ⟨w2.heap.size, 0, none⟩ 1 1 [.string sx, .int .i64 c] rfl rfl (by intro j u hj; match j, hj with | 0, hj => simp at hj; subst hj; simp [Addr.add] | 1, hj => simp at hj; subst hj; simp [Addr.add]) (by intro u hu; simp at hu; rcases hu with rfl | rfl <;> rfl) (by unfold maxLen; omega) (by omega) (by simp; omega) ?_; intro v' w3 hown' hg3 hnil3; go_frame)
      have hrg3 := (hrg2.alloc _).kept hg3 (row_ne_low hrow2 hbl) (row_ne_iter hrow2 hrg2)
      go_roundw
      case rel =>
        refine ⟨_, cnt2, ss ++ [(sx, c)], hrg3, by simp; omega, ?_, HN.out, ?_⟩
        · rw [hfl.out, List.length_append]; exact hown'
        · exact (hB2.alloc (by omega) _).grown hg3 (by simp; omega) (fun j hj => (hrow2.lt j hj).1)
      case measure => rw [hrg3.left_eq, hrg.left_eq]; exact hlt
end Go.Proofs.Ytbgemebpfcbloaa
