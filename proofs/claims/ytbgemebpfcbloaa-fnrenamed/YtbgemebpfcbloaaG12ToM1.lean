/-
  szDisk, and the walk of the law laws.FnExactGoodDisk.
  laws.markText: what it answers, as a plain function.
-/
import Derived.Test.YtbgemebpfcbloaaG11
import Derived.Deep.RegionWith
import Derived.Deep.RegionHeld3
import Derived.Deep.DrawnRows
import Derived.Laws.IdiomStrings
import Derived.Laws.Concat
namespace Go.Proofs.Ytbgemebpfcbloaa
open Go.RowKit
set_option maxRecDepth 100000
set_option linter.unusedVariables false

set_option maxHeartbeats 1000000 in
theorem szDisk_any (v1 v2 v3 : Value) (bl lv sf : List (ByteArray × Int)) (r left : Int) (w : World) (h1 : PL w v1 bl) (h2 : PL w v2 lv) (h3 : PL w v3 sf) (hl0 : 0 ≤ left) (hl1 : left ≤ 1048576)
    (hn1 : bl.length ≤ maxLen) (hn2 : lv.length ≤ maxLen) (hn3 : sf.length ≤ maxLen) (hs1 : ∀ i (h : i < bl.length), bl[i].1.size ≤ maxLen) (hs2 : ∀ i (h : i < lv.length), lv[i].1.size ≤ maxLen) (hs3 : ∀ i (h : i < sf.length), sf[i].1.size ≤ maxLen) :
    Calls Try.prog 27 #[.agg #[v1, v2, v3, .int .i64 r], .int .i64 left] w fun e w' => (∃ q : Int, e = .returned (.int .i64 q) ∧ (q = -1 ∨ (0 ≤ q ∧ (tot bl : Int) + bl.length + tot lv + lv.length + tot sf + sf.length + q = left))) ∧ Below w.heap.size w w' := by
  go_enter Try.func27, Try.ntmps27
  go_wp2_with fail
  refine (szBlobS_any _ bl _ _ (h1.alloc _) hl0 hl1 hn1 hs1).mono ?_
  rintro e w1 ⟨⟨q1, rfl, hq1⟩, hb1⟩
  have hB1 := below_then (below_alloc _ _) hb1
  have X1 := (Box.new w #[v1, v2, v3, .int .i64 r] 55).below hb1
  obtain ⟨hz1, p0, p1, p2, p3⟩ := X1.c4
  clear hb1
  rcases hq1 with rfl | ⟨hq0, hqe⟩
  · go_wp2
    go_ret
    exact ⟨⟨-1, rfl, .inl rfl⟩, hB1⟩
  · have HQ1 : Hid ((tot bl : Int) + bl.length + q1 = left) := hqe
    have hq2 : q1 ≤ 1048576 := by omega
    clear hqe
    go_wp2_with fail
    refine (szNameS_any _ lv _ _ (h2.below hB1) hq0 hq2 hn2 hs2).mono ?_
    rintro e w2 ⟨⟨q2, rfl, hq⟩, hb2⟩
    have hB2 := below_then hB1 hb2
    have X2 := X1.below hb2
    clear p0 p1 p2 p3 X1 hz1
    obtain ⟨hz1, p0, p1, p2, p3⟩ := X2.c4
    clear hb2
    rcases hq with rfl | ⟨hq0', hqe⟩
    · go_wp2
      go_ret
      exact ⟨⟨-1, rfl, .inl rfl⟩, hB2⟩
    · have HQ2 : Hid ((tot lv : Int) + lv.length + q2 = q1) := hqe
      have hq2' : q2 ≤ 1048576 := by omega
      clear hqe
      go_wp2_with fail
      refine (szNameS_any _ sf _ _ (h3.below hB2) hq0' hq2' hn3 hs3).mono ?_
      rintro e w3 ⟨⟨q3, rfl, hq⟩, hb3⟩
      have hB3 := below_then hB2 hb3
      clear hb3
      rcases hq with rfl | ⟨hq0'', hqe⟩
      · go_wp2
        go_ret
        exact ⟨⟨-1, rfl, .inl rfl⟩, hB3⟩
      · have HQ3 : Hid ((tot sf : Int) + sf.length + q3 = q2) := hqe
        clear hqe
        go_wp2
        go_ret
        exact ⟨⟨q3, rfl, .inr ⟨hq0'', by have := HQ1.out; have := HQ2.out; have := HQ3.out; omega⟩⟩, hB3⟩

theorem below_undrew {w w' : World} (h : Below w.drew.heap.size w.drew w') : Below w.heap.size w w' := (Below.refl _ _).drew.trans h

theorem size_of_tot (l : List (ByteArray × Int)) (h : tot l ≤ 1048576) (i : Nat) (hi : i < l.length) : l[i].1.size ≤ 1048576 := by
  have h1 := tot_take_succ l i hi
  have h2 := tot_take_le l (i + 1)
  omega

end Go.Proofs.Ytbgemebpfcbloaa

namespace Go.Proofs.Ytbgemebpfcbloaa
open Go.RowKit
set_option maxRecDepth 100000
set_option linter.unusedVariables false

def mkD : Nat → Nat → List UInt8 → List UInt8
  | 0, _, acc => acc
  | f + 1, k, acc => if k = 0 then acc else mkD f (k / 10) (UInt8.ofNat (48 + k % 10) :: acc)
def mkT (k : Int) : ByteArray := if k ≤ 0 then ⟨#[109, 48]⟩ else ⟨(109 :: mkD 20 k.toNat []).toArray⟩

theorem mkD_zero (f : Nat) (acc : List UInt8) : mkD f 0 acc = acc := by cases f <;> simp [mkD]
theorem bcat (a b : List UInt8) : (⟨a.toArray⟩ : ByteArray) ++ ⟨b.toArray⟩ = ⟨(a ++ b).toArray⟩ := by
  apply ByteArray.ext
  simp
theorem mkT_pos (n : Nat) (h : 1 ≤ n) : mkT (n : Int) = ⟨(109 :: mkD 20 n []).toArray⟩ := by simp [mkT]; omega

set_option maxRecDepth 100000 in
set_option maxHeartbeats 1000000 in
theorem markText_any (k : Int) (w : World) (h1 : 1 ≤ k) (h2 : k ≤ 100000000) :
    Calls Try.prog 86 #[.int .i64 k] w fun e w' => e = .returned (.string (mkT k)) ∧ Below w.heap.size w w' := by
  obtain ⟨n, rfl⟩ := Int.eq_ofNat_of_zero_le (show 0 ≤ k from by omega)
  go_enter Try.func86, Try.ntmps86
  go_wp2
  go_loopw [0, 3] (fun k s wr => ∃ (j m : Nat) (acc : List UInt8), j ≤ 20 ∧ acc.length ≤ j ∧ m ≤ 100000000 ∧ m < 10 ^ (20 - j) ∧ k = .int .i64 m ∧ s = .string ⟨acc.toArray⟩ ∧ mkD 20 n [] = mkD (20 - j) m acc ∧ Below w.heap.size w wr) (fun k _ _ => (intOf k).toNat)
  case atStart => exact ⟨0, n, [], by omega, by simp, by omega, by omega, rfl, rfl, rfl, Below.refl _ _⟩
  case round =>
    obtain ⟨j, m, acc, hj, ha, hm, hp, rfl, rfl, he, hb⟩ := hrel
    have HE : Hid (mkD 20 n [] = mkD (20 - j) m acc) := he
    have HP : Hid (m < 10 ^ (20 - j)) := hp
    clear he hp
    by_cases h0 : (0 : Int) < (m : Int)
    · obtain ⟨c, hc⟩ : ∃ c : UInt8, c = UInt8.ofNat (48 + m % 10) := ⟨_, rfl⟩
      have hcn : ((c.toNat : Nat) : Int) = 48 + (m : Int) % 10 := by
        rw [hc, UInt8.toNat_ofNat']; omega
      have hcv : (convert 22 9 (.slice (some ⟨wr.heap.size, 0, none⟩) 1 1)).run Try.prog (wr.alloc (.cells #[.int .u8 (48 + (m : Int) % 10)] 5)) = .ok (.string ⟨#[c]⟩) (wr.alloc (.cells #[.int .u8 (48 + (m : Int) % 10)] 5)) := by
        have := run_convert_bytes_back (P := Try.prog) (wr.alloc (.cells #[.int .u8 (48 + (m : Int) % 10)] 5)) 22 9 5 ⟨wr.heap.size, 0, none⟩ 1 [c] Try.underlying22 Try.underlying5 Try.underlying9 (by
          intro j hj
          have : j = 0 := by simpa using hj
          subst this
          simp [Addr.add, hcn])
        simpa using this
      have hz := hb.size
      have hj20 : j < 20 := by
        rcases Nat.lt_or_ge j 20 with h | h
        · exact h
        · have := HP.out; rw [show 20 - j = 0 from by omega] at this; omega
      have HN : Hid (mkD 20 n [] = mkD (20 - (j + 1)) (m / 10) (c :: acc)) := by
        show mkD 20 n [] = _
        rw [HE.out, show 20 - j = (20 - (j + 1)) + 1 from by omega, mkD, if_neg (by omega), ← hc]
      have HP2 : Hid (m / 10 < 10 ^ (20 - (j + 1))) := by
        show m / 10 < _
        have := HP.out
        rw [show 20 - j = (20 - (j + 1)) + 1 from by omega, Nat.pow_succ] at this
        omega
      clear hc hcn
      go_wp2
      go_roundw
      case rel => exact ⟨j + 1, m / 10, c :: acc, by omega, by simp; omega, by omega, HP2.out, by go_num, congrArg Value.string (bcat [c] acc), HN.out, hb.alloc hz _⟩
      case measure => simp [intOf]; omega
    · obtain rfl : m = 0 := by omega
      go_wp2
      go_ret
      refine ⟨?_, hb⟩
      rw [mkT_pos n (by omega), HE.out, mkD_zero]
      exact congrArg (fun s => Ending.returned (Value.string s)) (bcat [109] acc)
end Go.Proofs.Ytbgemebpfcbloaa
