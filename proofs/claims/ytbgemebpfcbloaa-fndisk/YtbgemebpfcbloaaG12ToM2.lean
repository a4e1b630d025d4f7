/-
  szDisk, and the walk of the law laws.FnExactGoodDisk.
  laws.markText: what it answers, as a plain function.
  markBlobS, markNameS, heldBlobS, heldNameS; markDisk.
-/
import Derived.Test.YtbgemebpfcbloaaG11
import Derived.Deep.RegionWith
import Derived.Deep.RegionHeld3
import Derived.Deep.DrawnRows
import Derived.Laws.IdiomStrings
import Derived.Laws.Concat
import Derived.Test.YtbgemebpfcbloaaxV1ToE
import Derived.Test.YtbgemebpfcbloaaxAToxL
namespace Go.Proofs.Ytbgemebpfcbloaa
open Go.RowKit
set_option maxRecDepth 100000
set_option linter.unusedVariables false

set_option maxHeartbeats 1000000 in
theorem szDisk_any (v1 v2 v3 : Value) (bl lv sf : List (ByteArray × Int)) (r left : Int) (w : World) (h1 : PL w v1 bl) (h2 : PL w v2 lv) (h3 : PL w v3 sf) (hl0 : 0 ≤ left) (hl1 : left ≤ 1048576)
    (hn1 : bl.length ≤ maxLen) (hn2 : lv.length ≤ maxLen) (hn3 : sf.length ≤ maxLen) (hs1 : ∀ i (h : i < bl.length), bl[i].1.size ≤ maxLen) (hs2 : ∀ i (h : i < lv.length), lv[i].1.size ≤ maxLen) (hs3 : ∀ i (h : i < sf.length), sf[i].1.size ≤ maxLen) :
    Calls Try.prog 27 #[.agg #[v1, v2, v3, .int .i64 r], .int .i64 left] w fun e w' => (∃ q : Int, e = .returned (.int .i64 q) ∧ (q = -1 ∨ (0 ≤ q ∧ (tot bl : Int) + bl.length + tot lv + lv.length + tot sf + sf.length + q = left))) ∧ Below w.heap.size w w' := by
  go_enter Try.func27, Try.ntmps27
  go_wp2_with fail
  refine (szBlobS_any _ bl _ _ (h1.alloc _) hl0 hl1 hn1 hs1).mono ?_
  rintro e w1 ⟨⟨q1, rfl, hq1⟩, hb1⟩
  have hB1 := below_then (below_alloc _ _) hb1
  have X1 := (Box.new w #[v1, v2, v3, .int .i64 r] 55).below hb1
  obtain ⟨hz1, p0, p1, p2, p3⟩ := X1.c4
  clear hb1
  rcases hq1 with rfl | ⟨hq0, hqe⟩
  · go_wp2
    go_ret
    exact ⟨⟨-1, rfl, .inl rfl⟩, hB1⟩
  · have HQ1 : Hid ((tot bl : Int) + bl.length + q1 = left) := hqe
    have hq2 : q1 ≤ 1048576 := by omega
    clear hqe
    go_wp2_with fail
    refine (szNameS_any _ lv _ _ (h2.below hB1) hq0 hq2 hn2 hs2).mono ?_
    rintro e w2 ⟨⟨q2, rfl, hq⟩, hb2⟩
    have hB2 := below_then hB1 hb2
    have X2 := X1.below hb2
    clear p0 p1 p2 p3 X1 hz1
    obtain ⟨hz1, p0, p1, p2, p3⟩ := X2.c4
    clear hb2
    rcases hq with rfl | ⟨hq0', hqe⟩
    · go_wp2
      go_ret
      exact ⟨⟨-1, rfl, .inl rfl⟩, hB2⟩
    · have HQ2 : Hid ((tot lv : Int) + lv.length + q2 = q1) := hqe
      have hq2' : q2 ≤ 1048576 := by omega
      clear hqe
      go_wp2_with fail
      refine (szNameS_any _ sf _ _ (h3.below hB2) hq0' hq2' hn3 hs3).mono ?_
      rintro e w3 ⟨⟨q3, rfl, hq⟩, hb3⟩
      have hB3 := below_then hB2 hb3
      clear hb3
      rcases hq with rfl | ⟨hq0'', hqe⟩
      · go_wp2
        go_ret
        exact ⟨⟨-1, rfl, .inl rfl⟩, hB3⟩
      · have HQ3 : Hid ((tot sf : Int) + sf.length + q3 = q2) := hqe
        clear hqe
        go_wp2
        go_ret
        exact ⟨⟨q3, rfl, .inr ⟨hq0'', by have := HQ1.out; have := HQ2.out; have := HQ3.out; omega⟩⟩, hB3⟩

theorem below_undrew {w w' : World} (h : Below w.drew.heap.size w.drew w') : Below w.heap.size w w' := (Below.refl _ _).drew.trans h

theorem size_of_tot (l : List (ByteArray × Int)) (h : tot l ≤ 1048576) (i : Nat) (hi : i < l.length) : l[i].1.size ≤ 1048576 := by
  have h1 := tot_take_succ l i hi
  have h2 := tot_take_le l (i + 1)
  omega

end Go.Proofs.Ytbgemebpfcbloaa

namespace Go.Proofs.Ytbgemebpfcbloaa
open Go.RowKit
set_option maxRecDepth 100000
set_option linter.unusedVariables false

def mkD : Nat → Nat → List UInt8 → List UInt8
  | 0, _, acc => acc
  | f + 1, k, acc => if k = 0 then acc else mkD f (k / 10) (UInt8.ofNat (48 + k % 10) :: acc)
def mkT (k : Int) : ByteArray := if k ≤ 0 then ⟨#[109, 48]⟩ else ⟨(109 :: mkD 20 k.toNat []).toArray⟩

theorem mkD_zero (f : Nat) (acc : List UInt8) : mkD f 0 acc = acc := by cases f <;> simp [mkD]
theorem bcat (a b : List UInt8) : (⟨a.toArray⟩ : ByteArray) ++ ⟨b.toArray⟩ = ⟨(a ++ b).toArray⟩ := by
  apply ByteArray.ext
  simp
theorem mkT_pos (n : Nat) (h : 1 ≤ n) : mkT (n : Int) = ⟨(109 :: mkD 20 n []).toArray⟩ := by simp [mkT]; omega

set_option maxRecDepth 100000 in
set_option maxHeartbeats 1000000 in
theorem markText_any (k : Int) (w : World) (h1 : 1 ≤ k) (h2 : k ≤ 100000000) :
    Calls Try.prog 86 #[.int .i64 k] w fun e w' => e = .returned (.string (mkT k)) ∧ Below w.heap.size w w' := by
  obtain ⟨n, rfl⟩ := Int.eq_ofNat_of_zero_le (show 0 ≤ k from by omega)
  go_enter Try.func86, Try.ntmps86
  go_wp2
  go_loopw [0, 3] (fun k s wr => ∃ (j m : Nat) (acc : List UInt8), j ≤ 20 ∧ acc.length ≤ j ∧ m ≤ 100000000 ∧ m < 10 ^ (20 - j) ∧ k = .int .i64 m ∧ s = .string ⟨acc.toArray⟩ ∧ mkD 20 n [] = mkD (20 - j) m acc ∧ Below w.heap.size w wr) (fun k _ _ => (intOf k).toNat)
  case atStart => exact ⟨0, n, [], by omega, by simp, by omega, by omega, rfl, rfl, rfl, Below.refl _ _⟩
  case round =>
    obtain ⟨j, m, acc, hj, ha, hm, hp, rfl, rfl, he, hb⟩ := hrel
    have HE : Hid (mkD 20 n [] = mkD (20 - j) m acc) := he
    have HP : Hid (m < 10 ^ (20 - j)) := hp
    clear he hp
    by_cases h0 : (0 : Int) < (m : Int)
    · obtain ⟨c, hc⟩ : ∃ c : UInt8, c = UInt8.ofNat (48 + m % 10) := ⟨_, rfl⟩
      have hcn : ((c.toNat : Nat) : Int) = 48 + (m : Int) % 10 := by
        rw [hc, UInt8.toNat_ofNat']; omega
      have hcv : (convert 22 9 (.slice (some ⟨wr.heap.size, 0, none⟩) 1 1)).run Try.prog (wr.alloc (.cells #[.int .u8 (48 + (m : Int) % 10)] 5)) = .ok (.string ⟨#[c]⟩) (wr.alloc (.cells #[.int .u8 (48 + (m : Int) % 10)] 5)) := by
        have := run_convert_bytes_back (P := Try.prog) (wr.alloc (.cells #[.int .u8 (48 + (m : Int) % 10)] 5)) 22 9 5 ⟨wr.heap.size, 0, none⟩ 1 [c] Try.underlying22 Try.underlying5 Try.underlying9 (by
          intro j hj
          have : j = 0 := by simpa using hj
          subst this
          simp [Addr.add, hcn])
        simpa using this
      have hz := hb.size
      have hj20 : j < 20 := by
        rcases Nat.lt_or_ge j 20 with h | h
        · exact h
        · have := HP.out; rw [show 20 - j = 0 from by omega] at this; omega
      have HN : Hid (mkD 20 n [] = mkD (20 - (j + 1)) (m / 10) (c :: acc)) := by
        show mkD 20 n [] = _
        rw [HE.out, show 20 - j = (20 - (j + 1)) + 1 from by omega, mkD, if_neg (by omega), ← hc]
      have HP2 : Hid (m / 10 < 10 ^ (20 - (j + 1))) := by
        show m / 10 < _
        have := HP.out
        rw [show 20 - j = (20 - (j + 1)) + 1 from by omega, Nat.pow_succ] at this
        omega
      clear hc hcn
      go_wp2
      go_roundw
      case rel => exact ⟨j + 1, m / 10, c :: acc, by omega, by simp; omega, by omega, HP2.out, by go_num, congrArg Value.string (bcat [c] acc), HN.out, hb.alloc hz _⟩
      case measure => simp [intOf]; omega
    · obtain rfl : m = 0 := by omega
      go_wp2
      go_ret
      refine ⟨?_, hb⟩
      rw [mkT_pos n (by omega), HE.out, mkD_zero]
      exact congrArg (fun s => Ending.returned (Value.string s)) (bcat [109] acc)
end Go.Proofs.Ytbgemebpfcbloaa

namespace Go.Proofs.Ytbgemebpfcbloaa
open Go.RowKit
set_option maxRecDepth 100000
set_option linter.unusedVariables false

/-- The i-th mark of a row of pairs that is marked from k on. -/
def mkP (k : Int) (i : Nat) : ByteArray × Int := (mkT (k + 2 * i), k + 2 * i + 1)
/-- A list whose first j pairs are marked. -/
def mkL (k : Int) (l : List (ByteArray × Int)) : Nat → List (ByteArray × Int)
  | 0 => l
  | j + 1 => (mkL k l j).set j (mkP k j)
theorem mkL_length (k : Int) (l : List (ByteArray × Int)) (j : Nat) : (mkL k l j).length = l.length := by
  induction j with
  | zero => rfl
  | succ j ih => simp [mkL, ih]
theorem mkL_get (k : Int) (l : List (ByteArray × Int)) (j i : Nat) (hi : i < l.length) : (mkL k l j)[i]? = if i < j then some (mkP k i) else l[i]? := by
  induction j with
  | zero => simp [mkL]
  | succ j ih =>
    simp only [mkL]
    by_cases h : i = j
    · subst h
      rw [List.getElem?_set_self (by rw [mkL_length]; exact hi), if_pos (by omega)]
    · rw [List.getElem?_set_ne (by omega), ih]
      by_cases h2 : i < j
      · rw [if_pos h2, if_pos (by omega)]
      · rw [if_neg h2, if_neg (by omega)]
/-- All marks. -/
def mkAll (k : Int) (n : Nat) : List (ByteArray × Int) := (List.range n).map (mkP k)
theorem mkAll_length (k : Int) (n : Nat) : (mkAll k n).length = n := by simp [mkAll]
theorem mkL_all (k : Int) (l : List (ByteArray × Int)) : mkL k l l.length = mkAll k l.length := by
  apply List.ext_getElem?
  intro i
  by_cases hi : i < l.length
  · rw [mkL_get k l _ i hi, if_pos hi]; simp [mkAll, hi]
  · rw [List.getElem?_eq_none (by rw [mkL_length]; omega), List.getElem?_eq_none (by rw [mkAll_length]; omega)]

set_option maxRecDepth 100000 in
set_option maxHeartbeats 1000000 in
theorem markBlobS_at (g cap base : Nat) (l : List (ByteArray × Int)) (k : Int) (w : World) (ho : w.ownsRow base 43 2 (.slice (some ⟨g, 0, none⟩) l.length cap) l.length (flat l)) (hn : l.length ≤ 1048576) (h1 : 1 ≤ k) (h2 : k ≤ 10000000) :
    Calls Try.prog 79 #[.slice (some ⟨g, 0, none⟩) l.length cap, .int .i64 k] w fun e w' => e = .returned (.int .i64 (k + 2 * l.length)) ∧ w'.ownsRow base 43 2 (.slice (some ⟨g, 0, none⟩) l.length cap) l.length (flat (mkAll k l.length)) ∧ Chg (· = g) w w' := by
  go_enter Try.func79, Try.ntmps79
  go_wp2
  go_loopw [1, 5] (fun t i wr => ∃ j : Nat, j ≤ l.length ∧ i = .int .i64 j ∧ t = .int .i64 (k + 2 * j) ∧ wr.ownsRow base 43 2 (.slice (some ⟨g, 0, none⟩) l.length cap) l.length (flat (mkL k l j)) ∧ Chg (· = g) w wr) (fun _ i _ => l.length - (intOf i).toNat)
  case atStart => exact ⟨0, Nat.zero_le _, rfl, by go_num, ho, Chg.refl _ _⟩
  case round =>
    clear ho
    obtain ⟨j, hj, rfl, rfl, hown, hch⟩ := hrel
    by_cases hlt : j < l.length
    · have HL : Hid ((mkL k l j).length = l.length) := mkL_length k l j
      have HN : Hid ((mkL k l j).set j (mkT (k + 2 * j), k + 2 * j + 1) = mkL k l (j + 1)) := rfl
      have hgl := (owns_lt hown).2
      go_wp2_with fail
      refine (markText_any _ _ (by omega) (by omega)).mono ?_
      rintro e w1 ⟨rfl, hb1⟩
      have hown1 := owns_below hown hb1
      have hc1 : Chg (· = g) w w1 := hch.trans (Chg.of_below hb1)
      obtain ⟨d0, d1, f0, f1⟩ := owns_at hown1 j hlt (by rw [HL.out]; omega)
      have HO : Hid _ := owns_set hown1 j (mkT (k + 2 * j)) (k + 2 * j + 1)
      generalize mkT (k + 2 * j) = tx at *
      clear hown hown1 hb1 hch
      go_wp2
      go_roundw
      case rel => exact ⟨j + 1, by omega, by go_num, by go_num, by rw [← HN.out]; exact HO.out, (hc1.setCell rfl _).setCell rfl _⟩
      case measure => simp [intOf]; omega
    · have hjj : j = l.length := by omega
      subst hjj
      rw [mkL_all] at hown
      go_wp2
      go_ret
      exact ⟨rfl, hown, hch⟩

set_option maxRecDepth 100000 in
set_option maxHeartbeats 1000000 in
theorem markNameS_at (g cap base : Nat) (l : List (ByteArray × Int)) (k : Int) (w : World) (ho : w.ownsRow base 39 2 (.slice (some ⟨g, 0, none⟩) l.length cap) l.length (flat l)) (hn : l.length ≤ 1048576) (h1 : 1 ≤ k) (h2 : k ≤ 10000000) :
    Calls Try.prog 80 #[.slice (some ⟨g, 0, none⟩) l.length cap, .int .i64 k] w fun e w' => e = .returned (.int .i64 (k + 2 * l.length)) ∧ w'.ownsRow base 39 2 (.slice (some ⟨g, 0, none⟩) l.length cap) l.length (flat (mkAll k l.length)) ∧ Chg (· = g) w w' := by
  go_enter Try.func80, Try.ntmps80
  go_wp2
  go_loopw [1, 5] (fun t i wr => ∃ j : Nat, j ≤ l.length ∧ i = .int .i64 j ∧ t = .int .i64 (k + 2 * j) ∧ wr.ownsRow base 39 2 (.slice (some ⟨g, 0, none⟩) l.length cap) l.length (flat (mkL k l j)) ∧ Chg (· = g) w wr) (fun _ i _ => l.length - (intOf i).toNat)
  case atStart => exact ⟨0, Nat.zero_le _, rfl, by go_num, ho, Chg.refl _ _⟩
  case round =>
    clear ho
    obtain ⟨j, hj, rfl, rfl, hown, hch⟩ := hrel
    by_cases hlt : j < l.length
    · have HL : Hid ((mkL k l j).length = l.length) := mkL_length k l j
      have HN : Hid ((mkL k l j).set j (mkT (k + 2 * j), k + 2 * j + 1) = mkL k l (j + 1)) := rfl
      have hgl := (owns_lt hown).2
      go_wp2_with fail
      refine (markText_any _ _ (by omega) (by omega)).mono ?_
      rintro e w1 ⟨rfl, hb1⟩
      have hown1 := owns_below hown hb1
      have hc1 : Chg (· = g) w w1 := hch.trans (Chg.of_below hb1)
      obtain ⟨d0, d1, f0, f1⟩ := owns_at hown1 j hlt (by rw [HL.out]; omega)
      have HO : Hid _ := owns_set hown1 j (mkT (k + 2 * j)) (k + 2 * j + 1)
      generalize mkT (k + 2 * j) = tx at *
      clear hown hown1 hb1 hch
      go_wp2
      go_roundw
      case rel => exact ⟨j + 1, by omega, by go_num, by go_num, by rw [← HN.out]; exact HO.out, (hc1.setCell rfl _).setCell rfl _⟩
      case measure => simp [intOf]; omega
    · have hjj : j = l.length := by omega
      subst hjj
      rw [mkL_all] at hown
      go_wp2
      go_ret
      exact ⟨rfl, hown, hch⟩

set_option maxRecDepth 100000 in
set_option maxHeartbeats 1000000 in
theorem heldBlobS_any (v : Value) (n : Nat) (k : Int) (w : World) (hv : PL w v (mkAll k n)) (hn : n ≤ 1048576) (h1 : 1 ≤ k) (h2 : k ≤ 10000000) :
    Calls Try.prog 81 #[v, .int .i64 k] w fun e w' => e = .returned (.int .i64 (k + 2 * n)) ∧ Below w.heap.size w w' := by
  obtain ⟨a, cap, rfl, hc⟩ := hv
  rw [mkAll_length]
  go_enter Try.func81, Try.ntmps81
  go_wp2
  go_loopw [1, 5] (fun t i wr => ∃ j : Nat, j ≤ n ∧ i = .int .i64 j ∧ t = .int .i64 (k + 2 * j) ∧ Below w.heap.size w wr) (fun _ i _ => n - (intOf i).toNat)
  case atStart => exact ⟨0, Nat.zero_le _, rfl, by go_num, Below.refl _ _⟩
  case round =>
    obtain ⟨j, hj, rfl, rfl, hb⟩ := hrel
    by_cases hlt : j < n
    · obtain ⟨b, off, rfl, hbl, hcell⟩ := hc (by intro e; rw [← mkAll_length k n, e] at hlt; simp at hlt)
      have hl : j < (mkAll k n).length := by rw [mkAll_length]; exact hlt
      obtain ⟨tx, htx⟩ : ∃ tx, tx = mkT (k + 2 * j) := ⟨_, rfl⟩
      have hg : (mkAll k n)[j] = (tx, k + 2 * j + 1) := by rw [htx]; simp [mkAll, mkP]
      have hc0 : wr.cell? ⟨b, off + j * 2, none⟩ = some (.string tx) := by rw [hb.cell (p := ⟨b, off + j * 2, none⟩) hbl, (hcell j hl).1, hg]
      have hc1 : wr.cell? ⟨b, off + j * 2 + 1, none⟩ = some (.int .i64 (k + 2 * j + 1)) := by rw [hb.cell (p := ⟨b, off + j * 2 + 1, none⟩) hbl, (hcell j hl).2, hg]
      have hz := hb.size
      have hbl' : b < wr.heap.size := by omega
      have p0 : ∀ x : WC wr.heap.size wr, x.w.cell? ⟨b, off + j * 2, none⟩ = some (.string tx) := fun x => (x.ok.cell (p := ⟨b, off + j * 2, none⟩) hbl').trans hc0
      have p1 : ∀ x : WC wr.heap.size wr, x.w.cell? ⟨b, off + j * 2 + 1, none⟩ = some (.int .i64 (k + 2 * j + 1)) := fun x => (x.ok.cell (p := ⟨b, off + j * 2 + 1, none⟩) hbl').trans hc1
      have KT : Hid (∀ x : WC wr.heap.size wr, Calls Try.prog 86 #[.int .i64 (k + 2 * j)] x.w fun e w'' => e = .returned (.string tx) ∧ ∃ m : WC wr.heap.size wr, w'' = m.w) :=
        fun x => calm_of_below (Nat.le_refl _) (by rw [htx]; exact markText_any _ _ (by omega) (by omega))
      have hne : Nonempty (WC wr.heap.size wr) := ⟨⟨_, Below.refl _ _⟩⟩
      clear hcell hc htx hg hc0 hc1 hl
      go_wp2_with fail
      refine wp_region_calm (B := wr.heap.size) (W := wr) (by kernel_rfl) (by kernel_rfl) (Below.refl _ _) ?_
      repeat (go_big_quiet_step ((go_at_call 86; exact KT.out _)))
      refine wpQuiet_nil ?_
      intro _ hw'
      obtain ⟨x, hx⟩ := hw'
      subst hx
      go_wp2
      go_roundw
      case rel => exact ⟨j + 1, by omega, by go_num, by go_num, hb.trans (x.ok.mono hz)⟩
      case measure => simp [intOf]; omega
    · have hjj : j = n := by omega
      subst hjj
      go_wp2
      go_ret
      exact ⟨rfl, hb⟩

set_option maxRecDepth 100000 in
set_option maxHeartbeats 1000000 in
theorem heldNameS_any (v : Value) (n : Nat) (k : Int) (w : World) (hv : PL w v (mkAll k n)) (hn : n ≤ 1048576) (h1 : 1 ≤ k) (h2 : k ≤ 10000000) :
    Calls Try.prog 82 #[v, .int .i64 k] w fun e w' => e = .returned (.int .i64 (k + 2 * n)) ∧ Below w.heap.size w w' := by
  obtain ⟨a, cap, rfl, hc⟩ := hv
  rw [mkAll_length]
  go_enter Try.func82, Try.ntmps82
  go_wp2
  go_loopw [1, 5] (fun t i wr => ∃ j : Nat, j ≤ n ∧ i = .int .i64 j ∧ t = .int .i64 (k + 2 * j) ∧ Below w.heap.size w wr) (fun _ i _ => n - (intOf i).toNat)
  case atStart => exact ⟨0, Nat.zero_le _, rfl, by go_num, Below.refl _ _⟩
  case round =>
    obtain ⟨j, hj, rfl, rfl, hb⟩ := hrel
    by_cases hlt : j < n
    · obtain ⟨b, off, rfl, hbl, hcell⟩ := hc (by intro e; rw [← mkAll_length k n, e] at hlt; simp at hlt)
      have hl : j < (mkAll k n).length := by rw [mkAll_length]; exact hlt
      obtain ⟨tx, htx⟩ : ∃ tx, tx = mkT (k + 2 * j) := ⟨_, rfl⟩
      have hg : (mkAll k n)[j] = (tx, k + 2 * j + 1) := by rw [htx]; simp [mkAll, mkP]
      have hc0 : wr.cell? ⟨b, off + j * 2, none⟩ = some (.string tx) := by rw [hb.cell (p := ⟨b, off + j * 2, none⟩) hbl, (hcell j hl).1, hg]
      have hc1 : wr.cell? ⟨b, off + j * 2 + 1, none⟩ = some (.int .i64 (k + 2 * j + 1)) := by rw [hb.cell (p := ⟨b, off + j * 2 + 1, none⟩) hbl, (hcell j hl).2, hg]
      have hz := hb.size
      have hbl' : b < wr.heap.size := by omega
      have p0 : ∀ x : WC wr.heap.size wr, x.w.cell? ⟨b, off + j * 2, none⟩ = some (.string tx) := fun x => (x.ok.cell (p := ⟨b, off + j * 2, none⟩) hbl').trans hc0
      have p1 : ∀ x : WC wr.heap.size wr, x.w.cell? ⟨b, off + j * 2 + 1, none⟩ = some (.int .i64 (k + 2 * j + 1)) := fun x => (x.ok.cell (p := ⟨b, off + j * 2 + 1, none⟩) hbl').trans hc1
      have KT : Hid (∀ x : WC wr.heap.size wr, Calls Try.prog 86 #[.int .i64 (k + 2 * j)] x.w fun e w'' => e = .returned (.string tx) ∧ ∃ m : WC wr.heap.size wr, w'' = m.w) :=
        fun x => calm_of_below (Nat.le_refl _) (by rw [htx]; exact markText_any _ _ (by omega) (by omega))
      have hne : Nonempty (WC wr.heap.size wr) := ⟨⟨_, Below.refl _ _⟩⟩
      clear hcell hc htx hg hc0 hc1 hl
      go_wp2_with fail
      refine wp_region_calm (B := wr.heap.size) (W := wr) (by kernel_rfl) (by kernel_rfl) (Below.refl _ _) ?_
      repeat (go_big_quiet_step ((go_at_call 86; exact KT.out _)))
      refine wpQuiet_nil ?_
      intro _ hw'
      obtain ⟨x, hx⟩ := hw'
      subst hx
      go_wp2
      go_roundw
      case rel => exact ⟨j + 1, by omega, by go_num, by go_num, hb.trans (x.ok.mono hz)⟩
      case measure => simp [intOf]; omega
    · have hjj : j = n := by omega
      subst hjj
      go_wp2
      go_ret
      exact ⟨rfl, hb⟩

theorem markBlobS_none (k : Int) (w : World) :
    Calls Try.prog 79 #[.slice none 0 0, .int .i64 k] w fun e w' => e = .returned (.int .i64 k) ∧ Below w.heap.size w w' := by
  go_enter Try.func79, Try.ntmps79
  go_wp2
  refine wp_loop_rounds 1 ?_; rw [rounds_succ]; go_wp2
  go_ret
  exact ⟨rfl, Below.refl _ _⟩
theorem markBlobS_own (v : Value) (base : Nat) (l : List (ByteArray × Int)) (k : Int) (w : World) (ho : w.ownsRow base 43 2 v l.length (flat l)) (hn : l.length ≤ 1048576) (h1 : 1 ≤ k) (h2 : k ≤ 10000000) :
    Calls Try.prog 79 #[v, .int .i64 k] w fun e w' => e = .returned (.int .i64 (k + 2 * l.length)) ∧ w'.ownsRow base 43 2 v l.length (flat (mkAll k l.length)) ∧ Chg (fun b => v.ownBlock = some b) w w' := by
  rcases ho.2 with ⟨rfl, h0⟩ | ⟨g, cap, cur, rfl, _⟩
  · refine (markBlobS_none k w).mono fun e w' ⟨he, hb⟩ => ⟨by rw [he, h0]; simp, ?_, Chg.of_below hb⟩
    have hl : l = [] := List.length_eq_zero_iff.1 h0
    subst hl
    exact owns_below ho hb
  · exact (markBlobS_at g cap base l k w ho hn h1 h2).mono fun e w' ⟨he, hw, hc⟩ => ⟨he, hw, hc.mono fun b hb => by rw [hb]; rfl⟩

theorem markNameS_none (k : Int) (w : World) :
    Calls Try.prog 80 #[.slice none 0 0, .int .i64 k] w fun e w' => e = .returned (.int .i64 k) ∧ Below w.heap.size w w' := by
  go_enter Try.func80, Try.ntmps80
  go_wp2
  refine wp_loop_rounds 1 ?_; rw [rounds_succ]; go_wp2
  go_ret
  exact ⟨rfl, Below.refl _ _⟩
theorem markNameS_own (v : Value) (base : Nat) (l : List (ByteArray × Int)) (k : Int) (w : World) (ho : w.ownsRow base 39 2 v l.length (flat l)) (hn : l.length ≤ 1048576) (h1 : 1 ≤ k) (h2 : k ≤ 10000000) :
    Calls Try.prog 80 #[v, .int .i64 k] w fun e w' => e = .returned (.int .i64 (k + 2 * l.length)) ∧ w'.ownsRow base 39 2 v l.length (flat (mkAll k l.length)) ∧ Chg (fun b => v.ownBlock = some b) w w' := by
  rcases ho.2 with ⟨rfl, h0⟩ | ⟨g, cap, cur, rfl, _⟩
  · refine (markNameS_none k w).mono fun e w' ⟨he, hb⟩ => ⟨by rw [he, h0]; simp, ?_, Chg.of_below hb⟩
    have hl : l = [] := List.length_eq_zero_iff.1 h0
    subst hl
    exact owns_below ho hb
  · exact (markNameS_at g cap base l k w ho hn h1 h2).mono fun e w' ⟨he, hw, hc⟩ => ⟨he, hw, hc.mono fun b hb => by rw [hb]; rfl⟩

set_option maxHeartbeats 1000000 in
theorem markDisk_own (v1 v2 v3 : Value) (b1 b2 b3 : Nat) (bl lv sf : List (ByteArray × Int)) (r k : Int) (w : World)
    (o1 : w.ownsRow b1 43 2 v1 bl.length (flat bl)) (o2 : w.ownsRow b2 39 2 v2 lv.length (flat lv)) (o3 : w.ownsRow b3 39 2 v3 sf.length (flat sf))
    (d12 : ∀ b, v1.ownBlock = some b → v2.ownBlock ≠ some b) (d13 : ∀ b, v1.ownBlock = some b → v3.ownBlock ≠ some b) (d23 : ∀ b, v2.ownBlock = some b → v3.ownBlock ≠ some b)
    (hn1 : bl.length ≤ 1048576) (hn2 : lv.length ≤ 1048576) (hn3 : sf.length ≤ 1048576) (h1 : 1 ≤ k) (h2 : k ≤ 1000) :
    Calls Try.prog 32 #[.agg #[v1, v2, v3, .int .i64 r], .int .i64 k] w fun e w' => e = .returned (.int .i64 (k + 2 * bl.length + 2 * lv.length + 2 * sf.length)) ∧
      w'.ownsRow b1 43 2 v1 bl.length (flat (mkAll k bl.length)) ∧ w'.ownsRow b2 39 2 v2 lv.length (flat (mkAll (k + 2 * bl.length) lv.length)) ∧ w'.ownsRow b3 39 2 v3 sf.length (flat (mkAll (k + 2 * bl.length + 2 * lv.length) sf.length)) ∧
      Chg (fun b => v1.ownBlock = some b ∨ v2.ownBlock = some b ∨ v3.ownBlock = some b) w w' := by
  have lt : ∀ {v : Value} {base : Nat} {e : TypeId} {n : Nat} {xs : List Value}, w.ownsRow base e 2 v n xs → ∀ b, v.ownBlock = some b → b < w.heap.size := by
    intro v base e n xs ho b hb
    rcases ho.2 with ⟨rfl, _⟩ | ⟨g, cap, cur, rfl, _, hh, _⟩
    · simp [Value.ownBlock] at hb
    · simp only [Value.ownBlock, Option.some.injEq] at hb
      rw [← hb]; exact (Array.getElem?_eq_some_iff.1 hh).1
  have l1 := lt o1
  have l2 := lt o2
  have l3 := lt o3
  clear lt
  go_enter Try.func32, Try.ntmps32
  go_wp2_with fail
  refine (markBlobS_own _ b1 bl _ _ (owns_below o1 (below_alloc _ _)) hn1 h1 (by omega)).mono ?_
  rintro e w1 ⟨rfl, p1, hc1⟩
  have C1 := (Chg.of_below (below_alloc w (.cells #[v1, v2, v3, .int .i64 r] 26))).trans hc1
  have X1 := hc1.box (Box.new w #[v1, v2, v3, .int .i64 r] 26) (fun h => by have := l1 _ h; omega)
  have q2 := C1.owns o2 (fun g hg h => d12 g h hg)
  have q3 := C1.owns o3 (fun g hg h => d13 g h hg)
  clear hc1
  obtain ⟨_, x0, x1, x2, x3⟩ := X1.c4
  go_wp2_with fail
  refine (markNameS_own _ b2 lv _ _ q2 hn2 (by omega) (by omega)).mono ?_
  rintro e w2 ⟨rfl, p2, hc2⟩
  have X2 := hc2.box X1 (fun h => by have := l2 _ h; omega)
  have p1' := hc2.owns p1 (fun g hg h => d12 g hg h)
  have q3' := hc2.owns q3 (fun g hg h => d23 g h hg)
  clear X1 x0 x1 x2 x3 p1 q2 q3
  obtain ⟨_, x0, x1, x2, x3⟩ := X2.c4
  go_wp2_with fail
  refine (markNameS_own _ b3 sf _ _ q3' hn3 (by omega) (by omega)).mono ?_
  rintro e w3 ⟨rfl, p3, hc3⟩
  go_wp2
  go_ret
  refine ⟨rfl, hc3.owns p1' (fun g hg h => d13 g hg h), hc3.owns p2 (fun g hg h => d23 g hg h), p3, ?_⟩
  exact ((C1.mono fun b h => .inl h).trans (hc2.mono fun b h => .inr (.inl h))).trans (hc3.mono fun b h => .inr (.inr h))
end Go.Proofs.Ytbgemebpfcbloaa
