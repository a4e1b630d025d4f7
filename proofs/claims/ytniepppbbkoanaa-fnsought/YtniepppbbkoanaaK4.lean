/-
  SeekRun, both.
-/
import Derived.Test.YtniepppbbkoanaaK3
namespace Go.Proofs.Ytniepppbbkoanaa
open Go.RowKit
set_option linter.unusedVariables false
set_option maxRecDepth 100000

/-- What SeekRun answers. -/
def okSeek (l : List It) (key : ByteArray) (n : Int) : Bool := goodR l && okKey key && okSeq n
def sekF (l : List It) (key : ByteArray) (n : Int) : Int := if okSeek l key n then ((seekF l ⟨key, n, 0, ⟨#[]⟩⟩ : Nat) : Int) else 0
theorem sekF_yes {l : List It} {key : ByteArray} {n : Int} (h : okSeek l key n = true) : sekF l key n = ((seekF l ⟨key, n, 0, ⟨#[]⟩⟩ : Nat) : Int) := by unfold sekF; rw [if_pos h]
theorem sekF_no {l : List It} {key : ByteArray} {n : Int} (h : okSeek l key n = false) : sekF l key n = 0 := by unfold sekF; rw [if_neg (by rw [h]; simp)]

set_option maxHeartbeats 2000000 in
theorem specSeek_any (v : Value) (l : List It) (key : ByteArray) (n : Int) (w : World) (hv : IR w v l) (hn : l.length ≤ 1048576) (hs : ∀ i (h : i < l.length), l[i].k.size ≤ 1048576 ∧ l[i].v.size ≤ 1048576) (hk : key.size ≤ 1048576) :
    Calls Try.prog 21 #[v, .string key, .int .i64 n] w fun e w' => e = .returned (.tuple #[.int .i64 (sekF l key n), .bool (okSeek l key n)]) ∧ Below w.heap.size w w' := by
  have G := fun w h => specRun_any v l w h hn hs
  have K := fun w => l4Key_any key w hk
  have S := fun w => l4Seq_any n w
  have HO : Hid (okSeek l key n = (goodR l && okKey key && okSeq n)) := rfl
  have HY : Hid (okSeek l key n = true → sekF l key n = ((seekF l ⟨key, n, 0, ⟨#[]⟩⟩ : Nat) : Int)) := sekF_yes
  have HN : Hid (okSeek l key n = false → sekF l key n = 0) := sekF_no
  have F := fun w h => l6Seek_any v l key ⟨#[]⟩ n 0 w h hn
  generalize okSeek l key n = ok at *
  generalize sekF l key n = R at *
  generalize seekF l ⟨key, n, 0, ⟨#[]⟩⟩ = T at *
  clear hs
  cases hg : goodR l with
  | false =>
    rw [hg] at G HO
    obtain rfl : ok = false := HO.out
    obtain rfl : R = 0 := HN.out rfl
    clear HO HY HN K S F hg
    go_enter Try.func21, Try.ntmps21
    go_wp2_with fail
    refine (G _ hv).mono ?_
    rintro e w1 ⟨rfl, hb1⟩
    clear G hv
    go_wp2
    go_ret2
    exact ⟨rfl, hb1⟩
  | true =>
    cases hq : okKey key with
    | false =>
      rw [hg, hq] at HO
      rw [hg] at G
      rw [hq] at K
      obtain rfl : ok = false := HO.out
      obtain rfl : R = 0 := HN.out rfl
      clear HO HY HN S F hg hq
      go_enter Try.func21, Try.ntmps21
      go_wp2_with fail
      refine (G _ hv).mono ?_
      rintro e w1 ⟨rfl, hb1⟩
      clear G hv
      go_wp2_with fail
      refine (K _).mono ?_
      rintro e w2 ⟨rfl, hw⟩
      rw [hw]; clear hw K
      go_wp2
      go_ret2
      exact ⟨rfl, hb1⟩
    | true =>
      cases hr : okSeq n with
      | false =>
        rw [hg, hq, hr] at HO
        rw [hg] at G
        rw [hq] at K
        rw [hr] at S
        obtain rfl : ok = false := HO.out
        obtain rfl : R = 0 := HN.out rfl
        clear HO HY HN F hg hq hr
        go_enter Try.func21, Try.ntmps21
        go_wp2_with fail
        refine (G _ hv).mono ?_
        rintro e w1 ⟨rfl, hb1⟩
        clear G hv
        go_wp2_with fail
        refine (K _).mono ?_
        rintro e w2 ⟨rfl, hw⟩
        rw [hw]; clear hw K
        go_wp2_with fail
        refine (S _).mono ?_
        rintro e w3 ⟨rfl, hw⟩
        rw [hw]; clear hw S
        go_wp2
        go_ret2
        exact ⟨rfl, hb1⟩
      | true =>
        rw [hg, hq, hr] at HO
        rw [hg] at G
        rw [hq] at K
        rw [hr] at S
        obtain rfl : ok = true := HO.out
        obtain rfl : R = (T : Int) := HY.out rfl
        clear HO HY HN hg hq hr
        go_enter Try.func21, Try.ntmps21
        go_wp2_with fail
        refine (G _ hv).mono ?_
        rintro e w1 ⟨rfl, hb1⟩
        have hv1 := hv.below hb1
        clear G hv
        go_wp2_with fail
        refine (K _).mono ?_
        rintro e w2 ⟨rfl, hw⟩
        rw [hw]; clear hw K
        go_wp2_with fail
        refine (S _).mono ?_
        rintro e w3 ⟨rfl, hw⟩
        rw [hw]; clear hw S
        go_wp2_with fail
        refine (F _ hv1).mono ?_
        rintro e w4 ⟨rfl, hb4⟩
        have hB4 := below_then hb1 hb4
        clear F hv1 hb1 hb4
        go_wp2
        go_ret2
        exact ⟨rfl, hB4⟩

set_option maxHeartbeats 2000000 in
theorem implSeek_any (v : Value) (l : List It) (key : ByteArray) (n : Int) (w : World) (hv : IR w v l) (hn : l.length ≤ 1048576) (hs : ∀ i (h : i < l.length), l[i].k.size ≤ 1048576 ∧ l[i].v.size ≤ 1048576) (hk : key.size ≤ 1048576) :
    Calls Try.prog 20 #[v, .string key, .int .i64 n] w fun e w' => e = .returned (.tuple #[.int .i64 (sekF l key n), .bool (okSeek l key n)]) ∧ Below w.heap.size w w' := by
  have G := fun w h => implRun_any v l w h hn hs
  have K := fun w => goodKey_any key w hk
  have S := fun w => goodSeq_any n w
  have HO : Hid (okSeek l key n = (goodR l && okKey key && okSeq n)) := rfl
  have HY : Hid (okSeek l key n = true → sekF l key n = ((seekF l ⟨key, n, 0, ⟨#[]⟩⟩ : Nat) : Int)) := sekF_yes
  have HN : Hid (okSeek l key n = false → sekF l key n = 0) := sekF_no
  have F := fun w h => search_any v l key ⟨#[]⟩ n 0 w h hn
  generalize okSeek l key n = ok at *
  generalize sekF l key n = R at *
  generalize seekF l ⟨key, n, 0, ⟨#[]⟩⟩ = T at *
  clear hs
  cases hg : goodR l with
  | false =>
    rw [hg] at G HO
    obtain rfl : ok = false := HO.out
    obtain rfl : R = 0 := HN.out rfl
    clear HO HY HN K S F hg
    go_enter Try.func20, Try.ntmps20
    go_wp2_with fail
    refine (G _ hv).mono ?_
    rintro e w1 ⟨rfl, hb1⟩
    clear G hv
    go_wp2
    go_ret2
    exact ⟨rfl, hb1⟩
  | true =>
    cases hq : okKey key with
    | false =>
      rw [hg, hq] at HO
      rw [hg] at G
      rw [hq] at K
      obtain rfl : ok = false := HO.out
      obtain rfl : R = 0 := HN.out rfl
      clear HO HY HN S F hg hq
      go_enter Try.func20, Try.ntmps20
      go_wp2_with fail
      refine (G _ hv).mono ?_
      rintro e w1 ⟨rfl, hb1⟩
      clear G hv
      go_wp2_with fail
      refine (K _).mono ?_
      rintro e w2 ⟨rfl, hw⟩
      rw [hw]; clear hw K
      go_wp2
      go_ret2
      exact ⟨rfl, hb1⟩
    | true =>
      cases hr : okSeq n with
      | false =>
        rw [hg, hq, hr] at HO
        rw [hg] at G
        rw [hq] at K
        rw [hr] at S
        obtain rfl : ok = false := HO.out
        obtain rfl : R = 0 := HN.out rfl
        clear HO HY HN F hg hq hr
        go_enter Try.func20, Try.ntmps20
        go_wp2_with fail
        refine (G _ hv).mono ?_
        rintro e w1 ⟨rfl, hb1⟩
        clear G hv
        go_wp2_with fail
        refine (K _).mono ?_
        rintro e w2 ⟨rfl, hw⟩
        rw [hw]; clear hw K
        go_wp2_with fail
        refine (S _).mono ?_
        rintro e w3 ⟨rfl, hw⟩
        rw [hw]; clear hw S
        go_wp2
        go_ret2
        exact ⟨rfl, hb1⟩
      | true =>
        rw [hg, hq, hr] at HO
        rw [hg] at G
        rw [hq] at K
        rw [hr] at S
        obtain rfl : ok = true := HO.out
        obtain rfl : R = (T : Int) := HY.out rfl
        clear HO HY HN hg hq hr
        go_enter Try.func20, Try.ntmps20
        go_wp2_with fail
        refine (G _ hv).mono ?_
        rintro e w1 ⟨rfl, hb1⟩
        have hv1 := hv.below hb1
        clear G hv
        go_wp2_with fail
        refine (K _).mono ?_
        rintro e w2 ⟨rfl, hw⟩
        rw [hw]; clear hw K
        go_wp2_with fail
        refine (S _).mono ?_
        rintro e w3 ⟨rfl, hw⟩
        rw [hw]; clear hw S
        go_wp2_with fail
        refine (F _ hv1).mono ?_
        rintro e w4 ⟨⟨f, rfl⟩, hb4⟩
        have hB4 := below_then hb1 hb4
        clear F hv1 hb1 hb4
        go_wp2
        go_ret2
        exact ⟨rfl, hB4⟩
end Go.Proofs.Ytniepppbbkoanaa
