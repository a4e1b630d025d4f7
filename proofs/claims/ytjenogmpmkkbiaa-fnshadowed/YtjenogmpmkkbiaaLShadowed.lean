/-
  What nobody sees any more may go: the walk of FnShadowed.
-/
import Derived.Test.YtjenogmpmkkbiaaQ9
import Derived.Test.YtjenogmpmkkbiaaW8
import Derived.Test.YtjenogmpmkkbiaaC8
namespace Go.Proofs.Ytjenogmpmkkbiaa
open Go.RowKit
set_option linter.unusedVariables false
set_option maxRecDepth 100000

set_option maxHeartbeats 1000000 in
theorem numberOf_any (v : Value) (l : List UInt8) (w : World) (h : YL w v l) (hl : l.length ≤ 9223372036854775807) :
    Calls Try.prog 16 #[v] w fun e w' => (∃ x : Nat, e = .returned (.int .i64 x) ∧ x ≤ 1000003) ∧ w' = w := by
  obtain ⟨a, cap, rfl, hc⟩ := h
  go_enter Try.func16, Try.ntmps16
  go_wp2
  go_loopw [3, 8] (fun n i wr => ∃ (j x : Nat), j ≤ l.length ∧ i = .int .i64 j ∧ n = .int .i64 x ∧ x ≤ 1000003 ∧ wr = w) (fun _ i _ => l.length - (intOf i).toNat)
  case atStart => exact ⟨0, 0, by omega, rfl, rfl, by omega, rfl⟩
  case round =>
    obtain ⟨j, x, hj, rfl, rfl, hx, rfl⟩ := hrel
    by_cases hlt : j < l.length
    · obtain ⟨cb, off, rfl, hbl, hcell⟩ := hc (by intro e; simp [e] at hlt)
      obtain ⟨c, hce⟩ : ∃ c, c = l[j] := ⟨_, rfl⟩
      have hc0 : wr.cell? ⟨cb, off + j, none⟩ = some (.int .u8 (c.toNat : Int)) := by rw [hce]; exact hcell j hlt
      have hcl := c.toNat_lt
      clear hcell hce hc
      go_wp2
      go_roundw
      case rel => exact ⟨j + 1, (31 * x + c.toNat) % 1000003, by omega, by go_num, by go_num, by omega, trivial⟩
      case measure => simp [intOf]; omega
    · go_wp2
      go_ret
      exact ⟨⟨x, rfl, hx⟩, rfl⟩
theorem ds_true {l : List It} {q : Int} {b : Bool} (h : dsB l q = true) : mayM l = true ∧ goodR l = true ∧ dsL l q b = dropL l q b := by
  have h2 := h
  unfold dsB at h2
  rw [Bool.and_eq_true] at h2
  refine ⟨h2.1, (mayM_good h2.1).1, ?_⟩
  unfold dsL; rw [if_pos h]
theorem ds_false {l : List It} {q : Int} {b : Bool} (h : dsB l q = false) : dsL l q b = [] := by
  unfold dsL; rw [h]; rfl
theorem vs_same {l : List It} (hm : mayM l = true) (q : Nat) (b : Bool) (y : Nat) (hy : q + y ≤ 1000) : vsB l ((q : Int) + y) = true ∧ vsB (dropL l q b) ((q : Int) + y) = true ∧ vsL (dropL l q b) ((q : Int) + y) = vsL l ((q : Int) + y) := by
  have hs : okSeq ((q : Int) + y) = true := by unfold okSeq; rw [decide_eq_true (by omega), decide_eq_true (by omega)]; rfl
  have h1 : vsB l ((q : Int) + y) = true := by unfold vsB; rw [hm, hs]; rfl
  have h2 : vsB (dropL l q b) ((q : Int) + y) = true := by unfold vsB; rw [drop_may hm, hs]; rfl
  refine ⟨h1, h2, ?_⟩
  unfold vsL
  rw [if_pos h1, if_pos h2, ← drop_seen (mayM_good hm).1 q ((q : Int) + y) b (by omega)]

set_option maxHeartbeats 16000000 in
theorem lawShadowed (v u : Value) (l m0 : List UInt8) (w : World) (hv : YL w v l) (hn : l.length ≤ maxLen) (hu : YL w u m0) (hn2 : m0.length ≤ maxLen) :
    Calls Try.prog 3 #[v, u] w fun e w' => e = .returned (.bool true) ∧ Below w.heap.size w w' := by
  have hnv := hn
  have hnu := hn2
  unfold maxLen at hn hn2
  have hv' := hv
  have hu' := hu
  obtain ⟨va, vc, rfl, _⟩ := hv'
  obtain ⟨ua, uc, rfl, _⟩ := hu'
  have KD := drawDrop_any _ l w hv hnv
  by_cases hg : wrap64 ((l.length : Int) + m0.length) ≤ 1048576
  · go_enter Try.func3, Try.ntmps3
    go_wp2_with fail
    refine KD.mono ?_
    rintro e w1 ⟨s, L, q, bot, rfl, ⟨⟨a1, c1, rfl⟩, O1, hsm, hle⟩, hq, hb1⟩
    replace hu := hu.below hb1
    have X1 := Box.new w1 #[.slice a1 L.length c1] 25
    have hbX := below_alloc w1 (.cells #[.slice a1 L.length c1] 25)
    replace hu := hu.below hbX
    have ir := (IR_of_owns O1 rfl).below hbX
    have hB := below_then hb1 hbX
    have KI := fun w h => implDrop_any (.slice a1 L.length c1) L (q : Int) bot w h (by omega) (small_big hsm)
    have KS := fun w h => specDrop_any (.slice a1 L.length c1) L (q : Int) bot w h (by omega) (small_big hsm)
    have KV := fun y w h => implVisible_any (.slice a1 L.length c1) L ((q : Int) + y) w h (by omega) (small_big hsm)
    have KN := fun w h => implNewest_any (.slice a1 L.length c1) L w h (by omega) (small_big hsm)
    have hdl := ds_len L (q : Int) bot
    clear KD hv O1 hb1 hbX hg hn hn2
    have hDT := fun h => ds_true (l := L) (q := (q : Int)) (b := bot) h
    have hDF := fun h => ds_false (l := L) (q := (q : Int)) (b := bot) h
    have hsmD : small (dropL L (q : Int) bot) := small_of (fun x hx => small_mem hsm x ((drop_sub L (q : Int) bot).mem hx))
    generalize hZ : dsL L (q : Int) bot = Z at *
    generalize dsB L (q : Int) = ok at *
    go_wp2_with fail
    refine (KI _ ir).mono ?_
    rintro e w2 ⟨u2, rfl, o2, hb2⟩
    obtain ⟨a2, c2, rfl, _⟩ := IR_of_owns o2 rfl
    have X2 := X1.below hb2
    replace ir := ir.below hb2
    replace hu := hu.below hb2
    replace hB := below_then hB hb2
    have G2 := Box.new w2 #[.slice a2 Z.length c2] 25
    have hbG := below_alloc w2 (.cells #[.slice a2 Z.length c2] 25)
    have X3 := X2.below hbG
    replace ir := ir.below hbG
    replace hu := hu.below hbG
    replace hB := below_then hB hbG
    have irD := (IR_of_owns o2 rfl).below hbG
    have x3 := X3.2.1 0 _ rfl
    have hx3 := X3.1
    simp only [World.size_alloc] at hx3
    clear KI hb2 X1 X2 hbG o2
    go_wp2_with fail
    refine (KS _ ir).mono ?_
    rintro e w3 ⟨u3, rfl, o3, hb3⟩
    obtain ⟨a3, c3, rfl, _⟩ := IR_of_owns o3 rfl
    have X4 := X3.below hb3
    have G4 := G2.below hb3
    replace ir := ir.below hb3
    replace irD := irD.below hb3
    replace hu := hu.below hb3
    replace hB := below_then hB hb3
    have H3 := Box.new w3 #[.slice a3 Z.length c3] 25
    have hbH := below_alloc w3 (.cells #[.slice a3 Z.length c3] 25)
    have irE := (IR_of_owns o3 rfl).below hbH
    have X5 := X4.below hbH
    have G5 := G4.below hbH
    replace ir := ir.below hbH
    replace irD := irD.below hbH
    replace hu := hu.below hbH
    replace hB := below_then hB hbH
    have x5 := X5.2.1 0 _ rfl
    have g5 := G5.2.1 0 _ rfl
    have hx5 := X5.1
    have hg5 := G5.1
    simp only [World.size_alloc] at hx5 hg5
    clear KS hb3 X3 X4 G2 G4 hbH o3 x3 hx3
    have h5 := H3.2.1 0 _ rfl
    cases ok with
    | false =>
      obtain rfl : Z = [] := hDF rfl
      clear hDT hDF KV KN hsmD
      simp only [List.length_nil] at g5 h5 irD irE G5
      go_wp2_with fail
      refine (sameItems_same _ _ [] _ irD irE (by simp)).mono ?_
      rintro e w6 ⟨rfl, hb6⟩
      have G6 := G5.below hb6
      have hB6 := below_then hB hb6
      have g6 := G6.2.1 0 _ rfl
      have hg6 := G6.1
      clear hB hb6 x5 g5 h5
      go_wp2
      go_ret
      exact ⟨rfl, hB6⟩
    | true =>
      obtain ⟨hm, hgr, hZD⟩ := hDT rfl
      obtain rfl : Z = dropL L (q : Int) bot := hZD
      clear hDT hDF hZ
      have hDL : (dropL L (q : Int) bot).length ≤ L.length := (drop_sub L (q : Int) bot).length_le
      have hVS := fun y hy => vs_same hm q bot y hy
      have hNW := drop_newest hgr (q : Int) bot (by omega)
      have hmD := drop_may hm (q : Int) bot
      have e1 : nwV L = newestL L := by unfold nwV; rw [hm]; rfl
      have e2 : nwV (dropL L (q : Int) bot) = newestL (dropL L (q : Int) bot) := by unfold nwV; rw [hmD]; rfl
      rw [← e1, ← e2] at hNW
      rw [hm] at KN
      have KV2 := fun y w h => implVisible_any (.slice a2 (dropL L (q : Int) bot).length c2) (dropL L (q : Int) bot) ((q : Int) + y) w h (by omega) (small_big hsmD)
      have KN2 := fun w h => implNewest_any (.slice a2 (dropL L (q : Int) bot).length c2) (dropL L (q : Int) bot) w h (by omega) (small_big hsmD)
      rw [hmD] at KN2
      have hVl := fun y : Nat => vs_len L ((q : Int) + y)
      generalize dropL L (q : Int) bot = D at *
      generalize nwV L = top at *
      generalize nwV D = left at *
      clear e1 e2 hmD hm hgr hsm hsmD
      go_wp2_with fail
      refine (sameItems_same _ _ D _ irD irE (by omega)).mono ?_
      rintro e w6 ⟨rfl, hb6⟩
      have X6 := X5.below hb6
      have G6 := G5.below hb6
      replace ir := ir.below hb6
      replace irD := irD.below hb6
      replace hu := hu.below hb6
      replace hB := below_then hB hb6
      clear hb6 x5 g5 h5 X5 G5 H3 irE hx5 hg5
      go_wp2_with fail
      refine (numberOf_any _ m0 _ hu (by unfold maxLen at hnu; omega)).mono ?_
      rintro e w7 ⟨⟨x, rfl, hx⟩, hw7⟩
      subst hw7
      clear hu
      obtain ⟨c, hc, hcx⟩ : ∃ c : Nat, c < 30 ∧ ((x : Int) % 30 = (c : Int)) := ⟨x % 30, by omega, by omega⟩
      have hcx2 : Int.tmod (x : Int) 30 = (c : Int) := by rw [Int.tmod_eq_emod_of_nonneg (by omega)]; exact hcx
      have X7 := X6.below (below_alloc w7 (.cells #[.int .i64 0, .int .i64 1, .int .i64 (c : Int)] 3))
      have G7 := G6.below (below_alloc w7 (.cells #[.int .i64 0, .int .i64 1, .int .i64 (c : Int)] 3))
      have ir7 := ir.below (below_alloc w7 (.cells #[.int .i64 0, .int .i64 1, .int .i64 (c : Int)] 3))
      have irD7 := irD.below (below_alloc w7 (.cells #[.int .i64 0, .int .i64 1, .int .i64 (c : Int)] 3))
      have hB7 := below_then hB (below_alloc w7 (.cells #[.int .i64 0, .int .i64 1, .int .i64 (c : Int)] 3))
      have T7 := Box.new w7 #[.int .i64 0, .int .i64 1, .int .i64 (c : Int)] 3
      clear X6 G6 ir irD hB
      go_wp2
      clear hcx hcx2 hx
      obtain ⟨wa, hwa⟩ : ∃ wa, wa = w7.alloc (.cells #[.int .i64 0, .int .i64 1, .int .i64 (c : Int)] 3) := ⟨_, rfl⟩
      rw [← hwa] at X7 G7 ir7 irD7 hB7 T7 ⊢
      clear hwa
      go_loopw [70] (fun i wr => ∃ k : Nat, k ≤ 3 ∧ i = .int .i64 k ∧ Below wa.heap.size wa wr) (fun i _ => 3 - (intOf i).toNat)
      case atStart => exact ⟨0, Nat.zero_le _, rfl, Below.refl _ _⟩
      case round =>
        obtain ⟨k, hk3, rfl, hb⟩ := hrel
        have hz := hb.size
        have X8 := X7.below hb
        have G8 := G7.below hb
        have ir8 := ir7.below hb
        have irD8 := irD7.below hb
        have hB8 := below_then hB7 hb
        by_cases hlt : k < 3
        · obtain ⟨y, hy30, hcy⟩ : ∃ y : Nat, y < 30 ∧ wr.cell? ⟨w7.heap.size, k, none⟩ = some (.int .i64 (y : Int)) := by
            have T8 := (T7.below hb).2.1
            obtain rfl | rfl | rfl : k = 0 ∨ k = 1 ∨ k = 2 := by omega
            · exact ⟨0, by omega, T8 0 _ rfl⟩
            · exact ⟨1, by omega, T8 1 _ rfl⟩
            · exact ⟨c, hc, T8 2 _ rfl⟩
          have hTl := (T7.below hb).1
          obtain ⟨v1, v2, v3⟩ := hVS y (by omega)
          have KA := KV (y : Int)
          have KB := KV2 (y : Int)
          have hVl2 := hVl y
          rw [v1] at KA
          rw [v2, v3] at KB
          generalize vsL L ((q : Int) + (y : Int)) = ZZ at *
          clear hVS v1 v2 v3 T7 X7 G7 ir7 irD7 hB7 KV KV2 KN KN2 hVl hNW
          have hqy : q + y ≤ 1000 := by omega
          have x8 := X8.2.1 0 _ rfl
          have hx8 := X8.1
          go_wp2_with fail
          refine (KA _ ir8).mono ?_
          rintro e w9 ⟨u9, rfl, o9, hb9⟩
          have G9 := G8.below hb9
          have irD9 := irD8.below hb9
          have hB9 := below_then hB8 hb9
          have hbb := below_then hb hb9
          have g9 := G9.2.1 0 _ rfl
          have hg9 := G9.1
          clear KA X8 G8 ir8 irD8 hB8 hb9 x8 hx8 hcy hTl
          go_wp2_with fail
          refine (KB _ irD9).mono ?_
          rintro e wb ⟨ub, rfl, ob, hbb2⟩
          replace o9 := owns_below o9 hbb2
          have hbc := below_then hbb hbb2
          clear KB G9 irD9 hB9 hbb hbb2 g9 hg9
          have pr1 := PR_of_owns o9 rfl
          have pr2 := PR_of_owns ob rfl
          clear o9 ob
          go_wp2_with fail
          refine (samePairs_same _ _ ZZ _ pr1 pr2 (by omega)).mono ?_
          rintro e wd ⟨rfl, hbd⟩
          have hbe := below_then hbc hbd
          clear pr1 pr2 hbc hbd
          go_wp2
          go_roundw
          case rel => exact ⟨k + 1, by omega, by go_num, hbe⟩
          case measure => simp [intOf]; omega
        · obtain rfl : k = 3 := by omega
          clear hVS T7 X7 G7 ir7 irD7 hB7 KV KV2 hVl hb
          have x8 := X8.2.1 0 _ rfl
          have hx8 := X8.1
          go_wp2_with fail
          refine (KN _ ir8).mono ?_
          rintro e w9 ⟨rfl, hb9⟩
          have X9 := X8.below hb9
          have G9 := G8.below hb9
          have irD9 := irD8.below hb9
          have hB9 := below_then hB8 hb9
          have g9 := G9.2.1 0 _ rfl
          have hg9 := G9.1
          clear KN X8 G8 ir8 irD8 hB8 hb9 x8 hx8
          go_wp2_with fail
          refine (KN2 _ irD9).mono ?_
          rintro e wb ⟨rfl, hbb2⟩
          have Xb := X9.below hbb2
          have Gb := G9.below hbb2
          have hBb := below_then hB9 hbb2
          have gb := Gb.2.1 0 _ rfl
          have hgb := Gb.1
          have xb := Xb.2.1 0 _ rfl
          have hxb := Xb.1
          clear KN2 X9 G9 irD9 hB9 hbb2 g9 hg9
          obtain ⟨n1, n2⟩ := hNW
          have m1 : decide (left ≤ top) = true := decide_eq_true n1
          have m3 : decide ((D.length : Int) ≤ L.length) = true := decide_eq_true (by omega)
          by_cases n3 : top ≤ (q : Int)
          · have m2 : decide (top ≤ (q : Int)) = true := decide_eq_true n3
            go_wp2
            go_ret
            exact ⟨by first | rfl | simp [m1, m2, m3] | (simp; omega), hBb⟩
          · obtain rfl : left = top := by rcases n2 with h | h <;> omega
            have m2 : decide (left ≤ (q : Int)) = false := decide_eq_false n3
            go_wp2
            go_ret
            exact ⟨by first | rfl | simp [m1, m2, m3] | (simp; omega), hBb⟩
  · clear KD hv hu hnv hnu
    go_enter Try.func3, Try.ntmps3
    go_wp2
    go_ret
    exact ⟨rfl, Below.refl _ _⟩
end Go.Proofs.Ytjenogmpmkkbiaa
