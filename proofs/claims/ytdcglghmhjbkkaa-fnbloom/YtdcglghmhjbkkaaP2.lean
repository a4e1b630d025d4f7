/-
  Filters: impl.PlacesOf of what is not good; spec.l5Places, spec.PlacesOf.
-/
import Derived.Test.YtdcglghmhjbkkaaP1
namespace Go.Proofs.Ytdcglghmhjbkkaa
open Go.RowKit
set_option linter.unusedVariables false
set_option maxRecDepth 100000

set_option maxHeartbeats 1000000 in
theorem implPlaces_bad (s : ByteArray) (n : Int) (w : World) (hg : (goodK s && goodH n) = false) :
    Calls Try.prog 21 #[.string s, .int .i64 n] w fun e w' => e = .returned (.tuple #[.slice none 0 0, .bool false]) ∧ Below w.heap.size w w' := by
  have KK := fun w => goodKey_any s w
  have HH := fun w => goodHashes_any n w
  generalize goodK s = k at *
  generalize goodH n = h at *
  cases k
  · go_enter Try.func21, Try.ntmps21
    go_wp2_with fail
    refine (KK _).mono ?_
    rintro e w1 ⟨rfl, hw⟩
    rw [hw]; clear hw KK HH
    go_wp2
    go_ret2
    exact ⟨rfl, Below.refl _ _⟩
  · obtain rfl : h = false := by simpa using hg
    go_enter Try.func21, Try.ntmps21
    go_wp2_with fail
    refine (KK _).mono ?_
    rintro e w1 ⟨rfl, hw⟩
    rw [hw]; clear hw
    go_wp2_with fail
    refine (HH _).mono ?_
    rintro e w1 ⟨rfl, hw⟩
    rw [hw]; clear hw KK HH
    go_wp2
    go_ret2
    exact ⟨rfl, Below.refl _ _⟩

set_option maxHeartbeats 2000000 in
theorem l5Places_any (s : ByteArray) (nh : Nat) (w : World) (hk : goodK s = true) (h8 : nh ≤ 8) :
    Calls Try.prog 59 #[.string s, .int .i64 (nh : Int)] w fun e w' => ∃ v, e = .returned v ∧ w'.ownsRow w.heap.size 3 1 v nh ((plZ s nh).map (.int .i64)) ∧ Below w.heap.size w w' := by
  obtain ⟨i0, hi, hz0, hzs, hzb⟩ := info_parts Try.info3
  have hsz := goodK_size hk
  have HL := plZ_length s nh
  have HA := plZ_at s nh
  have T1 := fun v w hv => l2On_any v 4294967295 s w hv (by omega) (by omega)
  have T2 := fun v w hv => l2On_any v 0 s w hv (by omega) (by omega)
  have HO := or_val (con 0 s.data.toList) (con_lt _ _ (by omega))
  have HN := not_val (con 4294967295 s.data.toList) (con_lt _ _ (by omega))
  have hal := csum_lt s.data.toList
  have hbl := odd_lt s
  have HA0 := goA_zero (csum s.data.toList) (con 0 s.data.toList ||| 1) hal
  have hc1 := con_lt s.data.toList 4294967295 (by omega)
  rw [show 4294967295 - con 4294967295 s.data.toList = csum s.data.toList from rfl] at HN
  generalize csum s.data.toList = a at *
  generalize con 4294967295 s.data.toList = a0 at *
  generalize con 0 s.data.toList = b0 at *
  generalize b0 ||| 1 = b at *
  generalize plZ s nh = zs at *
  go_enter Try.func59, Try.ntmps59
  go_wp2_with fail
  refine (l2Table_any _).mono ?_
  rintro e w1 ⟨g, rfl, ho, hb1⟩
  have tl := TL_of_owns ho
  go_wp2_with fail
  refine (T1 _ _ tl).mono ?_
  rintro e w2 ⟨rfl, hw⟩
  rw [hw]; clear hw
  go_wp2_with fail
  refine (T2 _ _ tl).mono ?_
  rintro e w2 ⟨rfl, hw⟩
  rw [hw]; clear hw T1 T2 tl ho
  go_wp2_with fail
  go_loopw [6, 8, 9] (fun x v i wr => ∃ k : Nat, k ≤ nh ∧ i = .int .i64 k ∧ x = .int .u32 ((goA a b k : Nat) : Int) ∧ wr.ownsRow w.heap.size 3 1 v k ((zs.take k).map (.int .i64)) ∧ Below w.heap.size w wr) (fun _ _ i _ => nh - (intOf i).toNat)
  case atStart => exact ⟨0, Nat.zero_le _, rfl, by rw [HA0], World.ownsRow_nil _ _ _ _, hb1⟩
  case round =>
    obtain ⟨k, hk, rfl, rfl, hown, hb⟩ := hrel
    by_cases hlt : k < nh
    · have HS : Hid ((zs.take k).map (Value.int .i64) ++ [.int .i64 ((goA a b k : Int) % 256)] = (zs.take (k + 1)).map (.int .i64)) := by
        show _ = _
        have e := HA k hlt
        rw [List.getElem?_eq_getElem (by omega)] at e
        rw [List.take_succ_eq_append_getElem (by omega), List.map_append, Option.some.inj e]; rfl
      have HG : Hid ((goA a b k + b) % 4294967296 = goA a b (k + 1)) := goA_succ a b k
      have hgl := goA_lt a b k
      have hz := hb.size
      clear HA HA0
      generalize (zs.take k).map (Value.int .i64) = L at *
      generalize goA a b k = x at *
      go_wp2_with (at_builtin; refine wpList_append_own _ rfl _ _ 37 rfl w.heap.size 3 i0 (.int .i64 0) 1 8 Try.underlying37 hi hz0 hzs hzb rfl (by decide) _ k L rfl (owns_below hown (below_alloc _ _)) ⟨wr.heap.size, 0, none⟩ 1 1 [.int .i64 ((x : Int) % 256)] rfl rfl (by intro j u hj; match j, hj with | 0, hj => simp at hj; subst hj; simp [Addr.add]) (by intro u hu; simp at hu; subst hu; rfl) (by unfold maxLen; omega) (by omega) (by simp; omega) ?_; intro v' w2 hown2 hgrow2 _)
      go_roundw
      case rel =>
        refine ⟨k + 1, by omega, by go_num, by rw [← HG.out]; go_num, ?_, (hb.alloc hz _).grown hgrow2 (by simp; omega) (owns_ge hown)⟩
        rw [← HS.out]; exact hown2
      case measure => simp [intOf]; omega
    · obtain rfl : k = nh := by omega
      rw [← HL, List.take_length, HL] at hown
      go_wp2
      go_ret
      exact ⟨_, rfl, hown, hb⟩
end Go.Proofs.Ytdcglghmhjbkkaa
