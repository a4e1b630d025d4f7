/-
  OverlapsIn: the specification's side.
-/
import Derived.Test.YtenbdjlhcadhaaaO9
namespace Go.Proofs.Ytenbdjlhcadhaaa
open Go.RowKit
set_option linter.unusedVariables false
set_option maxRecDepth 100000

set_option maxHeartbeats 4000000 in
theorem l9Overlaps_any (nx sq lev : Int) (ka kb : ByteArray) (v : Value) (l : List Mt) (w : World) (hv : IR w v l) (hn : l.length ≤ 1048576) :
    Calls Try.prog 65 #[.agg #[.int .i64 nx, .int .i64 sq, v], .int .i64 lev, .string ka, .string kb] w fun e w' => ∃ u, e = .returned u ∧ w'.ownsRow w.heap.size 3 1 u (ovN lev ka kb l l.length).length ((ovN lev ka kb l l.length).map (.int .i64)) ∧ Below w.heap.size w w' := by
  obtain ⟨i0, hi, hz0, hzs, hzb⟩ := info_parts Try.info3
  obtain ⟨a, cap, rfl, hc⟩ := hv
  go_enter Try.func65, Try.ntmps65
  go_wp2
  go_loopw [9, 15] (fun u i wr => ∃ k : Nat, k ≤ l.length ∧ i = .int .i64 k ∧ wr.ownsRow w.heap.size 3 1 u (ovN lev ka kb l k).length ((ovN lev ka kb l k).map (.int .i64)) ∧ Below w.heap.size w wr) (fun _ i _ => l.length - (intOf i).toNat)
  case atStart => exact ⟨0, Nat.zero_le _, rfl, by rw [ovN_zero]; exact World.ownsRow_nil _ _ _ _, below_alloc _ _⟩
  case round =>
    obtain ⟨k, hk, rfl, hown, hbr⟩ := hrel
    have hzr := hbr.size
    by_cases hlt : k < l.length
    · obtain ⟨b, off, rfl, hbl, hcell⟩ := hc (by intro e; simp [e] at hlt)
      have hc0 := (hbr.cell (p := ⟨b, off + k * 4, none⟩) hbl).trans (hcell k hlt).1
      have hc1 := (hbr.cell (p := ⟨b, off + k * 4 + 1, none⟩) hbl).trans (hcell k hlt).2.1
      have hc2 := (hbr.cell (p := ⟨b, off + k * 4 + 2, none⟩) hbl).trans (hcell k hlt).2.2.1
      have hc3 := (hbr.cell (p := ⟨b, off + k * 4 + 3, none⟩) hbl).trans (hcell k hlt).2.2.2
      have hbl2 : b < wr.heap.size := by omega
      have HY : Hid (ovl ⟨0, lev, ka, kb⟩ l[k] = true → ovN lev ka kb l (k + 1) = ovN lev ka kb l k ++ [l[k].n]) := ovN_yes lev ka kb l k hlt
      have HN : Hid (ovl ⟨0, lev, ka, kb⟩ l[k] = false → ovN lev ka kb l (k + 1) = ovN lev ka kb l k) := ovN_no lev ka kb l k hlt
      have HC : Hid (ovl ⟨0, lev, ka, kb⟩ l[k] = (decide (l[k].d = lev) && (Op.bytesLess l[k].k.toList kb.toList || l[k].k.toList == kb.toList) && (Op.bytesLess ka.toList l[k].v.toList || ka.toList == l[k].v.toList))) := rfl
      have hol := ovN_len lev ka kb l k
      have hBA := hbr.alloc hzr (.cells #[.int .i64 l[k].n, .int .i64 l[k].d, .string l[k].k, .string l[k].v] 82)
      have OA := owns_below hown (below_alloc wr (.cells #[.int .i64 l[k].n, .int .i64 l[k].d, .string l[k].k, .string l[k].v] 82))
      clear hcell hc hown
      generalize ovl ⟨0, lev, ka, kb⟩ l[k] = c at *
      generalize l[k] = t at *
      obtain ⟨tn, td, tk, tv⟩ := t
      dsimp only at *
      generalize ovN lev ka kb l k = zs at *
      by_cases g2 : td = lev
      · have g2' := g2.symm
        subst g2'
        cases g3 : (Op.bytesLess tk.toList kb.toList || tk.toList == kb.toList) with
        | true =>
          cases g4 : (Op.bytesLess ka.toList tv.toList || ka.toList == tv.toList) with
          | true =>
            have HY2 : Hid (ovN lev ka kb l (k + 1) = zs ++ [tn]) := HY.out (by rw [HC.out, g3, g4, decide_eq_true rfl]; rfl)
            clear HN HY HC
            have hzA := hBA.size
            have ON := one_new (wr.alloc (.cells #[.int .i64 tn, .int .i64 lev, .string tk, .string tv] 82)) tn
            rw [World.size_alloc] at ON
            go_wp2_with (at_builtin; refine wpList_append_own _ rfl _ _ 28 rfl w.heap.size 3 i0 (.int .i64 0) 1 8 Try.underlying28 hi hz0 hzs hzb rfl (by decide) _ zs.length (zs.map (.int .i64)) rfl (owns_below OA (below_alloc _ _)) ⟨wr.heap.size + 1, 0, none⟩ 1 1 [.int .i64 tn] rfl rfl ON (by intro u hu; simp at hu; subst hu; rfl) (by unfold maxLen; omega) (by omega) (by simp; omega) ?_; intro v' w4 hown4 hgrow4 _)
            go_roundw
            case rel =>
              refine ⟨k + 1, by omega, by go_num, ?_, ?_⟩
              · rw [HY2.out, List.map_append, List.length_append]; exact hown4
              · exact (hBA.alloc hzA _).grown hgrow4 (by simp; omega) (owns_ge OA)
            case measure => simp [intOf]; omega
          | false =>
            have HN2 : Hid (ovN lev ka kb l (k + 1) = zs) := HN.out (by rw [HC.out, g4, Bool.and_false])
            clear HN HY HC
            go_wp2
            go_roundw
            case rel => exact ⟨k + 1, by omega, by go_num, by rw [HN2.out]; exact OA, hBA⟩
            case measure => simp [intOf]; omega
        | false =>
          have HN2 : Hid (ovN lev ka kb l (k + 1) = zs) := HN.out (by rw [HC.out, g3, Bool.and_false, Bool.false_and])
          clear HN HY HC
          go_wp2
          go_roundw
          case rel => exact ⟨k + 1, by omega, by go_num, by rw [HN2.out]; exact OA, hBA⟩
          case measure => simp [intOf]; omega
      · have HN2 : Hid (ovN lev ka kb l (k + 1) = zs) := HN.out (by rw [HC.out, decide_eq_false g2]; rfl)
        clear HN HY HC
        go_wp2
        go_roundw
        case rel => exact ⟨k + 1, by omega, by go_num, by rw [HN2.out]; exact OA, hBA⟩
        case measure => simp [intOf]; omega
    · obtain rfl : k = l.length := by omega
      clear hc
      go_wp2
      exact bodyPost_ret (v := u9) (by simp [results, Try.results65, go_sem]) rfl ⟨_, rfl, hown, hbr⟩

set_option maxHeartbeats 4000000 in
theorem specOverlaps_any (nx sq lev : Int) (ka kb : ByteArray) (v : Value) (l : List Mt) (w : World) (HV : IX w v l) (hn : l.length ≤ 1048576) (hs : ∀ i (h : i < l.length), l[i].k.size ≤ 1048576 ∧ l[i].v.size ≤ 1048576) (ha : ka.size ≤ 1048576) (hb : kb.size ≤ 1048576) :
    Calls Try.prog 21 #[.agg #[.int .i64 nx, .int .i64 sq, v], .int .i64 lev, .string ka, .string kb] w fun e w' => ∃ u, e = .returned (.tuple #[u, .bool (ovB nx sq lev ka kb l)]) ∧ w'.ownsRow w.heap.size 3 1 u (ovZ nx sq lev ka kb l).length ((ovZ nx sq lev ka kb l).map (.int .i64)) ∧ Below w.heap.size w w' := by
  have hB0 := below_alloc w (.cells #[.int .i64 nx, .int .i64 sq, v] 25)
  have X0 := Box.new w #[.int .i64 nx, .int .i64 sq, v] 25
  have K := specGoodV_any nx sq v l _ (HV.below hB0) hn hs
  have A : ∀ w, Calls Try.prog 63 #[.int .i64 lev, .int .i64 0, .int .i64 3] w fun e w' => e = .returned (.bool (okLev lev)) ∧ w' = w := fun w => l1In_any lev 0 3 w
  have C := fun w => l4Key_any ka w ha
  have D := fun w => l4Key_any kb w hb
  have HP : Hid (ovZ nx sq lev ka kb l = (if goodV nx sq l && (okLev lev && okKey ka && okKey kb && leK ka kb) then ovN lev ka kb l l.length else []) ∧ ovB nx sq lev ka kb l = (goodV nx sq l && (okLev lev && okKey ka && okKey kb && leK ka kb))) := ⟨rfl, rfl⟩
  have HL : Hid (leK ka kb = (Op.bytesLess ka.toList kb.toList || ka.toList == kb.toList)) := rfl
  have KO := fun w h => l9Overlaps_any nx sq lev ka kb v l w h hn
  generalize ovN lev ka kb l l.length = N at *
  generalize ovZ nx sq lev ka kb l = Z at *
  generalize ovB nx sq lev ka kb l = B at *
  generalize goodV nx sq l = g at *
  generalize okLev lev = b1 at *
  generalize okKey ka = b2 at *
  generalize okKey kb = b3 at *
  obtain ⟨hv, _⟩ := HV
  have hv' := hv
  obtain ⟨a, cap, rfl, hc⟩ := hv
  clear hs hc
  go_enter Try.func21, Try.ntmps21
  go_wp2_with fail
  refine K.mono ?_
  rintro e w1 ⟨rfl, hb1⟩
  have hB1 := below_then hB0 hb1
  have X1 := X0.below hb1
  clear K hB0 hb1 X0
  cases g
  · obtain ⟨rfl, rfl⟩ : Z = [] ∧ B = false := ⟨by rw [HP.out.1]; rfl, by rw [HP.out.2]; rfl⟩
    clear HP HL KO
    go_wp2
    exact bodyPost_ret (v := .tuple #[.slice none 0 0, .bool false]) (by simp [results, Try.results21, go_sem]) rfl ⟨_, rfl, World.ownsRow_nil _ _ _ _, hB1⟩
  go_wp2_with fail
  refine (A _).mono ?_
  rintro e w2 ⟨rfl, rfl⟩
  cases b1
  · obtain ⟨rfl, rfl⟩ : Z = [] ∧ B = false := ⟨by rw [HP.out.1]; rfl, by rw [HP.out.2]; rfl⟩
    clear HP HL KO
    go_wp2
    exact bodyPost_ret (v := .tuple #[.slice none 0 0, .bool false]) (by simp [results, Try.results21, go_sem]) rfl ⟨_, rfl, World.ownsRow_nil _ _ _ _, hB1⟩
  go_wp2_with fail
  refine (C _).mono ?_
  rintro e w2 ⟨rfl, rfl⟩
  cases b2
  · obtain ⟨rfl, rfl⟩ : Z = [] ∧ B = false := ⟨by rw [HP.out.1]; rfl, by rw [HP.out.2]; rfl⟩
    clear HP HL KO
    go_wp2
    exact bodyPost_ret (v := .tuple #[.slice none 0 0, .bool false]) (by simp [results, Try.results21, go_sem]) rfl ⟨_, rfl, World.ownsRow_nil _ _ _ _, hB1⟩
  go_wp2_with fail
  refine (D _).mono ?_
  rintro e w2 ⟨rfl, rfl⟩
  cases b3
  · obtain ⟨rfl, rfl⟩ : Z = [] ∧ B = false := ⟨by rw [HP.out.1]; rfl, by rw [HP.out.2]; rfl⟩
    clear HP HL KO
    go_wp2
    exact bodyPost_ret (v := .tuple #[.slice none 0 0, .bool false]) (by simp [results, Try.results21, go_sem]) rfl ⟨_, rfl, World.ownsRow_nil _ _ _ _, hB1⟩
  cases hle : (Op.bytesLess ka.toList kb.toList || ka.toList == kb.toList) with
  | false =>
    obtain ⟨rfl, rfl⟩ : Z = [] ∧ B = false := ⟨by rw [HP.out.1, HL.out, hle]; rfl, by rw [HP.out.2, HL.out, hle]; rfl⟩
    clear HP HL KO
    go_wp2
    exact bodyPost_ret (v := .tuple #[.slice none 0 0, .bool false]) (by simp [results, Try.results21, go_sem]) rfl ⟨_, rfl, World.ownsRow_nil _ _ _ _, hB1⟩
  | true =>
    obtain ⟨rfl, rfl⟩ : Z = N ∧ B = true := ⟨by rw [HP.out.1, HL.out, hle]; rfl, by rw [HP.out.2, HL.out, hle]; rfl⟩
    have KO2 := KO _ (hv'.below hB1)
    obtain ⟨_, c0, c1, c2, _⟩ := X1.c3
    clear HP HL KO hv'
    go_wp2_with fail
    refine KO2.mono ?_
    rintro e w3 ⟨u, rfl, ho, hb3⟩
    have hB3 := below_then hB1 hb3
    have ho2 := owns_mono ho hB1.size
    obtain ⟨ua, uc, rfl⟩ := owns_shape ho
    clear KO2 hb3 c0 c1 c2 ho
    go_wp2
    exact bodyPost_ret (v := .tuple #[.slice ua Z.length uc, .bool true]) (by simp [results, Try.results21, go_sem]) rfl ⟨_, rfl, ho2, hB3⟩
end Go.Proofs.Ytenbdjlhcadhaaa
