/-
  An item that is taken behind a key: impl.takeItem.
  An item that is taken behind a key: impl.takeItem.
-/
import Derived.Test.YtfdaffnkgpdhhaaGreatRz
import Derived.Test.YtfdaffnkgpdhhaaGreatR3
namespace Go.Proofs.YtfdaffnkgpdhhaaGreat
open Go.RowKit
set_option linter.unusedVariables false
set_option maxRecDepth 100000

/-- What takeItem answers. -/
def tiI (s : ByteArray) (key : List UInt8) : It := if rdOk (bl s) key then rdIt (bl s) key else It.zero
def tiR (s : ByteArray) (key : List UInt8) : ByteArray := if rdOk (bl s) key then s.extract (rdN (bl s)) s.size else ⟨#[]⟩
theorem bl_reS (s : ByteArray) : bl (reS s) = (bl s).drop ((reA s).2 + (reB s).2) := bl_from _ _
/-- Two numbers, and two more behind them. -/
theorem rd_two (s : ByteArray) : rd (bl s) = ⟨(reA s).1, (reB s).1, (reA (reS s)).1, (reB (reS s)).1, (reA s).2 + (reB s).2 + (reA (reS s)).2 + (reB (reS s)).2, reTwo s && reTwo (reS s)⟩ := by
  have eA : take (bl s) = reA s := rfl
  have eB : take ((bl s).drop (reA s).2) = reB s := by
    show _ = take (bl (s.extract (reA s).2 s.size))
    rw [bl_from]
  have eC : take ((bl s).drop ((reA s).2 + (reB s).2)) = reA (reS s) := by
    show _ = take (bl (reS s))
    rw [bl_reS]
  have eD : take ((bl s).drop ((reA s).2 + (reB s).2 + (reA (reS s)).2)) = reB (reS s) := by
    show _ = take (bl ((reS s).extract (reA (reS s)).2 (reS s).size))
    rw [bl_from, bl_reS, List.drop_drop]
  unfold rd
  simp only [eA, eB, eC, eD, reTwo, Bool.and_assoc]
theorem two_le (s : ByteArray) : (reA s).2 + (reB s).2 + (reA (reS s)).2 + (reB (reS s)).2 ≤ s.size ∧ (reS (reS s)).size + ((reA s).2 + (reB s).2 + (reA (reS s)).2 + (reB (reS s)).2) = s.size := by
  have h1 := (reB_le s).1
  have h2 := (reB_le (reS s)).1
  have h3 : (reS s).size = s.size - ((reA s).2 + (reB s).2) := by unfold reS; rw [ByteArray.size_extract]; omega
  have h4 : (reS (reS s)).size = (reS s).size - ((reA (reS s)).2 + (reB (reS s)).2) := by rw [reS, ByteArray.size_extract]; omega
  omega
theorem bl_T (s : ByteArray) : bl (reS (reS s)) = (bl s).drop ((reA s).2 + (reB s).2 + (reA (reS s)).2 + (reB (reS s)).2) := by
  rw [bl_reS, bl_reS, List.drop_drop, Nat.add_assoc ((reA s).2 + (reB s).2)]
/-- In the words of what is left behind the four numbers. -/
theorem ti_ok (s : ByteArray) (key : List UInt8) : rdOk (bl s) key = (reTwo s && reTwo (reS s) && decide ((reA s).1 ≤ key.length) && decide ((reB s).1 + (reB (reS s)).1 ≤ (reS (reS s)).size)) := by
  have h2 := two_le s
  have h1 := rd_two s
  have hl := bl_len s
  unfold rdOk
  rw [h1, hl]
  clear h1 hl
  generalize (reTwo s && reTwo (reS s)) = T at *
  generalize (reS (reS s)).size = n at *
  generalize (reA s).2 + (reB s).2 + (reA (reS s)).2 + (reB (reS s)).2 = q at *
  generalize (reB (reS s)).1 = z at *
  generalize (reB s).1 = r at *
  generalize (reA s).1 = i at *
  show (T && decide (i ≤ key.length) && decide (q + r + z ≤ s.size)) = (T && decide (i ≤ key.length) && decide (r + z ≤ n))
  rw [show decide (q + r + z ≤ s.size) = decide (r + z ≤ n) from decide_eq_decide.2 (by omega)]
theorem rdIt_gen (s key : List UInt8) (i r m z q : Nat) (ok : Bool) (h : rd s = ⟨i, r, m, z, q, ok⟩) : rdIt s key = ⟨⟨(key.take i ++ (s.drop q).take r).toArray⟩, (m : Int) / 2, (m : Int) % 2, ⟨((s.drop (q + r)).take z).toArray⟩⟩ := by
  unfold rdIt; rw [h]
theorem rdN_gen (s : List UInt8) (i r m z q : Nat) (ok : Bool) (h : rd s = ⟨i, r, m, z, q, ok⟩) : rdN s = q + r + z := by
  unfold rdN; rw [h]
theorem ti_it (s : ByteArray) (key : List UInt8) (h : (reB s).1 + (reB (reS s)).1 ≤ (reS (reS s)).size) : rdIt (bl s) key = ⟨tx (key.take (reA s).1 ++ bl ((reS (reS s)).extract 0 (reB s).1)), ((reA (reS s)).1 : Int) / 2, ((reA (reS s)).1 : Int) % 2, (reS (reS s)).extract (reB s).1 ((reB s).1 + (reB (reS s)).1)⟩ := by
  have h1 := rdIt_gen _ key _ _ _ _ _ _ (rd_two s)
  have hT := bl_T s
  rw [h1]
  clear h1 h
  generalize reS (reS s) = T at *
  generalize (reA s).2 + (reB s).2 + (reA (reS s)).2 + (reB (reS s)).2 = q at *
  generalize (reB (reS s)).1 = z at *
  generalize (reB s).1 = r at *
  generalize (reA s).1 = i at *
  have e1 : (⟨(key.take i ++ ((bl s).drop q).take r).toArray⟩ : ByteArray) = tx (key.take i ++ bl (T.extract 0 r)) := by
    apply bl_inj
    rw [bl_tx, bl_mk, bl_to, hT]
  have e2 : (⟨(((bl s).drop (q + r)).take z).toArray⟩ : ByteArray) = T.extract r (r + z) := by
    apply bl_inj
    rw [bl_ext, hT, List.drop_drop, Nat.add_sub_cancel_left, bl_mk]
  rw [e1, e2]
theorem ti_rest (s : ByteArray) : s.extract (rdN (bl s)) s.size = (reS (reS s)).extract ((reB s).1 + (reB (reS s)).1) (reS (reS s)).size := by
  have h1 := rdN_gen _ _ _ _ _ _ _ (rd_two s)
  have hT := bl_T s
  rw [h1]
  clear h1
  generalize reS (reS s) = T at *
  generalize (reA s).2 + (reB s).2 + (reA (reS s)).2 + (reB (reS s)).2 = q at *
  generalize (reB (reS s)).1 = z at *
  generalize (reB s).1 = r at *
  apply bl_inj
  rw [bl_from, bl_from, hT, List.drop_drop, Nat.add_assoc]
theorem reT_yes {s : ByteArray} (h : reTwo s = true) : reT s = .tuple #[.int .i64 (reA s).1, .int .i64 (reB s).1, .string (reS s), .bool true] := by unfold reT; rw [if_pos h]
theorem reT_no {s : ByteArray} (h : reTwo s = false) : reT s = .tuple #[.int .i64 0, .int .i64 0, .string ⟨#[]⟩, .bool false] := by unfold reT; rw [if_neg (by rw [h]; simp)]
end Go.Proofs.YtfdaffnkgpdhhaaGreat

namespace Go.Proofs.YtfdaffnkgpdhhaaGreat
open Go.RowKit Go.Lib
set_option linter.unusedVariables false
set_option maxRecDepth 100000

theorem KY.shape {w : World} {v : Value} {l : List UInt8} (h : KY w v l) : ∃ a cap, v = .slice a l.length cap := by
  rcases h with ⟨rfl, rfl⟩ | ⟨g, cap, rfl, _⟩
  · exact ⟨_, _, rfl⟩
  · exact ⟨_, _, rfl⟩
theorem KY.lt {w : World} {v : Value} {l : List UInt8} (h : KY w v l) : ∀ g n c, v = .slice (some ⟨g, 0, none⟩) n c → g < w.heap.size := by
  rintro g n c rfl
  rcases h with ⟨h, _⟩ | ⟨g', cap, h, _, hw⟩
  · cases h
  · simp only [Value.slice.injEq, Option.some.injEq, Addr.mk.injEq] at h
    rw [h.1.1]; exact hw.1

set_option maxHeartbeats 2000000 in
theorem takeItem_no (s : ByteArray) (v : Value) (key : List UInt8) (w : World) (hk : KY w v key) (hs : s.size ≤ 1048576) (hkl : key.length ≤ 2097152) (hno : rdOk (bl s) key = false) :
    Calls Tryz.prog 121 #[.string s, v] w fun e w' => e = .returned (.tuple #[.agg #[.string ⟨#[]⟩, .int .i64 0, .int .i64 0, .string ⟨#[]⟩], .string ⟨#[]⟩, .bool false]) ∧ Below w.heap.size w w' := by
  obtain ⟨av, cap, rfl⟩ := hk.shape
  clear hk
  rw [ti_ok] at hno
  have HF : Hid ((reTwo s && reTwo (reS s) && decide ((reA s).1 ≤ key.length) && decide ((reB s).1 + (reB (reS s)).1 ≤ (reS (reS s)).size)) = false) := hno
  clear hno
  have sz1 := reS_size s
  have sz2 := reS_size (reS s)
  have K1 := fun w => takeTwo_any s w hs
  have K2 := fun w => takeTwo_any (reS s) w (by omega)
  have X0 := Box.new w #[.string ⟨#[]⟩, .int .i64 0, .int .i64 0, .string ⟨#[]⟩] 33
  have hB0 := below_alloc w (.cells #[.string ⟨#[]⟩, .int .i64 0, .int .i64 0, .string ⟨#[]⟩] 33)
  obtain ⟨W0, hW0⟩ : ∃ W0, W0 = w.alloc (.cells #[.string ⟨#[]⟩, .int .i64 0, .int .i64 0, .string ⟨#[]⟩] 33) := ⟨_, rfl⟩
  rw [← hW0] at X0 hB0
  cases h1 : reTwo s with
  | false =>
    rw [reT_no h1] at K1
    clear HF K2 h1 sz1 sz2
    go_enter Tryz.func121, Tryz.ntmps121
    go_wp2_with fail
    rw [← hW0]; clear hW0
    refine (K1 _).mono ?_
    rintro e w1 ⟨rfl, hb1⟩
    have X1 := X0.below hb1
    have hB1 := below_then hB0 hb1
    clear K1 hb1 X0 hB0
    obtain ⟨⟨f0, f1, f2, f3⟩, zz, x0, x1, x2, x3⟩ := Box.f4 X1
    obtain ⟨⟨r0, r1, r2, r3⟩, hBz⟩ := put4_ok hB1 (Nat.le_refl _) X1 (.string ⟨#[]⟩) (.int .i64 0) (.int .i64 0) (.string ⟨#[]⟩)
    go_wp2
    change bodyPost _ _ _ _ _ (put4 _ w.heap.size (.string ⟨#[]⟩) (.int .i64 0) (.int .i64 0) (.string ⟨#[]⟩))
    generalize put4 _ w.heap.size (.string ⟨#[]⟩) (.int .i64 0) (.int .i64 0) (.string ⟨#[]⟩) = W' at *
    exact bodyPost_ret (v := .tuple #[.agg #[.string ⟨#[]⟩, .int .i64 0, .int .i64 0, .string ⟨#[]⟩], .string ⟨#[]⟩, .bool false]) (by simp [results, Tryz.results121, go_sem, r0, r1, r2, r3]) rfl ⟨rfl, hBz⟩
  | true =>
    rw [reT_yes h1] at K1
    rw [h1] at HF
    by_cases h2 : (reA s).1 ≤ key.length
    case neg =>
      clear HF K2 h1 sz1 sz2
      have h2p : key.length < (reA s).1 := by omega
      generalize reS s = T1 at *
      generalize (reB s).1 = r at *
      generalize (reA s).1 = i at *
      go_enter Tryz.func121, Tryz.ntmps121
      go_wp2_with fail
      rw [← hW0]; clear hW0
      refine (K1 _).mono ?_
      rintro e w1 ⟨rfl, hb1⟩
      have X1 := X0.below hb1
      have hB1 := below_then hB0 hb1
      clear K1 hb1 X0 hB0
      obtain ⟨⟨f0, f1, f2, f3⟩, zz, x0, x1, x2, x3⟩ := Box.f4 X1
      obtain ⟨⟨r0, r1, r2, r3⟩, hBz⟩ := put4_ok hB1 (Nat.le_refl _) X1 (.string ⟨#[]⟩) (.int .i64 0) (.int .i64 0) (.string ⟨#[]⟩)
      go_wp2
      change bodyPost _ _ _ _ _ (put4 _ w.heap.size (.string ⟨#[]⟩) (.int .i64 0) (.int .i64 0) (.string ⟨#[]⟩))
      generalize put4 _ w.heap.size (.string ⟨#[]⟩) (.int .i64 0) (.int .i64 0) (.string ⟨#[]⟩) = W' at *
      exact bodyPost_ret (v := .tuple #[.agg #[.string ⟨#[]⟩, .int .i64 0, .int .i64 0, .string ⟨#[]⟩], .string ⟨#[]⟩, .bool false]) (by simp [results, Tryz.results121, go_sem, r0, r1, r2, r3]) rfl ⟨rfl, hBz⟩
    cases h3 : reTwo (reS s) with
    | false =>
      rw [reT_no h3] at K2
      clear HF h1 h3 sz1 sz2
      have h2p : ¬ key.length < (reA s).1 := by omega
      generalize reS s = T1 at *
      generalize (reB s).1 = r at *
      generalize (reA s).1 = i at *
      go_enter Tryz.func121, Tryz.ntmps121
      go_wp2_with fail
      rw [← hW0]; clear hW0
      refine (K1 _).mono ?_
      rintro e w1 ⟨rfl, hb1⟩
      have X1 := X0.below hb1
      have hB1 := below_then hB0 hb1
      clear K1 hb1 X0 hB0
      go_wp2_with fail
      refine (K2 _).mono ?_
      rintro e w2 ⟨rfl, hb2⟩
      have X2 := X1.below hb2
      have hB2 := below_then hB1 hb2
      clear K2 hb2 X1 hB1
      obtain ⟨⟨f0, f1, f2, f3⟩, zz, x0, x1, x2, x3⟩ := Box.f4 X2
      obtain ⟨⟨r0, r1, r2, r3⟩, hBz⟩ := put4_ok hB2 (Nat.le_refl _) X2 (.string ⟨#[]⟩) (.int .i64 0) (.int .i64 0) (.string ⟨#[]⟩)
      go_wp2
      change bodyPost _ _ _ _ _ (put4 _ w.heap.size (.string ⟨#[]⟩) (.int .i64 0) (.int .i64 0) (.string ⟨#[]⟩))
      generalize put4 _ w.heap.size (.string ⟨#[]⟩) (.int .i64 0) (.int .i64 0) (.string ⟨#[]⟩) = W' at *
      exact bodyPost_ret (v := .tuple #[.agg #[.string ⟨#[]⟩, .int .i64 0, .int .i64 0, .string ⟨#[]⟩], .string ⟨#[]⟩, .bool false]) (by simp [results, Tryz.results121, go_sem, r0, r1, r2, r3]) rfl ⟨rfl, hBz⟩
    | true =>
      rw [reT_yes h3] at K2
      rw [h3, decide_eq_true h2] at HF
      have sz3 : (reS (reS s)).size ≤ 1048576 := by omega
      clear h1 h3 sz1 sz2
      have h2p : ¬ key.length < (reA s).1 := by omega
      generalize reS (reS s) = T at *
      generalize (reA (reS s)).1 = m at *
      generalize (reB (reS s)).1 = z at *
      generalize reS s = T1 at *
      generalize (reB s).1 = r at *
      generalize (reA s).1 = i at *
      by_cases h4 : r ≤ T.size
      case neg =>
        clear HF
        have h4p : T.size < r := by omega
        have h4i : (T.size : Int) < (r : Int) := by omega
        go_enter Tryz.func121, Tryz.ntmps121
        go_wp2_with fail
        rw [← hW0]; clear hW0
        refine (K1 _).mono ?_
        rintro e w1 ⟨rfl, hb1⟩
        have X1 := X0.below hb1
        have hB1 := below_then hB0 hb1
        clear K1 hb1 X0 hB0
        go_wp2_with fail
        refine (K2 _).mono ?_
        rintro e w2 ⟨rfl, hb2⟩
        have X2 := X1.below hb2
        have hB2 := below_then hB1 hb2
        clear K2 hb2 X1 hB1
        obtain ⟨⟨f0, f1, f2, f3⟩, zz, x0, x1, x2, x3⟩ := Box.f4 X2
        obtain ⟨⟨r0, r1, r2, r3⟩, hBz⟩ := put4_ok hB2 (Nat.le_refl _) X2 (.string ⟨#[]⟩) (.int .i64 0) (.int .i64 0) (.string ⟨#[]⟩)
        go_wp2
        change bodyPost _ _ _ _ _ (put4 _ w.heap.size (.string ⟨#[]⟩) (.int .i64 0) (.int .i64 0) (.string ⟨#[]⟩))
        generalize put4 _ w.heap.size (.string ⟨#[]⟩) (.int .i64 0) (.int .i64 0) (.string ⟨#[]⟩) = W' at *
        exact bodyPost_ret (v := .tuple #[.agg #[.string ⟨#[]⟩, .int .i64 0, .int .i64 0, .string ⟨#[]⟩], .string ⟨#[]⟩, .bool false]) (by simp [results, Tryz.results121, go_sem, r0, r1, r2, r3]) rfl ⟨rfl, hBz⟩
      have h5 : ¬ z ≤ T.size - r := fun h => by have := HF.out; rw [decide_eq_true (show r + z ≤ T.size from by omega)] at this; cases this
      have h6 : (T.size : Int) - r < (z : Int) := by omega
      have h4n : ¬ T.size < r := by omega
      have h4i : ¬ (T.size : Int) < (r : Int) := by omega
      clear HF h5
      go_enter Tryz.func121, Tryz.ntmps121
      go_wp2_with fail
      rw [← hW0]; clear hW0
      refine (K1 _).mono ?_
      rintro e w1 ⟨rfl, hb1⟩
      have X1 := X0.below hb1
      have hB1 := below_then hB0 hb1
      clear K1 hb1 X0 hB0
      go_wp2_with fail
      refine (K2 _).mono ?_
      rintro e w2 ⟨rfl, hb2⟩
      have X2 := X1.below hb2
      have hB2 := below_then hB1 hb2
      clear K2 hb2 X1 hB1
      obtain ⟨⟨f0, f1, f2, f3⟩, zz, x0, x1, x2, x3⟩ := Box.f4 X2
      obtain ⟨⟨r0, r1, r2, r3⟩, hBz⟩ := put4_ok hB2 (Nat.le_refl _) X2 (.string ⟨#[]⟩) (.int .i64 0) (.int .i64 0) (.string ⟨#[]⟩)
      go_wp2
      change bodyPost _ _ _ _ _ (put4 _ w.heap.size (.string ⟨#[]⟩) (.int .i64 0) (.int .i64 0) (.string ⟨#[]⟩))
      generalize put4 _ w.heap.size (.string ⟨#[]⟩) (.int .i64 0) (.int .i64 0) (.string ⟨#[]⟩) = W' at *
      exact bodyPost_ret (v := .tuple #[.agg #[.string ⟨#[]⟩, .int .i64 0, .int .i64 0, .string ⟨#[]⟩], .string ⟨#[]⟩, .bool false]) (by simp [results, Tryz.results121, go_sem, r0, r1, r2, r3]) rfl ⟨rfl, hBz⟩

set_option maxHeartbeats 2000000 in
theorem takeItem_yes (s : ByteArray) (v : Value) (key : List UInt8) (w : World) (hk : KY w v key) (hs : s.size ≤ 1048576) (hkl : key.length ≤ 2097152) (hyes : rdOk (bl s) key = true) :
    Calls Tryz.prog 121 #[.string s, v] w fun e w' => e = .returned (.tuple #[.agg #[.string (rdIt (bl s) key).k, .int .i64 (rdIt (bl s) key).n, .int .i64 (rdIt (bl s) key).d, .string (rdIt (bl s) key).v], .string (s.extract (rdN (bl s)) s.size), .bool true]) ∧ Below w.heap.size w w' := by
  rw [ti_ok] at hyes
  simp only [Bool.and_eq_true, decide_eq_true_eq] at hyes
  obtain ⟨⟨⟨h1, h3⟩, h2⟩, h4⟩ := hyes
  have HI := ti_it s key h4
  have HR := ti_rest s
  have sz1 := reS_size s
  have sz2 := reS_size (reS s)
  have K1 := fun w => takeTwo_any s w hs
  have K2 := fun w => takeTwo_any (reS s) w (by omega)
  rw [reT_yes h1] at K1
  rw [reT_yes h3] at K2
  have hm := (reA_le (reS s)).2.2
  have sz3 : (reS (reS s)).size ≤ 1048576 := by omega
  clear h1 h3 sz1 sz2
  generalize rdIt (bl s) key = RI at *
  generalize s.extract (rdN (bl s)) s.size = RR at *
  generalize reS (reS s) = T at *
  generalize (reA (reS s)).1 = m at *
  generalize (reB (reS s)).1 = z at *
  generalize reS s = T1 at *
  generalize (reB s).1 = r at *
  generalize (reA s).1 = i at *
  obtain ⟨u, hu⟩ : ∃ u, u = r + z := ⟨_, rfl⟩
  rw [← hu] at h4 HI HR
  subst HI HR
  dsimp only
  have E6 : (r : Int) + z = (u : Int) := by omega
  have W6 : IntKind.i64.wrap (u : Int) = (u : Int) := by rw [IntKind.wrap_i64]; omega
  have W7 : IntKind.i64.wrap ((m : Int) / 2) = (m : Int) / 2 := by rw [IntKind.wrap_i64]; omega
  have W8 : (m : Int).tmod 2 = (m : Int) % 2 := by rw [Int.tmod_eq_emod_of_nonneg (by omega)]
  have hru : r ≤ u := by omega
  have hrT : r ≤ T.size := by omega
  have hzT : (z : Int) ≤ (T.size : Int) - r := by omega
  have h2p : ¬ key.length < i := by omega
  have h4n : ¬ T.size < r := by omega
  have hzn : ¬ (T.size : Int) - r < (z : Int) := by omega
  clear hu
  have hXs : (T.extract 0 r).size = r := by rw [ByteArray.size_extract]; omega
  have X0 := Box.new w #[.string ⟨#[]⟩, .int .i64 0, .int .i64 0, .string ⟨#[]⟩] 33
  have hB0 := below_alloc w (.cells #[.string ⟨#[]⟩, .int .i64 0, .int .i64 0, .string ⟨#[]⟩] 33)
  have Y0 := hk.below hB0
  obtain ⟨W0, hW0⟩ : ∃ W0, W0 = w.alloc (.cells #[.string ⟨#[]⟩, .int .i64 0, .int .i64 0, .string ⟨#[]⟩] 33) := ⟨_, rfl⟩
  rw [← hW0] at X0 hB0 Y0
  clear hk
  obtain ⟨KL, hKL⟩ : ∃ KL, KL = key.take i ++ bl (T.extract 0 r) := ⟨_, rfl⟩
  rw [← hKL]
  have hm1 : (0 : Int) ≤ (m : Int) := by omega
  rcases Y0 with hcase | hcase
  · obtain ⟨rfl, rfl⟩ := hcase
    obtain rfl : i = 0 := by simpa using h2
    clear h2 h2p
    go_enter Tryz.func121, Tryz.ntmps121
    go_wp2_with fail
    rw [← hW0]; clear hW0
    refine (K1 _).mono ?_
    rintro e w1 ⟨rfl, hb1⟩
    have X1 := X0.below hb1
    have hB1 := below_then hB0 hb1
    clear K1 hb1 X0 hB0
    go_wp2_with fail
    refine (K2 _).mono ?_
    rintro e w2 ⟨rfl, hb2⟩
    have X2 := X1.below hb2
    have hB2 := below_then hB1 hb2
    clear K2 hb2 X1 hB1
    go_wp2_with fail
    have hD : Below w2.heap.size w2 w2.drew := (Below.refl _ _).drew
    replace X2 := X2.below hD
    replace hB2 := below_then hB2 hD
    clear hD
    refine wp_region_held_drew (S := fun _ => True) (by kernel_rfl) trivial (fun hHeld => ?_)
    generalize w2.drew = v0 at *
    refine wpAnyH_take (i := 0) (oi := { dst := some 54, op := Op.move (Operand.tmp 1), type := 22, pos := "l6_block.go:138", after := #[], guard := none }) (v := .slice none 0 0) rfl (by kernel_rfl) (by kernel_rfl) (by kernel_rfl) (fun _ _ _ h => h) (Or.inl ⟨by rfl, ?_⟩) (by assumption) ?_
    · intro wx hSw
      clear hSw; go_simp; try omega
    simp only [Act.put, List.setIfInBounds_toArray, List.set_cons_zero, List.set_cons_succ]
    refine wpAnyH_take (i := 1) (oi := { dst := some 55, op := Op.move (Operand.tmp 7), type := 3, pos := "l6_block.go:138", after := #[], guard := none }) (v := .int .i64 0) rfl (by kernel_rfl) (by kernel_rfl) (by kernel_rfl) (fun _ _ _ h => h) (Or.inl ⟨by rfl, ?_⟩) (by assumption) ?_
    · intro wx hSw
      clear hSw; go_simp; try omega
    simp only [Act.put, List.setIfInBounds_toArray, List.set_cons_zero, List.set_cons_succ]
    refine wpAnyH_take (i := 2) (oi := { dst := some 56, op := Op.move (Operand.tmp 7), type := 3, pos := "l6_block.go:138", after := #[], guard := none }) (v := .int .i64 0) rfl (by kernel_rfl) (by kernel_rfl) (by kernel_rfl) (fun _ _ _ h => h) (Or.inl ⟨by rfl, ?_⟩) (by assumption) ?_
    · intro wx hSw
      clear hSw; go_simp; try omega
    simp only [Act.put, List.setIfInBounds_toArray, List.set_cons_zero, List.set_cons_succ]
    refine wpAnyH_take (i := 3) (oi := { dst := some 57, op := Op.slice 22 (Operand.tmp 54) none (some (Operand.tmp 55)) (some (Operand.tmp 56)), type := 22, pos := "l6_block.go:138", after := #[{ on := 0, ground := Ground.data }, { on := 1, ground := Ground.data }, { on := 2, ground := Ground.data }], guard := none }) (v := .slice none 0 0) rfl (by kernel_rfl) (by kernel_rfl) (by kernel_rfl) (fun _ _ _ h => h) (Or.inl ⟨by rfl, ?_⟩) (by assumption) ?_
    · intro wx hSw
      clear hSw; go_simp; try omega
    simp only [Act.put, List.setIfInBounds_toArray, List.set_cons_zero, List.set_cons_succ]
    refine wpAnyH_take (i := 4) (oi := { dst := some 58, op := Op.move (Operand.tmp 0), type := 9, pos := "l6_block.go:138", after := #[], guard := none }) (v := .string T) rfl (by kernel_rfl) (by kernel_rfl) (by kernel_rfl) (fun _ _ _ h => h) (Or.inl ⟨by rfl, ?_⟩) (by assumption) ?_
    · intro wx hSw
      clear hSw; go_simp; try omega
    simp only [Act.put, List.setIfInBounds_toArray, List.set_cons_zero, List.set_cons_succ]
    refine wpAnyH_take (i := 5) (oi := { dst := some 59, op := Op.move (Operand.tmp 8), type := 3, pos := "l6_block.go:138", after := #[], guard := none }) (v := .int .i64 (r : Int)) rfl (by kernel_rfl) (by kernel_rfl) (by kernel_rfl) (fun _ _ _ h => h) (Or.inl ⟨by rfl, ?_⟩) (by assumption) ?_
    · intro wx hSw
      clear hSw; go_simp; try omega
    simp only [Act.put, List.setIfInBounds_toArray, List.set_cons_zero, List.set_cons_succ]
    refine wpAnyH_take (i := 6) (oi := { dst := some 60, op := Op.slice 9 (Operand.tmp 58) none (some (Operand.tmp 59)) none, type := 9, pos := "l6_block.go:138", after := #[{ on := 4, ground := Ground.data }, { on := 5, ground := Ground.data }], guard := none }) (v := .string (T.extract 0 r)) rfl (by kernel_rfl) (by kernel_rfl) (by kernel_rfl) (fun _ _ _ h => h) (Or.inl ⟨by rfl, ?_⟩) (by assumption) ?_
    · intro wx hSw
      clear hSw; go_simp; try omega
    simp only [Act.put, List.setIfInBounds_toArray, List.set_cons_zero, List.set_cons_succ]
    refine wpAnyH_ready (rs := [7]) (by kernel_rfl) (by simp) ?_
    refine AllReadyH.cons (o := { dst := some 61, op := Op.call { callee := Callee.builtin Builtin.append, args := #[Operand.tmp 57, Operand.tmp 60], argTypes := #[22, 9] }, type := 22, pos := "l6_block.go:138", after := #[{ on := 3, ground := Ground.data }, { on := 6, ground := Ground.data }], guard := none }) rfl (fun K hK => ?_) AllReadyH.nil
    obtain ⟨kv, v1, hrun, hKY, hb3⟩ : ∃ v' w', (Builtin.append_ #[22, 9] 22 #[.slice none 0 0, .string (T.extract 0 r)]).run Tryz.prog v0 = .ok v' w' ∧ KY w' v' KL ∧ Below v0.heap.size v0 w' := by
      have hKL2 : KL = bl (T.extract 0 r) := by rw [hKL]; rfl
      rw [hKL2]
      by_cases hr0 : r = 0
      · obtain ⟨q1, q2⟩ := KY_none2 v0 (T.extract 0 r) (by rw [hXs]; exact hr0) 22
        exact ⟨_, _, q1, q2, Below.refl _ _⟩
      · exact KY_first v0 (T.extract 0 r) (by omega) (by omega) 22
    rw [if_pos (by rfl)]
    refine wp_append_run v0 _ _ 22 9 (by rfl) _ _ (by rfl) (by rfl) kv v1 hrun ?_
    refine hK.out _ v1 trivial (fun hHeld => ?_)
    clear hK K hrun hKL
    have X3 := X2.below hb3
    have hB3 := below_then hB2 hb3
    clear X2 hB2 hb3
    simp only [Act.put, List.setIfInBounds_toArray, List.set_cons_zero, List.set_cons_succ]
    refine wpAnyH_take (i := 8) (oi := { dst := some 12, op := Op.assign (Operand.tmp 61), type := 22, pos := "l6_block.go:138", after := #[{ on := 7, ground := Ground.data }, { on := 7, ground := Ground.chain }, { on := 0, ground := Ground.phase }, { on := 1, ground := Ground.phase }, { on := 2, ground := Ground.phase }, { on := 3, ground := Ground.phase }, { on := 4, ground := Ground.phase }, { on := 5, ground := Ground.phase }, { on := 6, ground := Ground.phase }, { on := 7, ground := Ground.phase }], guard := none }) (v := kv) rfl (by kernel_rfl) (by kernel_rfl) (by kernel_rfl) (fun _ _ _ h => h) (Or.inl ⟨by rfl, ?_⟩) (by assumption) ?_
    · intro wx hSw
      clear hSw; go_simp; try omega
    simp only [Act.put, List.setIfInBounds_toArray, List.set_cons_zero, List.set_cons_succ]
    refine wpAnyH_done (by kernel_rfl) ?_ _
    go_wp2_with fail
    have hD : Below v1.heap.size v1 v1.drew := (Below.refl _ _).drew
    replace X3 := X3.below hD
    replace hB3 := below_then hB3 hD
    replace hKY := hKY.below hD
    clear hD hHeld
    refine wp_region_held_drew (S := fun w' => KY w' kv KL) (by kernel_rfl) hKY (fun hHeld => ?_)
    generalize v1.drew = v2 at *
    refine wpAnyH_take (i := 0) (oi := { dst := some 62, op := Op.move (Operand.tmp 12), type := 22, pos := "l6_block.go:139", after := #[], guard := none }) (v := kv) rfl (by kernel_rfl) (by kernel_rfl) (by kernel_rfl) (fun _ _ _ h => h) (Or.inl ⟨by rfl, ?_⟩) (by assumption) ?_
    · intro wx hSw
      clear hSw hHeld; go_simp; try omega
    simp only [Act.put, List.setIfInBounds_toArray, List.set_cons_zero, List.set_cons_succ]
    refine wpAnyH_take (i := 1) (oi := { dst := some 63, op := Op.convert 22 9 (Operand.tmp 62), type := 9, pos := "l6_block.go:139", after := #[{ on := 0, ground := Ground.data }], guard := none }) (v := .string (tx KL)) rfl (by kernel_rfl) (by kernel_rfl) (by kernel_rfl) (fun _ _ _ h => h) (Or.inl ⟨by rfl, ?_⟩) (by assumption) ?_
    · intro wx hSw
      have hcv := KY_conv hSw; clear hSw hHeld; go_simp
    simp only [Act.put, List.setIfInBounds_toArray, List.set_cons_zero, List.set_cons_succ]
    refine wpAnyH_take (i := 2) (oi := { dst := some 64, op := Op.move (Operand.tmp 10), type := 3, pos := "l6_block.go:139", after := #[], guard := none }) (v := .int .i64 (m : Int)) rfl (by kernel_rfl) (by kernel_rfl) (by kernel_rfl) (fun _ _ _ h => h) (Or.inl ⟨by rfl, ?_⟩) (by assumption) ?_
    · intro wx hSw
      clear hSw hHeld; go_simp; try omega
    simp only [Act.put, List.setIfInBounds_toArray, List.set_cons_zero, List.set_cons_succ]
    refine wpAnyH_take (i := 3) (oi := { dst := some 65, op := Op.binOp BinOp.quo 3 (Operand.tmp 64) (Operand.const (Value.int IntKind.i64 2)) 3, type := 3, pos := "l6_block.go:139", after := #[{ on := 2, ground := Ground.data }], guard := none }) (v := .int .i64 ((m : Int) / 2)) rfl (by kernel_rfl) (by kernel_rfl) (by kernel_rfl) (fun _ _ _ h => h) (Or.inl ⟨by rfl, ?_⟩) (by assumption) ?_
    · intro wx hSw
      clear hSw hHeld; go_simp; try omega
    simp only [Act.put, List.setIfInBounds_toArray, List.set_cons_zero, List.set_cons_succ]
    refine wpAnyH_take (i := 4) (oi := { dst := some 66, op := Op.move (Operand.tmp 10), type := 3, pos := "l6_block.go:139", after := #[], guard := none }) (v := .int .i64 (m : Int)) rfl (by kernel_rfl) (by kernel_rfl) (by kernel_rfl) (fun _ _ _ h => h) (Or.inl ⟨by rfl, ?_⟩) (by assumption) ?_
    · intro wx hSw
      clear hSw hHeld; go_simp; try omega
    simp only [Act.put, List.setIfInBounds_toArray, List.set_cons_zero, List.set_cons_succ]
    refine wpAnyH_take (i := 5) (oi := { dst := some 67, op := Op.binOp BinOp.rem 3 (Operand.tmp 66) (Operand.const (Value.int IntKind.i64 2)) 3, type := 3, pos := "l6_block.go:139", after := #[{ on := 4, ground := Ground.data }], guard := none }) (v := .int .i64 ((m : Int) % 2)) rfl (by kernel_rfl) (by kernel_rfl) (by kernel_rfl) (fun _ _ _ h => h) (Or.inl ⟨by rfl, ?_⟩) (by assumption) ?_
    · intro wx hSw
      clear hSw hHeld; go_simp; try omega
    simp only [Act.put, List.setIfInBounds_toArray, List.set_cons_zero, List.set_cons_succ]
    refine wpAnyH_take (i := 6) (oi := { dst := some 68, op := Op.move (Operand.tmp 0), type := 9, pos := "l6_block.go:139", after := #[], guard := none }) (v := .string T) rfl (by kernel_rfl) (by kernel_rfl) (by kernel_rfl) (fun _ _ _ h => h) (Or.inl ⟨by rfl, ?_⟩) (by assumption) ?_
    · intro wx hSw
      clear hSw hHeld; go_simp; try omega
    simp only [Act.put, List.setIfInBounds_toArray, List.set_cons_zero, List.set_cons_succ]
    refine wpAnyH_take (i := 7) (oi := { dst := some 69, op := Op.move (Operand.tmp 8), type := 3, pos := "l6_block.go:139", after := #[], guard := none }) (v := .int .i64 (r : Int)) rfl (by kernel_rfl) (by kernel_rfl) (by kernel_rfl) (fun _ _ _ h => h) (Or.inl ⟨by rfl, ?_⟩) (by assumption) ?_
    · intro wx hSw
      clear hSw hHeld; go_simp; try omega
    simp only [Act.put, List.setIfInBounds_toArray, List.set_cons_zero, List.set_cons_succ]
    refine wpAnyH_take (i := 8) (oi := { dst := some 70, op := Op.move (Operand.tmp 8), type := 3, pos := "l6_block.go:139", after := #[], guard := none }) (v := .int .i64 (r : Int)) rfl (by kernel_rfl) (by kernel_rfl) (by kernel_rfl) (fun _ _ _ h => h) (Or.inl ⟨by rfl, ?_⟩) (by assumption) ?_
    · intro wx hSw
      clear hSw hHeld; go_simp; try omega
    simp only [Act.put, List.setIfInBounds_toArray, List.set_cons_zero, List.set_cons_succ]
    refine wpAnyH_take (i := 9) (oi := { dst := some 71, op := Op.move (Operand.tmp 11), type := 3, pos := "l6_block.go:139", after := #[], guard := none }) (v := .int .i64 (z : Int)) rfl (by kernel_rfl) (by kernel_rfl) (by kernel_rfl) (fun _ _ _ h => h) (Or.inl ⟨by rfl, ?_⟩) (by assumption) ?_
    · intro wx hSw
      clear hSw hHeld; go_simp; try omega
    simp only [Act.put, List.setIfInBounds_toArray, List.set_cons_zero, List.set_cons_succ]
    refine wpAnyH_take (i := 10) (oi := { dst := some 72, op := Op.binOp BinOp.add 3 (Operand.tmp 70) (Operand.tmp 71) 3, type := 3, pos := "l6_block.go:139", after := #[{ on := 8, ground := Ground.data }, { on := 9, ground := Ground.data }], guard := none }) (v := .int .i64 (u : Int)) rfl (by kernel_rfl) (by kernel_rfl) (by kernel_rfl) (fun _ _ _ h => h) (Or.inl ⟨by rfl, ?_⟩) (by assumption) ?_
    · intro wx hSw
      clear hSw hHeld; go_simp; try omega
    simp only [Act.put, List.setIfInBounds_toArray, List.set_cons_zero, List.set_cons_succ]
    refine wpAnyH_take (i := 11) (oi := { dst := some 73, op := Op.slice 9 (Operand.tmp 68) (some (Operand.tmp 69)) (some (Operand.tmp 72)) none, type := 9, pos := "l6_block.go:139", after := #[{ on := 6, ground := Ground.data }, { on := 7, ground := Ground.data }, { on := 10, ground := Ground.data }], guard := none }) (v := .string (T.extract r u)) rfl (by kernel_rfl) (by kernel_rfl) (by kernel_rfl) (fun _ _ _ h => h) (Or.inl ⟨by rfl, ?_⟩) (by assumption) ?_
    · intro wx hSw
      clear hSw hHeld; go_simp; try omega
    simp only [Act.put, List.setIfInBounds_toArray, List.set_cons_zero, List.set_cons_succ]
    refine wpAnyH_take (i := 12) (oi := { dst := some 74, op := Op.build 33 #[(0, Operand.tmp 63), (1, Operand.tmp 65), (2, Operand.tmp 67), (3, Operand.tmp 73)], type := 33, pos := "l6_block.go:139", after := #[{ on := 1, ground := Ground.data }, { on := 3, ground := Ground.data }, { on := 5, ground := Ground.data }, { on := 11, ground := Ground.data }], guard := none }) (v := .agg #[.string (tx KL), .int .i64 ((m : Int) / 2), .int .i64 ((m : Int) % 2), .string (T.extract r u)]) rfl (by kernel_rfl) (by kernel_rfl) (by kernel_rfl) (fun _ _ _ h => h) (Or.inl ⟨by rfl, ?_⟩) (by assumption) ?_
    · intro wx hSw
      clear hSw hHeld; go_simp; try omega
    simp only [Act.put, List.setIfInBounds_toArray, List.set_cons_zero, List.set_cons_succ]
    refine wpAnyH_ready (rs := [13]) (by kernel_rfl) (by simp) ?_
    refine AllReadyH.cons (o := { dst := some 13, op := Op.alloc 33, type := 0, pos := "l6_block.go:139", after := #[], guard := none }) rfl (fun K hK => ?_) AllReadyH.nil
    have Z4 := Box.new v2 #[.string ⟨#[]⟩, .int .i64 0, .int .i64 0, .string ⟨#[]⟩] 33
    have X4 := X3.alloc (.cells #[.string ⟨#[]⟩, .int .i64 0, .int .i64 0, .string ⟨#[]⟩] 33)
    have hB4 := hB3.alloc hB3.size (.cells #[.string ⟨#[]⟩, .int .i64 0, .int .i64 0, .string ⟨#[]⟩] 33)
    have hKY4 := hKY.below (below_alloc v2 (.cells #[.string ⟨#[]⟩, .int .i64 0, .int .i64 0, .string ⟨#[]⟩] 33))
    have hbw : w.heap.size < v2.heap.size := X3.1
    have hap := hKY.lt
    clear X3 hB3 hKY hHeld
    go_simp
    refine hK.out _ _ hKY4 (fun hHeld => ?_)
    clear hK K
    generalize v2.alloc (.cells #[.string ⟨#[]⟩, .int .i64 0, .int .i64 0, .string ⟨#[]⟩] 33) = v3 at *
    generalize v2.heap.size = b at *
    refine wpAnyH_ready (rs := [14]) (by kernel_rfl) (by simp) ?_
    refine AllReadyH.cons (o := { dst := none, op := Op.store 33 (Operand.tmp 13) (Operand.tmp 74), type := 0, pos := "l6_block.go:139", after := #[{ on := 13, ground := Ground.data }, { on := 12, ground := Ground.data }, { on := 0, ground := Ground.phase }, { on := 1, ground := Ground.phase }, { on := 2, ground := Ground.phase }, { on := 3, ground := Ground.phase }, { on := 4, ground := Ground.phase }, { on := 5, ground := Ground.phase }, { on := 6, ground := Ground.phase }, { on := 7, ground := Ground.phase }, { on := 8, ground := Ground.phase }, { on := 9, ground := Ground.phase }, { on := 10, ground := Ground.phase }, { on := 11, ground := Ground.phase }, { on := 12, ground := Ground.phase }, { on := 13, ground := Ground.phase }], guard := none }) rfl (fun K hK => ?_) AllReadyH.nil
    clear hHeld
    obtain ⟨⟨f0, f1, f2, f3⟩, zz, x0, x1, x2, x3⟩ := Box.f4 Z4
    have Z5 := put4_box Z4 (.string (tx KL)) (.int .i64 ((m : Int) / 2)) (.int .i64 ((m : Int) % 2)) (.string (T.extract r u))
    have X5 := (put4_chg v3 b (.string (tx KL)) (.int .i64 ((m : Int) / 2)) (.int .i64 ((m : Int) % 2)) (.string (T.extract r u))).box X4 (by omega)
    have hB5 := (put4_ok hB4 (by omega) Z4 (.string (tx KL)) (.int .i64 ((m : Int) / 2)) (.int .i64 ((m : Int) % 2)) (.string (T.extract r u))).2
    have hKY5 : KY (put4 v3 b (.string (tx KL)) (.int .i64 ((m : Int) / 2)) (.int .i64 ((m : Int) % 2)) (.string (T.extract r u))) kv KL := hKY4.chg (put4_chg v3 b (.string (tx KL)) (.int .i64 ((m : Int) / 2)) (.int .i64 ((m : Int) % 2)) (.string (T.extract r u))) (fun g' n' c' e' e2 => by have := hap g' n' c' e'; omega)
    go_simp
    refine hK.out _ (put4 v3 b (.string (tx KL)) (.int .i64 ((m : Int) / 2)) (.int .i64 ((m : Int) % 2)) (.string (T.extract r u))) hKY5 (fun _ => ?_)
    clear hK K x0 x1 x2 x3 f0 f1 f2 f3 X4 Z4 hB4 hKY4 hKY5 zz hap
    generalize put4 v3 b (.string (tx KL)) (.int .i64 ((m : Int) / 2)) (.int .i64 ((m : Int) % 2)) (.string (T.extract r u)) = v4 at *
    refine wpAnyH_done (by kernel_rfl) ?_ _
    go_wp2_with fail
    have hD : Below v4.heap.size v4 v4.drew := (Below.refl _ _).drew
    replace X5 := X5.below hD
    replace Z5 := Z5.below hD
    replace hB5 := below_then hB5 hD
    clear hD
    refine wp_region_held_drew (S := fun w' => Box w' b [.string (tx KL), .int .i64 ((m : Int) / 2), .int .i64 ((m : Int) % 2), .string (T.extract r u)]) (by kernel_rfl) Z5 (fun hHeld => ?_)
    generalize v4.drew = v5 at *
    refine wpAnyH_take (i := 0) (oi := { dst := some 75, op := Op.load 33 (Operand.tmp 13), type := 33, pos := "l6_block.go:140", after := #[], guard := none }) (v := .agg #[.string (tx KL), .int .i64 ((m : Int) / 2), .int .i64 ((m : Int) % 2), .string (T.extract r u)]) rfl (by kernel_rfl) (by kernel_rfl) (by kernel_rfl) (fun _ _ _ h => h) (Or.inl ⟨by rfl, ?_⟩) (by assumption) ?_
    · intro wx hSw
      obtain ⟨hx, y0, y1, y2, y3⟩ := Box.c4 hSw; clear hSw hHeld; go_simp
    simp only [Act.put, List.setIfInBounds_toArray, List.set_cons_zero, List.set_cons_succ]
    refine wpAnyH_take (i := 1) (oi := { dst := some 76, op := Op.move (Operand.tmp 0), type := 9, pos := "l6_block.go:140", after := #[], guard := none }) (v := .string T) rfl (by kernel_rfl) (by kernel_rfl) (by kernel_rfl) (fun _ _ _ h => h) (Or.inl ⟨by rfl, ?_⟩) (by assumption) ?_
    · intro wx hSw
      clear hSw hHeld; go_simp; try omega
    simp only [Act.put, List.setIfInBounds_toArray, List.set_cons_zero, List.set_cons_succ]
    refine wpAnyH_take (i := 2) (oi := { dst := some 77, op := Op.move (Operand.tmp 8), type := 3, pos := "l6_block.go:140", after := #[], guard := none }) (v := .int .i64 (r : Int)) rfl (by kernel_rfl) (by kernel_rfl) (by kernel_rfl) (fun _ _ _ h => h) (Or.inl ⟨by rfl, ?_⟩) (by assumption) ?_
    · intro wx hSw
      clear hSw hHeld; go_simp; try omega
    simp only [Act.put, List.setIfInBounds_toArray, List.set_cons_zero, List.set_cons_succ]
    refine wpAnyH_take (i := 3) (oi := { dst := some 78, op := Op.move (Operand.tmp 11), type := 3, pos := "l6_block.go:140", after := #[], guard := none }) (v := .int .i64 (z : Int)) rfl (by kernel_rfl) (by kernel_rfl) (by kernel_rfl) (fun _ _ _ h => h) (Or.inl ⟨by rfl, ?_⟩) (by assumption) ?_
    · intro wx hSw
      clear hSw hHeld; go_simp; try omega
    simp only [Act.put, List.setIfInBounds_toArray, List.set_cons_zero, List.set_cons_succ]
    refine wpAnyH_take (i := 4) (oi := { dst := some 79, op := Op.binOp BinOp.add 3 (Operand.tmp 77) (Operand.tmp 78) 3, type := 3, pos := "l6_block.go:140", after := #[{ on := 2, ground := Ground.data }, { on := 3, ground := Ground.data }], guard := none }) (v := .int .i64 (u : Int)) rfl (by kernel_rfl) (by kernel_rfl) (by kernel_rfl) (fun _ _ _ h => h) (Or.inl ⟨by rfl, ?_⟩) (by assumption) ?_
    · intro wx hSw
      clear hSw hHeld; go_simp; try omega
    simp only [Act.put, List.setIfInBounds_toArray, List.set_cons_zero, List.set_cons_succ]
    refine wpAnyH_take (i := 5) (oi := { dst := some 80, op := Op.slice 9 (Operand.tmp 76) (some (Operand.tmp 79)) none none, type := 9, pos := "l6_block.go:140", after := #[{ on := 1, ground := Ground.data }, { on := 4, ground := Ground.data }], guard := none }) (v := .string (T.extract u T.size)) rfl (by kernel_rfl) (by kernel_rfl) (by kernel_rfl) (fun _ _ _ h => h) (Or.inl ⟨by rfl, ?_⟩) (by assumption) ?_
    · intro wx hSw
      clear hSw hHeld; go_simp; try omega
    simp only [Act.put, List.setIfInBounds_toArray, List.set_cons_zero, List.set_cons_succ]
    refine wpAnyH_ready (rs := [6]) (by kernel_rfl) (by simp) ?_
    refine AllReadyH.cons (o := { dst := none, op := Op.store 33 (Operand.tmp 4) (Operand.tmp 75), type := 0, pos := "l6_block.go:140", after := #[{ on := 0, ground := Ground.data }, { on := 0, ground := Ground.phase }, { on := 1, ground := Ground.textOnly Departure.lateStores }, { on := 2, ground := Ground.textOnly Departure.lateStores }, { on := 3, ground := Ground.textOnly Departure.lateStores }, { on := 4, ground := Ground.textOnly Departure.lateStores }, { on := 5, ground := Ground.textOnly Departure.lateStoresUnsure }], guard := none }) rfl (fun K hK => ?_) AllReadyH.nil
    clear hHeld
    obtain ⟨⟨f0, f1, f2, f3⟩, zz, x0, x1, x2, x3⟩ := Box.f4 X5
    have Z6 := (put4_chg v5 w.heap.size (.string (tx KL)) (.int .i64 ((m : Int) / 2)) (.int .i64 ((m : Int) % 2)) (.string (T.extract r u))).box Z5 (by omega)
    obtain ⟨⟨r0, r1, r2, r3⟩, hB⟩ := put4_ok hB5 (Nat.le_refl _) X5 (.string (tx KL)) (.int .i64 ((m : Int) / 2)) (.int .i64 ((m : Int) % 2)) (.string (T.extract r u))
    go_simp
    refine hK.out _ (put4 v5 w.heap.size (.string (tx KL)) (.int .i64 ((m : Int) / 2)) (.int .i64 ((m : Int) % 2)) (.string (T.extract r u))) Z6 (fun hHeld => ?_)
    clear hK K x0 x1 x2 x3 f0 f1 f2 f3 X5 Z5 hB5 Z6 zz
    generalize put4 v5 w.heap.size (.string (tx KL)) (.int .i64 ((m : Int) / 2)) (.int .i64 ((m : Int) % 2)) (.string (T.extract r u)) = v6 at *
    refine wpAnyH_take (i := 7) (oi := { dst := some 5, op := Op.assign (Operand.tmp 80), type := 9, pos := "l6_block.go:140", after := #[{ on := 5, ground := Ground.data }, { on := 6, ground := Ground.chain }, { on := 0, ground := Ground.phase }, { on := 1, ground := Ground.phase }, { on := 2, ground := Ground.phase }, { on := 3, ground := Ground.phase }, { on := 4, ground := Ground.phase }, { on := 5, ground := Ground.phase }, { on := 6, ground := Ground.phase }], guard := none }) (v := .string (T.extract u T.size)) rfl (by kernel_rfl) (by kernel_rfl) (by kernel_rfl) (fun _ _ _ h => h) (Or.inl ⟨by rfl, ?_⟩) (by assumption) ?_
    · intro wx hSw
      clear hSw hHeld; go_simp
    simp only [Act.put, List.setIfInBounds_toArray, List.set_cons_zero, List.set_cons_succ]
    refine wpAnyH_take (i := 8) (oi := { dst := some 6, op := Op.assign (Operand.const (Value.bool true)), type := 4, pos := "l6_block.go:140", after := #[{ on := 7, ground := Ground.chain }, { on := 0, ground := Ground.phase }, { on := 1, ground := Ground.phase }, { on := 2, ground := Ground.phase }, { on := 3, ground := Ground.phase }, { on := 4, ground := Ground.phase }, { on := 5, ground := Ground.phase }, { on := 6, ground := Ground.phase }, { on := 7, ground := Ground.phase }], guard := none }) (v := .bool true) rfl (by kernel_rfl) (by kernel_rfl) (by kernel_rfl) (fun _ _ _ h => h) (Or.inl ⟨by rfl, ?_⟩) (by assumption) ?_
    · intro wx hSw
      clear hSw hHeld; go_simp
    simp only [Act.put, List.setIfInBounds_toArray, List.set_cons_zero, List.set_cons_succ]
    refine wpAnyH_done (by kernel_rfl) ?_ _
    go_wp2
    exact bodyPost_ret (v := .tuple #[.agg #[.string (tx KL), .int .i64 ((m : Int) / 2), .int .i64 ((m : Int) % 2), .string (T.extract r u)], .string (T.extract u T.size), .bool true]) (by simp [results, Tryz.results121, go_sem, r0, r1, r2, r3]) rfl ⟨rfl, hB⟩
  · obtain ⟨g, cap, rfl, hcap, hWr⟩ := hcase
    have hcap2 : i ≤ cap := by omega
    go_enter Tryz.func121, Tryz.ntmps121
    go_wp2_with fail
    rw [← hW0]; clear hW0
    refine (K1 _).mono ?_
    rintro e w1 ⟨rfl, hb1⟩
    have X1 := X0.below hb1
    have hB1 := below_then hB0 hb1
    have Y1 := hWr.below hb1
    clear K1 hb1 X0 hB0 hWr
    go_wp2_with fail
    refine (K2 _).mono ?_
    rintro e w2 ⟨rfl, hb2⟩
    have X2 := X1.below hb2
    have hB2 := below_then hB1 hb2
    have Y2 := Y1.below hb2
    clear K2 hb2 X1 hB1 Y1
    go_wp2_with fail
    have hD : Below w2.heap.size w2 w2.drew := (Below.refl _ _).drew
    replace X2 := X2.below hD
    replace hB2 := below_then hB2 hD
    replace Y2 := Y2.below hD
    clear hD
    refine wp_region_held_drew (S := fun _ => True) (by kernel_rfl) trivial (fun hHeld => ?_)
    generalize w2.drew = v0 at *
    refine wpAnyH_take (i := 0) (oi := { dst := some 54, op := Op.move (Operand.tmp 1), type := 22, pos := "l6_block.go:138", after := #[], guard := none }) (v := .slice (some ⟨g, 0, none⟩) key.length cap) rfl (by kernel_rfl) (by kernel_rfl) (by kernel_rfl) (fun _ _ _ h => h) (Or.inl ⟨by rfl, ?_⟩) (by assumption) ?_
    · intro wx hSw
      clear hSw; go_simp; try omega
    simp only [Act.put, List.setIfInBounds_toArray, List.set_cons_zero, List.set_cons_succ]
    refine wpAnyH_take (i := 1) (oi := { dst := some 55, op := Op.move (Operand.tmp 7), type := 3, pos := "l6_block.go:138", after := #[], guard := none }) (v := .int .i64 (i : Int)) rfl (by kernel_rfl) (by kernel_rfl) (by kernel_rfl) (fun _ _ _ h => h) (Or.inl ⟨by rfl, ?_⟩) (by assumption) ?_
    · intro wx hSw
      clear hSw; go_simp; try omega
    simp only [Act.put, List.setIfInBounds_toArray, List.set_cons_zero, List.set_cons_succ]
    refine wpAnyH_take (i := 2) (oi := { dst := some 56, op := Op.move (Operand.tmp 7), type := 3, pos := "l6_block.go:138", after := #[], guard := none }) (v := .int .i64 (i : Int)) rfl (by kernel_rfl) (by kernel_rfl) (by kernel_rfl) (fun _ _ _ h => h) (Or.inl ⟨by rfl, ?_⟩) (by assumption) ?_
    · intro wx hSw
      clear hSw; go_simp; try omega
    simp only [Act.put, List.setIfInBounds_toArray, List.set_cons_zero, List.set_cons_succ]
    refine wpAnyH_take (i := 3) (oi := { dst := some 57, op := Op.slice 22 (Operand.tmp 54) none (some (Operand.tmp 55)) (some (Operand.tmp 56)), type := 22, pos := "l6_block.go:138", after := #[{ on := 0, ground := Ground.data }, { on := 1, ground := Ground.data }, { on := 2, ground := Ground.data }], guard := none }) (v := .slice (some ⟨g, 0, none⟩) i i) rfl (by kernel_rfl) (by kernel_rfl) (by kernel_rfl) (fun _ _ _ h => h) (Or.inl ⟨by rfl, ?_⟩) (by assumption) ?_
    · intro wx hSw
      clear hSw; go_simp; try omega
    simp only [Act.put, List.setIfInBounds_toArray, List.set_cons_zero, List.set_cons_succ]
    refine wpAnyH_take (i := 4) (oi := { dst := some 58, op := Op.move (Operand.tmp 0), type := 9, pos := "l6_block.go:138", after := #[], guard := none }) (v := .string T) rfl (by kernel_rfl) (by kernel_rfl) (by kernel_rfl) (fun _ _ _ h => h) (Or.inl ⟨by rfl, ?_⟩) (by assumption) ?_
    · intro wx hSw
      clear hSw; go_simp; try omega
    simp only [Act.put, List.setIfInBounds_toArray, List.set_cons_zero, List.set_cons_succ]
    refine wpAnyH_take (i := 5) (oi := { dst := some 59, op := Op.move (Operand.tmp 8), type := 3, pos := "l6_block.go:138", after := #[], guard := none }) (v := .int .i64 (r : Int)) rfl (by kernel_rfl) (by kernel_rfl) (by kernel_rfl) (fun _ _ _ h => h) (Or.inl ⟨by rfl, ?_⟩) (by assumption) ?_
    · intro wx hSw
      clear hSw; go_simp; try omega
    simp only [Act.put, List.setIfInBounds_toArray, List.set_cons_zero, List.set_cons_succ]
    refine wpAnyH_take (i := 6) (oi := { dst := some 60, op := Op.slice 9 (Operand.tmp 58) none (some (Operand.tmp 59)) none, type := 9, pos := "l6_block.go:138", after := #[{ on := 4, ground := Ground.data }, { on := 5, ground := Ground.data }], guard := none }) (v := .string (T.extract 0 r)) rfl (by kernel_rfl) (by kernel_rfl) (by kernel_rfl) (fun _ _ _ h => h) (Or.inl ⟨by rfl, ?_⟩) (by assumption) ?_
    · intro wx hSw
      clear hSw; go_simp; try omega
    simp only [Act.put, List.setIfInBounds_toArray, List.set_cons_zero, List.set_cons_succ]
    refine wpAnyH_ready (rs := [7]) (by kernel_rfl) (by simp) ?_
    refine AllReadyH.cons (o := { dst := some 61, op := Op.call { callee := Callee.builtin Builtin.append, args := #[Operand.tmp 57, Operand.tmp 60], argTypes := #[22, 9] }, type := 22, pos := "l6_block.go:138", after := #[{ on := 3, ground := Ground.data }, { on := 6, ground := Ground.data }], guard := none }) rfl (fun K hK => ?_) AllReadyH.nil
    obtain ⟨kv, v1, hrun, hKY, hb3⟩ : ∃ v' w', (Builtin.append_ #[22, 9] 22 #[.slice (some ⟨g, 0, none⟩) i i, .string (T.extract 0 r)]).run Tryz.prog v0 = .ok v' w' ∧ KY w' v' KL ∧ Below v0.heap.size v0 w' := by
      rw [hKL]
      by_cases hr0 : r = 0
      · obtain ⟨q1, q2⟩ := KY_none Y2 h2 (T.extract 0 r) (by rw [hXs]; exact hr0) 22
        exact ⟨_, _, q1, q2, Below.refl _ _⟩
      · exact KY_grow (cap := cap) Y2 h2 (T.extract 0 r) (by omega) (by omega) 22
    rw [if_pos (by rfl)]
    refine wp_append_run v0 _ _ 22 9 (by rfl) _ _ (by rfl) (by rfl) kv v1 hrun ?_
    refine hK.out _ v1 trivial (fun hHeld => ?_)
    clear hK K hrun hKL
    have X3 := X2.below hb3
    have hB3 := below_then hB2 hb3
    clear X2 hB2 hb3 Y2
    simp only [Act.put, List.setIfInBounds_toArray, List.set_cons_zero, List.set_cons_succ]
    refine wpAnyH_take (i := 8) (oi := { dst := some 12, op := Op.assign (Operand.tmp 61), type := 22, pos := "l6_block.go:138", after := #[{ on := 7, ground := Ground.data }, { on := 7, ground := Ground.chain }, { on := 0, ground := Ground.phase }, { on := 1, ground := Ground.phase }, { on := 2, ground := Ground.phase }, { on := 3, ground := Ground.phase }, { on := 4, ground := Ground.phase }, { on := 5, ground := Ground.phase }, { on := 6, ground := Ground.phase }, { on := 7, ground := Ground.phase }], guard := none }) (v := kv) rfl (by kernel_rfl) (by kernel_rfl) (by kernel_rfl) (fun _ _ _ h => h) (Or.inl ⟨by rfl, ?_⟩) (by assumption) ?_
    · intro wx hSw
      clear hSw; go_simp; try omega
    simp only [Act.put, List.setIfInBounds_toArray, List.set_cons_zero, List.set_cons_succ]
    refine wpAnyH_done (by kernel_rfl) ?_ _
    go_wp2_with fail
    have hD : Below v1.heap.size v1 v1.drew := (Below.refl _ _).drew
    replace X3 := X3.below hD
    replace hB3 := below_then hB3 hD
    replace hKY := hKY.below hD
    clear hD hHeld
    refine wp_region_held_drew (S := fun w' => KY w' kv KL) (by kernel_rfl) hKY (fun hHeld => ?_)
    generalize v1.drew = v2 at *
    refine wpAnyH_take (i := 0) (oi := { dst := some 62, op := Op.move (Operand.tmp 12), type := 22, pos := "l6_block.go:139", after := #[], guard := none }) (v := kv) rfl (by kernel_rfl) (by kernel_rfl) (by kernel_rfl) (fun _ _ _ h => h) (Or.inl ⟨by rfl, ?_⟩) (by assumption) ?_
    · intro wx hSw
      clear hSw hHeld; go_simp; try omega
    simp only [Act.put, List.setIfInBounds_toArray, List.set_cons_zero, List.set_cons_succ]
    refine wpAnyH_take (i := 1) (oi := { dst := some 63, op := Op.convert 22 9 (Operand.tmp 62), type := 9, pos := "l6_block.go:139", after := #[{ on := 0, ground := Ground.data }], guard := none }) (v := .string (tx KL)) rfl (by kernel_rfl) (by kernel_rfl) (by kernel_rfl) (fun _ _ _ h => h) (Or.inl ⟨by rfl, ?_⟩) (by assumption) ?_
    · intro wx hSw
      have hcv := KY_conv hSw; clear hSw hHeld; go_simp
    simp only [Act.put, List.setIfInBounds_toArray, List.set_cons_zero, List.set_cons_succ]
    refine wpAnyH_take (i := 2) (oi := { dst := some 64, op := Op.move (Operand.tmp 10), type := 3, pos := "l6_block.go:139", after := #[], guard := none }) (v := .int .i64 (m : Int)) rfl (by kernel_rfl) (by kernel_rfl) (by kernel_rfl) (fun _ _ _ h => h) (Or.inl ⟨by rfl, ?_⟩) (by assumption) ?_
    · intro wx hSw
      clear hSw hHeld; go_simp; try omega
    simp only [Act.put, List.setIfInBounds_toArray, List.set_cons_zero, List.set_cons_succ]
    refine wpAnyH_take (i := 3) (oi := { dst := some 65, op := Op.binOp BinOp.quo 3 (Operand.tmp 64) (Operand.const (Value.int IntKind.i64 2)) 3, type := 3, pos := "l6_block.go:139", after := #[{ on := 2, ground := Ground.data }], guard := none }) (v := .int .i64 ((m : Int) / 2)) rfl (by kernel_rfl) (by kernel_rfl) (by kernel_rfl) (fun _ _ _ h => h) (Or.inl ⟨by rfl, ?_⟩) (by assumption) ?_
    · intro wx hSw
      clear hSw hHeld; go_simp; try omega
    simp only [Act.put, List.setIfInBounds_toArray, List.set_cons_zero, List.set_cons_succ]
    refine wpAnyH_take (i := 4) (oi := { dst := some 66, op := Op.move (Operand.tmp 10), type := 3, pos := "l6_block.go:139", after := #[], guard := none }) (v := .int .i64 (m : Int)) rfl (by kernel_rfl) (by kernel_rfl) (by kernel_rfl) (fun _ _ _ h => h) (Or.inl ⟨by rfl, ?_⟩) (by assumption) ?_
    · intro wx hSw
      clear hSw hHeld; go_simp; try omega
    simp only [Act.put, List.setIfInBounds_toArray, List.set_cons_zero, List.set_cons_succ]
    refine wpAnyH_take (i := 5) (oi := { dst := some 67, op := Op.binOp BinOp.rem 3 (Operand.tmp 66) (Operand.const (Value.int IntKind.i64 2)) 3, type := 3, pos := "l6_block.go:139", after := #[{ on := 4, ground := Ground.data }], guard := none }) (v := .int .i64 ((m : Int) % 2)) rfl (by kernel_rfl) (by kernel_rfl) (by kernel_rfl) (fun _ _ _ h => h) (Or.inl ⟨by rfl, ?_⟩) (by assumption) ?_
    · intro wx hSw
      clear hSw hHeld; go_simp; try omega
    simp only [Act.put, List.setIfInBounds_toArray, List.set_cons_zero, List.set_cons_succ]
    refine wpAnyH_take (i := 6) (oi := { dst := some 68, op := Op.move (Operand.tmp 0), type := 9, pos := "l6_block.go:139", after := #[], guard := none }) (v := .string T) rfl (by kernel_rfl) (by kernel_rfl) (by kernel_rfl) (fun _ _ _ h => h) (Or.inl ⟨by rfl, ?_⟩) (by assumption) ?_
    · intro wx hSw
      clear hSw hHeld; go_simp; try omega
    simp only [Act.put, List.setIfInBounds_toArray, List.set_cons_zero, List.set_cons_succ]
    refine wpAnyH_take (i := 7) (oi := { dst := some 69, op := Op.move (Operand.tmp 8), type := 3, pos := "l6_block.go:139", after := #[], guard := none }) (v := .int .i64 (r : Int)) rfl (by kernel_rfl) (by kernel_rfl) (by kernel_rfl) (fun _ _ _ h => h) (Or.inl ⟨by rfl, ?_⟩) (by assumption) ?_
    · intro wx hSw
      clear hSw hHeld; go_simp; try omega
    simp only [Act.put, List.setIfInBounds_toArray, List.set_cons_zero, List.set_cons_succ]
    refine wpAnyH_take (i := 8) (oi := { dst := some 70, op := Op.move (Operand.tmp 8), type := 3, pos := "l6_block.go:139", after := #[], guard := none }) (v := .int .i64 (r : Int)) rfl (by kernel_rfl) (by kernel_rfl) (by kernel_rfl) (fun _ _ _ h => h) (Or.inl ⟨by rfl, ?_⟩) (by assumption) ?_
    · intro wx hSw
      clear hSw hHeld; go_simp; try omega
    simp only [Act.put, List.setIfInBounds_toArray, List.set_cons_zero, List.set_cons_succ]
    refine wpAnyH_take (i := 9) (oi := { dst := some 71, op := Op.move (Operand.tmp 11), type := 3, pos := "l6_block.go:139", after := #[], guard := none }) (v := .int .i64 (z : Int)) rfl (by kernel_rfl) (by kernel_rfl) (by kernel_rfl) (fun _ _ _ h => h) (Or.inl ⟨by rfl, ?_⟩) (by assumption) ?_
    · intro wx hSw
      clear hSw hHeld; go_simp; try omega
    simp only [Act.put, List.setIfInBounds_toArray, List.set_cons_zero, List.set_cons_succ]
    refine wpAnyH_take (i := 10) (oi := { dst := some 72, op := Op.binOp BinOp.add 3 (Operand.tmp 70) (Operand.tmp 71) 3, type := 3, pos := "l6_block.go:139", after := #[{ on := 8, ground := Ground.data }, { on := 9, ground := Ground.data }], guard := none }) (v := .int .i64 (u : Int)) rfl (by kernel_rfl) (by kernel_rfl) (by kernel_rfl) (fun _ _ _ h => h) (Or.inl ⟨by rfl, ?_⟩) (by assumption) ?_
    · intro wx hSw
      clear hSw hHeld; go_simp; try omega
    simp only [Act.put, List.setIfInBounds_toArray, List.set_cons_zero, List.set_cons_succ]
    refine wpAnyH_take (i := 11) (oi := { dst := some 73, op := Op.slice 9 (Operand.tmp 68) (some (Operand.tmp 69)) (some (Operand.tmp 72)) none, type := 9, pos := "l6_block.go:139", after := #[{ on := 6, ground := Ground.data }, { on := 7, ground := Ground.data }, { on := 10, ground := Ground.data }], guard := none }) (v := .string (T.extract r u)) rfl (by kernel_rfl) (by kernel_rfl) (by kernel_rfl) (fun _ _ _ h => h) (Or.inl ⟨by rfl, ?_⟩) (by assumption) ?_
    · intro wx hSw
      clear hSw hHeld; go_simp; try omega
    simp only [Act.put, List.setIfInBounds_toArray, List.set_cons_zero, List.set_cons_succ]
    refine wpAnyH_take (i := 12) (oi := { dst := some 74, op := Op.build 33 #[(0, Operand.tmp 63), (1, Operand.tmp 65), (2, Operand.tmp 67), (3, Operand.tmp 73)], type := 33, pos := "l6_block.go:139", after := #[{ on := 1, ground := Ground.data }, { on := 3, ground := Ground.data }, { on := 5, ground := Ground.data }, { on := 11, ground := Ground.data }], guard := none }) (v := .agg #[.string (tx KL), .int .i64 ((m : Int) / 2), .int .i64 ((m : Int) % 2), .string (T.extract r u)]) rfl (by kernel_rfl) (by kernel_rfl) (by kernel_rfl) (fun _ _ _ h => h) (Or.inl ⟨by rfl, ?_⟩) (by assumption) ?_
    · intro wx hSw
      clear hSw hHeld; go_simp; try omega
    simp only [Act.put, List.setIfInBounds_toArray, List.set_cons_zero, List.set_cons_succ]
    refine wpAnyH_ready (rs := [13]) (by kernel_rfl) (by simp) ?_
    refine AllReadyH.cons (o := { dst := some 13, op := Op.alloc 33, type := 0, pos := "l6_block.go:139", after := #[], guard := none }) rfl (fun K hK => ?_) AllReadyH.nil
    have Z4 := Box.new v2 #[.string ⟨#[]⟩, .int .i64 0, .int .i64 0, .string ⟨#[]⟩] 33
    have X4 := X3.alloc (.cells #[.string ⟨#[]⟩, .int .i64 0, .int .i64 0, .string ⟨#[]⟩] 33)
    have hB4 := hB3.alloc hB3.size (.cells #[.string ⟨#[]⟩, .int .i64 0, .int .i64 0, .string ⟨#[]⟩] 33)
    have hKY4 := hKY.below (below_alloc v2 (.cells #[.string ⟨#[]⟩, .int .i64 0, .int .i64 0, .string ⟨#[]⟩] 33))
    have hbw : w.heap.size < v2.heap.size := X3.1
    have hap := hKY.lt
    clear X3 hB3 hKY hHeld
    go_simp
    refine hK.out _ _ hKY4 (fun hHeld => ?_)
    clear hK K
    generalize v2.alloc (.cells #[.string ⟨#[]⟩, .int .i64 0, .int .i64 0, .string ⟨#[]⟩] 33) = v3 at *
    generalize v2.heap.size = b at *
    refine wpAnyH_ready (rs := [14]) (by kernel_rfl) (by simp) ?_
    refine AllReadyH.cons (o := { dst := none, op := Op.store 33 (Operand.tmp 13) (Operand.tmp 74), type := 0, pos := "l6_block.go:139", after := #[{ on := 13, ground := Ground.data }, { on := 12, ground := Ground.data }, { on := 0, ground := Ground.phase }, { on := 1, ground := Ground.phase }, { on := 2, ground := Ground.phase }, { on := 3, ground := Ground.phase }, { on := 4, ground := Ground.phase }, { on := 5, ground := Ground.phase }, { on := 6, ground := Ground.phase }, { on := 7, ground := Ground.phase }, { on := 8, ground := Ground.phase }, { on := 9, ground := Ground.phase }, { on := 10, ground := Ground.phase }, { on := 11, ground := Ground.phase }, { on := 12, ground := Ground.phase }, { on := 13, ground := Ground.phase }], guard := none }) rfl (fun K hK => ?_) AllReadyH.nil
    clear hHeld
    obtain ⟨⟨f0, f1, f2, f3⟩, zz, x0, x1, x2, x3⟩ := Box.f4 Z4
    have Z5 := put4_box Z4 (.string (tx KL)) (.int .i64 ((m : Int) / 2)) (.int .i64 ((m : Int) % 2)) (.string (T.extract r u))
    have X5 := (put4_chg v3 b (.string (tx KL)) (.int .i64 ((m : Int) / 2)) (.int .i64 ((m : Int) % 2)) (.string (T.extract r u))).box X4 (by omega)
    have hB5 := (put4_ok hB4 (by omega) Z4 (.string (tx KL)) (.int .i64 ((m : Int) / 2)) (.int .i64 ((m : Int) % 2)) (.string (T.extract r u))).2
    have hKY5 : KY (put4 v3 b (.string (tx KL)) (.int .i64 ((m : Int) / 2)) (.int .i64 ((m : Int) % 2)) (.string (T.extract r u))) kv KL := hKY4.chg (put4_chg v3 b (.string (tx KL)) (.int .i64 ((m : Int) / 2)) (.int .i64 ((m : Int) % 2)) (.string (T.extract r u))) (fun g' n' c' e' e2 => by have := hap g' n' c' e'; omega)
    go_simp
    refine hK.out _ (put4 v3 b (.string (tx KL)) (.int .i64 ((m : Int) / 2)) (.int .i64 ((m : Int) % 2)) (.string (T.extract r u))) hKY5 (fun _ => ?_)
    clear hK K x0 x1 x2 x3 f0 f1 f2 f3 X4 Z4 hB4 hKY4 hKY5 zz hap
    generalize put4 v3 b (.string (tx KL)) (.int .i64 ((m : Int) / 2)) (.int .i64 ((m : Int) % 2)) (.string (T.extract r u)) = v4 at *
    refine wpAnyH_done (by kernel_rfl) ?_ _
    go_wp2_with fail
    have hD : Below v4.heap.size v4 v4.drew := (Below.refl _ _).drew
    replace X5 := X5.below hD
    replace Z5 := Z5.below hD
    replace hB5 := below_then hB5 hD
    clear hD
    refine wp_region_held_drew (S := fun w' => Box w' b [.string (tx KL), .int .i64 ((m : Int) / 2), .int .i64 ((m : Int) % 2), .string (T.extract r u)]) (by kernel_rfl) Z5 (fun hHeld => ?_)
    generalize v4.drew = v5 at *
    refine wpAnyH_take (i := 0) (oi := { dst := some 75, op := Op.load 33 (Operand.tmp 13), type := 33, pos := "l6_block.go:140", after := #[], guard := none }) (v := .agg #[.string (tx KL), .int .i64 ((m : Int) / 2), .int .i64 ((m : Int) % 2), .string (T.extract r u)]) rfl (by kernel_rfl) (by kernel_rfl) (by kernel_rfl) (fun _ _ _ h => h) (Or.inl ⟨by rfl, ?_⟩) (by assumption) ?_
    · intro wx hSw
      obtain ⟨hx, y0, y1, y2, y3⟩ := Box.c4 hSw; clear hSw hHeld; go_simp
    simp only [Act.put, List.setIfInBounds_toArray, List.set_cons_zero, List.set_cons_succ]
    refine wpAnyH_take (i := 1) (oi := { dst := some 76, op := Op.move (Operand.tmp 0), type := 9, pos := "l6_block.go:140", after := #[], guard := none }) (v := .string T) rfl (by kernel_rfl) (by kernel_rfl) (by kernel_rfl) (fun _ _ _ h => h) (Or.inl ⟨by rfl, ?_⟩) (by assumption) ?_
    · intro wx hSw
      clear hSw hHeld; go_simp; try omega
    simp only [Act.put, List.setIfInBounds_toArray, List.set_cons_zero, List.set_cons_succ]
    refine wpAnyH_take (i := 2) (oi := { dst := some 77, op := Op.move (Operand.tmp 8), type := 3, pos := "l6_block.go:140", after := #[], guard := none }) (v := .int .i64 (r : Int)) rfl (by kernel_rfl) (by kernel_rfl) (by kernel_rfl) (fun _ _ _ h => h) (Or.inl ⟨by rfl, ?_⟩) (by assumption) ?_
    · intro wx hSw
      clear hSw hHeld; go_simp; try omega
    simp only [Act.put, List.setIfInBounds_toArray, List.set_cons_zero, List.set_cons_succ]
    refine wpAnyH_take (i := 3) (oi := { dst := some 78, op := Op.move (Operand.tmp 11), type := 3, pos := "l6_block.go:140", after := #[], guard := none }) (v := .int .i64 (z : Int)) rfl (by kernel_rfl) (by kernel_rfl) (by kernel_rfl) (fun _ _ _ h => h) (Or.inl ⟨by rfl, ?_⟩) (by assumption) ?_
    · intro wx hSw
      clear hSw hHeld; go_simp; try omega
    simp only [Act.put, List.setIfInBounds_toArray, List.set_cons_zero, List.set_cons_succ]
    refine wpAnyH_take (i := 4) (oi := { dst := some 79, op := Op.binOp BinOp.add 3 (Operand.tmp 77) (Operand.tmp 78) 3, type := 3, pos := "l6_block.go:140", after := #[{ on := 2, ground := Ground.data }, { on := 3, ground := Ground.data }], guard := none }) (v := .int .i64 (u : Int)) rfl (by kernel_rfl) (by kernel_rfl) (by kernel_rfl) (fun _ _ _ h => h) (Or.inl ⟨by rfl, ?_⟩) (by assumption) ?_
    · intro wx hSw
      clear hSw hHeld; go_simp; try omega
    simp only [Act.put, List.setIfInBounds_toArray, List.set_cons_zero, List.set_cons_succ]
    refine wpAnyH_take (i := 5) (oi := { dst := some 80, op := Op.slice 9 (Operand.tmp 76) (some (Operand.tmp 79)) none none, type := 9, pos := "l6_block.go:140", after := #[{ on := 1, ground := Ground.data }, { on := 4, ground := Ground.data }], guard := none }) (v := .string (T.extract u T.size)) rfl (by kernel_rfl) (by kernel_rfl) (by kernel_rfl) (fun _ _ _ h => h) (Or.inl ⟨by rfl, ?_⟩) (by assumption) ?_
    · intro wx hSw
      clear hSw hHeld; go_simp; try omega
    simp only [Act.put, List.setIfInBounds_toArray, List.set_cons_zero, List.set_cons_succ]
    refine wpAnyH_ready (rs := [6]) (by kernel_rfl) (by simp) ?_
    refine AllReadyH.cons (o := { dst := none, op := Op.store 33 (Operand.tmp 4) (Operand.tmp 75), type := 0, pos := "l6_block.go:140", after := #[{ on := 0, ground := Ground.data }, { on := 0, ground := Ground.phase }, { on := 1, ground := Ground.textOnly Departure.lateStores }, { on := 2, ground := Ground.textOnly Departure.lateStores }, { on := 3, ground := Ground.textOnly Departure.lateStores }, { on := 4, ground := Ground.textOnly Departure.lateStores }, { on := 5, ground := Ground.textOnly Departure.lateStoresUnsure }], guard := none }) rfl (fun K hK => ?_) AllReadyH.nil
    clear hHeld
    obtain ⟨⟨f0, f1, f2, f3⟩, zz, x0, x1, x2, x3⟩ := Box.f4 X5
    have Z6 := (put4_chg v5 w.heap.size (.string (tx KL)) (.int .i64 ((m : Int) / 2)) (.int .i64 ((m : Int) % 2)) (.string (T.extract r u))).box Z5 (by omega)
    obtain ⟨⟨r0, r1, r2, r3⟩, hB⟩ := put4_ok hB5 (Nat.le_refl _) X5 (.string (tx KL)) (.int .i64 ((m : Int) / 2)) (.int .i64 ((m : Int) % 2)) (.string (T.extract r u))
    go_simp
    refine hK.out _ (put4 v5 w.heap.size (.string (tx KL)) (.int .i64 ((m : Int) / 2)) (.int .i64 ((m : Int) % 2)) (.string (T.extract r u))) Z6 (fun hHeld => ?_)
    clear hK K x0 x1 x2 x3 f0 f1 f2 f3 X5 Z5 hB5 Z6 zz
    generalize put4 v5 w.heap.size (.string (tx KL)) (.int .i64 ((m : Int) / 2)) (.int .i64 ((m : Int) % 2)) (.string (T.extract r u)) = v6 at *
    refine wpAnyH_take (i := 7) (oi := { dst := some 5, op := Op.assign (Operand.tmp 80), type := 9, pos := "l6_block.go:140", after := #[{ on := 5, ground := Ground.data }, { on := 6, ground := Ground.chain }, { on := 0, ground := Ground.phase }, { on := 1, ground := Ground.phase }, { on := 2, ground := Ground.phase }, { on := 3, ground := Ground.phase }, { on := 4, ground := Ground.phase }, { on := 5, ground := Ground.phase }, { on := 6, ground := Ground.phase }], guard := none }) (v := .string (T.extract u T.size)) rfl (by kernel_rfl) (by kernel_rfl) (by kernel_rfl) (fun _ _ _ h => h) (Or.inl ⟨by rfl, ?_⟩) (by assumption) ?_
    · intro wx hSw
      clear hSw hHeld; go_simp
    simp only [Act.put, List.setIfInBounds_toArray, List.set_cons_zero, List.set_cons_succ]
    refine wpAnyH_take (i := 8) (oi := { dst := some 6, op := Op.assign (Operand.const (Value.bool true)), type := 4, pos := "l6_block.go:140", after := #[{ on := 7, ground := Ground.chain }, { on := 0, ground := Ground.phase }, { on := 1, ground := Ground.phase }, { on := 2, ground := Ground.phase }, { on := 3, ground := Ground.phase }, { on := 4, ground := Ground.phase }, { on := 5, ground := Ground.phase }, { on := 6, ground := Ground.phase }, { on := 7, ground := Ground.phase }], guard := none }) (v := .bool true) rfl (by kernel_rfl) (by kernel_rfl) (by kernel_rfl) (fun _ _ _ h => h) (Or.inl ⟨by rfl, ?_⟩) (by assumption) ?_
    · intro wx hSw
      clear hSw hHeld; go_simp
    simp only [Act.put, List.setIfInBounds_toArray, List.set_cons_zero, List.set_cons_succ]
    refine wpAnyH_done (by kernel_rfl) ?_ _
    go_wp2
    exact bodyPost_ret (v := .tuple #[.agg #[.string (tx KL), .int .i64 ((m : Int) / 2), .int .i64 ((m : Int) % 2), .string (T.extract r u)], .string (T.extract u T.size), .bool true]) (by simp [results, Tryz.results121, go_sem, r0, r1, r2, r3]) rfl ⟨rfl, hB⟩
end Go.Proofs.YtfdaffnkgpdhhaaGreat

