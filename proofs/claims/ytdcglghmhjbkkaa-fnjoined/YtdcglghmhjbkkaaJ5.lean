/-
  The walk of the law laws.FnJoined.
-/
import Derived.Test.YtdcglghmhjbkkaaJ4
import Derived.Test.YtdcglghmhjbkkaaD7
namespace Go.Proofs.Ytdcglghmhjbkkaa
open Go.RowKit
set_option linter.unusedVariables false
set_option maxRecDepth 100000

theorem joinF_cases (n : Int) (s : ByteArray) (m : Int) (n2 : Int) (s2 : ByteArray) (m2 : Int) : joinF n s m n2 s2 m2 = (0, ⟨#[]⟩, 0, false) ∨ (joinF n s m n2 s2 m2 = (n, joinB s s2, cap6 (m + m2), true) ∧ goodF n s m = true ∧ goodF n s2 m2 = true ∧ n = n2) := by
  unfold joinF
  cases hg : goodF n s m && goodF n2 s2 m2 && decide (n = n2) with
  | true =>
    rw [Bool.and_eq_true, Bool.and_eq_true, decide_eq_true_eq] at hg
    obtain ⟨⟨h1, h2⟩, rfl⟩ := hg
    exact Or.inr ⟨by simp, h1, h2, rfl⟩
  | false => exact Or.inl (by simp)

set_option maxHeartbeats 8000000 in
theorem lawJoined (v u : Value) (l m0 : List UInt8) (w : World) (hv : YL w v l) (hn : l.length ≤ maxLen) (hu : YL w u m0) (hn2 : m0.length ≤ maxLen) :
    Calls Try.prog 4 #[v, u] w fun e w' => e = .returned (.bool true) ∧ Below w.heap.size w w' := by
  unfold maxLen at hn hn2
  have hv' := hv
  have hu' := hu
  obtain ⟨va, vc, rfl, _⟩ := hv'
  obtain ⟨ua, uc, rfl, _⟩ := hu'
  by_cases hg : wrap64 ((l.length : Int) + m0.length) ≤ 1048576
  · go_enter Try.func4, Try.ntmps4
    go_wp2_with fail
    refine (drawJoin_any _ l _ hv hn).mono ?_
    rintro e w1 ⟨⟨n, s, m, n2, s2, m2, rfl⟩, hb1⟩
    have JI := fun w => implJoin n s m n2 s2 m2 w
    have JS := fun w => specJoin n s m n2 s2 m2 w
    have JW := fun w => implJoin n2 s2 m2 n s m w
    rw [joinF_swap] at JW
    have HU := hu.below hb1
    have A1 := below2 w1 (.cells #[.int .i64 n, .string s, .int .i64 m] 24) (.cells #[.int .i64 n2, .string s2, .int .i64 m2] 24)
    obtain ⟨X, Y⟩ := two_boxes w1 (.int .i64 n) (.string s) (.int .i64 m) (.int .i64 n2) (.string s2) (.int .i64 m2)
    have hB := below_then hb1 A1
    replace HU := HU.below A1
    clear hb1 A1 hv hu
    rcases joinF_cases n s m n2 s2 m2 with hf | ⟨hf, hg1, hg2, hnn⟩
    · rw [hf] at JI JS JW
      clear hf HU
      obtain ⟨_, x0, x1, x2⟩ := X.c3
      obtain ⟨_, y0, y1, y2⟩ := Y.c3
      go_wp2_with fail
      refine (JI _).mono ?_
      rintro e w2 ⟨rfl, hb2⟩
      have A2 := below_alloc w2 (.cells #[.int .i64 0, .string ⟨#[]⟩, .int .i64 0] 24)
      have P := Box.new w2 #[.int .i64 0, .string ⟨#[]⟩, .int .i64 0] 24
      have hb2' := below_then hb2 A2
      replace X := X.below hb2'
      replace Y := Y.below hb2'
      replace hB := below_then hB hb2'
      clear x0 x1 x2 y0 y1 y2 hb2 A2 hb2' JI
      obtain ⟨_, x0, x1, x2⟩ := X.c3
      obtain ⟨_, y0, y1, y2⟩ := Y.c3
      go_wp2_with fail
      generalize w2.alloc (.cells #[.int .i64 0, .string ⟨#[]⟩, .int .i64 0] 24) = w3 at *
      generalize w2.heap.size = p at *
      refine (JS _).mono ?_
      rintro e w4 ⟨rfl, hb4⟩
      have A4 := below_alloc w4 (.cells #[.int .i64 0, .string ⟨#[]⟩, .int .i64 0] 24)
      have Q := Box.new w4 #[.int .i64 0, .string ⟨#[]⟩, .int .i64 0] 24
      have hb4' := below_then hb4 A4
      replace X := X.below hb4'
      replace Y := Y.below hb4'
      replace P := P.below hb4'
      replace hB := below_then hB hb4'
      clear x0 x1 x2 y0 y1 y2 hb4 A4 hb4' JS
      obtain ⟨_, x0, x1, x2⟩ := X.c3
      obtain ⟨_, y0, y1, y2⟩ := Y.c3
      go_wp2_with fail
      generalize w4.alloc (.cells #[.int .i64 0, .string ⟨#[]⟩, .int .i64 0] 24) = w5 at *
      generalize w4.heap.size = q at *
      refine (JW _).mono ?_
      rintro e w6 ⟨rfl, hb6⟩
      have A6 := below_alloc w6 (.cells #[.int .i64 0, .string ⟨#[]⟩, .int .i64 0] 24)
      have R := Box.new w6 #[.int .i64 0, .string ⟨#[]⟩, .int .i64 0] 24
      have hb6' := below_then hb6 A6
      replace P := P.below hb6
      replace Q := Q.below hb6
      replace hB := below_then hB hb6'
      clear x0 x1 x2 y0 y1 y2 hb6 hb6' JW X Y R A6
      obtain ⟨_, p0, p1, p2⟩ := P.c3
      obtain ⟨_, q0, q1, q2⟩ := Q.c3
      go_wp2
      go_ret
      exact ⟨rfl, hB⟩
    · subst hnn
      rw [hf] at JI JS JW
      clear hf
      have MJ := may_join hg1 hg2
      have MA := fun k w => implMay n s m k w
      have MB := fun k w => implMay n s2 m2 k w
      have MC := fun k w => implMay n (joinB s s2) (cap6 (m + m2)) k w
      generalize joinB s s2 = B at *
      generalize cap6 (m + m2) = c at *
      clear hg1 hg2
      obtain ⟨_, x0, x1, x2⟩ := X.c3
      obtain ⟨_, y0, y1, y2⟩ := Y.c3
      go_wp2_with fail
      refine (JI _).mono ?_
      rintro e w2 ⟨rfl, hbq⟩
      have AA := below_alloc w2 (.cells #[.int .i64 n, .string B, .int .i64 c] 24)
      have P := Box.new w2 #[.int .i64 n, .string B, .int .i64 c] 24
      have hbb := below_then hbq AA
      replace X := X.below hbb
      replace Y := Y.below hbb
      replace hB := below_then hB hbb
      replace HU := HU.below hbb
      clear x0 x1 x2 y0 y1 y2 hbq hbb AA JI
      obtain ⟨_, x0, x1, x2⟩ := X.c3
      obtain ⟨_, y0, y1, y2⟩ := Y.c3
      go_wp2_with fail
      generalize w2.alloc (.cells #[.int .i64 n, .string B, .int .i64 c] 24) = w3 at *
      generalize w2.heap.size = p at *
      refine (JS _).mono ?_
      rintro e w4 ⟨rfl, hbq⟩
      have AA := below_alloc w4 (.cells #[.int .i64 n, .string B, .int .i64 c] 24)
      have Q := Box.new w4 #[.int .i64 n, .string B, .int .i64 c] 24
      have hbb := below_then hbq AA
      replace X := X.below hbb
      replace Y := Y.below hbb
      replace P := P.below hbb
      replace hB := below_then hB hbb
      replace HU := HU.below hbb
      clear x0 x1 x2 y0 y1 y2 hbq hbb AA JS
      obtain ⟨_, x0, x1, x2⟩ := X.c3
      obtain ⟨_, y0, y1, y2⟩ := Y.c3
      go_wp2_with fail
      generalize w4.alloc (.cells #[.int .i64 n, .string B, .int .i64 c] 24) = w5 at *
      generalize w4.heap.size = q at *
      refine (JW _).mono ?_
      rintro e w6 ⟨rfl, hbq⟩
      have AA := below_alloc w6 (.cells #[.int .i64 n, .string B, .int .i64 c] 24)
      have P6 := P.below hbq
      have Q6 := Q.below hbq
      have R := Box.new w6 #[.int .i64 n, .string B, .int .i64 c] 24
      have hbb := below_then hbq AA
      replace X := X.below hbb
      replace Y := Y.below hbb
      replace P := P.below hbb
      replace Q := Q.below hbb
      replace hB := below_then hB hbb
      replace HU := HU.below hbb
      clear x0 x1 x2 y0 y1 y2 hbq hbb AA JW
      obtain ⟨_, p0, p1, p2⟩ := P6.c3
      obtain ⟨_, q0, q1, q2⟩ := Q6.c3
      go_wp2_with fail
      clear P6 Q6
      generalize w6.alloc (.cells #[.int .i64 n, .string B, .int .i64 c] 24) = w7 at *
      refine (drawMay_any _ m0 _ HU hn2).mono ?_
      rintro e w8 ⟨⟨dn, ds, dm, key, rfl, hkey⟩, hb8⟩
      have AA := below_alloc w8 (.cells #[.int .i64 dn, .string ds, .int .i64 dm] 24)
      have X8 := X.below hb8
      have hbb := below_then hb8 AA
      replace X := X.below hbb
      replace Y := Y.below hbb
      replace P := P.below hbb
      replace hB := below_then hB hbb
      clear p0 p1 p2 q0 q1 q2 hb8 hbb AA Q R HU
      have M := MJ key
      have MA := MA key
      have MB := MB key
      have MC := MC key
      generalize mayF n s m key = ma at *
      generalize mayF n s2 m2 key = mb at *
      generalize mayF n B c key = mc at *
      obtain ⟨a1, a2⟩ := ma
      obtain ⟨b1, b2⟩ := mb
      obtain ⟨c1, c2⟩ := mc
      obtain ⟨_, x0, x1, x2⟩ := X8.c3
      go_wp2_with fail
      clear X8
      generalize w8.alloc (.cells #[.int .i64 dn, .string ds, .int .i64 dm] 24) = w9 at *
      refine (MA _).mono ?_
      rintro e wa ⟨rfl, hba⟩
      replace Y := Y.below hba
      replace P := P.below hba
      replace hB := below_then hB hba
      clear x0 x1 x2 X hba MA
      obtain ⟨_, y0, y1, y2⟩ := Y.c3
      go_wp2_with fail
      refine (MB _).mono ?_
      rintro e wb ⟨rfl, hbb⟩
      replace P := P.below hbb
      replace hB := below_then hB hbb
      clear y0 y1 y2 Y hbb MB
      obtain ⟨_, p0, p1, p2⟩ := P.c3
      go_wp2_with fail
      refine (MC _).mono ?_
      rintro e wd ⟨rfl, hbd⟩
      replace hB := below_then hB hbd
      clear p0 p1 p2 P hbd MC MJ
      obtain ⟨M1, M2⟩ := M
      have M1' : a2 = c2 := M1
      have M2' : a2 = true → c1 = false → a1 = false ∧ b1 = false := M2
      clear M1 M2
      subst M1'
      cases a2 <;> cases c1 <;> cases a1 <;> cases b1 <;> first | (exact absurd (M2' rfl rfl) (by decide)) | skip
      all_goals clear M2'
      all_goals
        go_wp2
        go_ret
        exact ⟨rfl, hB⟩
  · have hg' : 1048576 < wrap64 ((l.length : Int) + m0.length) := by omega
    go_enter Try.func4, Try.ntmps4
    go_wp2
    go_ret
    exact ⟨rfl, Below.refl _ _⟩
end Go.Proofs.Ytdcglghmhjbkkaa
