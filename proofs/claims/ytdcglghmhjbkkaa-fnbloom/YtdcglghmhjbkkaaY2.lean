/-
  The walk of the law laws.FnBloom.
-/
import Derived.Test.YtdcglghmhjbkkaaY1
namespace Go.Proofs.Ytdcglghmhjbkkaa
open Go.RowKit
set_option linter.unusedVariables false
set_option maxRecDepth 100000

theorem addF_cases (n : Int) (s : ByteArray) (m : Int) (k : ByteArray) : addF n s m k = (0, ⟨#[]⟩, 0, false) ∨ (addF n s m k = (n, addB s n k, cap6 (m + 1), true) ∧ goodK k = true ∧ goodF n s m = true) := by
  unfold addF
  cases hg : goodK k && goodF n s m with
  | true =>
    rw [Bool.and_eq_true] at hg
    exact Or.inr ⟨by simp, hg.1, hg.2⟩
  | false => exact Or.inl (by simp)
set_option maxHeartbeats 8000000 in
theorem lawBloom (v u : Value) (l m0 : List UInt8) (w : World) (hv : YL w v l) (hn : l.length ≤ maxLen) (hu : YL w u m0) (hn2 : m0.length ≤ maxLen) :
    Calls Try.prog 3 #[v, u] w fun e w' => e = .returned (.bool true) ∧ Below w.heap.size w w' := by
  unfold maxLen at hn hn2
  have hv' := hv
  have hu' := hu
  obtain ⟨va, vc, rfl, _⟩ := hv'
  obtain ⟨ua, uc, rfl, _⟩ := hu'
  by_cases hg : wrap64 ((l.length : Int) + m0.length) ≤ 1048576
  · go_enter Try.func3, Try.ntmps3
    go_wp2_with fail
    refine (drawAdd_any _ l _ hv hn).mono ?_
    rintro e w1 ⟨⟨n, s, m, key, rfl, _⟩, hb1⟩
    have AI := fun w => implAdd n s m key w
    have AS := fun w => specAdd n s m key w
    have X := Box.new w1 #[.int .i64 n, .string s, .int .i64 m] 24
    have A1 := below_alloc w1 (.cells #[.int .i64 n, .string s, .int .i64 m] 24)
    have hB := below_then hb1 A1
    have HU := (hu.below hb1).below A1
    clear hb1 A1 hv hu
    rcases addF_cases n s m key with hf | ⟨hf, hgk, hgf⟩
    · rw [hf] at AI AS
      clear hf
      go_wp2_with fail
      generalize w1.alloc (.cells #[.int .i64 n, .string s, .int .i64 m] 24) = w2 at *
      generalize w1.heap.size = f at *
      refine (AI _).mono ?_
      rintro e w3 ⟨rfl, hb3⟩
      have A3 := below_alloc w3 (.cells #[.int .i64 0, .string ⟨#[]⟩, .int .i64 0] 24)
      have P := Box.new w3 #[.int .i64 0, .string ⟨#[]⟩, .int .i64 0] 24
      have hb3' := below_then hb3 A3
      replace X := X.below hb3'
      replace hB := below_then hB hb3'
      replace HU := HU.below hb3'
      clear hb3 A3 hb3' AI
      obtain ⟨_, x0, x1, x2⟩ := X.c3
      go_wp2_with fail
      generalize w3.alloc (.cells #[.int .i64 0, .string ⟨#[]⟩, .int .i64 0] 24) = w4 at *
      generalize w3.heap.size = pp at *
      refine (AS _).mono ?_
      rintro e w5 ⟨rfl, hb5⟩
      have A5 := below_alloc w5 (.cells #[.int .i64 0, .string ⟨#[]⟩, .int .i64 0] 24)
      have hb5' := below_then hb5 A5
      have P5 := P.below hb5
      replace hB := below_then hB hb5'
      replace HU := HU.below hb5'
      clear hb5 A5 hb5' AS x0 x1 x2 X P
      obtain ⟨_, q0, q1, q2⟩ := P5.c3
      go_wp2_with fail
      generalize w5.alloc (.cells #[.int .i64 0, .string ⟨#[]⟩, .int .i64 0] 24) = w6 at *
      clear P5 q0 q1 q2
      refine (drawFil_any _ m0 _ HU hn2).mono ?_
      rintro e u1 ⟨⟨uu, L, p, rfl, hL, hsl⟩, hbu⟩
      replace hB := below_then hB hbu
      clear hbu HU
      have FI := fun w hv => implFil (p : Int) uu L w hv (by omega)
      have FS := fun w hv => specFil (p : Int) uu L w hv (by omega)
      have FC := filF_cases (p : Int) L
      have FM := fil_may (p : Int) L
      generalize filF (p : Int) L = R at *
      obtain ⟨rn, rs, rm, rb⟩ := R
      go_wp2_with fail
      refine (FI _ hsl).mono ?_
      rintro e u2 ⟨rfl, hb2⟩
      have A2 := below_alloc u2 (.cells #[.int .i64 rn, .string rs, .int .i64 rm] 24)
      have GB := Box.new u2 #[.int .i64 rn, .string rs, .int .i64 rm] 24
      have hb2' := below_then hb2 A2
      replace hsl := hsl.below hb2'
      replace hB := below_then hB hb2'
      clear hb2 A2 hb2' FI
      go_wp2_with fail
      generalize u2.alloc (.cells #[.int .i64 rn, .string rs, .int .i64 rm] 24) = u3 at *
      generalize u2.heap.size = gg at *
      refine (FS _ hsl).mono ?_
      rintro e u4 ⟨rfl, hb4⟩
      have A4 := below_alloc u4 (.cells #[.int .i64 rn, .string rs, .int .i64 rm] 24)
      have hb4' := below_then hb4 A4
      have G4 := GB.below hb4
      replace GB := GB.below hb4'
      replace hsl := hsl.below hb4'
      replace hB := below_then hB hb4'
      clear hb4 A4 hb4' FS
      obtain ⟨_, p0, p1, p2⟩ := G4.c3
      rcases FC with hf | ⟨s9, m9, hf, hgf⟩
      · simp only [Prod.mk.injEq] at hf
        obtain ⟨rfl, rfl, rfl, rfl⟩ := hf
        go_wp2
        go_ret
        exact ⟨rfl, hB⟩
      · simp only [Prod.mk.injEq] at hf
        obtain ⟨rfl, rfl, rfl, rfl⟩ := hf
        have FM := FM rs rm rfl hgf
        obtain ⟨nh, hnh, h1, h8⟩ := goodH_nat (goodF_parts hgf).1
        obtain rfl : p = nh := by omega
        clear hnh hgf
        obtain ⟨ka, kc, rfl, _⟩ : ∃ a c, uu = .slice a L.length c ∧ True := by
          obtain ⟨a, c, e, _⟩ := hsl
          exact ⟨a, c, e, trivial⟩
        go_wp2_with fail
        clear p0 p1 p2 G4
        generalize u4.alloc (.cells #[.int .i64 (p : Int), .string rs, .int .i64 rm] 24) = u5 at *
        go_loopw [136] (fun i wr => ∃ k : Nat, k ≤ L.length ∧ i = .int .i64 k ∧ SL wr (.slice ka L.length kc) L ∧ Box wr gg [.int .i64 (p : Int), .string rs, .int .i64 rm] ∧ Below w.heap.size w wr) (fun i _ => L.length - (intOf i).toNat)
        case atStart => exact ⟨0, Nat.zero_le _, rfl, hsl, GB, hB⟩
        case round =>
          obtain ⟨k, hk, rfl, hsl2, GB2, hB2⟩ := hrel
          clear hsl GB hB
          by_cases hlt : k < L.length
          · have hsl3 := hsl2
            obtain ⟨a', c', he, hc⟩ := hsl3
            obtain ⟨b, off, ha, hbl, hcell⟩ := hc (by intro e; simp [e] at hlt)
            simp only [Value.slice.injEq] at he
            obtain ⟨rfl, _, rfl⟩ := he
            subst ha
            have hc0 := hcell k hlt
            have hm := FM L[k] (List.getElem_mem hlt)
            obtain ⟨key9, hkey9⟩ : ∃ key9, key9 = L[k] := ⟨_, rfl⟩
            rw [← hkey9] at hc0 hm
            have MA := fun w => implMay (p : Int) rs rm key9 w
            rw [hm.2] at MA
            have PL9 := fun w => implPlaces_good key9 p w hm.1 h1 h8
            obtain ⟨_, p0, p1, p2⟩ := GB2.c3
            clear hcell hc hkey9 hm FM
            go_wp2_with fail
            refine (MA _).mono ?_
            rintro e v1 ⟨rfl, hbv⟩
            replace hsl2 := hsl2.below hbv
            replace GB2 := GB2.below hbv
            replace hB2 := below_then hB2 hbv
            clear hbv MA p0 p1 p2 hc0
            go_wp2_with fail
            refine (PL9 _).mono ?_
            rintro e v2 ⟨g9, rfl, _, hbv⟩
            replace hsl2 := hsl2.below hbv
            replace GB2 := GB2.below hbv
            replace hB2 := below_then hB2 hbv
            clear hbv PL9
            go_wp2
            go_roundw
            case rel => exact ⟨k + 1, by omega, by go_num, hsl2, GB2, hB2⟩
            case measure => simp [intOf]; omega
          · go_wp2
            go_ret
            exact ⟨rfl, hB2⟩
    · rw [hf] at AI AS
      clear hf
      have MA := fun w => implMay n (addB s n key) (cap6 (m + 1)) key w
      rw [may_add hgk hgf] at MA
      have OA := fun w => implOnes n s m w
      have OB := fun w => implOnes n (addB s n key) (cap6 (m + 1)) w
      obtain ⟨o1, o2, o3, o4, o5, o6⟩ := ones_add (k := key) hgf
      obtain ⟨nh0, hnn, hn1, hn8⟩ := goodH_nat (goodF_parts hgf).1
      rw [o1] at OA
      rw [o2] at OB
      generalize (onesF n s m).1 = oa at *
      generalize (onesF n (addB s n key) (cap6 (m + 1))).1 = ob at *
      generalize addB s n key = B at *
      generalize cap6 (m + 1) = c at *
      clear o1 o2 hgk hgf
      have hlt1 : ¬ (ob < oa) := by omega
      have hlt2 : decide (ob < oa) = false := by simpa using hlt1
      have hlt3 : ¬ (oa + n < ob) := by omega
      have hlt4 : decide (oa + n < ob) = false := by simpa using hlt3
      have hwr : IntKind.i64.wrap (oa + n) = oa + n := by rw [IntKind.wrap_i64]; omega
      clear o3 o4 o5 o6 hnn hn1 hn8
      go_wp2_with fail
      generalize w1.alloc (.cells #[.int .i64 n, .string s, .int .i64 m] 24) = w2 at *
      generalize w1.heap.size = f at *
      refine (AI _).mono ?_
      rintro e w3 ⟨rfl, hb3⟩
      have A3 := below_alloc w3 (.cells #[.int .i64 n, .string B, .int .i64 c] 24)
      have P := Box.new w3 #[.int .i64 n, .string B, .int .i64 c] 24
      have hb3' := below_then hb3 A3
      replace X := X.below hb3'
      replace hB := below_then hB hb3'
      replace HU := HU.below hb3'
      clear hb3 A3 hb3' AI
      obtain ⟨_, x0, x1, x2⟩ := X.c3
      go_wp2_with fail
      generalize w3.alloc (.cells #[.int .i64 n, .string B, .int .i64 c] 24) = w4 at *
      generalize w3.heap.size = pp at *
      refine (AS _).mono ?_
      rintro e w5 ⟨rfl, hb5⟩
      have A5 := below_alloc w5 (.cells #[.int .i64 n, .string B, .int .i64 c] 24)
      have hb5' := below_then hb5 A5
      have P5 := P.below hb5
      replace X := X.below hb5'
      replace P := P.below hb5'
      replace hB := below_then hB hb5'
      replace HU := HU.below hb5'
      clear hb5 A5 hb5' AS x0 x1 x2
      obtain ⟨_, q0, q1, q2⟩ := P5.c3
      go_wp2_with fail
      generalize w5.alloc (.cells #[.int .i64 n, .string B, .int .i64 c] 24) = w6 at *
      clear P5 q0 q1 q2
      refine (MA _).mono ?_
      rintro e w7 ⟨rfl, hb7⟩
      replace X := X.below hb7
      replace P := P.below hb7
      replace hB := below_then hB hb7
      replace HU := HU.below hb7
      clear hb7 MA
      obtain ⟨_, x0, x1, x2⟩ := X.c3
      go_wp2_with fail
      refine (OA _).mono ?_
      rintro e w8 ⟨rfl, hb8⟩
      replace X := X.below hb8
      replace P := P.below hb8
      replace hB := below_then hB hb8
      replace HU := HU.below hb8
      clear hb8 OA x0 x1 x2
      obtain ⟨_, q0, q1, q2⟩ := P.c3
      go_wp2_with fail
      refine (OB _).mono ?_
      rintro e w9 ⟨rfl, hb9⟩
      replace X := X.below hb9
      replace hB := below_then hB hb9
      replace HU := HU.below hb9
      clear hb9 OB q0 q1 q2 P
      obtain ⟨_, x0, x1, x2⟩ := X.c3
      go_wp2_with fail
      clear hlt1 hlt2 hlt3 hlt4 hwr x0 x1 x2 X
      refine (drawFil_any _ m0 _ HU hn2).mono ?_
      rintro e u1 ⟨⟨uu, L, p, rfl, hL, hsl⟩, hbu⟩
      replace hB := below_then hB hbu
      clear hbu HU
      have FI := fun w hv => implFil (p : Int) uu L w hv (by omega)
      have FS := fun w hv => specFil (p : Int) uu L w hv (by omega)
      have FC := filF_cases (p : Int) L
      have FM := fil_may (p : Int) L
      generalize filF (p : Int) L = R at *
      obtain ⟨rn, rs, rm, rb⟩ := R
      go_wp2_with fail
      refine (FI _ hsl).mono ?_
      rintro e u2 ⟨rfl, hb2⟩
      have A2 := below_alloc u2 (.cells #[.int .i64 rn, .string rs, .int .i64 rm] 24)
      have GB := Box.new u2 #[.int .i64 rn, .string rs, .int .i64 rm] 24
      have hb2' := below_then hb2 A2
      replace hsl := hsl.below hb2'
      replace hB := below_then hB hb2'
      clear hb2 A2 hb2' FI
      go_wp2_with fail
      generalize u2.alloc (.cells #[.int .i64 rn, .string rs, .int .i64 rm] 24) = u3 at *
      generalize u2.heap.size = gg at *
      refine (FS _ hsl).mono ?_
      rintro e u4 ⟨rfl, hb4⟩
      have A4 := below_alloc u4 (.cells #[.int .i64 rn, .string rs, .int .i64 rm] 24)
      have hb4' := below_then hb4 A4
      have G4 := GB.below hb4
      replace GB := GB.below hb4'
      replace hsl := hsl.below hb4'
      replace hB := below_then hB hb4'
      clear hb4 A4 hb4' FS
      obtain ⟨_, p0, p1, p2⟩ := G4.c3
      rcases FC with hf | ⟨s9, m9, hf, hgf⟩
      · simp only [Prod.mk.injEq] at hf
        obtain ⟨rfl, rfl, rfl, rfl⟩ := hf
        go_wp2
        go_ret
        exact ⟨rfl, hB⟩
      · simp only [Prod.mk.injEq] at hf
        obtain ⟨rfl, rfl, rfl, rfl⟩ := hf
        have FM := FM rs rm rfl hgf
        obtain ⟨nh, hnh, h1, h8⟩ := goodH_nat (goodF_parts hgf).1
        obtain rfl : p = nh := by omega
        clear hnh hgf
        obtain ⟨ka, kc, rfl, _⟩ : ∃ a c, uu = .slice a L.length c ∧ True := by
          obtain ⟨a, c, e, _⟩ := hsl
          exact ⟨a, c, e, trivial⟩
        go_wp2_with fail
        clear p0 p1 p2 G4
        generalize u4.alloc (.cells #[.int .i64 (p : Int), .string rs, .int .i64 rm] 24) = u5 at *
        go_loopw [136] (fun i wr => ∃ k : Nat, k ≤ L.length ∧ i = .int .i64 k ∧ SL wr (.slice ka L.length kc) L ∧ Box wr gg [.int .i64 (p : Int), .string rs, .int .i64 rm] ∧ Below w.heap.size w wr) (fun i _ => L.length - (intOf i).toNat)
        case atStart => exact ⟨0, Nat.zero_le _, rfl, hsl, GB, hB⟩
        case round =>
          obtain ⟨k, hk, rfl, hsl2, GB2, hB2⟩ := hrel
          clear hsl GB hB
          by_cases hlt : k < L.length
          · have hsl3 := hsl2
            obtain ⟨a', c', he, hc⟩ := hsl3
            obtain ⟨b, off, ha, hbl, hcell⟩ := hc (by intro e; simp [e] at hlt)
            simp only [Value.slice.injEq] at he
            obtain ⟨rfl, _, rfl⟩ := he
            subst ha
            have hc0 := hcell k hlt
            have hm := FM L[k] (List.getElem_mem hlt)
            obtain ⟨key9, hkey9⟩ : ∃ key9, key9 = L[k] := ⟨_, rfl⟩
            rw [← hkey9] at hc0 hm
            have MA := fun w => implMay (p : Int) rs rm key9 w
            rw [hm.2] at MA
            have PL9 := fun w => implPlaces_good key9 p w hm.1 h1 h8
            obtain ⟨_, p0, p1, p2⟩ := GB2.c3
            clear hcell hc hkey9 hm FM
            go_wp2_with fail
            refine (MA _).mono ?_
            rintro e v1 ⟨rfl, hbv⟩
            replace hsl2 := hsl2.below hbv
            replace GB2 := GB2.below hbv
            replace hB2 := below_then hB2 hbv
            clear hbv MA p0 p1 p2 hc0
            go_wp2_with fail
            refine (PL9 _).mono ?_
            rintro e v2 ⟨g9, rfl, _, hbv⟩
            replace hsl2 := hsl2.below hbv
            replace GB2 := GB2.below hbv
            replace hB2 := below_then hB2 hbv
            clear hbv PL9
            go_wp2
            go_roundw
            case rel => exact ⟨k + 1, by omega, by go_num, hsl2, GB2, hB2⟩
            case measure => simp [intOf]; omega
          · go_wp2
            go_ret
            exact ⟨rfl, hB2⟩
  · have hg' : 1048576 < wrap64 ((l.length : Int) + m0.length) := by omega
    go_enter Try.func3, Try.ntmps3
    go_wp2
    go_ret
    exact ⟨rfl, Below.refl _ _⟩
end Go.Proofs.Ytdcglghmhjbkkaa
