/-
  What most have is committed: l11Commit (of who leads).
-/
import Derived.Test.YtapfhhmimkkhnaaK1ToKC2
import Derived.Deep.Cut
namespace Go.Proofs.Ytapfhhmimkkhnaa
open Go.RowKit
set_option linter.unusedVariables false
set_option maxRecDepth 100000

set_option maxHeartbeats 8000000 in
theorem l11Commit_any (id pe te vo co : Int) (vl vv vm : Value) (log : List En) (vs mt : List Int) (w : World) (hl : ER w vl log) (hv : IL w vv vs) (hm : IL w vm mt) (nl : log.length ≤ 1048576) (nm : mt.length ≤ 1048576) (hc0 : 0 ≤ co) :
    Calls Try.prog 61 #[.agg #[.int .i64 id, .int .i64 pe, .int .i64 te, .int .i64 vo, vl, .int .i64 co, .int .i64 2, vv, vm]] w fun e w' => e = .returned (.agg #[.int .i64 id, .int .i64 pe, .int .i64 te, .int .i64 vo, vl, .int .i64 (comTo te pe co log mt log.length), .int .i64 2, vv, vm]) ∧ Below w.heap.size w w' := by
  have hm0 := hm
  have hl0 := hl
  have hv0 := hv
  obtain ⟨la, lc, rfl, hlc⟩ := hl
  obtain ⟨va, vc, rfl, hvc⟩ := hv
  obtain ⟨ma, mc, rfl, hmc⟩ := hm
  obtain ⟨W0, hW0⟩ : ∃ W0, W0 = (w.alloc (.cells #[.int .i64 id, .int .i64 pe, .int .i64 te, .int .i64 vo, .slice la log.length lc, .int .i64 co, .int .i64 2, .slice va vs.length vc, .slice ma mt.length mc] 26)).alloc (.cells #[.int .i64 0, .int .i64 0, .int .i64 0, .int .i64 0, .slice none 0 0, .int .i64 0, .int .i64 0, .slice none 0 0, .slice none 0 0] 26) := ⟨_, rfl⟩
  have hB : Below w.heap.size w W0 := by rw [hW0]; exact below2 _ _ _
  have hz00 : w.heap.size + 1 + 1 ≤ W0.heap.size := by rw [hW0]; simp
  have X : Box W0 w.heap.size [.int .i64 id, .int .i64 pe, .int .i64 te, .int .i64 vo, .slice la log.length lc, .int .i64 co, .int .i64 2, .slice va vs.length vc, .slice ma mt.length mc] := by rw [hW0]; exact (Box.new w #[.int .i64 id, .int .i64 pe, .int .i64 te, .int .i64 vo, .slice la log.length lc, .int .i64 co, .int .i64 2, .slice va vs.length vc, .slice ma mt.length mc] 26).alloc _
  have Y : Box W0 (w.heap.size + 1) [.int .i64 0, .int .i64 0, .int .i64 0, .int .i64 0, .slice none 0 0, .int .i64 0, .int .i64 0, .slice none 0 0, .slice none 0 0] := by
    rw [hW0]
    have := Box.new (w.alloc (.cells #[.int .i64 id, .int .i64 pe, .int .i64 te, .int .i64 vo, .slice la log.length lc, .int .i64 co, .int .i64 2, .slice va vs.length vc, .slice ma mt.length mc] 26)) #[.int .i64 0, .int .i64 0, .int .i64 0, .int .i64 0, .slice none 0 0, .int .i64 0, .int .i64 0, .slice none 0 0, .slice none 0 0] 26
    simpa using this
  clear hvc
  go_enter Try.func61, Try.ntmps61
  go_wp2
  rw [← hW0]; clear hW0
  go_loopw [3] (fun i wr => ∃ k : Nat, k ≤ log.length ∧ i = .int .i64 k ∧ comTo te pe co log mt log.length = comTo te pe co log mt k ∧ Below W0.heap.size W0 wr) (fun i _ => (intOf i).toNat)
  case atStart => exact ⟨log.length, Nat.le_refl _, rfl, rfl, Below.refl _ _⟩
  case round =>
    obtain ⟨k, hk, rfl, hg, hb⟩ := hrel
    have Xr := X.below hb
    have Yr := Y.below hb
    have hBr := below_then hB hb
    clear X Y
    by_cases hgt : co < (k : Int)
    · obtain ⟨j, rfl⟩ : ∃ j, k = j + 1 := ⟨k - 1, by omega⟩
      have hj : j < log.length := by omega
      obtain ⟨b, off, rfl, hbl, hcell⟩ := hlc (by intro e; simp [e] at hj)
      have d0 := (hBr.cell (p := ⟨b, off + j * 2, none⟩) hbl).trans (hcell j hj).1
      have hj1 : (((j + 1 : Nat) : Int) - 1) = (j : Int) := by omega
      have HM := comTo_miss te pe co log mt j hj hgt
      have HH := comTo_hit te pe co log mt j hj hgt
      rw [← hg] at HM HH
      have hcast : ((j + 1 : Nat) : Int) = (j : Int) + 1 := by omega
      rw [hcast] at HM HH hgt hj1
      clear hcast
      have hcl := cI_le ((j : Int) + 1) mt
      obtain ⟨R, HR⟩ : ∃ R, Hid (comTo te pe co log mt log.length = R) := ⟨_, rfl⟩
      rw [HR.out] at HM HH
      have HM : Hid _ := HM
      have HH : Hid _ := HH
      clear hlc hcell hg hl0 hv0 hm0
      generalize log[j].t = s at *
      obtain ⟨xl, x0, x1, x2, x3, x4, x5, x6, x7, x8⟩ := Xr.e9
      go_wp2
      go_loopw [4, 19] (fun z i wr2 => ∃ m n : Nat, m ≤ mt.length ∧ i = .int .i64 m ∧ z = .int .i64 n ∧ n + cI ((j : Int) + 1) (mt.drop m) = cI ((j : Int) + 1) mt ∧ n ≤ m ∧ wr2 = wr) (fun _ i _ => mt.length - (intOf i).toNat)
      case atStart => exact ⟨0, 0, Nat.zero_le _, rfl, rfl, by simp, Nat.le_refl _, rfl⟩
      case round =>
        obtain ⟨m, n, hm, rfl, rfl, hi, hnm, rfl⟩ := hrel
        by_cases hlt : m < mt.length
        · obtain ⟨b2, off2, rfl, hbl2, hcell2⟩ := hmc (by intro e; simp [e] at hlt)
          have hc2 := (hBr.cell (p := ⟨b2, off2 + m, none⟩) hbl2).trans (hcell2 m hlt)
          have HD : Hid (n + ((if (j : Int) + 1 ≤ mt[m] then 1 else 0) + cI ((j : Int) + 1) (mt.drop (m + 1))) = cI ((j : Int) + 1) mt) := by show _ = _; rw [← cI_drop _ mt m hlt]; exact hi
          clear hcell2 hmc hi
          generalize mt[m] = q at *
          by_cases hx : (j : Int) + 1 ≤ q
          · have HD2 : Hid (n + 1 + cI ((j : Int) + 1) (mt.drop (m + 1)) = cI ((j : Int) + 1) mt) := by show _ = _; rw [← HD.out, if_pos hx]; omega
            clear HD
            go_wp2
            go_roundw
            case rel => exact ⟨m + 1, n + 1, by omega, by go_num, by go_num, HD2.out, by omega, by first | rfl | trivial⟩
            case measure => simp [intOf]; omega
          · have HD2 : Hid (n + cI ((j : Int) + 1) (mt.drop (m + 1)) = cI ((j : Int) + 1) mt) := by show _ = _; rw [← HD.out, if_neg hx]; omega
            clear HD
            go_wp2
            go_roundw
            case rel => exact ⟨m + 1, n, by omega, by go_num, by go_num, HD2.out, by omega, by first | rfl | trivial⟩
            case measure => simp [intOf]; omega
        · obtain rfl : m = mt.length := by omega
          have HN : cI ((j : Int) + 1) mt = n := by rw [← hi, List.drop_length]; simp [cI]
          have HM2 := HM.out
          have HH2 := HH.out
          rw [HN] at HM2 HH2
          clear hmc hi HN hcl HM HH
          by_cases h2 : pe < 2 * (n : Int)
          · have hd3 : decide (pe < 2 * (n : Int)) = true := by simp [h2]
            by_cases h1 : s = te
            · replace h1 := h1.symm
              subst h1
              have HE : Hid (R = (j : Int) + 1) := HH2 (by first | rfl | trivial) h2
              clear HM2 HH2
              go_wp2_with fail
              go_quiet (fail)
              obtain ⟨wd, hwd⟩ : ∃ wd, wd = wr.drewN nq := ⟨_, rfl⟩
              have Xd := Xr.below (below_drewN (Below.refl wr.heap.size wr) nq)
              have Yd := Yr.below (below_drewN (Below.refl wr.heap.size wr) nq)
              have hBd := below_drewN hBr nq
              rw [← hwd] at Xd Yd hBd ⊢
              clear hwd hb Xr Yr hBr d0 xl x0 x1 x2 x3 x4 x5 x6 x7 x8
              have xl := Xd.1
              have x5 := Xd.2.1 5 _ rfl
              have e5 := Xd.2.2 5
              go_upto_region 13 with fail
              obtain ⟨W2, hW2⟩ : ∃ W2, W2 = wd.setCell ⟨w.heap.size, 5, none⟩ (.int .i64 ((j : Int) + 1)) := ⟨_, rfl⟩
              have hCa : Chg (fun k => k = w.heap.size) wd W2 := by rw [hW2]; exact Chg.setCell (S := fun k => k = w.heap.size) (Chg.refl _ _) rfl _
              have X2 : Box W2 w.heap.size [.int .i64 id, .int .i64 pe, .int .i64 te, .int .i64 vo, .slice (some ⟨b, off, none⟩) log.length lc, .int .i64 ((j : Int) + 1), .int .i64 2, .slice va vs.length vc, .slice ma mt.length mc] := by rw [hW2]; exact Xd.set 5 _ (by simp)
              have Y2 := hCa.box Yd (by omega)
              have hB2 := hBd.trans (hCa.below (B := w.heap.size) hBd.size (fun k hk => by have hk : k = w.heap.size := hk; omega))
              rw [← hW2]
              clear hW2 hCa Xd Yd hBd xl x5 e5
              have hC := put9_chg W2 (w.heap.size + 1) (.int .i64 id) (.int .i64 pe) (.int .i64 te) (.int .i64 vo) (.slice (some ⟨b, off, none⟩) log.length lc) (.int .i64 ((j : Int) + 1)) (.int .i64 2) (.slice va vs.length vc) (.slice ma mt.length mc)
              have Z := put9_box Y2 (.int .i64 id) (.int .i64 pe) (.int .i64 te) (.int .i64 vo) (.slice (some ⟨b, off, none⟩) log.length lc) (.int .i64 ((j : Int) + 1)) (.int .i64 2) (.slice va vs.length vc) (.slice ma mt.length mc)
              have hBE := hB2.trans (hC.below (B := w.heap.size) hB2.size (fun k hk => by have hk : k = w.heap.size + 1 := hk; omega))
              clear hC
              obtain ⟨xl, x0, x1, x2, x3, x4, x5, x6, x7, x8⟩ := X2.e9
              obtain ⟨e0, e1, e2, e3, e4, e5, e6, e7, e8⟩ := X2.f9
              obtain ⟨yl, y0, y1, y2, y3, y4, y5, y6, y7, y8⟩ := Y2.e9
              obtain ⟨f0, f1, f2, f3, f4, f5, f6, f7, f8⟩ := Y2.f9
              obtain ⟨hzl, t0, t1, t2, t3, t4, t5, t6, t7, t8⟩ := Z.e9
              clear Z X2 Y2 hB2
              unfold put9 at *
              go_wp2
              exact bodyPost_ret (v := .agg #[.int .i64 id, .int .i64 pe, .int .i64 te, .int .i64 vo, .slice (some ⟨b, off, none⟩) log.length lc, .int .i64 ((j : Int) + 1), .int .i64 2, .slice va vs.length vc, .slice ma mt.length mc]) (by simp [results, Try.results61, go_sem, t0, t1, t2, t3, t4, t5, t6, t7, t8]) rfl ⟨by rw [HR.out, HE.out], hBE⟩
            · have hd4 : (s == te) = false := by simp [h1]
              have HE : Hid (R = comTo te pe co log mt j) := HM2 (fun h => h1 h.1)
              clear HM2 HH2 Yr
              go_wp2_with fail
              go_quiet (fail)
              go_wp2
              go_roundw
              case rel => exact ⟨j, by omega, by go_num, HR.out.trans HE.out, below_drewN hb _⟩
              case measure => simp [intOf]
          · have hd3 : decide (pe < 2 * (n : Int)) = false := by simp; omega
            have HE : Hid (R = comTo te pe co log mt j) := HM2 (fun h => h2 h.2)
            clear HM2 HH2 Yr
            go_wp2_with fail
            go_quiet (fail)
            go_wp2
            go_roundw
            case rel => exact ⟨j, by omega, by go_num, HR.out.trans HE.out, below_drewN hb _⟩
            case measure => simp [intOf]
    · have HE : Hid (comTo te pe co log mt log.length = co) := by show _ = _; rw [hg, comTo_low _ _ _ _ _ _ hgt]
      clear hlc hg hb hmc
      have hC := put9_chg wr (w.heap.size + 1) (.int .i64 id) (.int .i64 pe) (.int .i64 te) (.int .i64 vo) (.slice la log.length lc) (.int .i64 co) (.int .i64 2) (.slice va vs.length vc) (.slice ma mt.length mc)
      have Z := put9_box Yr (.int .i64 id) (.int .i64 pe) (.int .i64 te) (.int .i64 vo) (.slice la log.length lc) (.int .i64 co) (.int .i64 2) (.slice va vs.length vc) (.slice ma mt.length mc)
      have hBE := hBr.trans (hC.below (B := w.heap.size) hBr.size (fun k hk => by have hk : k = w.heap.size + 1 := hk; omega))
      clear hC
      obtain ⟨xl, x0, x1, x2, x3, x4, x5, x6, x7, x8⟩ := Xr.e9
      obtain ⟨e0, e1, e2, e3, e4, e5, e6, e7, e8⟩ := Xr.f9
      obtain ⟨yl, y0, y1, y2, y3, y4, y5, y6, y7, y8⟩ := Yr.e9
      obtain ⟨f0, f1, f2, f3, f4, f5, f6, f7, f8⟩ := Yr.f9
      obtain ⟨hzl, t0, t1, t2, t3, t4, t5, t6, t7, t8⟩ := Z.e9
      clear Z Xr Yr hBr
      unfold put9 at *
      go_wp2
      exact bodyPost_ret (v := .agg #[.int .i64 id, .int .i64 pe, .int .i64 te, .int .i64 vo, .slice la log.length lc, .int .i64 co, .int .i64 2, .slice va vs.length vc, .slice ma mt.length mc]) (by simp [results, Try.results61, go_sem, t0, t1, t2, t3, t4, t5, t6, t7, t8]) rfl ⟨by rw [HE.out], hBE⟩
end Go.Proofs.Ytapfhhmimkkhnaa
