/-
  spec.l1Names.
  spec.l1Used.
-/
import Derived.Test.YtbgemebpfcbloaaG5ToG6
import Derived.Deep.QuietTactic
import Derived.BigQuiet
namespace Go.Proofs.Ytbgemebpfcbloaa
open Go.RowKit
set_option linter.unusedVariables false

set_option maxHeartbeats 1000000 in
theorem l1Names_any (v : Value) (l : List (ByteArray × Int)) (n : Nat) (w : World) (hv : PL w v l) (hn : l.length ≤ 1048576) (hnn : n ≤ 1048576) (hs : ∀ i (h : i < l.length), l[i].1.size ≤ 1048576) :
    Calls Try.prog 59 #[v, .int .i64 n] w fun e w' => e = .returned (.bool (okNs l n)) ∧ Below w.heap.size w w' := by
  obtain ⟨a, cap, rfl, hc⟩ := hv
  go_enter Try.func59, Try.ntmps59
  go_wp2
  go_loopw [9] (fun i wr => ∃ k : Nat, k ≤ l.length ∧ i = .int .i64 k ∧ okEs l n k = true ∧ Below w.heap.size w wr) (fun i _ => l.length - (intOf i).toNat)
  case atStart => exact ⟨0, Nat.zero_le _, rfl, okEs_zero _ _, Below.refl _ _⟩
  case round =>
    obtain ⟨k, hk, rfl, hok, hb⟩ := hrel
    have HO : Hid (okEs l n k = true) := hok
    clear hok
    by_cases hlt : k < l.length
    · obtain ⟨b, off, rfl, hbl, hcell⟩ := hc (by intro e; simp [e] at hlt)
      obtain ⟨s, hse⟩ : ∃ s, s = l[k].1 := ⟨_, rfl⟩
      obtain ⟨m, hme⟩ : ∃ m, m = l[k].2 := ⟨_, rfl⟩
      have hc0 : wr.cell? ⟨b, off + k * 2, none⟩ = some (.string s) := by rw [hse]; exact (hb.cell (p := ⟨b, off + k * 2, none⟩) hbl).trans (hcell k hlt).1
      have hc1 : wr.cell? ⟨b, off + k * 2 + 1, none⟩ = some (.int .i64 m) := by rw [hme]; exact (hb.cell (p := ⟨b, off + k * 2 + 1, none⟩) hbl).trans (hcell k hlt).2
      have hss : s.size ≤ 1048576 := by rw [hse]; exact hs k hlt
      have hz := hb.size
      have hz1 : b < wr.heap.size := by omega
      have HE : Hid (okE l n k = (okN s && (decide (0 ≤ m) && decide (m ≤ n - 1)) && (decide (k = 0) || less (l.getD (k - 1) default).1 s))) := by
        show okE l n k = _
        rw [hse, hme]; simp only [okE, List.getD_eq_getElem?_getD, List.getElem?_eq_getElem hlt, Option.getD_some]
      by_cases h0 : okN s = true
      · by_cases h2 : (decide (0 ≤ m) && decide (m ≤ (n : Int) - 1)) = true
        · by_cases hk0 : k = 0
          · have hg : decide ((0 : Int) < (k : Int)) = false := by simp; omega
            have hg' : decide (0 < k) = false := by simp; omega
            have HN : Hid (okEs l n (k + 1) = true) := by show okEs l n (k + 1) = true; rw [okEs_succ, HO.out, HE.out, h0, h2]; simp [hk0]
            clear hk0 hcell hs hse hme hc
            go_wp2_with fail
            go_quiet ((first | (go_at_call 107; exact Calls.quiet_of_same (l1Name_any _ _ hss)) | (go_at_call 58; exact Calls.quiet_of_same (l1In_any _ _ _ _))))
            go_wp2
            go_roundw
            case rel => exact ⟨k + 1, by omega, by go_num, HN.out, below_drewN (hb.alloc hz _) _⟩
            case measure => simp [intOf]; omega
          · obtain ⟨sp, hsp⟩ : ∃ sp, sp = l[k - 1].1 := ⟨_, rfl⟩
            have hp0 : wr.cell? ⟨b, off + (k - 1) * 2, none⟩ = some (.string sp) := by rw [hsp]; exact (hb.cell (p := ⟨b, off + (k - 1) * 2, none⟩) hbl).trans (hcell (k - 1) (by omega)).1
            have hge : (l.getD (k - 1) default).1 = sp := by rw [hsp]; simp only [List.getD_eq_getElem?_getD, List.getElem?_eq_getElem (show k - 1 < l.length from by omega), Option.getD_some]
            rw [hge] at HE
            have hg : (0 : Int) < (k : Int) := by omega
            have hg1 : decide ((0 : Int) < (k : Int)) = true := by simp; omega
            have hg2 : decide (0 < k) = true := by simp; omega
            by_cases hle : Op.bytesLess sp.toList s.toList = true
            · have HN : Hid (okEs l n (k + 1) = true) := by show okEs l n (k + 1) = true; rw [okEs_succ, HO.out, HE.out, h0, h2]; simp [less, hle]
              clear hk0 hcell hs hse hme hc hsp hge
              go_wp2_with fail
              go_quiet ((first | (go_at_call 107; exact Calls.quiet_of_same (l1Name_any _ _ hss)) | (go_at_call 58; exact Calls.quiet_of_same (l1In_any _ _ _ _))))
              go_wp2
              go_roundw
              case rel => exact ⟨k + 1, by omega, by go_num, HN.out, below_drewN (hb.alloc hz _) _⟩
              case measure => simp [intOf]; omega
            · have hle' : Op.bytesLess sp.toList s.toList = false := by simpa using hle
              have HF : Hid (okNs l n = false) := by show okNs l n = false; rw [okNs, okEs_false l n k hlt (by rw [HE.out]; simp [less, hle', hk0])]; rfl
              clear hk0 hcell hs hse hme hc hsp hge hle
              go_wp2_with fail
              go_quiet ((first | (go_at_call 107; exact Calls.quiet_of_same (l1Name_any _ _ hss)) | (go_at_call 58; exact Calls.quiet_of_same (l1In_any _ _ _ _))))
              go_wp2
              go_ret
              exact ⟨ret_bool HF.out.symm, below_drewN (hb.alloc hz _) _⟩
        · have h2' : (decide (0 ≤ m) && decide (m ≤ (n : Int) - 1)) = false := by simpa using h2
          have HF : Hid (okNs l n = false) := by show okNs l n = false; rw [okNs, okEs_false l n k hlt (by rw [HE.out, h2']; simp)]; rfl
          clear hcell hs hse hme hc h2
          go_wp2_with fail
          go_quiet ((first | (go_at_call 107; exact Calls.quiet_of_same (l1Name_any _ _ hss)) | (go_at_call 58; exact Calls.quiet_of_same (l1In_any _ _ _ _))))
          go_wp2
          go_ret
          exact ⟨ret_bool HF.out.symm, below_drewN (hb.alloc hz _) _⟩
      · have h0' : okN s = false := by simpa using h0
        have HF : Hid (okNs l n = false) := by show okNs l n = false; rw [okNs, okEs_false l n k hlt (by rw [HE.out, h0']; rfl)]; rfl
        clear hcell hs hse hme hc h0
        go_wp2_with fail
        go_quiet ((first | (go_at_call 107; exact Calls.quiet_of_same (l1Name_any _ _ hss)) | (go_at_call 58; exact Calls.quiet_of_same (l1In_any _ _ _ _))))
        go_wp2
        go_ret
        exact ⟨ret_bool HF.out.symm, below_drewN (hb.alloc hz _) _⟩
    · have : k = l.length := by omega
      subst this
      have HF : Hid (okNs l n = decide ((l.length : Int) ≤ 20)) := by show okNs l n = _; rw [okNs, HO.out]; rfl
      go_wp2
      go_ret
      exact ⟨ret_bool HF.out.symm, hb⟩
end Go.Proofs.Ytbgemebpfcbloaa

namespace Go.Proofs.Ytbgemebpfcbloaa
open Go.RowKit
set_option linter.unusedVariables false

set_option maxHeartbeats 2000000 in
theorem l1Used_any (v1 v2 v3 : Value) (bl lv sf : List (ByteArray × Int)) (r : Int) (w : World) (h1 : PL w v1 bl) (h2 : PL w v2 lv) (h3 : PL w v3 sf)
    (hn1 : tot bl + bl.length ≤ 1048576) (hn2 : lv.length ≤ 1048576) (hn3 : sf.length ≤ 1048576) :
    Calls Try.prog 60 #[.agg #[v1, v2, v3, .int .i64 r]] w fun e w' => e = .returned (.int .i64 (used bl lv sf : Nat)) ∧ Below w.heap.size w w' := by
  obtain ⟨a1, c1, rfl, hc1⟩ := h1
  obtain ⟨a2, c2, rfl, hc2⟩ := h2
  obtain ⟨a3, c3, rfl, hc3⟩ := h3
  go_enter Try.func60, Try.ntmps60
  go_wp2
  go_loopw [3, 14] (fun t i wr => ∃ k : Nat, k ≤ bl.length ∧ i = .int .i64 k ∧ t = .int .i64 (usedTo bl lv sf k : Nat) ∧ Below (w.heap.size + 1) (w.alloc (.cells #[.slice a1 bl.length c1, .slice a2 lv.length c2, .slice a3 sf.length c3, .int .i64 r] 26)) wr) (fun _ i _ => bl.length - (intOf i).toNat)
  case atStart => exact ⟨0, Nat.zero_le _, rfl, rfl, Below.refl _ _⟩
  case round =>
    obtain ⟨k, hk, rfl, rfl, hb⟩ := hrel
    have hbw : Below w.heap.size w wr := (below_alloc _ _).trans (hb.mono (by omega))
    have X := (Box.new w #[.slice a1 bl.length c1, .slice a2 lv.length c2, .slice a3 sf.length c3, .int .i64 r] 26).below (w' := wr) (by simpa using hb)
    obtain ⟨hz, p0, p1, p2, p3⟩ := X.c4
    by_cases hlt : k < bl.length
    · obtain ⟨b, off, rfl, hbl, hcell⟩ := hc1 (by intro e; simp [e] at hlt)
      obtain ⟨s, hse⟩ : ∃ s, s = bl[k].1 := ⟨_, rfl⟩
      obtain ⟨m, hme⟩ : ∃ m, m = bl[k].2 := ⟨_, rfl⟩
      have e0 : wr.cell? ⟨b, off + k * 2, none⟩ = some (.string s) := by rw [hse]; exact (hbw.cell (p := ⟨b, off + k * 2, none⟩) hbl).trans (hcell k hlt).1
      have e1 : wr.cell? ⟨b, off + k * 2 + 1, none⟩ = some (.int .i64 m) := by rw [hme]; exact (hbw.cell (p := ⟨b, off + k * 2 + 1, none⟩) hbl).trans (hcell k hlt).2
      have HSE : Hid (s = bl[k].1) := hse
      clear hse hme
      obtain ⟨wo, rfl⟩ : ∃ wo : World, wo = wr := ⟨_, rfl⟩
      go_wp2
      go_loopw [6, 22] (fun nm i wr => ∃ j : Nat, j ≤ lv.length ∧ i = .int .i64 j ∧ nm = .bool (anyK (lv.take j) k) ∧ Below (wo.heap.size + 1) (wo.alloc (.cells #[.string s, .int .i64 m] 43)) wr) (fun _ i _ => lv.length - (intOf i).toNat)
      case atStart => exact ⟨0, Nat.zero_le _, rfl, rfl, Below.refl _ _⟩
      case round =>
        obtain ⟨j, hj, rfl, rfl, hb2⟩ := hrel
        have hw2 : Below w.heap.size w wr := (hbw.alloc (by omega) _).trans (hb2.mono (by omega))
        have hzz : wo.heap.size < wr.heap.size := by have := hb2.size; simp at this; omega
        by_cases hjl : j < lv.length
        · obtain ⟨b2, off2, rfl, hbl2, hcell2⟩ := hc2 (by intro e; simp [e] at hjl)
          obtain ⟨ts, hts⟩ : ∃ ts, ts = lv[j].1 := ⟨_, rfl⟩
          obtain ⟨tm, htm⟩ : ∃ tm, tm = lv[j].2 := ⟨_, rfl⟩
          have f0 : wr.cell? ⟨b2, off2 + j * 2, none⟩ = some (.string ts) := by rw [hts]; exact (hw2.cell (p := ⟨b2, off2 + j * 2, none⟩) hbl2).trans (hcell2 j hjl).1
          have f1 : wr.cell? ⟨b2, off2 + j * 2 + 1, none⟩ = some (.int .i64 tm) := by rw [htm]; exact (hw2.cell (p := ⟨b2, off2 + j * 2 + 1, none⟩) hbl2).trans (hcell2 j hjl).2
          have HS : Hid (anyK (lv.take (j + 1)) k = (anyK (lv.take j) k || tm == (k : Int))) := by rw [htm]; exact anyK_succ lv k j hjl
          clear hcell2 hts htm
          obtain ⟨q, hq⟩ : ∃ q : Bool, q = anyK (lv.take j) k := ⟨_, rfl⟩
          rw [← hq]
          have HQ : Hid (q = anyK (lv.take j) k) := hq
          clear hq
          cases q with
          | true =>
            go_wp2
            go_roundw
            case rel => exact ⟨j + 1, by omega, by go_num, by rw [HS.out, ← HQ.out]; rfl, hb2.alloc (by omega) _⟩
            case measure => simp [intOf]; omega
          | false =>
            by_cases htk : tm = (k : Int)
            · have htb : (tm == (k : Int)) = true := by simp [htk]
              clear htk
              go_wp2
              go_roundw
              case rel => exact ⟨j + 1, by omega, by go_num, by rw [HS.out, ← HQ.out, htb]; rfl, hb2.alloc (by omega) _⟩
              case measure => simp [intOf]; omega
            · have htb : (tm == (k : Int)) = false := by simp [htk]
              clear htk
              go_wp2
              go_roundw
              case rel => exact ⟨j + 1, by omega, by go_num, by rw [HS.out, ← HQ.out, htb]; rfl, hb2.alloc (by omega) _⟩
              case measure => simp [intOf]; omega
        · have hjj : j = lv.length := by omega
          subst hjj
          rw [List.take_length]
          have X2 := ((X.alloc (.cells #[.string s, .int .i64 m] 43)).below (w' := wr) (by simpa using hb2))
          obtain ⟨_, p0, p1, p2, p3⟩ := X2.c4
          clear X2
          go_wp2
          go_loopw [6, 37] (fun nm i wr => ∃ j : Nat, j ≤ sf.length ∧ i = .int .i64 j ∧ nm = .bool (anyK lv k || anyK (sf.take j) k) ∧ Below (wo.heap.size + 1) (wo.alloc (.cells #[.string s, .int .i64 m] 43)) wr) (fun _ i _ => sf.length - (intOf i).toNat)
          case atStart => exact ⟨0, Nat.zero_le _, rfl, by simp [anyK], hb2⟩
          case round =>
            clear hb2
            obtain ⟨j, hj, rfl, rfl, hb2⟩ := hrel
            have hw2 : Below w.heap.size w wr := (hbw.alloc (by omega) _).trans (hb2.mono (by omega))
            have hzz : wo.heap.size < wr.heap.size := by have := hb2.size; simp at this; omega
            by_cases hjl : j < sf.length
            · obtain ⟨b2, off2, rfl, hbl2, hcell2⟩ := hc3 (by intro e; simp [e] at hjl)
              obtain ⟨ts, hts⟩ : ∃ ts, ts = sf[j].1 := ⟨_, rfl⟩
              obtain ⟨tm, htm⟩ : ∃ tm, tm = sf[j].2 := ⟨_, rfl⟩
              have f0 : wr.cell? ⟨b2, off2 + j * 2, none⟩ = some (.string ts) := by rw [hts]; exact (hw2.cell (p := ⟨b2, off2 + j * 2, none⟩) hbl2).trans (hcell2 j hjl).1
              have f1 : wr.cell? ⟨b2, off2 + j * 2 + 1, none⟩ = some (.int .i64 tm) := by rw [htm]; exact (hw2.cell (p := ⟨b2, off2 + j * 2 + 1, none⟩) hbl2).trans (hcell2 j hjl).2
              have HS : Hid (anyK (sf.take (j + 1)) k = (anyK (sf.take j) k || tm == (k : Int))) := by rw [htm]; exact anyK_succ sf k j hjl
              clear hcell2 hts htm
              obtain ⟨q, hq⟩ : ∃ q : Bool, q = (anyK lv k || anyK (sf.take j) k) := ⟨_, rfl⟩
              rw [← hq]
              have HQ : Hid (q = (anyK lv k || anyK (sf.take j) k)) := hq
              clear hq
              cases q with
              | true =>
                go_wp2
                go_roundw
                case rel => exact ⟨j + 1, by omega, by go_num, by rw [HS.out, ← Bool.or_assoc, ← HQ.out]; rfl, hb2.alloc (by omega) _⟩
                case measure => simp [intOf]; omega
              | false =>
                by_cases htk : tm = (k : Int)
                · have htb : (tm == (k : Int)) = true := by simp [htk]
                  clear htk
                  go_wp2
                  go_roundw
                  case rel => exact ⟨j + 1, by omega, by go_num, by rw [HS.out, ← Bool.or_assoc, ← HQ.out, htb]; rfl, hb2.alloc (by omega) _⟩
                  case measure => simp [intOf]; omega
                · have htb : (tm == (k : Int)) = false := by simp [htk]
                  clear htk
                  go_wp2
                  go_roundw
                  case rel => exact ⟨j + 1, by omega, by go_num, by rw [HS.out, ← Bool.or_assoc, ← HQ.out, htb]; rfl, hb2.alloc (by omega) _⟩
                  case measure => simp [intOf]; omega
            · have hjj : j = sf.length := by omega
              subst hjj
              rw [List.take_length]
              have Y := (Box.new wo #[.string s, .int .i64 m] 43).below (w' := wr) (by simpa using hb2)
              obtain ⟨_, y0, y1⟩ := Y.c2
              have HU : Hid (usedTo bl lv sf (k + 1) = usedTo bl lv sf k + if anyK lv k || anyK sf k then s.size else 0) := by
                show usedTo bl lv sf (k + 1) = _
                rw [HSE.out]; simp only [usedTo, List.getD_eq_getElem?_getD, List.getElem?_eq_getElem hlt, Option.getD_some]
              have hu1 := usedTo_le bl lv sf k hk
              have hu2 := tot_take_succ bl k hlt
              have hu3 := tot_take_le bl (k + 1)
              rw [← HSE.out] at hu2
              have hub : usedTo bl lv sf k + s.size ≤ 1048576 := by omega
              clear hu1 hu2 hu3
              obtain ⟨q, hq⟩ : ∃ q : Bool, q = (anyK lv k || anyK sf k) := ⟨_, rfl⟩
              rw [← hq]
              have HQ : Hid (q = (anyK lv k || anyK sf k)) := hq
              clear hq
              cases q with
              | true =>
                go_wp2
                go_roundw
                case rel => exact ⟨k + 1, by omega, by go_num, by rw [HU.out, ← HQ.out]; go_num, (hb.alloc (by omega) _).trans (hb2.mono (by omega))⟩
                case measure => simp [intOf]; omega
              | false =>
                go_wp2
                go_roundw
                case rel => exact ⟨k + 1, by omega, by go_num, by rw [HU.out, ← HQ.out]; rfl, (hb.alloc (by omega) _).trans (hb2.mono (by omega))⟩
                case measure => simp [intOf]; omega
    · have : k = bl.length := by omega
      subst this
      go_wp2
      go_ret
      exact ⟨rfl, hbw⟩
end Go.Proofs.Ytbgemebpfcbloaa
