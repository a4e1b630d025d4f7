/-
  impl.usedBytes.
-/
import Derived.Test.YtbgemebpfcbloaaG7ToG8
namespace Go.Proofs.Ytbgemebpfcbloaa
open Go.RowKit
set_option linter.unusedVariables false

theorem Try.info4 : (Try.prog.info? 4).map (fun i => (i.zero, i.size, i.bytes)) = some (some (.bool false), 1, 1) := by kernel_rfl

set_option maxHeartbeats 2000000 in
theorem usedBytes_any (v1 v2 v3 : Value) (bl lv sf : List (ByteArray × Int)) (r : Int) (w : World) (h1 : PL w v1 bl) (h2 : PL w v2 lv) (h3 : PL w v3 sf)
    (hn1 : tot bl + bl.length ≤ 1048576) (hn2 : lv.length ≤ 1048576) (hn3 : sf.length ≤ 1048576) (hlv : ∀ i (h : i < lv.length), 0 ≤ lv[i].2 ∧ lv[i].2 < bl.length) (hsf : ∀ i (h : i < sf.length), 0 ≤ sf[i].2 ∧ sf[i].2 < bl.length) :
    Calls Try.prog 63 #[.agg #[v1, v2, v3, .int .i64 r]] w fun e w' => e = .returned (.int .i64 (used bl lv sf : Nat)) ∧ Below w.heap.size w w' := by
  obtain ⟨a1, c1, rfl, hc1⟩ := h1
  obtain ⟨a2, c2, rfl, hc2⟩ := h2
  obtain ⟨a3, c3, rfl, hc3⟩ := h3
  obtain ⟨i0, hi, hz0, hz1, hz2⟩ := info_parts Try.info4
  have hgo : ∀ w0 : World, (w.alloc (.cells #[.slice a1 bl.length c1, .slice a2 lv.length c2, .slice a3 sf.length c3, .int .i64 r] 26)).grownBy w0 none → Below (w.heap.size + 1) (w.alloc (.cells #[.slice a1 bl.length c1, .slice a2 lv.length c2, .slice a3 sf.length c3, .int .i64 r] 26)) w0 ∧ Box w0 w.heap.size [.slice a1 bl.length c1, .slice a2 lv.length c2, .slice a3 sf.length c3, .int .i64 r] := by
    intro w0 hg
    have hb0 : Below (w.heap.size + 1) (w.alloc (.cells #[.slice a1 bl.length c1, .slice a2 lv.length c2, .slice a3 sf.length c3, .int .i64 r] 26)) w0 := (Below.refl _ _).grown hg (by simp) (by simp)
    exact ⟨hb0, (Box.new w #[.slice a1 bl.length c1, .slice a2 lv.length c2, .slice a3 sf.length c3, .int .i64 r] 26).below (by simpa using hb0)⟩
  go_enter Try.func63, Try.ntmps63
  go_wp2_with (at_make; refine wpList_make_full _ rfl _ _ 146 rfl (w.heap.size + 1) 4 i0 _ 1 Try.underlying146 hi hz0 hz1 .i64 .i64 _ _ bl.length rfl rfl rfl rfl (by rw [hz2]; omega) (by unfold maxLen; omega) (by simp) ?_; intro w0 hown0 hgr0; obtain ⟨hb0, X0⟩ := hgo w0 hgr0; obtain ⟨hz, p0, p1, p2, p3⟩ := X0.c4)
  simp only [World.size_alloc] at hown0
  rw [bools_made] at hown0
  clear hgr0 hi hz0 hz1 hz2 hgo
  go_loopw [18] (fun i wr => ∃ j : Nat, j ≤ lv.length ∧ i = .int .i64 j ∧ wr.ownsRow (w.heap.size + 1) 4 1 (.slice (some ⟨w.heap.size + 1, 0, none⟩) bl.length bl.length) bl.length (bools bl.length fun i => false || anyK (lv.take j) i) ∧ Below (w.heap.size + 1) (w.alloc (.cells #[.slice a1 bl.length c1, .slice a2 lv.length c2, .slice a3 sf.length c3, .int .i64 r] 26)) wr) (fun i _ => lv.length - (intOf i).toNat)
  case atStart => exact ⟨0, Nat.zero_le _, rfl, by simpa [anyK] using hown0, hb0⟩
  case round =>
    clear hown0 hb0 X0 hz p0 p1 p2 p3
    obtain ⟨j, hj, rfl, hown, hb⟩ := hrel
    have hw2 : Below w.heap.size w wr := (below_alloc _ _).trans (hb.mono (by omega))
    have hlt1 := (owns_lt hown).2
    by_cases hjl : j < lv.length
    · obtain ⟨b2, off2, rfl, hbl2, hcell2⟩ := hc2 (by intro e; simp [e] at hjl)
      obtain ⟨ts, hts⟩ : ∃ ts, ts = lv[j].1 := ⟨_, rfl⟩
      obtain ⟨tm, htm⟩ : ∃ tm : Nat, (tm : Int) = lv[j].2 := ⟨lv[j].2.toNat, by have := (hlv j hjl).1; omega⟩
      have htl : (tm : Int) < (bl.length : Int) := by rw [htm]; exact (hlv j hjl).2
      have f0 : wr.cell? ⟨b2, off2 + j * 2, none⟩ = some (.string ts) := by rw [hts]; exact (hw2.cell (p := ⟨b2, off2 + j * 2, none⟩) hbl2).trans (hcell2 j hjl).1
      have f1 : wr.cell? ⟨b2, off2 + j * 2 + 1, none⟩ = some (.int .i64 (tm : Int)) := by rw [htm]; exact (hw2.cell (p := ⟨b2, off2 + j * 2 + 1, none⟩) hbl2).trans (hcell2 j hjl).2
      have g0 : wr.cell? ⟨w.heap.size + 1, tm, none⟩ = some (.bool (false || anyK (lv.take j) tm)) := by rw [hown.cellAt tm (by omega), bools_get _ _ _ (by omega)]
      have g1 := hown.frozenAt tm
      have hown' := (hown.stored tm (.bool true)).1
      rw [bools_anyK bl.length lv (fun i => false) j hjl tm htm] at hown'
      have hown1 := hown'
      have Hown : Hid _ := hown'
      clear hown' hown1 hcell2 hts htm hc1 hc2 hc3 hown hlv hsf
      go_wp2
      go_roundw
      case rel => exact ⟨j + 1, by omega, by go_num, owns_below Hown.out (below_alloc _ _), ((hb.setCell (by simp) _).alloc (by simp; omega) _)⟩
      case measure => simp [intOf]; omega
    · have hjj : j = lv.length := by omega
      subst hjj
      rw [List.take_length] at hown
      simp only [Bool.false_or] at hown
      have X := (Box.new w #[.slice a1 bl.length c1, .slice a2 lv.length c2, .slice a3 sf.length c3, .int .i64 r] 26).below (w' := wr) (by simpa using hb)
      obtain ⟨hz, p0, p1, p2, p3⟩ := X.c4
      go_wp2
      go_loopw [30] (fun i wr => ∃ j : Nat, j ≤ sf.length ∧ i = .int .i64 j ∧ wr.ownsRow (w.heap.size + 1) 4 1 (.slice (some ⟨w.heap.size + 1, 0, none⟩) bl.length bl.length) bl.length (bools bl.length fun i => anyK lv i || anyK (sf.take j) i) ∧ Below (w.heap.size + 1) (w.alloc (.cells #[.slice a1 bl.length c1, .slice a2 lv.length c2, .slice a3 sf.length c3, .int .i64 r] 26)) wr) (fun i _ => sf.length - (intOf i).toNat)
      case atStart => exact ⟨0, Nat.zero_le _, rfl, by simpa [anyK] using hown, hb⟩
      case round =>
        clear hown hb hw2 hlt1 hz p0 p1 p2 p3 X
        obtain ⟨j, hj, rfl, hown, hb⟩ := hrel
        have hw2 : Below w.heap.size w wr := (below_alloc _ _).trans (hb.mono (by omega))
        have hlt1 := (owns_lt hown).2
        by_cases hjl : j < sf.length
        · obtain ⟨b2, off2, rfl, hbl2, hcell2⟩ := hc3 (by intro e; simp [e] at hjl)
          obtain ⟨ts, hts⟩ : ∃ ts, ts = sf[j].1 := ⟨_, rfl⟩
          obtain ⟨tm, htm⟩ : ∃ tm : Nat, (tm : Int) = sf[j].2 := ⟨sf[j].2.toNat, by have := (hsf j hjl).1; omega⟩
          have htl : (tm : Int) < (bl.length : Int) := by rw [htm]; exact (hsf j hjl).2
          have f0 : wr.cell? ⟨b2, off2 + j * 2, none⟩ = some (.string ts) := by rw [hts]; exact (hw2.cell (p := ⟨b2, off2 + j * 2, none⟩) hbl2).trans (hcell2 j hjl).1
          have f1 : wr.cell? ⟨b2, off2 + j * 2 + 1, none⟩ = some (.int .i64 (tm : Int)) := by rw [htm]; exact (hw2.cell (p := ⟨b2, off2 + j * 2 + 1, none⟩) hbl2).trans (hcell2 j hjl).2
          have g0 : wr.cell? ⟨w.heap.size + 1, tm, none⟩ = some (.bool (anyK lv tm || anyK (sf.take j) tm)) := by rw [hown.cellAt tm (by omega), bools_get _ _ _ (by omega)]
          have g1 := hown.frozenAt tm
          have hown' := (hown.stored tm (.bool true)).1
          rw [bools_anyK bl.length sf (fun i => anyK lv i) j hjl tm htm] at hown'
          have hown1 := hown'
          have Hown : Hid _ := hown'
          clear hown' hown1 hcell2 hts htm hc1 hc2 hc3 hown hlv hsf
          go_wp2
          go_roundw
          case rel => exact ⟨j + 1, by omega, by go_num, owns_below Hown.out (below_alloc _ _), ((hb.setCell (by simp) _).alloc (by simp; omega) _)⟩
          case measure => simp [intOf]; omega
        · have hjj : j = sf.length := by omega
          subst hjj
          rw [List.take_length] at hown
          have X := (Box.new w #[.slice a1 bl.length c1, .slice a2 lv.length c2, .slice a3 sf.length c3, .int .i64 r] 26).below (w' := wr) (by simpa using hb)
          obtain ⟨hz, p0, p1, p2, p3⟩ := X.c4
          go_wp2
          go_loopw [8, 42] (fun t i wr => ∃ k : Nat, k ≤ bl.length ∧ i = .int .i64 k ∧ t = .int .i64 (usedTo bl lv sf k : Nat) ∧ wr.ownsRow (w.heap.size + 1) 4 1 (.slice (some ⟨w.heap.size + 1, 0, none⟩) bl.length bl.length) bl.length (bools bl.length fun i => anyK lv i || anyK sf i) ∧ Below (w.heap.size + 1) (w.alloc (.cells #[.slice a1 bl.length c1, .slice a2 lv.length c2, .slice a3 sf.length c3, .int .i64 r] 26)) wr) (fun _ i _ => bl.length - (intOf i).toNat)
          case atStart => exact ⟨0, Nat.zero_le _, rfl, rfl, hown, hb⟩
          case round =>
            clear hown hb hw2 hlt1 hz p0 p1 p2 p3 X
            obtain ⟨k, hk, rfl, rfl, hown, hb⟩ := hrel
            have hw2 : Below w.heap.size w wr := (below_alloc _ _).trans (hb.mono (by omega))
            have hlt1 := (owns_lt hown).2
            by_cases hlt : k < bl.length
            · obtain ⟨b, off, rfl, hbl, hcell⟩ := hc1 (by intro e; simp [e] at hlt)
              obtain ⟨s, hse⟩ : ∃ s, s = bl[k].1 := ⟨_, rfl⟩
              obtain ⟨m, hme⟩ : ∃ m, m = bl[k].2 := ⟨_, rfl⟩
              have e0 : wr.cell? ⟨b, off + k * 2, none⟩ = some (.string s) := by rw [hse]; exact (hw2.cell (p := ⟨b, off + k * 2, none⟩) hbl).trans (hcell k hlt).1
              have e1 : wr.cell? ⟨b, off + k * 2 + 1, none⟩ = some (.int .i64 m) := by rw [hme]; exact (hw2.cell (p := ⟨b, off + k * 2 + 1, none⟩) hbl).trans (hcell k hlt).2
              obtain ⟨q, hq⟩ : ∃ q : Bool, q = (anyK lv k || anyK sf k) := ⟨_, rfl⟩
              have g0 : wr.cell? ⟨w.heap.size + 1, k, none⟩ = some (.bool q) := by rw [hq, hown.cellAt k (by omega), bools_get _ _ _ (by omega)]
              have HU : Hid (usedTo bl lv sf (k + 1) = usedTo bl lv sf k + if q then s.size else 0) := by
                show usedTo bl lv sf (k + 1) = _
                rw [hse, hq]; simp only [usedTo, List.getD_eq_getElem?_getD, List.getElem?_eq_getElem hlt, Option.getD_some]
              have hu1 := usedTo_le bl lv sf k hk
              have hu2 := tot_take_succ bl k hlt
              have hu3 := tot_take_le bl (k + 1)
              rw [← hse] at hu2
              have hub : usedTo bl lv sf k + s.size ≤ 1048576 := by omega
              clear hu1 hu2 hu3 hse hme hq hcell hc1 hc2 hc3 hlv hsf
              cases q with
              | true =>
                go_wp2
                go_roundw
                case rel => exact ⟨k + 1, by omega, by go_num, by rw [HU.out]; go_num, owns_below hown (below_alloc _ _), hb.alloc (by omega) _⟩
                case measure => simp [intOf]; omega
              | false =>
                go_wp2
                go_roundw
                case rel => exact ⟨k + 1, by omega, by go_num, by rw [HU.out]; rfl, owns_below hown (below_alloc _ _), hb.alloc (by omega) _⟩
                case measure => simp [intOf]; omega
            · have : k = bl.length := by omega
              subst this
              go_wp2
              go_ret
              exact ⟨rfl, hw2⟩
end Go.Proofs.Ytbgemebpfcbloaa
