/-
  spec.ReadFile, impl.ReadFile, spec.SafeFile, impl.SafeFile.
-/
import Derived.Test.YtoiajjlbajdknaaR4
import Derived.Deep.RegionHeld3
import Derived.Deep.DrawnRows
namespace Go.Proofs.Ytoiajjlbajdknaa
open Go.RowKit Go.Maps
set_option linter.unusedVariables false

/-- What ReadFile answers. -/
def readT (bl lv : List (ByteArray × Int)) (nm : ByteArray) (g : Bool) : ByteArray := match g, lkp nm none lv with | true, some c => (bl.getD c.toNat default).1 | _, _ => ⟨#[]⟩
def readB (lv : List (ByteArray × Int)) (nm : ByteArray) (g : Bool) : Bool := g && (lkp nm none lv).isSome
theorem good_parts {bl lv sf : List (ByteArray × Int)} {r : Int} (h : true = goodD bl lv sf r) : okBs bl = true ∧ okNs lv bl.length = true ∧ okNs sf bl.length = true := by
  have h := h.symm
  simp only [goodD, Bool.and_eq_true] at h; exact ⟨h.1.1.1.1.1, h.1.1.1.2, h.1.1.2⟩
theorem lkp_mem (nm : ByteArray) (o : Option Int) (l : List (ByteArray × Int)) (c : Int) (h : lkp nm o l = some c) : o = some c ∨ ∃ i, ∃ hi : i < l.length, l[i].2 = c := by
  induction l generalizing o with
  | nil => exact .inl h
  | cons x r ih =>
    rcases ih _ h with h1 | ⟨i, hi, h1⟩
    · split at h1
      · exact .inr ⟨0, by simp, by simpa using h1⟩
      · exact .inl h1
    · exact .inr ⟨i + 1, by simpa using hi, by simpa using h1⟩
theorem lkp_range {l : List (ByteArray × Int)} {n : Nat} (hr : okNs l n = true) {nm : ByteArray} {c : Int} (h : lkp nm none l = some c) : ∃ cn : Nat, c = (cn : Int) ∧ cn < n := by
  rcases lkp_mem nm none l c h with h1 | ⟨i, hi, h1⟩
  · cases h1
  · have := okNs_range hr i hi
    exact ⟨c.toNat, by omega, by omega⟩

set_option maxRecDepth 100000 in
set_option maxHeartbeats 2000000 in
theorem implRead_any (v1 v2 v3 : Value) (bl lv sf : List (ByteArray × Int)) (r : Int) (nm : ByteArray) (w : World) (h1 : PL w v1 bl) (h2 : PL w v2 lv) (h3 : PL w v3 sf)
    (hn1 : tot bl + bl.length ≤ 1048576) (hn2 : tot lv + lv.length ≤ 1048576) (hn3 : tot sf + sf.length ≤ 1048576) (hs1 : ∀ i (h : i < bl.length), bl[i].1.size ≤ 1048576) (hs2 : ∀ i (h : i < lv.length), lv[i].1.size ≤ 1048576) (hs3 : ∀ i (h : i < sf.length), sf[i].1.size ≤ 1048576) (hnm : nm.size ≤ 1048576) :
    Calls Try.prog 34 #[.agg #[v1, v2, v3, .int .i64 r], .string nm] w fun e w' => e = .returned (.tuple #[.string (readT bl lv nm (goodD bl lv sf r)), .bool (readB lv nm (goodD bl lv sf r))]) ∧ Below w.heap.size w w' := by
  go_enter Try.func34, Try.ntmps34
  go_wp2_with fail
  refine (implGood_any _ _ _ bl lv sf _ _ (h1.alloc _) (h2.alloc _) (h3.alloc _) hn1 hn2 hn3 hs1 hs2 hs3).mono ?_
  rintro e w1 ⟨rfl, hb1⟩
  have hB1 := below_then (below_alloc _ _) hb1
  have X1 := (Box.new w #[v1, v2, v3, .int .i64 r] 25).below hb1
  obtain ⟨hz1, p0, p1, p2, p3⟩ := X1.c4
  clear hb1
  obtain ⟨g, hg⟩ : ∃ g, g = goodD bl lv sf r := ⟨_, rfl⟩
  rw [← hg]
  have HG : Hid (g = goodD bl lv sf r) := hg
  clear hg
  cases g with
  | false =>
    go_wp2
    go_ret2
    exact ⟨by rw [← HG.out]; rfl, hB1⟩
  | true =>
    obtain ⟨g1, g2, g3⟩ := good_parts HG.out
    have G2 : Hid (okNs lv bl.length = true) := g2
    clear g1 g2 g3
    cases hlk : lkp nm none lv with
    | none =>
      have HE : Hid (readT bl lv nm true = ⟨#[]⟩ ∧ readB lv nm true = false) := ⟨by simp [readT, hlk], by simp [readB, hlk]⟩
      have HLK : Hid (lkp nm none lv = none) := hlk
      clear hlk
      go_wp2_with fail
      go_region_held3 (fun w' => w'.cell? ⟨w.heap.size, 0, none⟩ = some v1 ∧ w'.cell? ⟨w.heap.size, 1, none⟩ = some v2 ∧ w'.cell? ⟨w.heap.size, 2, none⟩ = some v3 ∧ w'.cell? ⟨w.heap.size, 3, none⟩ = some (.int .i64 r)) (go_keep) (first | (go_at_call 70; refine (liveFiles_any _ bl _ (h1.below hB1.drew) (by omega)).mono ?_; rintro e w2 ⟨u, rfl, ou, hb2'⟩; have hb2 := below_undrew hb2'; obtain ⟨_, p0, p1, p2, p3⟩ := (X1.below hb2).c4) | (go_at_call 69; refine (readNamed_no _ _ bl.length lv _ _ (h2.below (below_then hB1 hb2)) (by omega) (by omega) hs2 (okNs_range G2.out) hnm HLK.out).mono ?_; rintro e w3 ⟨rfl, hb3⟩; obtain ⟨_, p0, p1, p2, p3⟩ := ((X1.below hb2).below hb3).c4))
      go_wp2
      go_ret2
      exact ⟨by rw [← HG.out, HE.out.1, HE.out.2]; rfl, below_then (below_then hB1 hb2) hb3⟩
    | some c =>
      obtain ⟨cn, rfl, hcn⟩ := lkp_range G2.out hlk
      have HE : Hid (readT bl lv nm true = bl[cn].1 ∧ readB lv nm true = true) := ⟨by simp [readT, hlk, hcn], by simp [readB, hlk]⟩
      have HLK : Hid (lkp nm none lv = some (cn : Int)) := hlk
      clear hlk
      go_wp2_with fail
      go_region_held3 (fun w' => w'.cell? ⟨w.heap.size, 0, none⟩ = some v1 ∧ w'.cell? ⟨w.heap.size, 1, none⟩ = some v2 ∧ w'.cell? ⟨w.heap.size, 2, none⟩ = some v3 ∧ w'.cell? ⟨w.heap.size, 3, none⟩ = some (.int .i64 r)) (go_keep) (first | (go_at_call 70; refine (liveFiles_any _ bl _ (h1.below hB1.drew) (by omega)).mono ?_; rintro e w2 ⟨u, rfl, ou, hb2'⟩; have hb2 := below_undrew hb2'; obtain ⟨_, p0, p1, p2, p3⟩ := (X1.below hb2).c4) | (go_at_call 69; refine (readLive_yes _ _ bl lv _ _ cn _ ou (h2.below (below_then hB1 hb2)) (by omega) (by omega) hs2 (okNs_range G2.out) hnm HLK.out hcn).mono ?_; rintro e w3 ⟨rfl, hb3⟩; obtain ⟨_, p0, p1, p2, p3⟩ := ((X1.below hb2).below hb3).c4))
      go_wp2
      go_ret2
      exact ⟨by rw [← HG.out, HE.out.1, HE.out.2]; rfl, below_then (below_then hB1 hb2) hb3⟩
set_option maxRecDepth 100000 in
set_option maxHeartbeats 2000000 in
theorem specRead_any (v1 v2 v3 : Value) (bl lv sf : List (ByteArray × Int)) (r : Int) (nm : ByteArray) (w : World) (h1 : PL w v1 bl) (h2 : PL w v2 lv) (h3 : PL w v3 sf)
    (hn1 : tot bl + bl.length ≤ 1048576) (hn2 : tot lv + lv.length ≤ 1048576) (hn3 : tot sf + sf.length ≤ 1048576) (hs1 : ∀ i (h : i < bl.length), bl[i].1.size ≤ 1048576) (hs2 : ∀ i (h : i < lv.length), lv[i].1.size ≤ 1048576) (hs3 : ∀ i (h : i < sf.length), sf[i].1.size ≤ 1048576) (hnm : nm.size ≤ 1048576) :
    Calls Try.prog 33 #[.agg #[v1, v2, v3, .int .i64 r], .string nm] w fun e w' => e = .returned (.tuple #[.string (readT bl lv nm (goodD bl lv sf r)), .bool (readB lv nm (goodD bl lv sf r))]) ∧ Below w.heap.size w w' := by
  go_enter Try.func33, Try.ntmps33
  go_wp2_with fail
  refine (l1At_any _ lv _ _ (h2.alloc _) (by omega)).mono ?_
  rintro e w1 ⟨⟨k, hk, hbef, haft, rfl⟩, hb1⟩
  have HBA : Hid ((∀ j (hj : j < lv.length), j < k → less lv[j].1 nm = true) ∧ (∀ hk : k < lv.length, less lv[k].1 nm = false)) := ⟨hbef, haft⟩
  clear hbef haft
  have hB1 := below_then (below_alloc _ _) hb1
  have X1 := (Box.new w #[v1, v2, v3, .int .i64 r] 25).below hb1
  obtain ⟨hz1, p0, p1, p2, p3⟩ := X1.c4
  clear hb1
  obtain ⟨hs', hh⟩ : ∃ b : Bool, b = (decide (k < lv.length) && (lv.getD k default).1.toList == nm.toList) := ⟨_, rfl⟩
  rw [← hh]
  have HH : Hid (hs' = (decide (k < lv.length) && (lv.getD k default).1.toList == nm.toList)) := hh
  clear hh
  go_wp2_with fail
  refine (specGood_any _ _ _ bl lv sf _ _ (h1.below hB1) (h2.below hB1) (h3.below hB1) hn1 hn2 hn3 hs1 hs2 hs3).mono ?_
  rintro e w2 ⟨rfl, hb2⟩
  have hB2 := below_then hB1 hb2
  have X2 := X1.below hb2
  clear p0 p1 p2 p3 X1 hz1 hb2
  obtain ⟨hz1, p0, p1, p2, p3⟩ := X2.c4
  have hz2 := hB2.size
  obtain ⟨g, hg⟩ : ∃ g, g = goodD bl lv sf r := ⟨_, rfl⟩
  rw [← hg]
  have HG : Hid (g = goodD bl lv sf r) := hg
  clear hg
  cases g with
  | false =>
    go_wp2
    go_ret2
    exact ⟨by rw [← HG.out]; rfl, hB2⟩
  | true =>
    obtain ⟨g1, g2, g3⟩ := good_parts HG.out
    have G2 : Hid (okNs lv bl.length = true) := g2
    have G1 : Hid (okBs bl = true) := g1
    clear g1 g2 g3
    cases hs' with
    | false =>
      have hlk : lkp nm none lv = none := at_no G2.out nm k HBA.out.1 fun hk' => ⟨HBA.out.2 hk', fun he => by
        have := HH.out
        simp only [hk', decide_true, Bool.true_and, List.getD_eq_getElem?_getD, List.getElem?_eq_getElem hk', Option.getD_some, he, beq_self_eq_true] at this
        cases this⟩
      have HE : Hid (readT bl lv nm true = ⟨#[]⟩ ∧ readB lv nm true = false) := ⟨by simp [readT, hlk], by simp [readB, hlk]⟩
      clear hlk
      go_wp2
      go_ret2
      exact ⟨by rw [← HG.out, HE.out.1, HE.out.2]; rfl, hB2⟩
    | true =>
      have hkl : k < lv.length := by have h := HH.out.symm; rw [Bool.and_eq_true] at h; simpa using h.1
      have hke : lv[k].1 = nm := by
        have h := HH.out.symm; rw [Bool.and_eq_true] at h
        have h2 := h.2
        simp only [List.getD_eq_getElem?_getD, List.getElem?_eq_getElem hkl, Option.getD_some] at h2
        exact toList_inj (by simpa using h2)
      have hlk := at_yes G2.out nm k hkl hke
      obtain ⟨cn, hc, hcn⟩ := lkp_range G2.out hlk
      have hkb := (h2.below hB2)
      have hbb := (h1.below hB2)
      obtain ⟨a2, c2, rfl, hc2⟩ := hkb
      obtain ⟨a1, c1, rfl, hc1⟩ := hbb
      obtain ⟨b2, off2, rfl, hbl2, hcell2⟩ := hc2 (by intro e; simp [e] at hkl)
      obtain ⟨b1, off1, rfl, hbl1, hcell1⟩ := hc1 (by intro e; simp [e] at hcn)
      obtain ⟨s, hse⟩ : ∃ s, s = bl[cn].1 := ⟨_, rfl⟩
      obtain ⟨ts, hts⟩ : ∃ ts, ts = lv[k].1 := ⟨_, rfl⟩
      have hss : s.size ≤ 1048576 := by rw [hse]; exact hs1 cn hcn
      have e0 : w2.cell? ⟨b1, off1 + cn * 2, none⟩ = some (.string s) := by rw [hse]; exact (hcell1 cn hcn).1
      have f1 : w2.cell? ⟨b2, off2 + k * 2 + 1, none⟩ = some (.int .i64 (cn : Int)) := by rw [(hcell2 k hkl).2, hc]
      have HE : Hid (readT bl lv nm true = s ∧ readB lv nm true = true) := ⟨by simp [readT, hlk, hc, hcn, hse], by simp [readB, hlk]⟩
      have i0 : (0 : Int) ≤ (k : Int) := by omega
      have i1 : (k : Int) < (lv.length : Int) := by omega
      have i2 : (0 : Int) ≤ (cn : Int) := by omega
      have i3 : (cn : Int) < (bl.length : Int) := by omega
      clear hcell1 hcell2 hc1 hc2 hlk hc hke hse hts hs1 hs2 hs3 h1 h2 h3
      go_wp2_with fail
      go_quiet (fail)
      go_wp2
      go_ret2
      exact ⟨by rw [← HG.out, HE.out.1, HE.out.2]; rfl, below_drewN hB2 _⟩
end Go.Proofs.Ytoiajjlbajdknaa
