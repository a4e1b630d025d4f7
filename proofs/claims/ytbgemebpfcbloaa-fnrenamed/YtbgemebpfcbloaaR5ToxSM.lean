/-
  spec.ReadFile, impl.ReadFile, spec.SafeFile, impl.SafeFile.
  impl.SafeFile.
  What is safe is there after a crash, what is renamed has its bytes: plainly.
  laws.sameTexts of two that are the same.
-/
import Derived.Test.YtbgemebpfcbloaaR4
import Derived.Deep.RegionHeld3
import Derived.Deep.DrawnRows
import Derived.Test.YtbgemebpfcbloaaU3ToU5
import Derived.Test.YtbgemebpfcbloaaS1ToR1
namespace Go.Proofs.Ytbgemebpfcbloaa
open Go.RowKit Go.Maps
set_option maxRecDepth 100000
set_option linter.unusedVariables false

/-- What ReadFile answers. -/
def readT (bl lv : List (ByteArray × Int)) (nm : ByteArray) (g : Bool) : ByteArray := match g, lkp nm none lv with | true, some c => (bl.getD c.toNat default).1 | _, _ => ⟨#[]⟩
def readB (lv : List (ByteArray × Int)) (nm : ByteArray) (g : Bool) : Bool := g && (lkp nm none lv).isSome
theorem good_parts {bl lv sf : List (ByteArray × Int)} {r : Int} (h : true = goodD bl lv sf r) : okBs bl = true ∧ okNs lv bl.length = true ∧ okNs sf bl.length = true := by
  have h := h.symm
  simp only [goodD, Bool.and_eq_true] at h; exact ⟨h.1.1.1.1.1, h.1.1.1.2, h.1.1.2⟩
theorem lkp_mem (nm : ByteArray) (o : Option Int) (l : List (ByteArray × Int)) (c : Int) (h : lkp nm o l = some c) : o = some c ∨ ∃ i, ∃ hi : i < l.length, l[i].2 = c := by
  induction l generalizing o with
  | nil => exact .inl h
  | cons x r ih =>
    rcases ih _ h with h1 | ⟨i, hi, h1⟩
    · split at h1
      · exact .inr ⟨0, by simp, by simpa using h1⟩
      · exact .inl h1
    · exact .inr ⟨i + 1, by simpa using hi, by simpa using h1⟩
theorem lkp_range {l : List (ByteArray × Int)} {n : Nat} (hr : okNs l n = true) {nm : ByteArray} {c : Int} (h : lkp nm none l = some c) : ∃ cn : Nat, c = (cn : Int) ∧ cn < n := by
  rcases lkp_mem nm none l c h with h1 | ⟨i, hi, h1⟩
  · cases h1
  · have := okNs_range hr i hi
    exact ⟨c.toNat, by omega, by omega⟩

set_option maxRecDepth 100000 in
set_option maxHeartbeats 2000000 in
theorem implRead_any (v1 v2 v3 : Value) (bl lv sf : List (ByteArray × Int)) (r : Int) (nm : ByteArray) (w : World) (h1 : PL w v1 bl) (h2 : PL w v2 lv) (h3 : PL w v3 sf)
    (hn1 : tot bl + bl.length ≤ 1048576) (hn2 : tot lv + lv.length ≤ 1048576) (hn3 : tot sf + sf.length ≤ 1048576) (hs1 : ∀ i (h : i < bl.length), bl[i].1.size ≤ 1048576) (hs2 : ∀ i (h : i < lv.length), lv[i].1.size ≤ 1048576) (hs3 : ∀ i (h : i < sf.length), sf[i].1.size ≤ 1048576) (hnm : nm.size ≤ 1048576) :
    Calls Try.prog 18 #[.agg #[v1, v2, v3, .int .i64 r], .string nm] w fun e w' => e = .returned (.tuple #[.string (readT bl lv nm (goodD bl lv sf r)), .bool (readB lv nm (goodD bl lv sf r))]) ∧ Below w.heap.size w w' := by
  go_enter Try.func18, Try.ntmps18
  go_wp2_with fail
  refine (implGood_any _ _ _ bl lv sf _ _ (h1.alloc _) (h2.alloc _) (h3.alloc _) hn1 hn2 hn3 hs1 hs2 hs3).mono ?_
  rintro e w1 ⟨rfl, hb1⟩
  have hB1 := below_then (below_alloc _ _) hb1
  have X1 := (Box.new w #[v1, v2, v3, .int .i64 r] 26).below hb1
  obtain ⟨hz1, p0, p1, p2, p3⟩ := X1.c4
  clear hb1
  obtain ⟨g, hg⟩ : ∃ g, g = goodD bl lv sf r := ⟨_, rfl⟩
  rw [← hg]
  have HG : Hid (g = goodD bl lv sf r) := hg
  clear hg
  cases g with
  | false =>
    go_wp2
    go_ret2
    exact ⟨by rw [← HG.out]; rfl, hB1⟩
  | true =>
    obtain ⟨g1, g2, g3⟩ := good_parts HG.out
    have G2 : Hid (okNs lv bl.length = true) := g2
    clear g1 g2 g3
    cases hlk : lkp nm none lv with
    | none =>
      have HE : Hid (readT bl lv nm true = ⟨#[]⟩ ∧ readB lv nm true = false) := ⟨by simp [readT, hlk], by simp [readB, hlk]⟩
      have HLK : Hid (lkp nm none lv = none) := hlk
      clear hlk
      go_wp2_with fail
      go_region_held3 (fun w' => w'.cell? ⟨w.heap.size, 0, none⟩ = some v1 ∧ w'.cell? ⟨w.heap.size, 1, none⟩ = some v2 ∧ w'.cell? ⟨w.heap.size, 2, none⟩ = some v3 ∧ w'.cell? ⟨w.heap.size, 3, none⟩ = some (.int .i64 r)) (go_keep) (first | (go_at_call 66; refine (liveFiles_any _ bl _ (h1.below hB1.drew) (by omega)).mono ?_; rintro e w2 ⟨u, rfl, ou, hb2'⟩; have hb2 := below_undrew hb2'; obtain ⟨_, p0, p1, p2, p3⟩ := (X1.below hb2).c4) | (go_at_call 64; refine (readNamed_no _ _ bl.length lv _ _ (h2.below (below_then hB1 hb2)) (by omega) (by omega) hs2 (okNs_range G2.out) hnm HLK.out).mono ?_; rintro e w3 ⟨rfl, hb3⟩; obtain ⟨_, p0, p1, p2, p3⟩ := ((X1.below hb2).below hb3).c4))
      go_wp2
      go_ret2
      exact ⟨by rw [← HG.out, HE.out.1, HE.out.2]; rfl, below_then (below_then hB1 hb2) hb3⟩
    | some c =>
      obtain ⟨cn, rfl, hcn⟩ := lkp_range G2.out hlk
      have HE : Hid (readT bl lv nm true = bl[cn].1 ∧ readB lv nm true = true) := ⟨by simp [readT, hlk, hcn], by simp [readB, hlk]⟩
      have HLK : Hid (lkp nm none lv = some (cn : Int)) := hlk
      clear hlk
      go_wp2_with fail
      go_region_held3 (fun w' => w'.cell? ⟨w.heap.size, 0, none⟩ = some v1 ∧ w'.cell? ⟨w.heap.size, 1, none⟩ = some v2 ∧ w'.cell? ⟨w.heap.size, 2, none⟩ = some v3 ∧ w'.cell? ⟨w.heap.size, 3, none⟩ = some (.int .i64 r)) (go_keep) (first | (go_at_call 66; refine (liveFiles_any _ bl _ (h1.below hB1.drew) (by omega)).mono ?_; rintro e w2 ⟨u, rfl, ou, hb2'⟩; have hb2 := below_undrew hb2'; obtain ⟨_, p0, p1, p2, p3⟩ := (X1.below hb2).c4) | (go_at_call 64; refine (readLive_yes _ _ bl lv _ _ cn _ ou (h2.below (below_then hB1 hb2)) (by omega) (by omega) hs2 (okNs_range G2.out) hnm HLK.out hcn).mono ?_; rintro e w3 ⟨rfl, hb3⟩; obtain ⟨_, p0, p1, p2, p3⟩ := ((X1.below hb2).below hb3).c4))
      go_wp2
      go_ret2
      exact ⟨by rw [← HG.out, HE.out.1, HE.out.2]; rfl, below_then (below_then hB1 hb2) hb3⟩
end Go.Proofs.Ytbgemebpfcbloaa

namespace Go.Proofs.Ytbgemebpfcbloaa
open Go.RowKit Go.Maps
set_option linter.unusedVariables false

/-- What SafeFile answers. -/
def safeT (bl sf : List (ByteArray × Int)) (nm : ByteArray) (g : Bool) : ByteArray := match g, lkp nm none sf with | true, some c => (bl.getD c.toNat default).1.extract 0 (bl.getD c.toNat default).2.toNat | _, _ => ⟨#[]⟩
theorem okBs_sync {bl : List (ByteArray × Int)} (h : okBs bl = true) (i : Nat) (hi : i < bl.length) : ∃ mn : Nat, bl[i].2 = (mn : Int) ∧ mn ≤ bl[i].1.size := by
  unfold okBs at h
  rw [List.all_eq_true] at h
  have h1 := h bl[i] (List.getElem_mem _)
  simp only [okB, Bool.and_eq_true, decide_eq_true_eq] at h1
  exact ⟨bl[i].2.toNat, by omega, by omega⟩

set_option maxRecDepth 100000 in
set_option maxHeartbeats 2000000 in
theorem implSafe_any (v1 v2 v3 : Value) (bl lv sf : List (ByteArray × Int)) (r : Int) (nm : ByteArray) (w : World) (h1 : PL w v1 bl) (h2 : PL w v2 lv) (h3 : PL w v3 sf)
    (hn1 : tot bl + bl.length ≤ 1048576) (hn2 : tot lv + lv.length ≤ 1048576) (hn3 : tot sf + sf.length ≤ 1048576) (hs1 : ∀ i (h : i < bl.length), bl[i].1.size ≤ 1048576) (hs2 : ∀ i (h : i < lv.length), lv[i].1.size ≤ 1048576) (hs3 : ∀ i (h : i < sf.length), sf[i].1.size ≤ 1048576) (hnm : nm.size ≤ 1048576) :
    Calls Try.prog 17 #[.agg #[v1, v2, v3, .int .i64 r], .string nm] w fun e w' => e = .returned (.tuple #[.string (safeT bl sf nm (goodD bl lv sf r)), .bool (readB sf nm (goodD bl lv sf r))]) ∧ Below w.heap.size w w' := by
  go_enter Try.func17, Try.ntmps17
  go_wp2_with fail
  refine (implGood_any _ _ _ bl lv sf _ _ (h1.alloc _) (h2.alloc _) (h3.alloc _) hn1 hn2 hn3 hs1 hs2 hs3).mono ?_
  rintro e w1 ⟨rfl, hb1⟩
  have hB1 := below_then (below_alloc _ _) hb1
  have X1 := (Box.new w #[v1, v2, v3, .int .i64 r] 26).below hb1
  obtain ⟨hz1, p0, p1, p2, p3⟩ := X1.c4
  clear hb1
  obtain ⟨g, hg⟩ : ∃ g, g = goodD bl lv sf r := ⟨_, rfl⟩
  rw [← hg]
  have HG : Hid (g = goodD bl lv sf r) := hg
  clear hg
  cases g with
  | false =>
    go_wp2
    go_ret2
    exact ⟨by rw [← HG.out]; rfl, hB1⟩
  | true =>
    obtain ⟨g1, g2, g3⟩ := good_parts HG.out
    have G2 : Hid (okNs sf bl.length = true) := g3
    have G1 : Hid (okBs bl = true) := g1
    clear g1 g2 g3
    cases hlk : lkp nm none sf with
    | none =>
      have HE : Hid (safeT bl sf nm true = ⟨#[]⟩ ∧ readB sf nm true = false) := ⟨by simp [safeT, hlk], by simp [readB, hlk]⟩
      have HLK : Hid (lkp nm none sf = none) := hlk
      clear hlk
      go_wp2_with fail
      go_region_held3 (fun w' => w'.cell? ⟨w.heap.size, 0, none⟩ = some v1 ∧ w'.cell? ⟨w.heap.size, 1, none⟩ = some v2 ∧ w'.cell? ⟨w.heap.size, 2, none⟩ = some v3 ∧ w'.cell? ⟨w.heap.size, 3, none⟩ = some (.int .i64 r)) (go_keep) (first | (go_at_call 65; refine (crashedFiles_any _ bl _ _ (h1.below hB1.drew) (by omega)).mono ?_; rintro e w2 ⟨u, rfl, ou, hb2'⟩; have hb2 := below_undrew hb2'; obtain ⟨_, p0, p1, p2, p3⟩ := (X1.below hb2).c4) | (go_at_call 64; refine (readNamed_no _ _ bl.length sf _ _ (h3.below (below_then hB1 hb2)) (by omega) (by omega) hs3 (okNs_range G2.out) hnm HLK.out).mono ?_; rintro e w3 ⟨rfl, hb3⟩; obtain ⟨_, p0, p1, p2, p3⟩ := ((X1.below hb2).below hb3).c4))
      go_wp2
      go_ret2
      exact ⟨by rw [← HG.out, HE.out.1, HE.out.2]; rfl, below_then (below_then hB1 hb2) hb3⟩
    | some c =>
      obtain ⟨cn, rfl, hcn⟩ := lkp_range G2.out hlk
      obtain ⟨mn, hmn, hms⟩ := okBs_sync G1.out cn hcn
      have HE : Hid (safeT bl sf nm true = bl[cn].1.extract 0 mn ∧ readB sf nm true = true) := ⟨by
        simp [safeT, hlk, hcn, hmn], by simp [readB, hlk]⟩
      have hs1c := hs1 cn hcn
      have HLK : Hid (lkp nm none sf = some (cn : Int)) := hlk
      clear hlk
      go_wp2_with fail
      go_region_held3 (fun w' => w'.cell? ⟨w.heap.size, 0, none⟩ = some v1 ∧ w'.cell? ⟨w.heap.size, 1, none⟩ = some v2 ∧ w'.cell? ⟨w.heap.size, 2, none⟩ = some v3 ∧ w'.cell? ⟨w.heap.size, 3, none⟩ = some (.int .i64 r)) (go_keep) (first | (go_at_call 65; refine (crashedFiles_any _ bl _ _ (h1.below hB1.drew) (by omega)).mono ?_; rintro e w2 ⟨u, rfl, ou, hb2'⟩; have hb2 := below_undrew hb2'; obtain ⟨_, p0, p1, p2, p3⟩ := (X1.below hb2).c4) | (go_at_call 64; refine (readCrash_yes _ _ bl sf _ _ cn mn 0 _ ou (h3.below (below_then hB1 hb2)) (by omega) (by omega) hs3 (okNs_range G2.out) hnm HLK.out hcn hmn (by omega) (by omega) hs1c).mono ?_; rintro e w3 ⟨rfl, hb3⟩; obtain ⟨_, p0, p1, p2, p3⟩ := ((X1.below hb2).below hb3).c4))
      go_wp2
      go_ret2
      exact ⟨by rw [← HG.out, HE.out.1, HE.out.2]; rfl, below_then (below_then hB1 hb2) hb3⟩
end Go.Proofs.Ytbgemebpfcbloaa

namespace Go.Proofs.Ytbgemebpfcbloaa
open Go.RowKit
set_option linter.unusedVariables false
set_option maxRecDepth 100000

theorem bk_crash {bl lv sf : List (ByteArray × Int)} {r kp : Int} (h0 : 0 ≤ kp) (h1 : kp ≤ 4000) : refuse 8 ⟨#[]⟩ ⟨#[]⟩ ⟨#[]⟩ kp bl lv sf r = 0 := by
  have e1 : goodS 8 ⟨#[]⟩ ⟨#[]⟩ ⟨#[]⟩ kp = true := by
    show (decide (((⟨#[]⟩ : ByteArray).size : Int) ≤ 4000) && (decide (0 ≤ kp) && decide (kp ≤ 4000))) = true
    rw [decide_eq_true h0, decide_eq_true h1]; rfl
  unfold refuse
  rw [e1]
  rfl
theorem do_crash {bl lv sf : List (ByteArray × Int)} {r kp : Int} (hg : goodD bl lv sf r = true) (h0 : 0 ≤ kp) (h1 : kp ≤ 4000) :
    doC 8 ⟨#[]⟩ ⟨#[]⟩ ⟨#[]⟩ kp bl lv sf r = 0 ∧ doB 8 ⟨#[]⟩ ⟨#[]⟩ ⟨#[]⟩ kp bl lv sf r = bl.map (crB kp.toNat) ∧ doL 8 ⟨#[]⟩ ⟨#[]⟩ ⟨#[]⟩ kp bl lv sf r = sf ∧ doS 8 ⟨#[]⟩ ⟨#[]⟩ ⟨#[]⟩ kp bl lv sf r = sf ∧ doR bl lv sf r = r := by
  have e := bk_crash (bl := bl) (lv := lv) (sf := sf) (r := r) h0 h1
  refine ⟨?_, ?_, ?_, ?_, ?_⟩
  · simp only [doC, hg, if_true, e]
  · simp only [doB, hg, if_true, e]; rfl
  · simp only [doL, hg, if_true, e]; rfl
  · simp only [doS, hg, if_true, e]; rfl
  · simp only [doR, hg, if_true]
theorem do_names {bl lv sf : List (ByteArray × Int)} {r : Int} (hg : goodD bl lv sf r = true) :
    doC 7 ⟨#[]⟩ ⟨#[]⟩ ⟨#[]⟩ 0 bl lv sf r = 0 ∧ doB 7 ⟨#[]⟩ ⟨#[]⟩ ⟨#[]⟩ 0 bl lv sf r = bl ∧ doL 7 ⟨#[]⟩ ⟨#[]⟩ ⟨#[]⟩ 0 bl lv sf r = lv ∧ doS 7 ⟨#[]⟩ ⟨#[]⟩ ⟨#[]⟩ 0 bl lv sf r = lv ∧ doR bl lv sf r = r := by
  have e : refuse 7 ⟨#[]⟩ ⟨#[]⟩ ⟨#[]⟩ 0 bl lv sf r = 0 := rfl
  refine ⟨?_, ?_, ?_, ?_, ?_⟩
  · simp only [doC, hg, if_true, e]
  · simp only [doB, hg, if_true, e]; rfl
  · simp only [doL, hg, if_true, e]; rfl
  · simp only [doS, hg, if_true, e]; rfl
  · simp only [doR, hg, if_true]
def newT : ByteArray := ⟨#[110, 101, 119]⟩
theorem do_rename {bl lv sf : List (ByteArray × Int)} {r : Int} (hg : goodD bl lv sf r = true) {nm : ByteArray} {cn : Nat} (hl : lkp nm none lv = some (cn : Int)) (hn : okN nm = true) :
    doC 4 nm newT ⟨#[]⟩ 0 bl lv sf r = 0 ∧ doB 4 nm newT ⟨#[]⟩ 0 bl lv sf r = bl ∧ doL 4 nm newT ⟨#[]⟩ 0 bl lv sf r = putL (woutL lv nm) newT cn ∧ doS 4 nm newT ⟨#[]⟩ 0 bl lv sf r = sf ∧ doR bl lv sf r = r := by
  have e1 : goodS 4 nm newT ⟨#[]⟩ 0 = true := by
    show (decide (((⟨#[]⟩ : ByteArray).size : Int) ≤ 4000) && (okN nm && okN newT)) = true
    rw [hn]; rfl
  have e : refuse 4 nm newT ⟨#[]⟩ 0 bl lv sf r = 0 := by
    unfold refuse
    rw [e1, hl]
    rfl
  have ec : cbOf nm lv = cn := by simp [cbOf, hl]
  refine ⟨?_, ?_, ?_, ?_, ?_⟩
  · simp only [doC, hg, if_true, e]
  · simp only [doB, hg, if_true, e]; rfl
  · simp only [doL, hg, if_true, e]
    show putL (woutL lv nm) newT (cbOf nm lv : Int) = _
    rw [ec]
  · simp only [doS, hg, if_true, e]; rfl
  · simp only [doR, hg, if_true]
theorem good_do {bl lv sf : List (ByteArray × Int)} {r : Int} (hg : goodD bl lv sf r = true) (k : Int) (nm ot da : ByteArray) (kp : Int) :
    goodD (doB k nm ot da kp bl lv sf r) (doL k nm ot da kp bl lv sf r) (doS k nm ot da kp bl lv sf r) r = true := by
  simp only [doB, doL, doS, hg, if_true]
  by_cases h0 : refuse k nm ot da kp bl lv sf r = 0
  · rw [if_pos h0, if_pos h0, if_pos h0]; exact good_next hg h0
  · rw [if_neg h0, if_neg h0, if_neg h0]; exact hg
theorem ba_ext0 (s : ByteArray) (a b : Nat) : (s.extract 0 a).extract 0 b = s.extract 0 (min a b) := by
  rw [ByteArray.extract_extract]
  simp [Nat.min_comm]
/-- What is read of a crashed disk, and what was safe. -/
theorem safe_read {bl sf : List (ByteArray × Int)} {nm : ByteArray} {cn kp : Nat} (hB : okBs bl = true) (hl : lkp nm none sf = some (cn : Int)) (hc : cn < bl.length) :
    ∃ S D : ByteArray, safeT bl sf nm true = S ∧ readT (bl.map (crB kp)) sf nm true = D ∧ safeT (bl.map (crB kp)) sf nm true = D ∧ S.size ≤ D.size ∧ D.size ≤ bl[cn].1.size ∧ D.extract 0 S.size = S ∧ bl[cn].1.extract 0 D.size = D ∧ (kp = 0 → D = S) := by
  obtain ⟨mn, hm, hms⟩ := okBs_sync hB cn hc
  have ez : (crB kp bl[cn]).1.size = min bl[cn].1.size (mn + kp) := by rw [crB_size, hm, Int.toNat_natCast]
  have e2 : (crB kp bl[cn]).1 = bl[cn].1.extract 0 (min bl[cn].1.size (mn + kp)) := by simp only [crB, hm, Int.toNat_natCast]
  have e3 : (crB kp bl[cn]).2 = ((min bl[cn].1.size (mn + kp) : Nat) : Int) := by simp only [crB, hm, Int.toNat_natCast]
  have eS : safeT bl sf nm true = bl[cn].1.extract 0 mn := by simp [safeT, hl, hc, hm]
  have eD : readT (bl.map (crB kp)) sf nm true = (crB kp bl[cn]).1 := by simp [readT, hl, hc]
  have eA : safeT (bl.map (crB kp)) sf nm true = (crB kp bl[cn]).1 := by
    have : safeT (bl.map (crB kp)) sf nm true = (crB kp bl[cn]).1.extract 0 (crB kp bl[cn]).2.toNat := by simp [safeT, hl, hc]
    rw [this, e3, Int.toNat_natCast, e2, ba_ext0, Nat.min_self]
  have hsz : (bl[cn].1.extract 0 mn).size = mn := by rw [ByteArray.size_extract]; omega
  refine ⟨_, _, eS, eD, eA, ?_, ?_, ?_, ?_, ?_⟩
  · rw [hsz, ez]; omega
  · rw [ez]; omega
  · rw [hsz, e2, ba_ext0]; congr 1; omega
  · rw [ez, ← e2]
  · intro h; subst h; rw [e2]; congr 1; omega
theorem row_of {bl lv sf : List (ByteArray × Int)} {r : Int} (hg : goodD bl lv sf r = true) {l : List (ByteArray × Int)} (ho : okNs l bl.length = true) (i : Nat) (hi : i < l.length) :
    ∃ cn : Nat, l[i].2 = (cn : Int) ∧ cn < bl.length ∧ lkp l[i].1 none l = some (cn : Int) ∧ okN l[i].1 = true := by
  have h1 := okNs_range ho i hi
  have h2 := at_yes ho l[i].1 i hi rfl
  have h3 := ((okNs_iff _ _).1 ho).2.1 l[i] (List.getElem_mem _)
  exact ⟨l[i].2.toNat, by omega, by omega, by rw [h2]; congr 1; omega, h3.1⟩
/-- Behind a renaming. -/
theorem renamed {bl lv sf : List (ByteArray × Int)} {r : Int} (hg : goodD bl lv sf r = true) (j : Nat) (hj : j < lv.length) :
    ∃ (cn : Nat) (L : List (ByteArray × Int)), cn < bl.length ∧ lkp lv[j].1 none lv = some (cn : Int) ∧ okN lv[j].1 = true ∧ putL (woutL lv lv[j].1) newT cn = L ∧ goodD bl L sf r = true ∧ lkp newT none L = some (cn : Int) ∧ readT bl lv lv[j].1 true = readT bl L newT true ∧ readB L newT true = true ∧ readB lv lv[j].1 true = true ∧ readB L lv[j].1 true = (lv[j].1.toList == newT.toList) := by
  obtain ⟨h1, h2, h3, h4, h5, h6⟩ := (goodD_iff _ _ _ _).1 hg
  obtain ⟨cn, e1, hc, hl, hn⟩ := row_of hg h3 j hj
  have hr := ris_of_ok h3
  have hr2 := ris_wout hr lv[j].1
  have hL := lkp_put hr2 newT cn
  refine ⟨cn, _, hc, hl, hn, rfl, good_rename hg (by decide) hl, hL, ?_, ?_, ?_, ?_⟩
  · simp [readT, hl, hL]
  · simp [readB, hL]
  · simp [readB, hl]
  · by_cases hne : lv[j].1 = newT
    · rw [hne] at hL ⊢
      rw [hne] at hr2
      simp [readB, hL]
    · have : lkp lv[j].1 none (putL (woutL lv lv[j].1) newT cn) = none := by
        rw [lkp_put_ne hr2 cn hne, lkp_wout hr]
      rw [readB, this]
      have h9 : (lv[j].1.toList == newT.toList) = false := by
        rw [beq_eq_false_iff_ne]
        intro h
        exact hne (ByteArray.ext (Array.ext' (by simpa [ByteArray.toList_eq] using h)))
      rw [h9]; rfl
end Go.Proofs.Ytbgemebpfcbloaa

namespace Go.Proofs.Ytbgemebpfcbloaa
open Go.RowKit
set_option linter.unusedVariables false
set_option maxRecDepth 100000

set_option maxHeartbeats 2000000 in
theorem sameTexts_sm (u v : Value) (l : List ByteArray) (w : World) (hu : SL w u l) (hv : SL w v l) (hn : l.length ≤ 1048576) :
    Calls Try.prog 19 #[u, v] w fun e w' => e = .returned (.bool true) ∧ Below w.heap.size w w' := by
  obtain ⟨a, cap, rfl, hc⟩ := hu
  obtain ⟨a', cap', rfl, hc'⟩ := hv
  go_enter Try.func19, Try.ntmps19
  go_wp2
  go_loopw [13] (fun i wr => ∃ k : Nat, k ≤ l.length ∧ i = .int .i64 k ∧ Below w.heap.size w wr) (fun i _ => l.length - (intOf i).toNat)
  case atStart => exact ⟨0, Nat.zero_le _, rfl, Below.refl _ _⟩
  case round =>
    obtain ⟨k, hk, rfl, hb⟩ := hrel
    by_cases hlt : k < l.length
    · obtain ⟨b, off, rfl, hbl, hcell⟩ := hc (by intro e; simp [e] at hlt)
      obtain ⟨b', off', rfl, hbl', hcell'⟩ := hc' (by intro e; simp [e] at hlt)
      obtain ⟨s, hse⟩ : ∃ s, s = l[k] := ⟨_, rfl⟩
      have hc0 := (hb.cell (p := ⟨b, off + k, none⟩) hbl).trans (hcell k hlt)
      have hd0 := (hb.cell (p := ⟨b', off' + k, none⟩) hbl').trans (hcell' k hlt)
      rw [← hse] at hc0 hd0
      clear hcell hse hc hcell' hc'
      have hz := hb.size
      go_wp2_with fail
      go_quiet (fail)
      go_wp2
      go_roundw
      case rel => exact ⟨k + 1, by omega, by go_num, below_drewN hb _⟩
      case measure => simp [intOf]; omega
    · clear hc hc'
      go_wp2
      go_ret
      exact ⟨rfl, hb⟩
end Go.Proofs.Ytbgemebpfcbloaa
