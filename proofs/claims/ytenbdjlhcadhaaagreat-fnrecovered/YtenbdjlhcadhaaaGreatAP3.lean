/-
  ApplyEdit: the program's side.
-/
import Derived.Test.YtenbdjlhcadhaaaGreatAP2
import Derived.Test.YtenbdjlhcadhaaaGreatE9ToBB
import Derived.Test.YtenbdjlhcadhaaaGreatU9
import Derived.Deep.Cut
namespace Go.Proofs.YtenbdjlhcadhaaaGreat
open Go.RowKit Go.Maps
set_option linter.unusedVariables false
set_option maxRecDepth 100000

/-- An edit applied to a version. -/
def apB (nx sq : Int) (l : List Mt) (nx2 sq2 : Int) (dr : List Int) (ad : List Mt) : Bool := goodV nx sq l && goodE nx2 sq2 dr ad && decide (nx ≤ nx2) && decide (sq ≤ sq2) && thTo l dr dr.length && goodV nx2 sq2 (apL l dr ad)
def apX (nx sq : Int) (l : List Mt) (nx2 sq2 : Int) (dr : List Int) (ad : List Mt) : Int := if apB nx sq l nx2 sq2 dr ad then nx2 else 0
def apY (nx sq : Int) (l : List Mt) (nx2 sq2 : Int) (dr : List Int) (ad : List Mt) : Int := if apB nx sq l nx2 sq2 dr ad then sq2 else 0
def apA (nx sq : Int) (l : List Mt) (nx2 sq2 : Int) (dr : List Int) (ad : List Mt) : List Mt := if apB nx sq l nx2 sq2 dr ad then apL l dr ad else []
theorem apA_len (nx sq : Int) (l : List Mt) (nx2 sq2 : Int) (dr : List Int) (ad : List Mt) : (apA nx sq l nx2 sq2 dr ad).length ≤ l.length + ad.length := by
  unfold apA
  split
  · exact apL_len l dr ad
  · simp
theorem mem_dropL {l : List Mt} {dr : List Int} {k : Nat} {x : Mt} (h : x ∈ dropL l dr k) : x ∈ l := (List.mem_filter.1 h).1
theorem ap_sizes {l ad : List Mt} (dr : List Int) (h1 : ∀ i (h : i < l.length), l[i].k.size ≤ 1048576 ∧ l[i].v.size ≤ 1048576) (h2 : ∀ i (h : i < ad.length), ad[i].k.size ≤ 1048576 ∧ ad[i].v.size ≤ 1048576) : ∀ i (h : i < (apL l dr ad).length), (apL l dr ad)[i].k.size ≤ 1048576 ∧ (apL l dr ad)[i].v.size ≤ 1048576 := by
  intro i h
  have hm := (apL_mem l dr ad _).1 (List.getElem_mem h)
  rcases List.mem_append.1 hm with hm | hm
  · obtain ⟨j, hj, e⟩ := List.getElem_of_mem (mem_dropL hm); rw [← e]; exact h1 j hj
  · obtain ⟨j, hj, e⟩ := List.getElem_of_mem hm; rw [← e]; exact h2 j hj
theorem ap_bound {l ad : List Mt} (dr : List Int) (k : Nat) (h1 : goodMs l = true) (h2 : goodMs ad = true) : ∀ x ∈ dropL l dr k ++ ad, 0 ≤ x.n ∧ x.n ≤ 1000000 := by
  intro x hm
  rcases List.mem_append.1 hm with hm | hm
  · obtain ⟨j, hj, e⟩ := List.getElem_of_mem (mem_dropL hm); have := okMt_num (goodMs_ok h1 hj); rw [e] at this; omega
  · obtain ⟨j, hj, e⟩ := List.getElem_of_mem hm; have := okMt_num (goodMs_ok h2 hj); rw [e] at this; omega
theorem ap_adTo {l ad : List Mt} {dr : List Int} (hl : goodMs l = true) : adTo (dropL l dr dr.length) ad ad.length = true ↔ (dropL l dr dr.length ++ ad).Pairwise fun a b => a.n ≠ b.n := by
  rw [adTo_iff (dropL_apart (ms_apart hl) dr _) ad ad.length (Nat.le_refl _), List.take_length]
theorem dr_num {dr : List Int} (h : goodDr dr = true) : ∀ i (h : i < dr.length), 1 ≤ dr[i] ∧ dr[i] ≤ 100000 := by
  intro i hi
  have := goodDr_at h hi
  rw [drAt_eq dr i hi] at this
  simp only [okNum, Bool.and_eq_true, decide_eq_true_eq] at this
  omega

set_option maxHeartbeats 8000000 in
theorem implApply_any (nx sq nx2 sq2 : Int) (va vq vb : Value) (l : List Mt) (dr : List Int) (ad : List Mt) (w : World) (HA : IX w va l) (hvq : IL w vq dr) (hvb : IR w vb ad) (hna : l.length ≤ 1048576) (hnd : dr.length ≤ 1048576) (hnb : ad.length ≤ 1048576) (hsa : ∀ i (h : i < l.length), l[i].k.size ≤ 1048576 ∧ l[i].v.size ≤ 1048576) (hsb : ∀ i (h : i < ad.length), ad[i].k.size ≤ 1048576 ∧ ad[i].v.size ≤ 1048576) :
    Calls Tryz.prog 18 #[.agg #[.int .i64 nx, .int .i64 sq, va], .agg #[.int .i64 nx2, .int .i64 sq2, vq, vb]] w fun e w' => ∃ u, e = .returned (.tuple #[.agg #[.int .i64 (apX nx sq l nx2 sq2 dr ad), .int .i64 (apY nx sq l nx2 sq2 dr ad), u], .bool (apB nx sq l nx2 sq2 dr ad)]) ∧ w'.ownsRow w.heap.size 71 4 u (apA nx sq l nx2 sq2 dr ad).length (flat4 (apA nx sq l nx2 sq2 dr ad)) ∧ Below w.heap.size w w' := by
  obtain ⟨W0, hW0⟩ : ∃ W0, W0 = ((w.alloc (.cells #[.int .i64 nx, .int .i64 sq, va] 35)).alloc (.cells #[.int .i64 nx2, .int .i64 sq2, vq, vb] 26)).alloc (.cells #[.int .i64 0, .int .i64 0, .slice none 0 0] 35) := ⟨_, rfl⟩
  have hB : Below w.heap.size w W0 := by rw [hW0]; exact below3 _ _ _ _
  have X : Box W0 w.heap.size [.int .i64 nx, .int .i64 sq, va] := by rw [hW0]; exact ((Box.new w #[.int .i64 nx, .int .i64 sq, va] 35).alloc _).alloc _
  have Y : Box W0 (w.heap.size + 1) [.int .i64 nx2, .int .i64 sq2, vq, vb] := by
    rw [hW0]
    have := (Box.new (w.alloc (.cells #[.int .i64 nx, .int .i64 sq, va] 35)) #[.int .i64 nx2, .int .i64 sq2, vq, vb] 26).alloc (.cells #[.int .i64 0, .int .i64 0, .slice none 0 0] 35)
    simpa using this
  have R : Box W0 (w.heap.size + 1 + 1) [.int .i64 0, .int .i64 0, .slice none 0 0] := by
    rw [hW0]
    have := Box.new ((w.alloc (.cells #[.int .i64 nx, .int .i64 sq, va] 35)).alloc (.cells #[.int .i64 nx2, .int .i64 sq2, vq, vb] 26)) #[.int .i64 0, .int .i64 0, .slice none 0 0] 35
    simpa using this
  have KA := implGoodV_any nx sq va l _ (HA.below hB) hna hsa
  have KB := fun w h1 h2 => goodEdit_any nx2 sq2 vq vb dr ad w h1 h2 hnd hnb hsb
  have HZS : Hid (∀ i (h : i < (apL l dr ad).length), (apL l dr ad)[i].k.size ≤ 1048576 ∧ (apL l dr ad)[i].v.size ≤ 1048576) := ap_sizes dr hsa hsb
  have HP : Hid (apB nx sq l nx2 sq2 dr ad = (goodV nx sq l && goodE nx2 sq2 dr ad && decide (nx ≤ nx2) && decide (sq ≤ sq2) && thTo l dr dr.length && goodV nx2 sq2 (apL l dr ad)) ∧ apX nx sq l nx2 sq2 dr ad = (if apB nx sq l nx2 sq2 dr ad then nx2 else 0) ∧ apY nx sq l nx2 sq2 dr ad = (if apB nx sq l nx2 sq2 dr ad then sq2 else 0) ∧ apA nx sq l nx2 sq2 dr ad = (if apB nx sq l nx2 sq2 dr ad then apL l dr ad else [])) := ⟨rfl, rfl, rfl, rfl⟩
  have HGA : Hid (goodV nx sq l = true → goodMs l = true ∧ l.length ≤ 30) := fun h => ⟨goodV_ms h, goodV_len h⟩
  have HGB : Hid (goodE nx2 sq2 dr ad = true → (1 ≤ nx2 ∧ nx2 ≤ 100001) ∧ (0 ≤ sq2 ∧ sq2 ≤ 1000000000) ∧ (dr.length ≤ 30 ∧ goodDr dr = true) ∧ (ad.length ≤ 30 ∧ goodMs ad = true)) := goodE_parts
  have HGC : Hid (goodV nx2 sq2 (apL l dr ad) = true → (dropL l dr dr.length ++ ad).Pairwise fun a b => a.n ≠ b.n) := fun h => apL_good (goodV_ms h)
  generalize apB nx sq l nx2 sq2 dr ad = BB at *
  generalize apX nx sq l nx2 sq2 dr ad = RX at *
  generalize apY nx sq l nx2 sq2 dr ad = RY at *
  generalize apA nx sq l nx2 sq2 dr ad = RA at *
  generalize goodV nx sq l = g1 at *
  generalize goodE nx2 sq2 dr ad = g2 at *
  have hva := HA.1
  obtain ⟨a, ca, hve, _⟩ := id hva
  obtain ⟨a2, cq, hve2, _⟩ := id hvq
  obtain ⟨a3, cb, hve3, _⟩ := id hvb
  subst hve hve2 hve3
  clear hsa hsb HA
  obtain ⟨hp, p0, p1, p2, _⟩ := X.c3
  go_enter Tryz.func18, Tryz.ntmps18
  go_wp2_with fail
  rw [← hW0]; clear hW0
  refine KA.mono ?_
  rintro e w1 ⟨rfl, hb1⟩
  replace hB := below_then hB hb1
  replace X := X.below hb1
  replace Y := Y.below hb1
  replace R := R.below hb1
  clear hb1 KA hp p0 p1 p2
  cases g1
  · clear KB
    obtain rfl : BB = false := by rw [HP.out.1]; simp
    obtain ⟨rfl, rfl, rfl⟩ : RX = 0 ∧ RY = 0 ∧ RA = [] := ⟨HP.out.2.1, HP.out.2.2.1, HP.out.2.2.2⟩
    obtain ⟨hr, r0, r1, r2, f0, f1, f2⟩ := R.c3
    have hBE := hB.trans ((put3_chg _ (w.heap.size + 1 + 1) (.int .i64 0) (.int .i64 0) (.slice none 0 0)).below (B := w.heap.size) hB.size (fun k hk => by omega))
    clear HP HGA HGB HGC HZS
    go_wp2
    exact bodyPost_ret (v := .tuple #[.agg #[.int .i64 0, .int .i64 0, .slice none 0 0], .bool false]) (by simp [results, Tryz.results18, go_sem, r0, r1, r2]) rfl ⟨_, rfl, World.ownsRow_nil _ _ _ _, hBE⟩
  have KB2 := KB _ (hvq.below hB) (hvb.below hB)
  clear KB
  obtain ⟨hp, p0, p1, p2, p3, _⟩ := Y.e4
  go_wp2_with fail
  refine KB2.mono ?_
  rintro e w2 ⟨rfl, hb2⟩
  replace hB := below_then hB hb2
  replace X := X.below hb2
  replace Y := Y.below hb2
  replace R := R.below hb2
  clear hb2 KB2 hp p0 p1 p2 p3
  cases g2
  · obtain rfl : BB = false := by rw [HP.out.1]; simp
    obtain ⟨rfl, rfl, rfl⟩ : RX = 0 ∧ RY = 0 ∧ RA = [] := ⟨HP.out.2.1, HP.out.2.2.1, HP.out.2.2.2⟩
    obtain ⟨hr, r0, r1, r2, f0, f1, f2⟩ := R.c3
    have hBE := hB.trans ((put3_chg _ (w.heap.size + 1 + 1) (.int .i64 0) (.int .i64 0) (.slice none 0 0)).below (B := w.heap.size) hB.size (fun k hk => by omega))
    clear HP HGA HGB HGC HZS
    go_wp2
    exact bodyPost_ret (v := .tuple #[.agg #[.int .i64 0, .int .i64 0, .slice none 0 0], .bool false]) (by simp [results, Tryz.results18, go_sem, r0, r1, r2]) rfl ⟨_, rfl, World.ownsRow_nil _ _ _ _, hBE⟩
  obtain ⟨hp, p0, p1, p2, _⟩ := X.c3
  obtain ⟨hq, q0, q1, q2, q3, _⟩ := Y.e4
  by_cases h1 : nx ≤ nx2
  rotate_left
  · obtain rfl : BB = false := by rw [HP.out.1]; simp [h1]
    obtain ⟨rfl, rfl, rfl⟩ : RX = 0 ∧ RY = 0 ∧ RA = [] := ⟨HP.out.2.1, HP.out.2.2.1, HP.out.2.2.2⟩
    obtain ⟨hr, r0, r1, r2, f0, f1, f2⟩ := R.c3
    have hBE := hB.trans ((put3_chg _ (w.heap.size + 1 + 1) (.int .i64 0) (.int .i64 0) (.slice none 0 0)).below (B := w.heap.size) hB.size (fun k hk => by omega))
    clear HP HGA HGB HGC HZS
    go_wp2
    exact bodyPost_ret (v := .tuple #[.agg #[.int .i64 0, .int .i64 0, .slice none 0 0], .bool false]) (by simp [results, Tryz.results18, go_sem, r0, r1, r2]) rfl ⟨_, rfl, World.ownsRow_nil _ _ _ _, hBE⟩
  by_cases h2 : sq ≤ sq2
  rotate_left
  · obtain rfl : BB = false := by rw [HP.out.1]; simp [h2]
    obtain ⟨rfl, rfl, rfl⟩ : RX = 0 ∧ RY = 0 ∧ RA = [] := ⟨HP.out.2.1, HP.out.2.2.1, HP.out.2.2.2⟩
    obtain ⟨hr, r0, r1, r2, f0, f1, f2⟩ := R.c3
    have hBE := hB.trans ((put3_chg _ (w.heap.size + 1 + 1) (.int .i64 0) (.int .i64 0) (.slice none 0 0)).below (B := w.heap.size) hB.size (fun k hk => by omega))
    clear HP HGA HGB HGC HZS
    go_wp2
    exact bodyPost_ret (v := .tuple #[.agg #[.int .i64 0, .int .i64 0, .slice none 0 0], .bool false]) (by simp [results, Tryz.results18, go_sem, r0, r1, r2]) rfl ⟨_, rfl, World.ownsRow_nil _ _ _ _, hBE⟩
  obtain ⟨gA, h30a⟩ := HGA.out (by trivial)
  obtain ⟨_, _, ⟨h30d, gD⟩, h30b, gB⟩ := HGB.out (by trivial)
  have FA := fun w h => filesOf_any (.slice a l.length ca) l w h h30a (fun i h => by have := okMt_num (goodMs_ok gA h); omega)
  have DA := fun bm W h1 h2 h3 => drop_any w bm l.length (mapM l) l (.slice a2 dr.length cq) dr W h1 h2 h3 (means_mapM gA) hvq h30d (dr_num gD)
  have AA := fun bm D W h1 h2 h3 h4 => add_any w bm l.length D (dropL l dr dr.length) (.slice a3 ad.length cb) ad W h1 h2 h3 h4 hvb h30b (by omega) (fun i h => okMt_num (goodMs_ok gB h))
  have HGD : Hid (adTo (dropL l dr dr.length) ad ad.length = true ↔ (dropL l dr dr.length ++ ad).Pairwise fun a b => a.n ≠ b.n) := ap_adTo gA
  have RS0 := fun bm n D W h1 h2 hp h3 => rising_any bm n D (dropL l dr dr.length ++ ad) (apL l dr ad) W h1 h2 (ap_bound dr dr.length gA gB) (apL_rise (ms_rise gA) hp) (apL_mem l dr ad) h3
  have hZl := apL_len l dr ad
  clear HGA HGB gA gB gD
  go_wp2_with fail
  refine (FA _ (hva.below hB)).mono ?_
  rintro e w3 ⟨rfl, M, hb3⟩
  have hbm := hB.size
  have hxm := X.1
  have hym := Y.1
  have hrm := R.1
  replace hB := below_then hB hb3
  replace X := X.below hb3
  replace Y := Y.below hb3
  replace R := R.below hb3
  clear hb3 FA hp p0 p1 p2 hq q0 q1 q2 q3
  generalize w2.heap.size = bm at *
  obtain ⟨hq, q0, q1, q2, q3, _⟩ := Y.e4
  go_wp2_with fail
  refine (DA _ _ hB hbm M).mono ?_
  rintro e w4 ⟨rfl, hD, hC⟩
  have hM3 := M.lt
  have hz4 := hC.size
  replace X := hC.box X (fun h => by omega)
  replace Y := hC.box Y (fun h => by omega)
  replace R := hC.box R (fun h => by omega)
  replace hB := hB.trans (hC.below (B := w.heap.size) hB.size (fun j hj => by omega))
  clear hC M DA hq q0 q1 q2 q3
  generalize thTo l dr dr.length = g3 at *
  cases g3
  · clear HGD RS0 AA hD
    obtain rfl : BB = false := by rw [HP.out.1]; simp
    obtain ⟨rfl, rfl, rfl⟩ : RX = 0 ∧ RY = 0 ∧ RA = [] := ⟨HP.out.2.1, HP.out.2.2.1, HP.out.2.2.2⟩
    obtain ⟨hr, r0, r1, r2, f0, f1, f2⟩ := R.c3
    have hBE := hB.trans ((put3_chg _ (w.heap.size + 1 + 1) (.int .i64 0) (.int .i64 0) (.slice none 0 0)).below (B := w.heap.size) hB.size (fun k hk => by omega))
    clear HP HGC HZS
    go_wp2
    exact bodyPost_ret (v := .tuple #[.agg #[.int .i64 0, .int .i64 0, .slice none 0 0], .bool false]) (by simp [results, Tryz.results18, go_sem, r0, r1, r2]) rfl ⟨_, rfl, World.ownsRow_nil _ _ _ _, hBE⟩
  obtain ⟨D1, M, hM⟩ := hD (by trivial)
  clear hD
  obtain ⟨hq, q0, q1, q2, q3, _⟩ := Y.e4
  go_wp2_with fail
  refine (AA _ _ _ hB hbm M hM).mono ?_
  rintro e w5 ⟨rfl, hD, hC⟩
  have hM4 := M.lt
  have hz5 := hC.size
  replace X := hC.box X (fun h => by omega)
  replace Y := hC.box Y (fun h => by omega)
  replace R := hC.box R (fun h => by omega)
  replace hB := hB.trans (hC.below (B := w.heap.size) hB.size (fun j hj => by omega))
  clear hC M hM AA hq q0 q1 q2 q3
  generalize adTo (dropL l dr dr.length) ad ad.length = g4 at *
  cases g4
  · have hg5 : goodV nx2 sq2 (apL l dr ad) = false := by
      rw [Bool.eq_false_iff]
      intro h
      exact absurd (HGD.out.2 (HGC.out h)) (by simp)
    clear HGD RS0 hD
    obtain rfl : BB = false := by rw [HP.out.1]; simp [hg5]
    obtain ⟨rfl, rfl, rfl⟩ : RX = 0 ∧ RY = 0 ∧ RA = [] := ⟨HP.out.2.1, HP.out.2.2.1, HP.out.2.2.2⟩
    obtain ⟨hr, r0, r1, r2, f0, f1, f2⟩ := R.c3
    have hBE := hB.trans ((put3_chg _ (w.heap.size + 1 + 1) (.int .i64 0) (.int .i64 0) (.slice none 0 0)).below (B := w.heap.size) hB.size (fun k hk => by omega))
    clear HP HGC HZS hg5
    go_wp2
    exact bodyPost_ret (v := .tuple #[.agg #[.int .i64 0, .int .i64 0, .slice none 0 0], .bool false]) (by simp [results, Tryz.results18, go_sem, r0, r1, r2]) rfl ⟨_, rfl, World.ownsRow_nil _ _ _ _, hBE⟩
  obtain ⟨D2, n2, hn2, M, hM⟩ := hD (by trivial)
  have RS := fun W h1 => RS0 bm n2 D2 W h1 hM (HGD.out.1 (by trivial)) (by omega)
  have KC := fun v W h => implGoodV_any nx2 sq2 v (apL l dr ad) W h (by omega) HZS.out
  clear hD hM RS0 HGD HGC HZS
  generalize apL l dr ad = ZA at *
  go_wp2_with fail
  go_cut [7] from 8 (fun s7 wc => ∃ (b : Nat) (S2 : Value), s7 = .pointer (some ⟨b, 0, none⟩) ∧ Box wc (w.heap.size + 1) [.int .i64 nx2, .int .i64 sq2, .slice a2 dr.length cq, .slice a3 ad.length cb] ∧ Box wc (w.heap.size + 1 + 1) [.int .i64 0, .int .i64 0, .slice none 0 0] ∧ Box wc b [.int .i64 nx2, .int .i64 sq2, S2] ∧ wc.ownsRow w.heap.size 71 4 S2 ZA.length (flat4 ZA) ∧ (∀ g, S2.ownBlock = some g → g ≠ b) ∧ (∀ g, S2.ownBlock = some g → g ≠ w.heap.size + 1 + 1) ∧ w.heap.size + 1 + 1 < b ∧ Below w.heap.size w wc)
  case first =>
    clear X KC
    have hD : Below (w5).heap.size (w5) (w5).drew := (Below.refl _ _).drew
    replace hB := below_then hB hD
    replace Y := Y.below hD
    replace R := R.below hD
    replace M := map_below M hD
    clear hD
    refine wp_region_held_drew (S := fun w' => Box w' (w.heap.size + 1) [.int .i64 nx2, .int .i64 sq2, .slice a2 dr.length cq, .slice a3 ad.length cb]) (by kernel_rfl) Y (fun hHeld => ?_)
    generalize (w5).drew = v0 at *
    refine wpAnyH_take (i := 0) (oi := { dst := some 47, op := Op.fieldAddr 26 (Operand.tmp 3) 0, type := 0, pos := "l9_version.go:59", after := #[], guard := none }) (v := .pointer (some ⟨w.heap.size + 1, 0, none⟩)) rfl (by kernel_rfl) (by kernel_rfl) (by kernel_rfl) (fun _ _ _ h => h) (Or.inl ⟨by rfl, ?_⟩) (by assumption) ?_
    · intro wx hSw
      clear hSw hHeld; go_simp
    simp only [Act.put, List.setIfInBounds_toArray, List.set_cons_zero, List.set_cons_succ]
    refine wpAnyH_take (i := 1) (oi := { dst := some 48, op := Op.load 3 (Operand.tmp 47), type := 3, pos := "l9_version.go:59", after := #[{ on := 0, ground := Ground.data }], guard := none }) (v := .int .i64 nx2) rfl (by kernel_rfl) (by kernel_rfl) (by kernel_rfl) (fun _ _ _ h => h) (Or.inl ⟨by rfl, ?_⟩) (by assumption) ?_
    · intro wx hSw
      have e := hSw.2.1 0 _ rfl; clear hHeld; go_simp
    simp only [Act.put, List.setIfInBounds_toArray, List.set_cons_zero, List.set_cons_succ]
    refine wpAnyH_take (i := 2) (oi := { dst := some 49, op := Op.fieldAddr 26 (Operand.tmp 3) 1, type := 0, pos := "l9_version.go:59", after := #[], guard := none }) (v := .pointer (some ⟨w.heap.size + 1, 1, none⟩)) rfl (by kernel_rfl) (by kernel_rfl) (by kernel_rfl) (fun _ _ _ h => h) (Or.inl ⟨by rfl, ?_⟩) (by assumption) ?_
    · intro wx hSw
      clear hSw hHeld; go_simp
    simp only [Act.put, List.setIfInBounds_toArray, List.set_cons_zero, List.set_cons_succ]
    refine wpAnyH_take (i := 3) (oi := { dst := some 50, op := Op.load 3 (Operand.tmp 49), type := 3, pos := "l9_version.go:59", after := #[{ on := 2, ground := Ground.data }], guard := none }) (v := .int .i64 sq2) rfl (by kernel_rfl) (by kernel_rfl) (by kernel_rfl) (fun _ _ _ h => h) (Or.inl ⟨by rfl, ?_⟩) (by assumption) ?_
    · intro wx hSw
      have e := hSw.2.1 1 _ rfl; clear hHeld; go_simp
    simp only [Act.put, List.setIfInBounds_toArray, List.set_cons_zero, List.set_cons_succ]
    refine wpAnyH_take (i := 4) (oi := { dst := some 51, op := Op.move (Operand.tmp 6), type := 76, pos := "l9_version.go:59", after := #[], guard := none }) (v := .map (some bm)) rfl (by kernel_rfl) (by kernel_rfl) (by kernel_rfl) (fun _ _ _ h => h) (Or.inl ⟨by rfl, ?_⟩) (by assumption) ?_
    · intro wx hSw
      clear hSw hHeld; go_simp
    simp only [Act.put, List.setIfInBounds_toArray, List.set_cons_zero, List.set_cons_succ]
    refine wpAnyH_ready (rs := [5, 7]) (by kernel_rfl) (by simp) ?_
    refine (AllReadyH.cons (o := { dst := some 52, op := Op.call { callee := Callee.value (Operand.func 48), args := #[Operand.tmp 51], argTypes := #[76] }, type := 24, pos := "l9_version.go:59", after := #[{ on := 4, ground := Ground.data }], guard := none }) rfl (fun K hK => ?_) (AllReadyH.cons (o := { dst := some 7, op := Op.alloc 35, type := 0, pos := "l9_version.go:59", after := #[], guard := none }) rfl (fun K hK => ?_) AllReadyH.nil))
    · clear hHeld
      go_simp
      refine (RS _ M).mono ?_
      rintro e v1 ⟨u, rfl, O, hbv⟩
      have hzc := hB.size
      have hzR := R.1
      replace hB := below_then hB hbv
      replace Y := Y.below hbv
      replace R := R.below hbv
      replace M := map_below M hbv
      obtain ⟨ua, uc, rfl⟩ := owns_shape O
      have neR := fun g hg => Nat.ne_of_gt (Nat.lt_of_lt_of_le hzR (owns_ge O g hg))
      replace O := owns_mono O hzc
      clear hbv hzc
      refine hK.out _ _ Y (fun hHeld => ?_)
      clear hK K
      refine wpAnyH_take (i := 6) (oi := { dst := some 53, op := Op.build 35 #[(0, Operand.tmp 48), (1, Operand.tmp 50), (2, Operand.tmp 52)], type := 35, pos := "l9_version.go:59", after := #[{ on := 1, ground := Ground.data }, { on := 3, ground := Ground.data }, { on := 5, ground := Ground.data }], guard := none }) (v := .agg #[.int .i64 nx2, .int .i64 sq2, .slice ua ZA.length uc]) rfl (by kernel_rfl) (by kernel_rfl) (by kernel_rfl) (fun _ _ _ h => h) (Or.inl ⟨by rfl, ?_⟩) (by assumption) ?_
      · intro wx hSw
        clear hSw hHeld; go_simp
      simp only [Act.put, List.setIfInBounds_toArray, List.set_cons_zero, List.set_cons_succ]
      refine wpAnyH_ready (rs := [7]) (by kernel_rfl) (by simp) ?_
      refine (AllReadyH.cons (o := { dst := some 7, op := Op.alloc 35, type := 0, pos := "l9_version.go:59", after := #[], guard := none }) rfl (fun K hK => ?_) AllReadyH.nil)
      clear hHeld
      have Z := Box.new v1 #[.int .i64 0, .int .i64 0, .slice none 0 0] 35
      have hkY := Y.1
      have hkR := R.1
      have hkM := M.lt
      have hkO := owns_below_lt O
      have hkw := hB.size
      have hA := below_alloc v1 (.cells #[.int .i64 0, .int .i64 0, .slice none 0 0] 35)
      replace hB := below_then hB hA
      replace Y := Y.below hA
      replace R := R.below hA
      replace M := map_below M hA
      replace O := owns_below O hA
      clear hA
      go_simp
      refine hK.out _ _ Y (fun hHeld => ?_)
      clear hK K
      generalize v1.alloc (.cells #[.int .i64 0, .int .i64 0, .slice none 0 0] 35) = v2 at *
      generalize v1.heap.size = b at *
      have neO := fun g hg => Nat.ne_of_lt (hkO g hg)
      clear hkO
      refine wpAnyH_ready (rs := [8]) (by kernel_rfl) (by simp) ?_
      refine (AllReadyH.cons (o := { dst := none, op := Op.store 35 (Operand.tmp 7) (Operand.tmp 53), type := 0, pos := "l9_version.go:59", after := #[{ on := 7, ground := Ground.data }, { on := 6, ground := Ground.data }, { on := 5, ground := Ground.chain }, { on := 0, ground := Ground.phase }, { on := 1, ground := Ground.phase }, { on := 2, ground := Ground.phase }, { on := 3, ground := Ground.phase }, { on := 4, ground := Ground.phase }, { on := 5, ground := Ground.phase }, { on := 6, ground := Ground.phase }, { on := 7, ground := Ground.phase }], guard := none }) rfl (fun K hK => ?_) AllReadyH.nil)
      clear hHeld
      obtain ⟨zl, t0, t1, t2, f0, f1, f2⟩ := Z.c3
      have hC := put3_chg v2 b (.int .i64 nx2) (.int .i64 sq2) (.slice ua ZA.length uc)
      have Yn := hC.box Y (by omega)
      have Rn := hC.box R (by omega)
      have On := hC.owns O (fun g hg hh => neO g hg hh)
      have Zn := put3_box Z (.int .i64 nx2) (.int .i64 sq2) (.slice ua ZA.length uc)
      have hBn := hB.trans (hC.below (B := w.heap.size) hB.size (fun k hk => by omega))
      clear hC
      go_simp
      refine hK.out _ (put3 v2 b (.int .i64 nx2) (.int .i64 sq2) (.slice ua ZA.length uc)) Yn (fun hHeld => ?_)
      clear hK K t0 t1 t2 f0 f1 f2 hHeld
      refine wpAnyH_done (by kernel_rfl) ?_ _
      go_wp2_with fail
      go_meet
      case rel => exact ⟨b, _, rfl, Yn, Rn, Zn, On, neO, neR, by omega, hBn⟩
    · clear hHeld
      have Z := Box.new v0 #[.int .i64 0, .int .i64 0, .slice none 0 0] 35
      have hkY := Y.1
      have hkR := R.1
      have hkM := M.lt
      have hkw := hB.size
      have hA := below_alloc v0 (.cells #[.int .i64 0, .int .i64 0, .slice none 0 0] 35)
      replace hB := below_then hB hA
      replace Y := Y.below hA
      replace R := R.below hA
      replace M := map_below M hA
      clear hA
      go_simp
      refine hK.out _ _ Y (fun hHeld => ?_)
      clear hK K
      generalize v0.alloc (.cells #[.int .i64 0, .int .i64 0, .slice none 0 0] 35) = v3 at *
      generalize v0.heap.size = b at *
      refine wpAnyH_ready (rs := [5]) (by kernel_rfl) (by simp) ?_
      refine (AllReadyH.cons (o := { dst := some 52, op := Op.call { callee := Callee.value (Operand.func 48), args := #[Operand.tmp 51], argTypes := #[76] }, type := 24, pos := "l9_version.go:59", after := #[{ on := 4, ground := Ground.data }], guard := none }) rfl (fun K hK => ?_) AllReadyH.nil)
      clear hHeld
      go_simp
      refine (RS _ M).mono ?_
      rintro e v4 ⟨u, rfl, O, hbv⟩
      have hzb := Z.1
      have hzc := hB.size
      have hzR := R.1
      replace hB := below_then hB hbv
      replace Y := Y.below hbv
      replace R := R.below hbv
      replace M := map_below M hbv
      replace Z := Z.below hbv
      obtain ⟨ua, uc, rfl⟩ := owns_shape O
      have neO := fun g hg => Nat.ne_of_gt (Nat.lt_of_lt_of_le hzb (owns_ge O g hg))
      have neR := fun g hg => Nat.ne_of_gt (Nat.lt_of_lt_of_le hzR (owns_ge O g hg))
      replace O := owns_mono O hzc
      clear hbv hzc
      refine hK.out _ _ Y (fun hHeld => ?_)
      clear hK K
      refine wpAnyH_take (i := 6) (oi := { dst := some 53, op := Op.build 35 #[(0, Operand.tmp 48), (1, Operand.tmp 50), (2, Operand.tmp 52)], type := 35, pos := "l9_version.go:59", after := #[{ on := 1, ground := Ground.data }, { on := 3, ground := Ground.data }, { on := 5, ground := Ground.data }], guard := none }) (v := .agg #[.int .i64 nx2, .int .i64 sq2, .slice ua ZA.length uc]) rfl (by kernel_rfl) (by kernel_rfl) (by kernel_rfl) (fun _ _ _ h => h) (Or.inl ⟨by rfl, ?_⟩) (by assumption) ?_
      · intro wx hSw
        clear hSw hHeld; go_simp
      simp only [Act.put, List.setIfInBounds_toArray, List.set_cons_zero, List.set_cons_succ]
      refine wpAnyH_ready (rs := [8]) (by kernel_rfl) (by simp) ?_
      refine (AllReadyH.cons (o := { dst := none, op := Op.store 35 (Operand.tmp 7) (Operand.tmp 53), type := 0, pos := "l9_version.go:59", after := #[{ on := 7, ground := Ground.data }, { on := 6, ground := Ground.data }, { on := 5, ground := Ground.chain }, { on := 0, ground := Ground.phase }, { on := 1, ground := Ground.phase }, { on := 2, ground := Ground.phase }, { on := 3, ground := Ground.phase }, { on := 4, ground := Ground.phase }, { on := 5, ground := Ground.phase }, { on := 6, ground := Ground.phase }, { on := 7, ground := Ground.phase }], guard := none }) rfl (fun K hK => ?_) AllReadyH.nil)
      clear hHeld
      obtain ⟨zl, t0, t1, t2, f0, f1, f2⟩ := Z.c3
      have hC := put3_chg v4 b (.int .i64 nx2) (.int .i64 sq2) (.slice ua ZA.length uc)
      have Yn := hC.box Y (by omega)
      have Rn := hC.box R (by omega)
      have On := hC.owns O (fun g hg hh => neO g hg hh)
      have Zn := put3_box Z (.int .i64 nx2) (.int .i64 sq2) (.slice ua ZA.length uc)
      have hBn := hB.trans (hC.below (B := w.heap.size) hB.size (fun k hk => by omega))
      clear hC
      go_simp
      refine hK.out _ (put3 v4 b (.int .i64 nx2) (.int .i64 sq2) (.slice ua ZA.length uc)) Yn (fun hHeld => ?_)
      clear hK K t0 t1 t2 f0 f1 f2 hHeld
      refine wpAnyH_done (by kernel_rfl) ?_ _
      go_wp2_with fail
      go_meet
      case rel => exact ⟨b, _, rfl, Yn, Rn, Zn, On, neO, neR, by omega, hBn⟩
  case rest =>
    clear X Y R hB RS M
    obtain ⟨b, S2, rfl, Y, R, Z, O, hneO, hne2, hbb, hB⟩ := hcut
    obtain ⟨S2a, S2c, rfl⟩ := owns_shape O
    have K2 := KC _ _ (IX_of_owns O rfl)
    obtain ⟨hp, p0, p1, p2, _⟩ := Z.c3
    go_wp2_with fail
    refine K2.mono ?_
    rintro e w6 ⟨rfl, hb6⟩
    replace hB := below_then hB hb6
    replace R := R.below hb6
    replace Z := Z.below hb6
    replace O := owns_below O hb6
    clear hb6 K2 KC hp p0 p1 p2
    generalize goodV nx2 sq2 ZA = g5 at *
    cases g5
    · obtain rfl : BB = false := by rw [HP.out.1]; simp
      obtain ⟨rfl, rfl, rfl⟩ : RX = 0 ∧ RY = 0 ∧ RA = [] := ⟨HP.out.2.1, HP.out.2.2.1, HP.out.2.2.2⟩
      obtain ⟨hr, r0, r1, r2, f0, f1, f2⟩ := R.c3
      have hBE := hB.trans ((put3_chg _ (w.heap.size + 1 + 1) (.int .i64 0) (.int .i64 0) (.slice none 0 0)).below (B := w.heap.size) hB.size (fun k hk => by omega))
      clear HP
      go_wp2
      exact bodyPost_ret (v := .tuple #[.agg #[.int .i64 0, .int .i64 0, .slice none 0 0], .bool false]) (by simp [results, Tryz.results18, go_sem, r0, r1, r2]) rfl ⟨_, rfl, World.ownsRow_nil _ _ _ _, hBE⟩
    obtain rfl : BB = true := by rw [HP.out.1]; simp [h1, h2]
    have hRX : nx2 = RX := HP.out.2.1.symm
    have hRY : sq2 = RY := HP.out.2.2.1.symm
    have hRA : ZA = RA := HP.out.2.2.2.symm
    subst hRX hRY hRA
    clear HP
    obtain ⟨hp, p0, p1, p2, _⟩ := Z.c3
    obtain ⟨hr, r0, r1, r2, f0, f1, f2⟩ := R.c3
    have hCE := put3_chg w6 (w.heap.size + 1 + 1) (.int .i64 nx2) (.int .i64 sq2) (.slice S2a ZA.length S2c)
    have OE := hCE.owns O (fun g hg hh => hne2 g hg hh)
    have hBE := hB.trans (hCE.below (B := w.heap.size) hB.size (fun k hk => by omega))
    clear hCE
    go_wp2
    exact bodyPost_ret (v := .tuple #[.agg #[.int .i64 nx2, .int .i64 sq2, .slice S2a ZA.length S2c], .bool true]) (by simp [results, Tryz.results18, go_sem, r0, r1, r2]) rfl ⟨_, rfl, OE, hBE⟩
end Go.Proofs.YtenbdjlhcadhaaaGreat
