/-
  EditBetween: the program's side.
-/
import Derived.Test.YtenbdjlhcadhaaaLK
import Derived.Test.YtenbdjlhcadhaaaO9
import Derived.Test.YtenbdjlhcadhaaaW9
import Derived.Deep.Cut
namespace Go.Proofs.Ytenbdjlhcadhaaa
open Go.RowKit Go.Maps
set_option linter.unusedVariables false
set_option maxRecDepth 100000

def put4 (w : World) (b : Nat) (v0 v1 v2 v3 : Value) : World := (((w.setCell ⟨b, 0, none⟩ v0).setCell ⟨b, 1, none⟩ v1).setCell ⟨b, 2, none⟩ v2).setCell ⟨b, 3, none⟩ v3
theorem put4_chg (w : World) (b : Nat) (v0 v1 v2 v3 : Value) : Chg (· = b) w (put4 w b v0 v1 v2 v3) := Chg.setCell (S := fun k => k = b) (p := ⟨b, 3, none⟩) (Chg.setCell (S := fun k => k = b) (p := ⟨b, 2, none⟩) (Chg.setCell (S := fun k => k = b) (p := ⟨b, 1, none⟩) (Chg.setCell (S := fun k => k = b) (p := ⟨b, 0, none⟩) (Chg.refl _ _) rfl _) rfl _) rfl _) rfl _
theorem put4_box {w : World} {b : Nat} {u0 u1 u2 u3 : Value} (h : Box w b [u0, u1, u2, u3]) (v0 v1 v2 v3 : Value) : Box (put4 w b v0 v1 v2 v3) b [v0, v1, v2, v3] :=
  (((h.set 0 v0 (by simp)).set 1 v1 (by simp)).set 2 v2 (by simp)).set 3 v3 (by simp)

/-- Where the walk is to stand. -/
def Stop (p : Prop) : Prop := p
theorem Stop.go {p : Prop} (h : Stop p) : p := h

/-- What is between two versions. -/
def ebB (nx sq : Int) (la : List Mt) (nx2 sq2 : Int) (lb : List Mt) : Bool := goodV nx sq la && goodV nx2 sq2 lb && decide (nx ≤ nx2) && decide (sq ≤ sq2)
def ebX (nx sq : Int) (la : List Mt) (nx2 sq2 : Int) (lb : List Mt) : Int := if ebB nx sq la nx2 sq2 lb then nx2 else 0
def ebY (nx sq : Int) (la : List Mt) (nx2 sq2 : Int) (lb : List Mt) : Int := if ebB nx sq la nx2 sq2 lb then sq2 else 0
def ebD (nx sq : Int) (la : List Mt) (nx2 sq2 : Int) (lb : List Mt) : List Int := if ebB nx sq la nx2 sq2 lb then (lkL lb la la.length).map (·.n) else []
def ebA (nx sq : Int) (la : List Mt) (nx2 sq2 : Int) (lb : List Mt) : List Mt := if ebB nx sq la nx2 sq2 lb then lkL la lb lb.length else []

theorem filesOf_ex (v : Value) (l : List Mt) (w : World) (hv : IR w v l) (hn : l.length ≤ 30) (hg : goodMs l = true) :
    Calls Try.prog 51 #[v] w fun e w' => ∃ bm, e = .returned (.map (some bm)) ∧ w'.ownsMap Try.prog 3 mtE bm l.length (mapM l) ∧ Below w.heap.size w w' :=
  (filesOf_any v l w hv hn (fun i h => by have := okMt_num (goodMs_ok hg h); omega)).mono fun e w' ⟨he, h1, h2⟩ => ⟨_, he, h1, h2⟩

set_option maxHeartbeats 8000000 in
theorem implBetween_any (nx sq nx2 sq2 : Int) (va vb : Value) (la lb : List Mt) (w : World) (HA : IX w va la) (HB : IX w vb lb) (hna : la.length ≤ 1048576) (hnb : lb.length ≤ 1048576) (hsa : ∀ i (h : i < la.length), la[i].k.size ≤ 1048576 ∧ la[i].v.size ≤ 1048576) (hsb : ∀ i (h : i < lb.length), lb[i].k.size ≤ 1048576 ∧ lb[i].v.size ≤ 1048576) :
    Calls Try.prog 14 #[.agg #[.int .i64 nx, .int .i64 sq, va], .agg #[.int .i64 nx2, .int .i64 sq2, vb]] w fun e w' => ∃ u1 u2, e = .returned (.tuple #[.agg #[.int .i64 (ebX nx sq la nx2 sq2 lb), .int .i64 (ebY nx sq la nx2 sq2 lb), u1, u2], .bool (ebB nx sq la nx2 sq2 lb)]) ∧ w'.ownsRow w.heap.size 3 1 u1 (ebD nx sq la nx2 sq2 lb).length ((ebD nx sq la nx2 sq2 lb).map (.int .i64)) ∧ w'.ownsRow w.heap.size 82 4 u2 (ebA nx sq la nx2 sq2 lb).length (flat4 (ebA nx sq la nx2 sq2 lb)) ∧ Below w.heap.size w w' := by
  obtain ⟨i0, hi, hz0, hzs, hzb⟩ := info_parts Try.info3
  obtain ⟨W0, hW0⟩ : ∃ W0, W0 = ((w.alloc (.cells #[.int .i64 nx, .int .i64 sq, va] 25)).alloc (.cells #[.int .i64 nx2, .int .i64 sq2, vb] 25)).alloc (.cells #[.int .i64 0, .int .i64 0, .slice none 0 0, .slice none 0 0] 30) := ⟨_, rfl⟩
  have hB : Below w.heap.size w W0 := by rw [hW0]; exact below3 _ _ _ _
  have X : Box W0 w.heap.size [.int .i64 nx, .int .i64 sq, va] := by rw [hW0]; exact ((Box.new w #[.int .i64 nx, .int .i64 sq, va] 25).alloc _).alloc _
  have Y : Box W0 (w.heap.size + 1) [.int .i64 nx2, .int .i64 sq2, vb] := by
    rw [hW0]
    have := (Box.new (w.alloc (.cells #[.int .i64 nx, .int .i64 sq, va] 25)) #[.int .i64 nx2, .int .i64 sq2, vb] 25).alloc (.cells #[.int .i64 0, .int .i64 0, .slice none 0 0, .slice none 0 0] 30)
    simpa using this
  have R : Box W0 (w.heap.size + 1 + 1) [.int .i64 0, .int .i64 0, .slice none 0 0, .slice none 0 0] := by
    rw [hW0]
    have := Box.new ((w.alloc (.cells #[.int .i64 nx, .int .i64 sq, va] 25)).alloc (.cells #[.int .i64 nx2, .int .i64 sq2, vb] 25)) #[.int .i64 0, .int .i64 0, .slice none 0 0, .slice none 0 0] 30
    simpa using this
  have KA := implGoodV_any nx sq va la _ (HA.below hB) hna hsa
  have KB := fun w h => implGoodV_any nx2 sq2 vb lb w h hnb hsb
  have HP : Hid (ebB nx sq la nx2 sq2 lb = (goodV nx sq la && goodV nx2 sq2 lb && decide (nx ≤ nx2) && decide (sq ≤ sq2)) ∧ ebX nx sq la nx2 sq2 lb = (if ebB nx sq la nx2 sq2 lb then nx2 else 0) ∧ ebY nx sq la nx2 sq2 lb = (if ebB nx sq la nx2 sq2 lb then sq2 else 0) ∧ ebD nx sq la nx2 sq2 lb = (if ebB nx sq la nx2 sq2 lb then (lkL lb la la.length).map (·.n) else []) ∧ ebA nx sq la nx2 sq2 lb = (if ebB nx sq la nx2 sq2 lb then lkL la lb lb.length else [])) := ⟨rfl, rfl, rfl, rfl, rfl⟩
  have HGA : Hid (goodV nx sq la = true → goodMs la = true ∧ la.length ≤ 30) := fun h => ⟨goodV_ms h, goodV_len h⟩
  have HGB : Hid (goodV nx2 sq2 lb = true → goodMs lb = true ∧ lb.length ≤ 30) := fun h => ⟨goodV_ms h, goodV_len h⟩
  generalize ebB nx sq la nx2 sq2 lb = BB at *
  generalize ebX nx sq la nx2 sq2 lb = RX at *
  generalize ebY nx sq la nx2 sq2 lb = RY at *
  generalize ebD nx sq la nx2 sq2 lb = RD at *
  generalize ebA nx sq la nx2 sq2 lb = RA at *
  generalize goodV nx sq la = g1 at *
  generalize goodV nx2 sq2 lb = g2 at *
  have hva := HA.1
  have hvb := HB.1
  obtain ⟨a, ca, hve, _⟩ := id hva
  obtain ⟨a2, cb, hve2, _⟩ := id hvb
  subst hve hve2
  clear hsa hsb HA
  obtain ⟨hp, p0, p1, p2, _⟩ := X.c3
  go_enter Try.func14, Try.ntmps14
  go_wp2_with fail
  rw [← hW0]; clear hW0
  refine KA.mono ?_
  rintro e w1 ⟨rfl, hb1⟩
  replace hB := below_then hB hb1
  replace X := X.below hb1
  replace Y := Y.below hb1
  replace R := R.below hb1
  clear hb1 KA hp p0 p1 p2
  cases g1
  · clear KB
    obtain rfl : BB = false := by rw [HP.out.1]; simp
    obtain ⟨rfl, rfl, rfl, rfl⟩ : RX = 0 ∧ RY = 0 ∧ RD = [] ∧ RA = [] := ⟨HP.out.2.1, HP.out.2.2.1, HP.out.2.2.2.1, HP.out.2.2.2.2⟩
    obtain ⟨hr, r0, r1, r2, r3, f0, f1, f2, f3⟩ := R.e4
    have hBE := hB.trans ((put4_chg _ (w.heap.size + 1 + 1) (.int .i64 0) (.int .i64 0) (.slice none 0 0) (.slice none 0 0)).below (B := w.heap.size) hB.size (fun k hk => by omega))
    clear HP HGA HGB
    go_wp2
    exact bodyPost_ret (v := .tuple #[.agg #[.int .i64 0, .int .i64 0, .slice none 0 0, .slice none 0 0], .bool false]) (by simp [results, Try.results14, go_sem, r0, r1, r2, r3]) rfl ⟨_, _, rfl, World.ownsRow_nil _ _ _ _, World.ownsRow_nil _ _ _ _, hBE⟩
  have KB2 := KB _ (HB.below hB)
  clear KB
  obtain ⟨hp, p0, p1, p2, _⟩ := Y.c3
  go_wp2_with fail
  refine KB2.mono ?_
  rintro e w2 ⟨rfl, hb2⟩
  replace hB := below_then hB hb2
  replace X := X.below hb2
  replace Y := Y.below hb2
  replace R := R.below hb2
  clear hb2 KB2 hp p0 p1 p2
  cases g2
  · obtain rfl : BB = false := by rw [HP.out.1]; simp
    obtain ⟨rfl, rfl, rfl, rfl⟩ : RX = 0 ∧ RY = 0 ∧ RD = [] ∧ RA = [] := ⟨HP.out.2.1, HP.out.2.2.1, HP.out.2.2.2.1, HP.out.2.2.2.2⟩
    obtain ⟨hr, r0, r1, r2, r3, f0, f1, f2, f3⟩ := R.e4
    have hBE := hB.trans ((put4_chg _ (w.heap.size + 1 + 1) (.int .i64 0) (.int .i64 0) (.slice none 0 0) (.slice none 0 0)).below (B := w.heap.size) hB.size (fun k hk => by omega))
    clear HP HGA HGB
    go_wp2
    exact bodyPost_ret (v := .tuple #[.agg #[.int .i64 0, .int .i64 0, .slice none 0 0, .slice none 0 0], .bool false]) (by simp [results, Try.results14, go_sem, r0, r1, r2, r3]) rfl ⟨_, _, rfl, World.ownsRow_nil _ _ _ _, World.ownsRow_nil _ _ _ _, hBE⟩
  obtain ⟨hp, p0, p1, p2, _⟩ := X.c3
  obtain ⟨hq, q0, q1, q2, _⟩ := Y.c3
  by_cases h1 : nx ≤ nx2
  rotate_left
  · obtain rfl : BB = false := by rw [HP.out.1]; simp [h1]
    obtain ⟨rfl, rfl, rfl, rfl⟩ : RX = 0 ∧ RY = 0 ∧ RD = [] ∧ RA = [] := ⟨HP.out.2.1, HP.out.2.2.1, HP.out.2.2.2.1, HP.out.2.2.2.2⟩
    obtain ⟨hr, r0, r1, r2, r3, f0, f1, f2, f3⟩ := R.e4
    have hBE := hB.trans ((put4_chg _ (w.heap.size + 1 + 1) (.int .i64 0) (.int .i64 0) (.slice none 0 0) (.slice none 0 0)).below (B := w.heap.size) hB.size (fun k hk => by omega))
    clear HP HGA HGB
    go_wp2
    exact bodyPost_ret (v := .tuple #[.agg #[.int .i64 0, .int .i64 0, .slice none 0 0, .slice none 0 0], .bool false]) (by simp [results, Try.results14, go_sem, r0, r1, r2, r3]) rfl ⟨_, _, rfl, World.ownsRow_nil _ _ _ _, World.ownsRow_nil _ _ _ _, hBE⟩
  by_cases h2 : sq ≤ sq2
  rotate_left
  · obtain rfl : BB = false := by rw [HP.out.1]; simp [h2]
    obtain ⟨rfl, rfl, rfl, rfl⟩ : RX = 0 ∧ RY = 0 ∧ RD = [] ∧ RA = [] := ⟨HP.out.2.1, HP.out.2.2.1, HP.out.2.2.2.1, HP.out.2.2.2.2⟩
    obtain ⟨hr, r0, r1, r2, r3, f0, f1, f2, f3⟩ := R.e4
    have hBE := hB.trans ((put4_chg _ (w.heap.size + 1 + 1) (.int .i64 0) (.int .i64 0) (.slice none 0 0) (.slice none 0 0)).below (B := w.heap.size) hB.size (fun k hk => by omega))
    clear HP HGA HGB
    go_wp2
    exact bodyPost_ret (v := .tuple #[.agg #[.int .i64 0, .int .i64 0, .slice none 0 0, .slice none 0 0], .bool false]) (by simp [results, Try.results14, go_sem, r0, r1, r2, r3]) rfl ⟨_, _, rfl, World.ownsRow_nil _ _ _ _, World.ownsRow_nil _ _ _ _, hBE⟩
  obtain rfl : BB = true := by rw [HP.out.1]; simp [h1, h2]
  have hRX : nx2 = RX := HP.out.2.1.symm
  have hRY : sq2 = RY := HP.out.2.2.1.symm
  have hRD : RD = (lkL lb la la.length).map (·.n) := HP.out.2.2.2.1
  have hRA : RA = lkL la lb lb.length := HP.out.2.2.2.2
  subst hRX hRY
  obtain ⟨gA, h30a⟩ := HGA.out (by trivial)
  obtain ⟨gB, h30b⟩ := HGB.out (by trivial)
  have FA := fun w h => filesOf_ex (.slice a la.length ca) la w h h30a gA
  have FB := fun w h => filesOf_ex (.slice a2 lb.length cb) lb w h h30b gB
  have LA := fun bm n w hm h => lacking_any bm n (mapM la) la (.slice a2 lb.length cb) lb w hm (means_mapM gA) h h30b (fun i h => okMt_num (goodMs_ok gB h))
  have LB := fun bm n w hm h => lacking_any bm n (mapM lb) lb (.slice a la.length ca) la w hm (means_mapM gB) h h30a (fun i h => okMt_num (goodMs_ok gA h))
  have hRA : Hid (RA = lkL la lb lb.length) := hRA
  have hRD : Hid (RD = (lkL lb la la.length).map (·.n)) := hRD
  have hlA := lkL_len la lb lb.length
  have hlD := lkL_len lb la la.length
  generalize lkL la lb lb.length = ZA at *
  generalize lkL lb la la.length = ZD at *
  clear HP HGA HGB gA gB HB
  go_wp2_with fail
  clear hp p0 p1 p2 hq q0 q1 q2
  go_cut [6] from 9 (fun s6 wc => ∃ (b : Nat) (S2 : Value), s6 = .pointer (some ⟨b, 0, none⟩) ∧ Box wc w.heap.size [.int .i64 nx, .int .i64 sq, .slice a la.length ca] ∧ Box wc (w.heap.size + 1) [.int .i64 nx2, .int .i64 sq2, .slice a2 lb.length cb] ∧ Box wc (w.heap.size + 1 + 1) [.int .i64 0, .int .i64 0, .slice none 0 0, .slice none 0 0] ∧ Box wc b [.int .i64 nx2, .int .i64 sq2, .slice none 0 0, S2] ∧ wc.ownsRow w.heap.size 82 4 S2 ZA.length (flat4 ZA) ∧ (∀ g, S2.ownBlock = some g → g ≠ b) ∧ (∀ g, S2.ownBlock = some g → g ≠ w.heap.size + 1 + 1) ∧ w.heap.size + 1 + 1 < b ∧ Below w.heap.size w wc)
  case first =>
    have hD : Below (w2).heap.size (w2) (w2).drew := (Below.refl _ _).drew
    replace hB := below_then hB hD
    replace X := X.below hD
    replace Y := Y.below hD
    replace R := R.below hD
    clear hD
    refine wp_region_held_drew (S := fun w' => Box w' w.heap.size [.int .i64 nx, .int .i64 sq, .slice a la.length ca] ∧ Box w' (w.heap.size + 1) [.int .i64 nx2, .int .i64 sq2, .slice a2 lb.length cb]) (by kernel_rfl) ⟨X, Y⟩ (fun hHeld => ?_)
    generalize (w2).drew = v0 at *
    refine wpAnyH_take (i := 0) (oi := { dst := some 32, op := Op.fieldAddr 25 (Operand.tmp 3) 0, type := 0, pos := "l9_version.go:70", after := #[], guard := none }) (v := .pointer (some ⟨w.heap.size + 1, 0, none⟩)) rfl (by kernel_rfl) (by kernel_rfl) (by kernel_rfl) (fun _ _ _ h => h) (Or.inl ⟨by rfl, ?_⟩) (by assumption) ?_
    · intro wx hSw
      clear hSw hHeld; go_simp
    simp only [Act.put, List.setIfInBounds_toArray, List.set_cons_zero, List.set_cons_succ]
    refine wpAnyH_take (i := 1) (oi := { dst := some 33, op := Op.load 3 (Operand.tmp 32), type := 3, pos := "l9_version.go:70", after := #[{ on := 0, ground := Ground.data }], guard := none }) (v := .int .i64 nx2) rfl (by kernel_rfl) (by kernel_rfl) (by kernel_rfl) (fun _ _ _ h => h) (Or.inl ⟨by rfl, ?_⟩) (by assumption) ?_
    · intro wx hSw
      have e := hSw.2.2.1 0 _ rfl; clear hHeld; go_simp
    simp only [Act.put, List.setIfInBounds_toArray, List.set_cons_zero, List.set_cons_succ]
    refine wpAnyH_take (i := 2) (oi := { dst := some 34, op := Op.fieldAddr 25 (Operand.tmp 3) 1, type := 0, pos := "l9_version.go:70", after := #[], guard := none }) (v := .pointer (some ⟨w.heap.size + 1, 1, none⟩)) rfl (by kernel_rfl) (by kernel_rfl) (by kernel_rfl) (fun _ _ _ h => h) (Or.inl ⟨by rfl, ?_⟩) (by assumption) ?_
    · intro wx hSw
      clear hSw hHeld; go_simp
    simp only [Act.put, List.setIfInBounds_toArray, List.set_cons_zero, List.set_cons_succ]
    refine wpAnyH_take (i := 3) (oi := { dst := some 35, op := Op.load 3 (Operand.tmp 34), type := 3, pos := "l9_version.go:70", after := #[{ on := 2, ground := Ground.data }], guard := none }) (v := .int .i64 sq2) rfl (by kernel_rfl) (by kernel_rfl) (by kernel_rfl) (fun _ _ _ h => h) (Or.inl ⟨by rfl, ?_⟩) (by assumption) ?_
    · intro wx hSw
      have e := hSw.2.2.1 1 _ rfl; clear hHeld; go_simp
    simp only [Act.put, List.setIfInBounds_toArray, List.set_cons_zero, List.set_cons_succ]
    refine wpAnyH_take (i := 4) (oi := { dst := some 36, op := Op.fieldAddr 25 (Operand.tmp 2) 2, type := 0, pos := "l9_version.go:70", after := #[], guard := none }) (v := .pointer (some ⟨w.heap.size, 2, none⟩)) rfl (by kernel_rfl) (by kernel_rfl) (by kernel_rfl) (fun _ _ _ h => h) (Or.inl ⟨by rfl, ?_⟩) (by assumption) ?_
    · intro wx hSw
      clear hSw hHeld; go_simp
    simp only [Act.put, List.setIfInBounds_toArray, List.set_cons_zero, List.set_cons_succ]
    refine wpAnyH_take (i := 5) (oi := { dst := some 37, op := Op.load 23 (Operand.tmp 36), type := 23, pos := "l9_version.go:70", after := #[{ on := 4, ground := Ground.data }], guard := none }) (v := .slice a la.length ca) rfl (by kernel_rfl) (by kernel_rfl) (by kernel_rfl) (fun _ _ _ h => h) (Or.inl ⟨by rfl, ?_⟩) (by assumption) ?_
    · intro wx hSw
      have e := hSw.1.2.1 2 _ rfl; clear hHeld; go_simp
    simp only [Act.put, List.setIfInBounds_toArray, List.set_cons_zero, List.set_cons_succ]
    refine wpAnyH_take (i := 7) (oi := { dst := some 39, op := Op.fieldAddr 25 (Operand.tmp 3) 2, type := 0, pos := "l9_version.go:70", after := #[], guard := none }) (v := .pointer (some ⟨w.heap.size + 1, 2, none⟩)) rfl (by kernel_rfl) (by kernel_rfl) (by kernel_rfl) (fun _ _ _ h => h) (Or.inl ⟨by rfl, ?_⟩) (by assumption) ?_
    · intro wx hSw
      clear hSw hHeld; go_simp
    simp only [Act.put, List.setIfInBounds_toArray, List.set_cons_zero, List.set_cons_succ]
    refine wpAnyH_take (i := 8) (oi := { dst := some 40, op := Op.load 23 (Operand.tmp 39), type := 23, pos := "l9_version.go:70", after := #[{ on := 7, ground := Ground.data }], guard := none }) (v := .slice a2 lb.length cb) rfl (by kernel_rfl) (by kernel_rfl) (by kernel_rfl) (fun _ _ _ h => h) (Or.inl ⟨by rfl, ?_⟩) (by assumption) ?_
    · intro wx hSw
      have e := hSw.2.2.1 2 _ rfl; clear hHeld; go_simp
    simp only [Act.put, List.setIfInBounds_toArray, List.set_cons_zero, List.set_cons_succ]
    refine wpAnyH_ready (rs := [6, 11]) (by kernel_rfl) (by simp) ?_
    refine (AllReadyH.cons (o := { dst := some 38, op := Op.call { callee := Callee.value (Operand.func 51), args := #[Operand.tmp 37], argTypes := #[23] }, type := 78, pos := "l9_version.go:70", after := #[{ on := 5, ground := Ground.data }], guard := none }) rfl (fun K hK => ?_) (AllReadyH.cons (o := { dst := some 6, op := Op.alloc 30, type := 0, pos := "l9_version.go:70", after := #[], guard := none }) rfl (fun K hK => ?_) AllReadyH.nil))
    · clear hHeld
      go_simp
      refine (FA _ (hva.below hB)).mono ?_
      rintro e v1 ⟨bm, rfl, M, hbv⟩
      have hzc := hB.size
      have hzR := R.1
      replace hB := below_then hB hbv
      replace X := X.below hbv
      replace Y := Y.below hbv
      replace R := R.below hbv
      clear hbv hzc
      refine hK.out _ _ ⟨X, Y⟩ (fun hHeld => ?_)
      clear hK K
      refine wpAnyH_ready (rs := [9, 11]) (by kernel_rfl) (by simp) ?_
      refine (AllReadyH.cons (o := { dst := some 41, op := Op.call { callee := Callee.value (Operand.func 52), args := #[Operand.tmp 38, Operand.tmp 40], argTypes := #[78, 23] }, type := 23, pos := "l9_version.go:70", after := #[{ on := 6, ground := Ground.data }, { on := 8, ground := Ground.data }, { on := 6, ground := Ground.chain }], guard := none }) rfl (fun K hK => ?_) (AllReadyH.cons (o := { dst := some 6, op := Op.alloc 30, type := 0, pos := "l9_version.go:70", after := #[], guard := none }) rfl (fun K hK => ?_) AllReadyH.nil))
      · clear hHeld
        go_simp
        refine (LA _ _ _ M (hvb.below hB)).mono ?_
        rintro e v2 ⟨u, rfl, O, hbv⟩
        have hzc := hB.size
        have hzR := R.1
        replace hB := below_then hB hbv
        replace X := X.below hbv
        replace Y := Y.below hbv
        replace R := R.below hbv
        replace M := map_below M hbv
        obtain ⟨ua, uc, rfl⟩ := owns_shape O
        have neR := fun g hg => Nat.ne_of_gt (Nat.lt_of_lt_of_le hzR (owns_ge O g hg))
        replace O := owns_mono O hzc
        clear hbv hzc
        refine hK.out _ _ ⟨X, Y⟩ (fun hHeld => ?_)
        clear hK K
        refine wpAnyH_take (i := 10) (oi := { dst := some 42, op := Op.build 30 #[(0, Operand.tmp 33), (1, Operand.tmp 35), (3, Operand.tmp 41)], type := 30, pos := "l9_version.go:70", after := #[{ on := 1, ground := Ground.data }, { on := 3, ground := Ground.data }, { on := 9, ground := Ground.data }], guard := none }) (v := .agg #[.int .i64 nx2, .int .i64 sq2, .slice none 0 0, .slice ua ZA.length uc]) rfl (by kernel_rfl) (by kernel_rfl) (by kernel_rfl) (fun _ _ _ h => h) (Or.inl ⟨by rfl, ?_⟩) (by assumption) ?_
        · intro wx hSw
          clear hSw hHeld; go_simp
        simp only [Act.put, List.setIfInBounds_toArray, List.set_cons_zero, List.set_cons_succ]
        refine wpAnyH_ready (rs := [11]) (by kernel_rfl) (by simp) ?_
        refine (AllReadyH.cons (o := { dst := some 6, op := Op.alloc 30, type := 0, pos := "l9_version.go:70", after := #[], guard := none }) rfl (fun K hK => ?_) AllReadyH.nil)
        clear hHeld
        have Z := Box.new v2 #[.int .i64 0, .int .i64 0, .slice none 0 0, .slice none 0 0] 30
        have hkX := X.1
        have hkY := Y.1
        have hkR := R.1
        have hkM := M.lt
        have hkO := owns_below_lt O
        have hkw := hB.size
        have hA := below_alloc v2 (.cells #[.int .i64 0, .int .i64 0, .slice none 0 0, .slice none 0 0] 30)
        replace hB := below_then hB hA
        replace X := X.below hA
        replace Y := Y.below hA
        replace R := R.below hA
        replace M := map_below M hA
        replace O := owns_below O hA
        clear hA
        go_simp
        refine hK.out _ _ ⟨X, Y⟩ (fun hHeld => ?_)
        clear hK K
        generalize v2.alloc (.cells #[.int .i64 0, .int .i64 0, .slice none 0 0, .slice none 0 0] 30) = v3 at *
        generalize v2.heap.size = b at *
        have neO := fun g hg => Nat.ne_of_lt (hkO g hg)
        clear hkO
        refine wpAnyH_ready (rs := [12]) (by kernel_rfl) (by simp) ?_
        refine (AllReadyH.cons (o := { dst := none, op := Op.store 30 (Operand.tmp 6) (Operand.tmp 42), type := 0, pos := "l9_version.go:70", after := #[{ on := 11, ground := Ground.data }, { on := 10, ground := Ground.data }, { on := 9, ground := Ground.chain }, { on := 0, ground := Ground.phase }, { on := 1, ground := Ground.phase }, { on := 2, ground := Ground.phase }, { on := 3, ground := Ground.phase }, { on := 4, ground := Ground.phase }, { on := 5, ground := Ground.phase }, { on := 6, ground := Ground.phase }, { on := 7, ground := Ground.phase }, { on := 8, ground := Ground.phase }, { on := 9, ground := Ground.phase }, { on := 10, ground := Ground.phase }, { on := 11, ground := Ground.phase }], guard := none }) rfl (fun K hK => ?_) AllReadyH.nil)
        clear hHeld
        obtain ⟨zl, t0, t1, t2, t3, f0, f1, f2, f3⟩ := Z.e4
        have hC := put4_chg v3 b (.int .i64 nx2) (.int .i64 sq2) (.slice none 0 0) (.slice ua ZA.length uc)
        have Xn := hC.box X (by omega)
        have Yn := hC.box Y (by omega)
        have Rn := hC.box R (by omega)
        have On := hC.owns O (fun g hg hh => neO g hg hh)
        have Zn := put4_box Z (.int .i64 nx2) (.int .i64 sq2) (.slice none 0 0) (.slice ua ZA.length uc)
        have hBn := hB.trans (hC.below (B := w.heap.size) hB.size (fun k hk => by omega))
        clear hC
        go_simp
        refine hK.out _ (put4 v3 b (.int .i64 nx2) (.int .i64 sq2) (.slice none 0 0) (.slice ua ZA.length uc)) ⟨Xn, Yn⟩ (fun hHeld => ?_)
        clear hK K t0 t1 t2 t3 f0 f1 f2 f3 hHeld
        refine wpAnyH_done (by kernel_rfl) ?_ _
        go_wp2_with fail
        go_meet
        case rel => exact ⟨b, _, rfl, Xn, Yn, Rn, Zn, On, neO, neR, by omega, hBn⟩
      · clear hHeld
        have Z := Box.new v1 #[.int .i64 0, .int .i64 0, .slice none 0 0, .slice none 0 0] 30
        have hkX := X.1
        have hkY := Y.1
        have hkR := R.1
        have hkM := M.lt
        have hkw := hB.size
        have hA := below_alloc v1 (.cells #[.int .i64 0, .int .i64 0, .slice none 0 0, .slice none 0 0] 30)
        replace hB := below_then hB hA
        replace X := X.below hA
        replace Y := Y.below hA
        replace R := R.below hA
        replace M := map_below M hA
        clear hA
        go_simp
        refine hK.out _ _ ⟨X, Y⟩ (fun hHeld => ?_)
        clear hK K
        generalize v1.alloc (.cells #[.int .i64 0, .int .i64 0, .slice none 0 0, .slice none 0 0] 30) = v4 at *
        generalize v1.heap.size = b at *
        refine wpAnyH_ready (rs := [9]) (by kernel_rfl) (by simp) ?_
        refine (AllReadyH.cons (o := { dst := some 41, op := Op.call { callee := Callee.value (Operand.func 52), args := #[Operand.tmp 38, Operand.tmp 40], argTypes := #[78, 23] }, type := 23, pos := "l9_version.go:70", after := #[{ on := 6, ground := Ground.data }, { on := 8, ground := Ground.data }, { on := 6, ground := Ground.chain }], guard := none }) rfl (fun K hK => ?_) AllReadyH.nil)
        clear hHeld
        go_simp
        refine (LA _ _ _ M (hvb.below hB)).mono ?_
        rintro e v5 ⟨u, rfl, O, hbv⟩
        have hzb := Z.1
        have hzc := hB.size
        have hzR := R.1
        replace hB := below_then hB hbv
        replace X := X.below hbv
        replace Y := Y.below hbv
        replace R := R.below hbv
        replace M := map_below M hbv
        replace Z := Z.below hbv
        obtain ⟨ua, uc, rfl⟩ := owns_shape O
        have neO := fun g hg => Nat.ne_of_gt (Nat.lt_of_lt_of_le hzb (owns_ge O g hg))
        have neR := fun g hg => Nat.ne_of_gt (Nat.lt_of_lt_of_le hzR (owns_ge O g hg))
        replace O := owns_mono O hzc
        clear hbv hzc
        refine hK.out _ _ ⟨X, Y⟩ (fun hHeld => ?_)
        clear hK K
        refine wpAnyH_take (i := 10) (oi := { dst := some 42, op := Op.build 30 #[(0, Operand.tmp 33), (1, Operand.tmp 35), (3, Operand.tmp 41)], type := 30, pos := "l9_version.go:70", after := #[{ on := 1, ground := Ground.data }, { on := 3, ground := Ground.data }, { on := 9, ground := Ground.data }], guard := none }) (v := .agg #[.int .i64 nx2, .int .i64 sq2, .slice none 0 0, .slice ua ZA.length uc]) rfl (by kernel_rfl) (by kernel_rfl) (by kernel_rfl) (fun _ _ _ h => h) (Or.inl ⟨by rfl, ?_⟩) (by assumption) ?_
        · intro wx hSw
          clear hSw hHeld; go_simp
        simp only [Act.put, List.setIfInBounds_toArray, List.set_cons_zero, List.set_cons_succ]
        refine wpAnyH_ready (rs := [12]) (by kernel_rfl) (by simp) ?_
        refine (AllReadyH.cons (o := { dst := none, op := Op.store 30 (Operand.tmp 6) (Operand.tmp 42), type := 0, pos := "l9_version.go:70", after := #[{ on := 11, ground := Ground.data }, { on := 10, ground := Ground.data }, { on := 9, ground := Ground.chain }, { on := 0, ground := Ground.phase }, { on := 1, ground := Ground.phase }, { on := 2, ground := Ground.phase }, { on := 3, ground := Ground.phase }, { on := 4, ground := Ground.phase }, { on := 5, ground := Ground.phase }, { on := 6, ground := Ground.phase }, { on := 7, ground := Ground.phase }, { on := 8, ground := Ground.phase }, { on := 9, ground := Ground.phase }, { on := 10, ground := Ground.phase }, { on := 11, ground := Ground.phase }], guard := none }) rfl (fun K hK => ?_) AllReadyH.nil)
        clear hHeld
        obtain ⟨zl, t0, t1, t2, t3, f0, f1, f2, f3⟩ := Z.e4
        have hC := put4_chg v5 b (.int .i64 nx2) (.int .i64 sq2) (.slice none 0 0) (.slice ua ZA.length uc)
        have Xn := hC.box X (by omega)
        have Yn := hC.box Y (by omega)
        have Rn := hC.box R (by omega)
        have On := hC.owns O (fun g hg hh => neO g hg hh)
        have Zn := put4_box Z (.int .i64 nx2) (.int .i64 sq2) (.slice none 0 0) (.slice ua ZA.length uc)
        have hBn := hB.trans (hC.below (B := w.heap.size) hB.size (fun k hk => by omega))
        clear hC
        go_simp
        refine hK.out _ (put4 v5 b (.int .i64 nx2) (.int .i64 sq2) (.slice none 0 0) (.slice ua ZA.length uc)) ⟨Xn, Yn⟩ (fun hHeld => ?_)
        clear hK K t0 t1 t2 t3 f0 f1 f2 f3 hHeld
        refine wpAnyH_done (by kernel_rfl) ?_ _
        go_wp2_with fail
        go_meet
        case rel => exact ⟨b, _, rfl, Xn, Yn, Rn, Zn, On, neO, neR, by omega, hBn⟩
    · clear hHeld
      have Z := Box.new v0 #[.int .i64 0, .int .i64 0, .slice none 0 0, .slice none 0 0] 30
      have hkX := X.1
      have hkY := Y.1
      have hkR := R.1
      have hkw := hB.size
      have hA := below_alloc v0 (.cells #[.int .i64 0, .int .i64 0, .slice none 0 0, .slice none 0 0] 30)
      replace hB := below_then hB hA
      replace X := X.below hA
      replace Y := Y.below hA
      replace R := R.below hA
      clear hA
      go_simp
      refine hK.out _ _ ⟨X, Y⟩ (fun hHeld => ?_)
      clear hK K
      generalize v0.alloc (.cells #[.int .i64 0, .int .i64 0, .slice none 0 0, .slice none 0 0] 30) = v6 at *
      generalize v0.heap.size = b at *
      refine wpAnyH_ready (rs := [6]) (by kernel_rfl) (by simp) ?_
      refine (AllReadyH.cons (o := { dst := some 38, op := Op.call { callee := Callee.value (Operand.func 51), args := #[Operand.tmp 37], argTypes := #[23] }, type := 78, pos := "l9_version.go:70", after := #[{ on := 5, ground := Ground.data }], guard := none }) rfl (fun K hK => ?_) AllReadyH.nil)
      clear hHeld
      go_simp
      refine (FA _ (hva.below hB)).mono ?_
      rintro e v7 ⟨bm, rfl, M, hbv⟩
      have hzb := Z.1
      have hzc := hB.size
      have hzR := R.1
      replace hB := below_then hB hbv
      replace X := X.below hbv
      replace Y := Y.below hbv
      replace R := R.below hbv
      replace Z := Z.below hbv
      clear hbv hzc
      refine hK.out _ _ ⟨X, Y⟩ (fun hHeld => ?_)
      clear hK K
      refine wpAnyH_ready (rs := [9]) (by kernel_rfl) (by simp) ?_
      refine (AllReadyH.cons (o := { dst := some 41, op := Op.call { callee := Callee.value (Operand.func 52), args := #[Operand.tmp 38, Operand.tmp 40], argTypes := #[78, 23] }, type := 23, pos := "l9_version.go:70", after := #[{ on := 6, ground := Ground.data }, { on := 8, ground := Ground.data }, { on := 6, ground := Ground.chain }], guard := none }) rfl (fun K hK => ?_) AllReadyH.nil)
      clear hHeld
      go_simp
      refine (LA _ _ _ M (hvb.below hB)).mono ?_
      rintro e v8 ⟨u, rfl, O, hbv⟩
      have hzb := Z.1
      have hzc := hB.size
      have hzR := R.1
      replace hB := below_then hB hbv
      replace X := X.below hbv
      replace Y := Y.below hbv
      replace R := R.below hbv
      replace Z := Z.below hbv
      replace M := map_below M hbv
      obtain ⟨ua, uc, rfl⟩ := owns_shape O
      have neO := fun g hg => Nat.ne_of_gt (Nat.lt_of_lt_of_le hzb (owns_ge O g hg))
      have neR := fun g hg => Nat.ne_of_gt (Nat.lt_of_lt_of_le hzR (owns_ge O g hg))
      replace O := owns_mono O hzc
      clear hbv hzc
      refine hK.out _ _ ⟨X, Y⟩ (fun hHeld => ?_)
      clear hK K
      refine wpAnyH_take (i := 10) (oi := { dst := some 42, op := Op.build 30 #[(0, Operand.tmp 33), (1, Operand.tmp 35), (3, Operand.tmp 41)], type := 30, pos := "l9_version.go:70", after := #[{ on := 1, ground := Ground.data }, { on := 3, ground := Ground.data }, { on := 9, ground := Ground.data }], guard := none }) (v := .agg #[.int .i64 nx2, .int .i64 sq2, .slice none 0 0, .slice ua ZA.length uc]) rfl (by kernel_rfl) (by kernel_rfl) (by kernel_rfl) (fun _ _ _ h => h) (Or.inl ⟨by rfl, ?_⟩) (by assumption) ?_
      · intro wx hSw
        clear hSw hHeld; go_simp
      simp only [Act.put, List.setIfInBounds_toArray, List.set_cons_zero, List.set_cons_succ]
      refine wpAnyH_ready (rs := [12]) (by kernel_rfl) (by simp) ?_
      refine (AllReadyH.cons (o := { dst := none, op := Op.store 30 (Operand.tmp 6) (Operand.tmp 42), type := 0, pos := "l9_version.go:70", after := #[{ on := 11, ground := Ground.data }, { on := 10, ground := Ground.data }, { on := 9, ground := Ground.chain }, { on := 0, ground := Ground.phase }, { on := 1, ground := Ground.phase }, { on := 2, ground := Ground.phase }, { on := 3, ground := Ground.phase }, { on := 4, ground := Ground.phase }, { on := 5, ground := Ground.phase }, { on := 6, ground := Ground.phase }, { on := 7, ground := Ground.phase }, { on := 8, ground := Ground.phase }, { on := 9, ground := Ground.phase }, { on := 10, ground := Ground.phase }, { on := 11, ground := Ground.phase }], guard := none }) rfl (fun K hK => ?_) AllReadyH.nil)
      clear hHeld
      obtain ⟨zl, t0, t1, t2, t3, f0, f1, f2, f3⟩ := Z.e4
      have hC := put4_chg v8 b (.int .i64 nx2) (.int .i64 sq2) (.slice none 0 0) (.slice ua ZA.length uc)
      have Xn := hC.box X (by omega)
      have Yn := hC.box Y (by omega)
      have Rn := hC.box R (by omega)
      have On := hC.owns O (fun g hg hh => neO g hg hh)
      have Zn := put4_box Z (.int .i64 nx2) (.int .i64 sq2) (.slice none 0 0) (.slice ua ZA.length uc)
      have hBn := hB.trans (hC.below (B := w.heap.size) hB.size (fun k hk => by omega))
      clear hC
      go_simp
      refine hK.out _ (put4 v8 b (.int .i64 nx2) (.int .i64 sq2) (.slice none 0 0) (.slice ua ZA.length uc)) ⟨Xn, Yn⟩ (fun hHeld => ?_)
      clear hK K t0 t1 t2 t3 f0 f1 f2 f3 hHeld
      refine wpAnyH_done (by kernel_rfl) ?_ _
      go_wp2_with fail
      go_meet
      case rel => exact ⟨b, _, rfl, Xn, Yn, Rn, Zn, On, neO, neR, by omega, hBn⟩
  case rest =>
    clear X Y R hB FA LA
    obtain ⟨b, S2, rfl, X, Y, R, Z, O, hneO, hne2, hbb, hB⟩ := hcut
    obtain ⟨hp, p0, p1, p2, _⟩ := X.c3
    obtain ⟨hq, q0, q1, q2, _⟩ := Y.c3
    go_wp2_with fail
    clear hp p0 p1 p2 hq q0 q1 q2
    have hD : Below wc.heap.size wc wc.drew := (Below.refl _ _).drew
    replace hB := below_then hB hD
    replace X := X.below hD
    replace Y := Y.below hD
    replace R := R.below hD
    replace Z := Z.below hD
    replace O := owns_below O hD
    clear hD
    refine wp_region_held_drew (S := fun w' => Box w' w.heap.size [.int .i64 nx, .int .i64 sq, .slice a la.length ca] ∧ Box w' (w.heap.size + 1) [.int .i64 nx2, .int .i64 sq2, .slice a2 lb.length cb]) (by kernel_rfl) ⟨X, Y⟩ (fun hHeld => ?_)
    generalize wc.drew = w3 at *
    refine wpAnyH_take (i := 0) (oi := { dst := some 43, op := Op.fieldAddr 25 (Operand.tmp 3) 2, type := 0, pos := "l9_version.go:71", after := #[], guard := none }) (v := .pointer (some ⟨w.heap.size + 1, 2, none⟩)) rfl (by kernel_rfl) (by kernel_rfl) (by kernel_rfl) (fun _ _ _ h => h) (Or.inl ⟨by rfl, ?_⟩) (by assumption) ?_
    · intro wx hSw
      clear hSw hHeld; go_simp
    simp only [Act.put, List.setIfInBounds_toArray, List.set_cons_zero, List.set_cons_succ]
    refine wpAnyH_take (i := 1) (oi := { dst := some 44, op := Op.load 23 (Operand.tmp 43), type := 23, pos := "l9_version.go:71", after := #[{ on := 0, ground := Ground.data }], guard := none }) (v := .slice a2 lb.length cb) rfl (by kernel_rfl) (by kernel_rfl) (by kernel_rfl) (fun _ _ _ h => h) (Or.inl ⟨by rfl, ?_⟩) (by assumption) ?_
    · intro wx hSw
      have e := hSw.2.2.1 2 _ rfl; clear hHeld; go_simp
    simp only [Act.put, List.setIfInBounds_toArray, List.set_cons_zero, List.set_cons_succ]
    refine wpAnyH_take (i := 3) (oi := { dst := some 46, op := Op.fieldAddr 25 (Operand.tmp 2) 2, type := 0, pos := "l9_version.go:71", after := #[], guard := none }) (v := .pointer (some ⟨w.heap.size, 2, none⟩)) rfl (by kernel_rfl) (by kernel_rfl) (by kernel_rfl) (fun _ _ _ h => h) (Or.inl ⟨by rfl, ?_⟩) (by assumption) ?_
    · intro wx hSw
      clear hSw hHeld; go_simp
    simp only [Act.put, List.setIfInBounds_toArray, List.set_cons_zero, List.set_cons_succ]
    refine wpAnyH_take (i := 4) (oi := { dst := some 47, op := Op.load 23 (Operand.tmp 46), type := 23, pos := "l9_version.go:71", after := #[{ on := 3, ground := Ground.data }], guard := none }) (v := .slice a la.length ca) rfl (by kernel_rfl) (by kernel_rfl) (by kernel_rfl) (fun _ _ _ h => h) (Or.inl ⟨by rfl, ?_⟩) (by assumption) ?_
    · intro wx hSw
      have e := hSw.1.2.1 2 _ rfl; clear hHeld; go_simp
    simp only [Act.put, List.setIfInBounds_toArray, List.set_cons_zero, List.set_cons_succ]
    refine wpAnyH_take (i := 7) (oi := { dst := some 50, op := Op.move (Operand.const (Value.int IntKind.i64 0)), type := 3, pos := "l9_version.go:71", after := #[], guard := none }) (v := .int .i64 0) rfl (by kernel_rfl) (by kernel_rfl) (by kernel_rfl) (fun _ _ _ h => h) (Or.inl ⟨by rfl, ?_⟩) (by assumption) ?_
    · intro wx hSw
      clear hSw hHeld; go_simp
    simp only [Act.put, List.setIfInBounds_toArray, List.set_cons_zero, List.set_cons_succ]
    refine wpAnyH_ready (rs := [2]) (by kernel_rfl) (by simp) ?_
    refine AllReadyH.cons (o := { dst := some 45, op := Op.call { callee := Callee.value (Operand.func 51), args := #[Operand.tmp 44], argTypes := #[23] }, type := 78, pos := "l9_version.go:71", after := #[{ on := 1, ground := Ground.data }], guard := none }) rfl (fun K hK => ?_) AllReadyH.nil
    clear hHeld
    go_simp
    refine (FB _ (hvb.below hB)).mono ?_
    rintro e w4 ⟨bm, rfl, M, hbv⟩
    replace hB := below_then hB hbv
    replace X := X.below hbv
    replace Y := Y.below hbv
    replace R := R.below hbv
    replace Z := Z.below hbv
    replace O := owns_below O hbv
    clear hbv FB
    refine hK.out _ _ ⟨X, Y⟩ (fun hHeld => ?_)
    clear hK K
    refine wpAnyH_ready (rs := [5]) (by kernel_rfl) (by simp) ?_
    refine AllReadyH.cons (o := { dst := some 48, op := Op.call { callee := Callee.value (Operand.func 52), args := #[Operand.tmp 45, Operand.tmp 47], argTypes := #[78, 23] }, type := 23, pos := "l9_version.go:71", after := #[{ on := 2, ground := Ground.data }, { on := 4, ground := Ground.data }, { on := 2, ground := Ground.chain }], guard := none }) rfl (fun K hK => ?_) AllReadyH.nil
    clear hHeld
    go_simp
    refine (LB _ _ _ M (hva.below hB)).mono ?_
    rintro e w5 ⟨u, rfl, O2, hbv⟩
    have hneO2 := fun g hg => Nat.ne_of_gt (Nat.lt_of_lt_of_le Z.1 (owns_ge O2 g hg))
    replace hB := below_then hB hbv
    replace X := X.below hbv
    replace Y := Y.below hbv
    replace R := R.below hbv
    replace Z := Z.below hbv
    replace O := owns_below O hbv
    clear hbv LB M
    obtain ⟨ua, uc, rfl⟩ := owns_shape O2
    refine hK.out _ _ ⟨X, Y⟩ (fun hHeld => ?_)
    clear hK K
    refine wpAnyH_take (i := 6) (oi := { dst := some 49, op := Op.call { callee := Callee.builtin Builtin.len, args := #[Operand.tmp 48], argTypes := #[23] }, type := 3, pos := "l9_version.go:71", after := #[{ on := 5, ground := Ground.data }], guard := none }) (v := .int .i64 ZD.length) rfl (by kernel_rfl) (by kernel_rfl) (by kernel_rfl) (fun _ _ _ h => h) (Or.inl ⟨by rfl, ?_⟩) (by assumption) ?_
    · intro wx hSw
      clear hSw hHeld; go_simp
    simp only [Act.put, List.setIfInBounds_toArray, List.set_cons_zero, List.set_cons_succ]
    clear hHeld
    refine wpAnyH_done (by kernel_rfl) ?_ _
    have hz5 := hB.size
    have hbl5 := Z.1
    have hlO := owns_below_lt O
    have hlO2 := owns_below_lt O2
    have hgeO := owns_ge O
    have hlt2 : ∀ g, (Value.slice ua ZD.length uc).ownBlock = some g → g ≠ b := hneO2
    clear X Y hva hvb hneO2
    go_wp2_with fail
    go_loopw [50] (fun i wr => ∃ (k : Nat) (u1 : Value), k ≤ ZD.length ∧ i = .int .i64 k ∧ Box wr b [.int .i64 nx2, .int .i64 sq2, u1, S2] ∧ wr.ownsRow w5.heap.size 3 1 u1 k (((ZD.take k).map (·.n)).map (.int .i64)) ∧ Chg (fun j => j = b ∨ w5.heap.size ≤ j) w5 wr) (fun i _ => ZD.length - (intOf i).toNat)
    case atStart => exact ⟨0, .slice none 0 0, Nat.zero_le _, rfl, Z, World.ownsRow_nil _ _ _ _, Chg.refl _ _⟩
    case round =>
      clear Z
      obtain ⟨k, u1, hk, rfl, Zr, O1, hC⟩ := hrel
      have O2r := hC.owns O2 (fun g hg hh => by have := hlt2 g hg; have := hlO2 g hg; omega)
      have hzr := hC.size
      have hbl6 := Zr.1
      obtain ⟨v1a, v1c, rfl⟩ := owns_shape O1
      by_cases hlt : k < ZD.length
      · obtain ⟨a', cap', hve, hc⟩ := IR_of_owns O2r rfl
        simp only [Value.slice.injEq, true_and] at hve
        obtain ⟨rfl, rfl⟩ := hve
        obtain ⟨b', off, rfl, hbl, hcell⟩ := hc (by intro e; simp [e] at hlt)
        have hc0 := (hcell k hlt).1
        have hc1 := (hcell k hlt).2.1
        have hc2 := (hcell k hlt).2.2.1
        have hc3 := (hcell k hlt).2.2.2
        have HMP : Hid (((ZD.take (k + 1)).map (·.n)).map (Value.int .i64) = ((ZD.take k).map (·.n)).map (Value.int .i64) ++ [.int .i64 ZD[k].n]) := by show _ = _; rw [List.take_succ_eq_append_getElem hlt, List.map_append, List.map_append]; rfl
        have hlen : (((ZD.take k).map (·.n)).map (Value.int .i64)).length = k := by simp; omega
        clear hcell hc O2r
        generalize ((ZD.take k).map (·.n)).map (Value.int .i64) = zs at *
        generalize ZD[k] = t at *
        obtain ⟨tn, td, tk, tv⟩ := t
        dsimp only at *
        obtain ⟨_, z0, z1, z2, z3, f0, f1, f2, f3⟩ := Zr.e4
        have OA := owns_below O1 (below_alloc wr (.cells #[.int .i64 tn, .int .i64 td, .string tk, .string tv] 82))
        have ON := one_new (wr.alloc (.cells #[.int .i64 tn, .int .i64 td, .string tk, .string tv] 82)) tn
        rw [World.size_alloc] at ON
        have hC1 : Chg (fun j => j = b ∨ w5.heap.size ≤ j) w5 ((wr.alloc (.cells #[.int .i64 tn, .int .i64 td, .string tk, .string tv] 82)).alloc (.cells #[.int .i64 tn] 3)) := hC.trans (Chg.of_below (below2 _ _ _))
        have Z1 : Box ((wr.alloc (.cells #[.int .i64 tn, .int .i64 td, .string tk, .string tv] 82)).alloc (.cells #[.int .i64 tn] 3)) b [.int .i64 nx2, .int .i64 sq2, .slice v1a k v1c, S2] := (Zr.alloc _).alloc _
        have hgeA := owns_ge OA
        go_wp2_with (at_builtin; refine wpList_append_own _ rfl _ _ 28 rfl w5.heap.size 3 i0 (.int .i64 0) 1 8 Try.underlying28 hi hz0 hzs hzb rfl (by decide) _ k zs rfl (owns_below OA (below_alloc _ _)) ⟨wr.heap.size + 1, 0, none⟩ 1 1 [.int .i64 tn] rfl rfl ON (by intro u hu; simp at hu; subst hu; rfl) (by unfold maxLen; omega) (by omega) (by simp; omega) ?_; intro v' w7 hown7 hgrow7 _; refine Stop.go ?_)
        have hC7 : Chg (fun j => j = b ∨ w5.heap.size ≤ j) w5 w7 := hC1.trans ⟨hgrow7.os, hgrow7.tape, hgrow7.output, hgrow7.size, fun j hj hs => hgrow7.block j hj (fun e => hs (.inr (hgeA j e.symm)))⟩
        have Z7 : Box w7 b [.int .i64 nx2, .int .i64 sq2, .slice v1a k v1c, S2] := Chg.box (S := fun j => (Value.slice v1a k v1c).ownBlock = some j) ⟨hgrow7.os, hgrow7.tape, hgrow7.output, hgrow7.size, fun j hj hs => hgrow7.block j hj (fun e => hs e.symm)⟩ Z1 (fun e => by have := hgeA b e; omega)
        obtain ⟨v2a, v2c, rfl⟩ := owns_shape hown7
        have hbl7 := Z7.1
        have hge7 := owns_ge hown7
        clear z0 z1 z2 z3 f0 f1 f2 f3 hc0 hc1 hc2 hc3
        obtain ⟨_, z0, z1, z2, z3, f0, f1, f2, f3⟩ := Z7.e4
        have Zn := Z7.set 2 (.slice v2a (k + 1) v2c) (by simp)
        have On := (show Chg (fun j => j = b) w7 (w7.setCell ⟨b, 2, none⟩ (.slice v2a (k + 1) v2c)) from Chg.setCell (S := fun j => j = b) (p := ⟨b, 2, none⟩) (Chg.refl _ _) rfl _).owns hown7 (fun g hg hh => by have := hge7 g hg; omega)
        have hCn := hC7.setCell (p := ⟨b, 2, none⟩) (.inl rfl) (.slice v2a (k + 1) v2c)
        clear Z7 hown7 hC7 Z1 hC1 hgrow7 ON OA
        unfold Stop
        go_wp2
        go_roundw
        case rel => exact ⟨k + 1, .slice v2a (k + 1) v2c, by omega, by go_num, Zn, by rw [HMP.out]; exact On, hCn⟩
        case measure => simp [intOf]; omega
      · obtain rfl : k = ZD.length := by omega
        rw [List.take_length] at O1
        have Rr := hC.box R (by omega)
        have Or := hC.owns O (fun g hg hh => by have := hneO g hg; have := hlO g hg; omega)
        have hge1 := owns_ge O1
        obtain ⟨S2a, S2c, rfl⟩ := owns_shape O
        obtain ⟨_, z0, z1, z2, z3, _⟩ := Zr.e4
        obtain ⟨hrl, r0, r1, r2, r3, f0, f1, f2, f3⟩ := Rr.e4
        have hCE := put4_chg wr (w.heap.size + 1 + 1) (.int .i64 nx2) (.int .i64 sq2) (.slice v1a ZD.length v1c) (.slice S2a ZA.length S2c)
        have OE1 := hCE.owns (owns_mono O1 hz5) (fun g hg hh => by have := hge1 g hg; omega)
        have OE2 := hCE.owns Or (fun g hg hh => hne2 g hg hh)
        have hBE := (hB.trans (hC.below (B := w.heap.size) hz5 (fun j hj => by omega))).trans (hCE.below (B := w.heap.size) (by omega) (fun j hj => by omega))
        clear hCE
        go_wp2
        refine bodyPost_ret (v := .tuple #[.agg #[.int .i64 nx2, .int .i64 sq2, .slice v1a ZD.length v1c, .slice S2a ZA.length S2c], .bool true]) (by simp [results, Try.results14, go_sem, r0, r1, r2, r3]) rfl ⟨_, _, rfl, ?_, ?_, hBE⟩
        · rw [hRD.out, List.length_map]; exact OE1
        · rw [hRA.out]; exact OE2
end Go.Proofs.Ytenbdjlhcadhaaa
