/-
  A message is good: both sides.
-/
import Derived.Test.YtapfhhmimkkhnaaC1ToM1
namespace Go.Proofs.Ytapfhhmimkkhnaa
open Go.RowKit
set_option linter.unusedVariables false
set_option maxRecDepth 100000

def placeB (ix be : Int) : Bool := decide (0 ≤ ix) && decide (ix ≤ 60) && decide (0 ≤ be) && decide (be ≤ 1000)
def loadB (te ix co : Int) (es : List En) : Bool := decide (ix + (es.length : Int) ≤ 60) && gE te 0 es && decide (0 ≤ co) && decide (co ≤ 60)
def carB (n co : Int) : Bool := decide (0 < n) || !decide (co = 0)
def kindB (ki te ix be co : Int) (ye : Bool) (es : List En) : Bool :=
  if ki = 1 then placeB ix be && !carB es.length co && !ye
  else if ki = 2 then decide (ix = 0) && decide (be = 0) && !carB es.length co
  else if ki = 3 then placeB ix be && loadB te ix co es && !ye
  else if ki = 4 then placeB ix be && decide (be = 0) && !carB es.length co
  else false
/-- A message is good for so many peers. -/
def goodM (pe ki fr dst te ix be co : Int) (ye : Bool) (es : List En) : Bool :=
  decide (pe ≤ 7) && isP fr pe && isP dst pe && !decide (fr = dst) && decide (1 ≤ te) && decide (te ≤ 1000) && kindB ki te ix be co ye es

set_option maxHeartbeats 2000000 in
theorem goodPlace_any (ki fr dst te ix be co : Int) (ye : Bool) (ve : Value) (w : World) :
    Calls Try.prog 70 #[.agg #[.int .i64 ki, .int .i64 fr, .int .i64 dst, .int .i64 te, .int .i64 ix, .int .i64 be, ve, .int .i64 co, .bool ye]] w fun e w' => e = .returned (.bool (placeB ix be)) ∧ Below w.heap.size w w' := by
  unfold placeB
  by_cases c1 : 0 ≤ ix
  · by_cases c2 : ix ≤ 60
    · by_cases c3 : 0 ≤ be
      · by_cases c4 : be ≤ 1000
        all_goals
          go_enter Try.func70, Try.ntmps70
          go_wp2
          go_ret
          exact ⟨by simp <;> omega, below_alloc _ _⟩
      · go_enter Try.func70, Try.ntmps70
        go_wp2
        go_ret
        exact ⟨by simp <;> omega, below_alloc _ _⟩
    · go_enter Try.func70, Try.ntmps70
      go_wp2
      go_ret
      exact ⟨by simp <;> omega, below_alloc _ _⟩
  · go_enter Try.func70, Try.ntmps70
    go_wp2
    go_ret
    exact ⟨by simp <;> omega, below_alloc _ _⟩
set_option maxHeartbeats 2000000 in
theorem goodLoad_any (ki fr dst te ix be co : Int) (ye : Bool) (ve : Value) (es : List En) (w : World) (he : ER w ve es) (ne : es.length ≤ 1048576) (ns : ∀ i (h : i < es.length), es[i].d.size ≤ 1048576) (hx0 : 0 ≤ ix) (hx1 : ix ≤ 60) :
    Calls Try.prog 71 #[.agg #[.int .i64 ki, .int .i64 fr, .int .i64 dst, .int .i64 te, .int .i64 ix, .int .i64 be, ve, .int .i64 co, .bool ye]] w fun e w' => e = .returned (.bool (loadB te ix co es)) ∧ Below w.heap.size w w' := by
  have hB := below_alloc w (.cells #[.int .i64 ki, .int .i64 fr, .int .i64 dst, .int .i64 te, .int .i64 ix, .int .i64 be, ve, .int .i64 co, .bool ye] 38)
  have X := Box.new w #[.int .i64 ki, .int .i64 fr, .int .i64 dst, .int .i64 te, .int .i64 ix, .int .i64 be, ve, .int .i64 co, .bool ye] 38
  have KE := goodEntries_any ve es te _ (he.below hB) ne ns
  have HO : Hid (loadB te ix co es = (decide (ix + (es.length : Int) ≤ 60) && gE te 0 es && decide (0 ≤ co) && decide (co ≤ 60))) := rfl
  generalize loadB te ix co es = R at *
  generalize gE te 0 es = g at *
  obtain ⟨ea, ec, rfl, hec⟩ := he
  clear hec ns
  generalize es.length = n at *
  by_cases c1 : ix + (n : Int) ≤ 60
  rotate_left
  · go_enter Try.func71, Try.ntmps71
    go_wp2
    go_ret
    exact ⟨by rw [HO.out]; simp <;> omega, hB⟩
  go_enter Try.func71, Try.ntmps71
  go_wp2_with fail
  refine KE.mono ?_
  rintro e w1 ⟨rfl, hb⟩
  replace hB := below_then hB hb
  replace X := X.below hb
  clear KE hb
  obtain ⟨hxl, x0, x1, x2, x3, x4, x5, x6, x7, x8⟩ := X.e9
  cases g
  · go_wp2
    go_ret
    exact ⟨by rw [HO.out]; simp, hB⟩
  by_cases c2 : 0 ≤ co
  rotate_left
  · go_wp2
    go_ret
    exact ⟨by rw [HO.out]; simp <;> omega, hB⟩
  by_cases c3 : co ≤ 60
  all_goals
    go_wp2
    go_ret
    exact ⟨by rw [HO.out]; simp <;> omega, hB⟩

theorem kindB_1 (te ix be co : Int) (ye : Bool) (es : List En) : kindB 1 te ix be co ye es = (placeB ix be && !carB es.length co && !ye) := by simp [kindB]
theorem kindB_2 (te ix be co : Int) (ye : Bool) (es : List En) : kindB 2 te ix be co ye es = (decide (ix = 0) && decide (be = 0) && !carB es.length co) := by simp [kindB]
theorem kindB_3 (te ix be co : Int) (ye : Bool) (es : List En) : kindB 3 te ix be co ye es = (placeB ix be && loadB te ix co es && !ye) := by simp [kindB]
theorem kindB_4 (te ix be co : Int) (ye : Bool) (es : List En) : kindB 4 te ix be co ye es = (placeB ix be && decide (be = 0) && !carB es.length co) := by simp [kindB]
theorem kindB_x (ki te ix be co : Int) (ye : Bool) (es : List En) (h1 : ¬ ki = 1) (h2 : ¬ ki = 2) (h3 : ¬ ki = 3) (h4 : ¬ ki = 4) : kindB ki te ix be co ye es = false := by simp [kindB, h1, h2, h3, h4]

set_option maxHeartbeats 8000000 in
theorem implGoodM_any (pe ki fr dst te ix be co : Int) (ye : Bool) (ve : Value) (es : List En) (w : World) (he : ER w ve es) (ne : es.length ≤ 1048576) (ns : ∀ i (h : i < es.length), es[i].d.size ≤ 1048576) :
    Calls Try.prog 19 #[.agg #[.int .i64 ki, .int .i64 fr, .int .i64 dst, .int .i64 te, .int .i64 ix, .int .i64 be, ve, .int .i64 co, .bool ye], .int .i64 pe] w fun e w' => e = .returned (.bool (goodM pe ki fr dst te ix be co ye es)) ∧ Below w.heap.size w w' := by
  have hB := below_alloc w (.cells #[.int .i64 ki, .int .i64 fr, .int .i64 dst, .int .i64 te, .int .i64 ix, .int .i64 be, ve, .int .i64 co, .bool ye] 38)
  have X := Box.new w #[.int .i64 ki, .int .i64 fr, .int .i64 dst, .int .i64 te, .int .i64 ix, .int .i64 be, ve, .int .i64 co, .bool ye] 38
  have HO : Hid (goodM pe ki fr dst te ix be co ye es = (decide (pe ≤ 7) && isP fr pe && isP dst pe && !decide (fr = dst) && decide (1 ≤ te) && decide (te ≤ 1000) && kindB ki te ix be co ye es)) := rfl
  have K1 := fun W => isPeer_any fr pe W
  have K2 := fun W => isPeer_any dst pe W
  have KP := fun W => goodPlace_any ki fr dst te ix be co ye ve W
  have KL := fun (hp : placeB ix be = true) W (h : Below w.heap.size w W) => goodLoad_any ki fr dst te ix be co ye ve es W (he.below h) ne ns (by simp [placeB] at hp; omega) (by simp [placeB] at hp; omega)
  have C0 : (carB es.length co = true ∧ (0 < es.length ∨ (es.length = 0 ∧ ¬ co = 0))) ∨ (carB es.length co = false ∧ es.length = 0 ∧ co = 0) := by
    unfold carB
    rcases Nat.eq_zero_or_pos es.length with h | h
    · by_cases h2 : co = 0
      · exact .inr ⟨by simp [h, h2], h, h2⟩
      · exact .inl ⟨by simp [h2], .inr ⟨h, h2⟩⟩
    · exact .inl ⟨by simp [List.length_pos_iff] at h ⊢; simp [h], .inl h⟩
  generalize goodM pe ki fr dst te ix be co ye es = R at *
  generalize isP fr pe = b1 at *
  generalize isP dst pe = b2 at *
  obtain ⟨ea, ec, rfl, hec⟩ := he
  clear hec ns
  by_cases c1 : pe ≤ 7
  rotate_left
  · clear KL C0 K1 K2 KP
    go_enter Try.func19, Try.ntmps19
    go_wp2
    go_ret
    exact ⟨by rw [HO.out]; simp <;> omega, hB⟩
  go_enter Try.func19, Try.ntmps19
  go_wp2_with fail
  refine (K1 _).mono ?_
  rintro e w1 ⟨rfl, hw⟩
  subst hw
  clear K1
  cases b1
  · clear KL C0 K2 KP
    go_wp2
    go_ret
    exact ⟨by rw [HO.out]; simp <;> omega, hB⟩
  go_wp2_with fail
  refine (K2 _).mono ?_
  rintro e w1 ⟨rfl, hw⟩
  subst hw
  clear K2
  cases b2
  · clear KL C0 KP
    go_wp2
    go_ret
    exact ⟨by rw [HO.out]; simp <;> omega, hB⟩
  by_cases c2 : fr = dst
  · subst c2
    clear KL C0 KP
    go_wp2
    go_ret
    exact ⟨by rw [HO.out]; simp <;> omega, hB⟩
  have c2b : (fr == dst) = false := by simp [c2]
  by_cases c3 : 1 ≤ te
  rotate_left
  · clear KL C0 KP
    go_wp2
    go_ret
    exact ⟨by rw [HO.out]; simp <;> omega, hB⟩
  by_cases c4 : te ≤ 1000
  rotate_left
  · clear KL C0 KP
    go_wp2
    go_ret
    exact ⟨by rw [HO.out]; simp <;> omega, hB⟩
  have HV : Hid (R = kindB ki te ix be co ye es) := by
    show _ = _
    rw [HO.out, decide_eq_true c1, decide_eq_true c3, decide_eq_true c4, decide_eq_false c2]; rfl
  clear HO
  have c3b : ¬ te < 1 := by omega
  have c4b : ¬ 1000 < te := by omega
  by_cases k1 : ki = 1
  · subst k1
    have HE := HV.out
    clear HV
    rw [kindB_1] at HE
    generalize placeB ix be = bp at *
    rcases C0 with ⟨hc, hn | ⟨hn, h0⟩⟩ | ⟨hc, hn, h0⟩
    · rw [hc] at HE
      have HO : Hid _ := HE
      clear HE hc
      generalize es.length = n at *
      have hn2 : (0 : Int) < (n : Int) := by omega
      go_wp2_with fail
      refine (KP _).mono ?_
      rintro e w2 ⟨rfl, hb⟩
      replace hB := below_then hB hb
      replace X := X.below hb
      clear KP hb
      obtain ⟨hxl, x0, x1, x2, x3, x4, x5, x6, x7, x8⟩ := X.e9
      cases bp
      · clear KL
        go_wp2
        go_ret
        exact ⟨by rw [HO.out]; simp <;> omega, hB⟩
      clear KL
      go_wp2
      go_ret
      exact ⟨by rw [HO.out]; simp <;> omega, hB⟩
    · rw [hc] at HE
      have HO : Hid _ := HE
      clear HE hc
      have h0b : (co == 0) = false := by simp [h0]
      generalize es.length = n at *
      subst hn
      go_wp2_with fail
      refine (KP _).mono ?_
      rintro e w2 ⟨rfl, hb⟩
      replace hB := below_then hB hb
      replace X := X.below hb
      clear KP hb
      obtain ⟨hxl, x0, x1, x2, x3, x4, x5, x6, x7, x8⟩ := X.e9
      cases bp
      · clear KL
        go_wp2
        go_ret
        exact ⟨by rw [HO.out]; simp <;> omega, hB⟩
      clear KL
      go_wp2
      go_ret
      exact ⟨by rw [HO.out]; simp <;> omega, hB⟩
    · rw [hc] at HE
      have HO : Hid _ := HE
      clear HE hc
      subst h0
      generalize es.length = n at *
      subst hn
      go_wp2_with fail
      refine (KP _).mono ?_
      rintro e w2 ⟨rfl, hb⟩
      replace hB := below_then hB hb
      replace X := X.below hb
      clear KP hb
      obtain ⟨hxl, x0, x1, x2, x3, x4, x5, x6, x7, x8⟩ := X.e9
      cases bp
      · clear KL
        go_wp2
        go_ret
        exact ⟨by rw [HO.out]; simp <;> omega, hB⟩
      cases ye
      · clear KL
        go_wp2
        go_ret
        exact ⟨by rw [HO.out]; simp <;> omega, hB⟩
      clear KL
      go_wp2
      go_ret
      exact ⟨by rw [HO.out]; simp <;> omega, hB⟩
  by_cases k2 : ki = 2
  · subst k2
    have HE := HV.out
    clear HV
    rw [kindB_2] at HE
    rcases C0 with ⟨hc, hn | ⟨hn, h0⟩⟩ | ⟨hc, hn, h0⟩
    · rw [hc] at HE
      have HO : Hid _ := HE
      clear HE hc
      generalize es.length = n at *
      have hn2 : (0 : Int) < (n : Int) := by omega
      clear KL KP
      by_cases z1 : ix = 0
      rotate_left
      · have z1b : (ix == 0) = false := by simp [z1]
        go_wp2
        go_ret
        exact ⟨by rw [HO.out]; simp [z1], hB⟩
      subst z1
      by_cases z2 : be = 0
      rotate_left
      · have z2b : (be == 0) = false := by simp [z2]
        go_wp2
        go_ret
        exact ⟨by rw [HO.out]; simp [z2], hB⟩
      subst z2
      go_wp2
      go_ret
      exact ⟨by rw [HO.out]; simp <;> omega, hB⟩
    · rw [hc] at HE
      have HO : Hid _ := HE
      clear HE hc
      have h0b : (co == 0) = false := by simp [h0]
      generalize es.length = n at *
      subst hn
      clear KL KP
      by_cases z1 : ix = 0
      rotate_left
      · have z1b : (ix == 0) = false := by simp [z1]
        go_wp2
        go_ret
        exact ⟨by rw [HO.out]; simp [z1], hB⟩
      subst z1
      by_cases z2 : be = 0
      rotate_left
      · have z2b : (be == 0) = false := by simp [z2]
        go_wp2
        go_ret
        exact ⟨by rw [HO.out]; simp [z2], hB⟩
      subst z2
      go_wp2
      go_ret
      exact ⟨by rw [HO.out]; simp <;> omega, hB⟩
    · rw [hc] at HE
      have HO : Hid _ := HE
      clear HE hc
      subst h0
      generalize es.length = n at *
      subst hn
      clear KL KP
      by_cases z1 : ix = 0
      rotate_left
      · have z1b : (ix == 0) = false := by simp [z1]
        go_wp2
        go_ret
        exact ⟨by rw [HO.out]; simp [z1], hB⟩
      subst z1
      by_cases z2 : be = 0
      rotate_left
      · have z2b : (be == 0) = false := by simp [z2]
        go_wp2
        go_ret
        exact ⟨by rw [HO.out]; simp [z2], hB⟩
      subst z2
      go_wp2
      go_ret
      exact ⟨by rw [HO.out]; simp <;> omega, hB⟩
  by_cases k3 : ki = 3
  · subst k3
    have HE := HV.out
    clear HV
    rw [kindB_3] at HE
    generalize placeB ix be = bp at *
    generalize loadB te ix co es = bl at *
    rcases C0 with ⟨hc, hn | ⟨hn, h0⟩⟩ | ⟨hc, hn, h0⟩
    · have HO : Hid _ := HE
      clear HE hc
      generalize es.length = n at *
      have hn2 : (0 : Int) < (n : Int) := by omega
      go_wp2_with fail
      refine (KP _).mono ?_
      rintro e w2 ⟨rfl, hb⟩
      replace hB := below_then hB hb
      replace X := X.below hb
      clear KP hb
      obtain ⟨hxl, x0, x1, x2, x3, x4, x5, x6, x7, x8⟩ := X.e9
      cases bp
      · clear KL
        go_wp2
        go_ret
        exact ⟨by rw [HO.out]; simp <;> omega, hB⟩
      replace KL := KL rfl
      go_wp2_with fail
      refine (KL _ hB).mono ?_
      rintro e w3 ⟨rfl, hb⟩
      replace hB := below_then hB hb
      replace X := X.below hb
      clear KL hb hxl x0 x1 x2 x3 x4 x5 x6 x7 x8
      obtain ⟨hxl, x0, x1, x2, x3, x4, x5, x6, x7, x8⟩ := X.e9
      cases bl
      · go_wp2
        go_ret
        exact ⟨by rw [HO.out]; simp <;> omega, hB⟩
      cases ye
      · go_wp2
        go_ret
        exact ⟨by rw [HO.out]; simp <;> omega, hB⟩
      go_wp2
      go_ret
      exact ⟨by rw [HO.out]; simp <;> omega, hB⟩
    · have HO : Hid _ := HE
      clear HE hc
      have h0b : (co == 0) = false := by simp [h0]
      generalize es.length = n at *
      subst hn
      go_wp2_with fail
      refine (KP _).mono ?_
      rintro e w2 ⟨rfl, hb⟩
      replace hB := below_then hB hb
      replace X := X.below hb
      clear KP hb
      obtain ⟨hxl, x0, x1, x2, x3, x4, x5, x6, x7, x8⟩ := X.e9
      cases bp
      · clear KL
        go_wp2
        go_ret
        exact ⟨by rw [HO.out]; simp <;> omega, hB⟩
      replace KL := KL rfl
      go_wp2_with fail
      refine (KL _ hB).mono ?_
      rintro e w3 ⟨rfl, hb⟩
      replace hB := below_then hB hb
      replace X := X.below hb
      clear KL hb hxl x0 x1 x2 x3 x4 x5 x6 x7 x8
      obtain ⟨hxl, x0, x1, x2, x3, x4, x5, x6, x7, x8⟩ := X.e9
      cases bl
      · go_wp2
        go_ret
        exact ⟨by rw [HO.out]; simp <;> omega, hB⟩
      cases ye
      · go_wp2
        go_ret
        exact ⟨by rw [HO.out]; simp <;> omega, hB⟩
      go_wp2
      go_ret
      exact ⟨by rw [HO.out]; simp <;> omega, hB⟩
    · have HO : Hid _ := HE
      clear HE hc
      subst h0
      generalize es.length = n at *
      subst hn
      go_wp2_with fail
      refine (KP _).mono ?_
      rintro e w2 ⟨rfl, hb⟩
      replace hB := below_then hB hb
      replace X := X.below hb
      clear KP hb
      obtain ⟨hxl, x0, x1, x2, x3, x4, x5, x6, x7, x8⟩ := X.e9
      cases bp
      · clear KL
        go_wp2
        go_ret
        exact ⟨by rw [HO.out]; simp <;> omega, hB⟩
      replace KL := KL rfl
      go_wp2_with fail
      refine (KL _ hB).mono ?_
      rintro e w3 ⟨rfl, hb⟩
      replace hB := below_then hB hb
      replace X := X.below hb
      clear KL hb hxl x0 x1 x2 x3 x4 x5 x6 x7 x8
      obtain ⟨hxl, x0, x1, x2, x3, x4, x5, x6, x7, x8⟩ := X.e9
      cases bl
      · go_wp2
        go_ret
        exact ⟨by rw [HO.out]; simp <;> omega, hB⟩
      cases ye
      · go_wp2
        go_ret
        exact ⟨by rw [HO.out]; simp <;> omega, hB⟩
      go_wp2
      go_ret
      exact ⟨by rw [HO.out]; simp <;> omega, hB⟩
  by_cases k4 : ki = 4
  · subst k4
    have HE := HV.out
    clear HV
    rw [kindB_4] at HE
    generalize placeB ix be = bp at *
    rcases C0 with ⟨hc, hn | ⟨hn, h0⟩⟩ | ⟨hc, hn, h0⟩
    · rw [hc] at HE
      have HO : Hid _ := HE
      clear HE hc
      generalize es.length = n at *
      have hn2 : (0 : Int) < (n : Int) := by omega
      go_wp2_with fail
      refine (KP _).mono ?_
      rintro e w2 ⟨rfl, hb⟩
      replace hB := below_then hB hb
      replace X := X.below hb
      clear KP hb
      obtain ⟨hxl, x0, x1, x2, x3, x4, x5, x6, x7, x8⟩ := X.e9
      cases bp
      · clear KL
        go_wp2
        go_ret
        exact ⟨by rw [HO.out]; simp <;> omega, hB⟩
      clear KL
      by_cases z2 : be = 0
      rotate_left
      · have z2b : (be == 0) = false := by simp [z2]
        go_wp2
        go_ret
        exact ⟨by rw [HO.out]; simp [z2], hB⟩
      subst z2
      go_wp2
      go_ret
      exact ⟨by rw [HO.out]; simp <;> omega, hB⟩
    · rw [hc] at HE
      have HO : Hid _ := HE
      clear HE hc
      have h0b : (co == 0) = false := by simp [h0]
      generalize es.length = n at *
      subst hn
      go_wp2_with fail
      refine (KP _).mono ?_
      rintro e w2 ⟨rfl, hb⟩
      replace hB := below_then hB hb
      replace X := X.below hb
      clear KP hb
      obtain ⟨hxl, x0, x1, x2, x3, x4, x5, x6, x7, x8⟩ := X.e9
      cases bp
      · clear KL
        go_wp2
        go_ret
        exact ⟨by rw [HO.out]; simp <;> omega, hB⟩
      clear KL
      by_cases z2 : be = 0
      rotate_left
      · have z2b : (be == 0) = false := by simp [z2]
        go_wp2
        go_ret
        exact ⟨by rw [HO.out]; simp [z2], hB⟩
      subst z2
      go_wp2
      go_ret
      exact ⟨by rw [HO.out]; simp <;> omega, hB⟩
    · rw [hc] at HE
      have HO : Hid _ := HE
      clear HE hc
      subst h0
      generalize es.length = n at *
      subst hn
      go_wp2_with fail
      refine (KP _).mono ?_
      rintro e w2 ⟨rfl, hb⟩
      replace hB := below_then hB hb
      replace X := X.below hb
      clear KP hb
      obtain ⟨hxl, x0, x1, x2, x3, x4, x5, x6, x7, x8⟩ := X.e9
      cases bp
      · clear KL
        go_wp2
        go_ret
        exact ⟨by rw [HO.out]; simp <;> omega, hB⟩
      clear KL
      by_cases z2 : be = 0
      rotate_left
      · have z2b : (be == 0) = false := by simp [z2]
        go_wp2
        go_ret
        exact ⟨by rw [HO.out]; simp [z2], hB⟩
      subst z2
      go_wp2
      go_ret
      exact ⟨by rw [HO.out]; simp <;> omega, hB⟩
  have HE := HV.out
  clear HV
  rw [kindB_x _ _ _ _ _ _ _ k1 k2 k3 k4] at HE
  have HO : Hid _ := HE
  clear HE KL KP
  rcases C0 with ⟨hc, hn | ⟨hn, h0⟩⟩ | ⟨hc, hn, h0⟩
  · clear hc
    generalize es.length = n at *
    have hn2 : (0 : Int) < (n : Int) := by omega
    go_wp2
    go_ret
    exact ⟨by rw [HO.out]; try rfl, hB⟩
  · clear hc
    have h0b : (co == 0) = false := by simp [h0]
    generalize es.length = n at *
    subst hn
    go_wp2
    go_ret
    exact ⟨by rw [HO.out]; try rfl, hB⟩
  · clear hc
    subst h0
    generalize es.length = n at *
    subst hn
    go_wp2
    go_ret
    exact ⟨by rw [HO.out]; try rfl, hB⟩
end Go.Proofs.Ytapfhhmimkkhnaa
