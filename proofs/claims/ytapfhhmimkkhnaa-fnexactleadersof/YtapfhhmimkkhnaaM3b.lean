/-
  A message is good: the specification's side.
-/
import Derived.Test.YtapfhhmimkkhnaaM2b
namespace Go.Proofs.Ytapfhhmimkkhnaa
open Go.RowKit
set_option linter.unusedVariables false
set_option maxRecDepth 100000

def restB (ki te ix be co : Int) (ye : Bool) (es : List En) : Bool :=
  if ki = 3 then !ye && ((gE te 0 es && decide ((es.length : Int) ≤ 60)) && decide (ix + (es.length : Int) ≤ 60))
  else !carB es.length co && (if ki = 1 then !ye else if ki = 2 then decide (ix = 0) && decide (be = 0) else decide (ki = 4) && decide (be = 0))
theorem goodM_spec (pe ki fr dst te ix be co : Int) (ye : Bool) (es : List En) : goodM pe ki fr dst te ix be co ye es =
    (inB pe 1 7 && (!decide (fr = dst) && (inB fr 0 (pe - 1) && (inB dst 0 (pe - 1) && (inB te 1 1000 && (inB ix 0 60 && (inB be 0 1000 && (inB co 0 60 && restB ki te ix be co ye es)))))))) := by
  unfold goodM restB
  by_cases k1 : ki = 1
  · subst k1
    rw [kindB_1]
    unfold carB
    generalize es.length = n
    rw [Bool.eq_iff_iff]
    cases ye <;> simp [placeB, inB, isP] <;> omega
  by_cases k2 : ki = 2
  · subst k2
    rw [kindB_2]
    unfold carB
    generalize es.length = n
    rw [Bool.eq_iff_iff]
    simp [inB, isP]
    omega
  by_cases k3 : ki = 3
  · subst k3
    rw [kindB_3]
    unfold loadB
    generalize es.length = n
    generalize gE te 0 es = g
    rw [Bool.eq_iff_iff]
    cases ye <;> cases g <;> simp [placeB, inB, isP] <;> omega
  by_cases k4 : ki = 4
  · subst k4
    rw [kindB_4]
    unfold carB
    generalize es.length = n
    rw [Bool.eq_iff_iff]
    simp [placeB, inB, isP]
    omega
  · rw [kindB_x _ _ _ _ _ _ _ k1 k2 k3 k4]
    simp [k1, k2, k3, k4]

theorem restB_3 (te ix be co : Int) (ye : Bool) (es : List En) : restB 3 te ix be co ye es = (!ye && ((gE te 0 es && decide ((es.length : Int) ≤ 60)) && decide (ix + (es.length : Int) ≤ 60))) := by simp [restB]
theorem restB_1 (te ix be co : Int) (ye : Bool) (es : List En) : restB 1 te ix be co ye es = (!carB es.length co && !ye) := by simp [restB]
theorem restB_2 (te ix be co : Int) (ye : Bool) (es : List En) : restB 2 te ix be co ye es = (!carB es.length co && (decide (ix = 0) && decide (be = 0))) := by simp [restB]
theorem restB_4 (te ix be co : Int) (ye : Bool) (es : List En) : restB 4 te ix be co ye es = (!carB es.length co && decide (be = 0)) := by simp [restB]
theorem restB_x (ki te ix be co : Int) (ye : Bool) (es : List En) (h1 : ¬ ki = 1) (h2 : ¬ ki = 2) (h3 : ¬ ki = 3) (h4 : ¬ ki = 4) : restB ki te ix be co ye es = false := by simp [restB, h1, h2, h3, h4]
set_option maxHeartbeats 8000000 in
theorem specGoodM_any (pe ki fr dst te ix be co : Int) (ye : Bool) (ve : Value) (es : List En) (w : World) (he : ER w ve es) (ne : es.length ≤ 1048576) (ns : ∀ i (h : i < es.length), es[i].d.size ≤ 1048576) :
    Calls Try.prog 96 #[.agg #[.int .i64 ki, .int .i64 fr, .int .i64 dst, .int .i64 te, .int .i64 ix, .int .i64 be, ve, .int .i64 co, .bool ye], .int .i64 pe] w fun e w' => e = .returned (.bool (goodM pe ki fr dst te ix be co ye es)) ∧ Below w.heap.size w w' := by
  have hB := below_alloc w (.cells #[.int .i64 ki, .int .i64 fr, .int .i64 dst, .int .i64 te, .int .i64 ix, .int .i64 be, ve, .int .i64 co, .bool ye] 38)
  have X := Box.new w #[.int .i64 ki, .int .i64 fr, .int .i64 dst, .int .i64 te, .int .i64 ix, .int .i64 be, ve, .int .i64 co, .bool ye] 38
  have HO : Hid (goodM pe ki fr dst te ix be co ye es = (inB pe 1 7 && (!decide (fr = dst) && (inB fr 0 (pe - 1) && (inB dst 0 (pe - 1) && (inB te 1 1000 && (inB ix 0 60 && (inB be 0 1000 && (inB co 0 60 && restB ki te ix be co ye es))))))))) := goodM_spec _ _ _ _ _ _ _ _ _ _
  have KP := fun W => l11Peers_any pe W
  have K1 := fun W => l1In_any fr 0 (pe - 1) W
  have K2 := fun W => l1In_any dst 0 (pe - 1) W
  have K3 := fun W => l1In_any te 1 1000 W
  have K4 := fun W => l1In_any ix 0 60 W
  have K5 := fun W => l1In_any be 0 1000 W
  have K6 := fun W => l1In_any co 0 60 W
  have KE := l11Entries_any ve es te _ (he.below hB) ne ns
  have C0 : (carB es.length co = true ∧ (0 < es.length ∨ (es.length = 0 ∧ ¬ co = 0))) ∨ (carB es.length co = false ∧ es.length = 0 ∧ co = 0) := by
    unfold carB
    rcases Nat.eq_zero_or_pos es.length with h | h
    · by_cases h2 : co = 0
      · exact .inr ⟨by simp [h, h2], h, h2⟩
      · exact .inl ⟨by simp [h2], .inr ⟨h, h2⟩⟩
    · exact .inl ⟨by simp [List.length_pos_iff] at h ⊢; simp [h], .inl h⟩
  generalize goodM pe ki fr dst te ix be co ye es = R at *
  generalize hb1 : inB pe 1 7 = b1 at *
  generalize inB fr 0 (pe - 1) = b2 at *
  generalize inB dst 0 (pe - 1) = b3 at *
  generalize inB te 1 1000 = b4 at *
  generalize hb5 : inB ix 0 60 = b5 at *
  generalize inB be 0 1000 = b6 at *
  generalize inB co 0 60 = b7 at *
  obtain ⟨ea, ec, rfl, hec⟩ := he
  clear hec ns
  go_enter Try.func96, Try.ntmps96
  go_wp2_with fail
  refine (KP _).mono ?_
  rintro e w1 ⟨rfl, hw⟩
  subst hw
  clear KP
  cases b1
  · clear KE C0
    go_wp2
    go_ret
    exact ⟨by rw [HO.out]; simp, hB⟩
  have pB : 1 ≤ pe ∧ pe ≤ 7 := by simp [inB] at hb1; omega
  obtain ⟨p1, p7⟩ := pB
  clear hb1
  by_cases c2 : fr = dst
  · subst c2
    clear KE C0
    go_wp2
    go_ret
    exact ⟨by rw [HO.out]; simp, hB⟩
  have c2b : (fr == dst) = false := by simp [c2]
  go_wp2_with fail
  refine (K1 _).mono ?_
  rintro e w1 ⟨rfl, hw⟩
  subst hw
  clear K1
  cases b2
  · clear KE C0
    go_wp2
    go_ret
    exact ⟨by rw [HO.out]; simp, hB⟩
  go_wp2_with fail
  refine (K2 _).mono ?_
  rintro e w1 ⟨rfl, hw⟩
  subst hw
  clear K2
  cases b3
  · clear KE C0
    go_wp2
    go_ret
    exact ⟨by rw [HO.out]; simp, hB⟩
  go_wp2_with fail
  refine (K3 _).mono ?_
  rintro e w1 ⟨rfl, hw⟩
  subst hw
  clear K3
  cases b4
  · clear KE C0
    go_wp2
    go_ret
    exact ⟨by rw [HO.out]; simp, hB⟩
  go_wp2_with fail
  refine (K4 _).mono ?_
  rintro e w1 ⟨rfl, hw⟩
  subst hw
  clear K4
  cases b5
  · clear KE C0
    go_wp2
    go_ret
    exact ⟨by rw [HO.out]; simp, hB⟩
  have xB : 0 ≤ ix ∧ ix ≤ 60 := by simp [inB] at hb5; omega
  obtain ⟨x0', x60⟩ := xB
  clear hb5
  go_wp2_with fail
  refine (K5 _).mono ?_
  rintro e w1 ⟨rfl, hw⟩
  subst hw
  clear K5
  cases b6
  · clear KE C0
    go_wp2
    go_ret
    exact ⟨by rw [HO.out]; simp, hB⟩
  go_wp2_with fail
  refine (K6 _).mono ?_
  rintro e w1 ⟨rfl, hw⟩
  subst hw
  clear K6
  cases b7
  · clear KE C0
    go_wp2
    go_ret
    exact ⟨by rw [HO.out]; simp, hB⟩
  have HV : Hid (R = restB ki te ix be co ye es) := by
    show _ = _
    rw [HO.out, decide_eq_false c2]; rfl
  clear HO
  by_cases k1 : ki = 1
  · subst k1
    have HE := HV.out
    clear HV KE
    rw [restB_1] at HE
    rcases C0 with ⟨hc, hn | ⟨hn, h0⟩⟩ | ⟨hc, hn, h0⟩
    · rw [hc] at HE
      have HO : Hid _ := HE
      clear HE hc
      generalize es.length = n at *
      have hn2 : (0 : Int) < (n : Int) := by omega
      go_wp2
      go_ret
      exact ⟨by rw [HO.out]; simp <;> omega, hB⟩
    · rw [hc] at HE
      have HO : Hid _ := HE
      clear HE hc
      have h0b : (co == 0) = false := by simp [h0]
      have h0c : (co != 0) = true := by simp [h0]
      generalize es.length = n at *
      subst hn
      go_wp2
      go_ret
      exact ⟨by rw [HO.out]; simp <;> omega, hB⟩
    · rw [hc] at HE
      have HO : Hid _ := HE
      clear HE hc
      subst h0
      generalize es.length = n at *
      subst hn
      cases ye
      · go_wp2
        go_ret
        exact ⟨by rw [HO.out]; simp <;> omega, hB⟩
      go_wp2
      go_ret
      exact ⟨by rw [HO.out]; simp <;> omega, hB⟩
  by_cases k2 : ki = 2
  · subst k2
    have HE := HV.out
    clear HV KE
    rw [restB_2] at HE
    rcases C0 with ⟨hc, hn | ⟨hn, h0⟩⟩ | ⟨hc, hn, h0⟩
    · rw [hc] at HE
      have HO : Hid _ := HE
      clear HE hc
      generalize es.length = n at *
      have hn2 : (0 : Int) < (n : Int) := by omega
      go_wp2
      go_ret
      exact ⟨by rw [HO.out]; simp <;> omega, hB⟩
    · rw [hc] at HE
      have HO : Hid _ := HE
      clear HE hc
      have h0b : (co == 0) = false := by simp [h0]
      have h0c : (co != 0) = true := by simp [h0]
      generalize es.length = n at *
      subst hn
      go_wp2
      go_ret
      exact ⟨by rw [HO.out]; simp <;> omega, hB⟩
    · rw [hc] at HE
      have HO : Hid _ := HE
      clear HE hc
      subst h0
      generalize es.length = n at *
      subst hn
      by_cases z1 : ix = 0
      rotate_left
      · have z1b : (ix == 0) = false := by simp [z1]
        go_wp2
        go_ret
        exact ⟨by rw [HO.out]; simp [z1], hB⟩
      subst z1
      by_cases z2 : be = 0
      rotate_left
      · have z2b : (be == 0) = false := by simp [z2]
        go_wp2
        go_ret
        exact ⟨by rw [HO.out]; simp [z2], hB⟩
      subst z2
      go_wp2
      go_ret
      exact ⟨by rw [HO.out]; simp <;> omega, hB⟩
  by_cases k3 : ki = 3
  · subst k3
    have HE := HV.out
    clear HV C0
    rw [restB_3] at HE
    have HO : Hid _ := HE
    clear HE
    generalize (gE te 0 es && decide ((es.length : Int) ≤ 60)) = g at *
    generalize es.length = n at *
    cases ye
    rotate_left
    · clear KE
      go_wp2
      go_ret
      exact ⟨by rw [HO.out]; simp, hB⟩
    go_wp2_with fail
    refine KE.mono ?_
    rintro e w2 ⟨rfl, hb⟩
    replace hB := below_then hB hb
    replace X := X.below hb
    clear KE hb
    obtain ⟨hxl, x0, x1, x2, x3, x4, x5, x6, x7, x8⟩ := X.e9
    cases g
    · go_wp2
      go_ret
      exact ⟨by rw [HO.out]; simp, hB⟩
    by_cases z : ix + (n : Int) ≤ 60
    all_goals
      go_wp2
      go_ret
      exact ⟨by rw [HO.out]; simp <;> omega, hB⟩
  by_cases k4 : ki = 4
  · subst k4
    have HE := HV.out
    clear HV KE
    rw [restB_4] at HE
    rcases C0 with ⟨hc, hn | ⟨hn, h0⟩⟩ | ⟨hc, hn, h0⟩
    · rw [hc] at HE
      have HO : Hid _ := HE
      clear HE hc
      generalize es.length = n at *
      have hn2 : (0 : Int) < (n : Int) := by omega
      go_wp2
      go_ret
      exact ⟨by rw [HO.out]; simp <;> omega, hB⟩
    · rw [hc] at HE
      have HO : Hid _ := HE
      clear HE hc
      have h0b : (co == 0) = false := by simp [h0]
      have h0c : (co != 0) = true := by simp [h0]
      generalize es.length = n at *
      subst hn
      go_wp2
      go_ret
      exact ⟨by rw [HO.out]; simp <;> omega, hB⟩
    · rw [hc] at HE
      have HO : Hid _ := HE
      clear HE hc
      subst h0
      generalize es.length = n at *
      subst hn
      by_cases z2 : be = 0
      rotate_left
      · have z2b : (be == 0) = false := by simp [z2]
        go_wp2
        go_ret
        exact ⟨by rw [HO.out]; simp [z2], hB⟩
      subst z2
      go_wp2
      go_ret
      exact ⟨by rw [HO.out]; simp <;> omega, hB⟩
  have HE := HV.out
  clear HV KE
  rw [restB_x _ _ _ _ _ _ _ k1 k2 k3 k4] at HE
  have HO : Hid _ := HE
  clear HE
  have k4b : (ki == 4) = false := by simp [k4]
  have k3b : (ki != 3) = true := by simp [k3]
  rcases C0 with ⟨hc, hn | ⟨hn, h0⟩⟩ | ⟨hc, hn, h0⟩
  · clear hc
    generalize es.length = n at *
    have hn2 : (0 : Int) < (n : Int) := by omega
    go_wp2
    go_ret
    exact ⟨by rw [HO.out]; try rfl, hB⟩
  · clear hc
    have h0b : (co == 0) = false := by simp [h0]
    have h0c : (co != 0) = true := by simp [h0]
    generalize es.length = n at *
    subst hn
    go_wp2
    go_ret
    exact ⟨by rw [HO.out]; try rfl, hB⟩
  · clear hc
    subst h0
    generalize es.length = n at *
    subst hn
    go_wp2
    go_ret
    exact ⟨by rw [HO.out]; try rfl, hB⟩
end Go.Proofs.Ytapfhhmimkkhnaa
