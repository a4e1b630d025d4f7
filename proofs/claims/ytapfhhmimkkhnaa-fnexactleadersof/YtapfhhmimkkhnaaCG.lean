/-
  A good cluster: the specification's side.
-/
import Derived.Test.YtapfhhmimkkhnaaCF
namespace Go.Proofs.Ytapfhhmimkkhnaa
open Go.RowKit Go.Maps
set_option linter.unusedVariables false
set_option maxRecDepth 100000

theorem goodC_n {N : List Nv} {M : List Ms} {L : List Ld} (h : nodesOk (N.map Nv.n) = false) : goodC (N.map Nv.n) M L = false := by simp [goodC, h]
theorem goodC_m {N : List Nv} {M : List Ms} {L : List Ld} (h : netOk N.length M = false) : goodC (N.map Nv.n) M L = false := by simp [goodC, h]
theorem goodC_l {N : List Nv} {M : List Ms} {L : List Ld} (h : leadsOk N.length L = false) : goodC (N.map Nv.n) M L = false := by simp [goodC, h]
theorem goodC_yes {N : List Nv} {M : List Mv} {L : List Ld} (h1 : 1 ≤ N.length) (h2 : N.length ≤ 7) (h3 : M.length ≤ 60) (h4 : L.length ≤ 1000) (hn : ∀ j (h : j < N.length), ndOk N.length j N[j].n = true) (hm : ∀ j (h : j < M.length), gMs N.length M[j].q = true) (hl : ∀ j (h : j < L.length), ldOk N.length L[j] = true) : goodC (N.map Nv.n) (M.map Mv.q) L = true := by
  unfold goodC
  rw [nodesOk_true hn]
  simp only [List.length_map]
  rw [netOk_true hm, leadsOk_true hl]
  simp [h1, h2, h3, h4]

set_option maxHeartbeats 32000000 in
theorem specGoodC_any (vn vm vl : Value) (N : List Nv) (M : List Mv) (L : List Ld) (w : World) (h : CR w vn vm vl N M L) (hs : CS N M L) :
    Calls Try.prog 39 #[.agg #[vn, vm, vl]] w fun e w' => e = .returned (.bool (goodC (N.map Nv.n) (M.map Mv.q) L)) ∧ Below w.heap.size w w' := by
  obtain ⟨⟨na, nc, hcn⟩, ⟨xa, xc, hcm⟩, ya, yc, hcl⟩ := h.shapes
  subst hcn
  subst hcm
  subst hcl
  have hB := below_alloc w (.cells #[.slice na N.length nc, .slice xa M.length xc, .slice ya L.length yc] 60)
  have X := Box.new w #[.slice na N.length nc, .slice xa M.length xc, .slice ya L.length yc] 60
  have HEN := fun k (hk : k < N.length) W (hb : Below w.heap.size w W) => (h.ne k hk).below hb
  have HEM := fun k (hk : k < M.length) W (hb : Below w.heap.size w W) => (h.me k hk).below hb
  obtain ⟨a1, c1, e1, hcN⟩ := h.n
  obtain ⟨a2, c2, e2, hcM⟩ := h.m
  obtain ⟨a3, c3, e3, hcL⟩ := h.l
  simp only [Value.slice.injEq, true_and] at e1 e2 e3
  obtain ⟨rfl, rfl⟩ := e1
  obtain ⟨rfl, rfl⟩ := e2
  obtain ⟨rfl, rfl⟩ := e3
  have hNl := hs.n
  have hMl := hs.m
  have hLl := hs.l
  clear h
  have KP := fun W => l11Peers_any (N.length : Int) W
  have HB0 : Hid (inB (N.length : Int) 1 7 = false → goodC (N.map Nv.n) (M.map Mv.q) L = false) := fun e => by
    have : ¬ (1 ≤ N.length ∧ N.length ≤ 7) := fun hh => by simp [inB] at e; omega
    unfold goodC
    simp only [List.length_map]
    by_cases h1 : 1 ≤ N.length
    · rw [decide_eq_false (show ¬ N.length ≤ 7 from fun h2 => this ⟨h1, h2⟩)]; simp
    · rw [decide_eq_false h1]; rfl
  by_cases hq : 1 ≤ N.length ∧ N.length ≤ 7
  rotate_left
  · have hib : inB (N.length : Int) 1 7 = false := by simp [inB]; omega
    have HV : Hid (goodC (N.map Nv.n) (M.map Mv.q) L = false) := HB0.out hib
    rw [hib] at KP
    clear hcN hcM hcL HEN HEM hs HB0
    go_enter Try.func39, Try.ntmps39
    go_wp2_with fail
    refine (KP _).mono ?_
    rintro e w1 ⟨rfl, hw⟩
    subst hw
    clear KP
    go_wp2
    go_ret
    exact ⟨by rw [HV.out]; try rfl, hB⟩
  obtain ⟨q1, q2⟩ := hq
  have hib : inB (N.length : Int) 1 7 = true := by simp [inB]; omega
  rw [hib] at KP
  clear hib HB0
  by_cases q3 : M.length ≤ 60
  rotate_left
  · have HV : Hid (goodC (N.map Nv.n) (M.map Mv.q) L = false) := by show _ = _; unfold goodC; simp [q3]
    have q3b : (60 : Int) < (M.length : Int) := by omega
    clear hcN hcM hcL HEN HEM hs
    go_enter Try.func39, Try.ntmps39
    go_wp2_with fail
    refine (KP _).mono ?_
    rintro e w1 ⟨rfl, hw⟩
    subst hw
    clear KP
    go_wp2
    go_ret
    exact ⟨by rw [HV.out]; try rfl, hB⟩
  have q3b : ¬ (60 : Int) < (M.length : Int) := by omega
  by_cases q4 : L.length ≤ 1000
  rotate_left
  · have HV : Hid (goodC (N.map Nv.n) (M.map Mv.q) L = false) := by show _ = _; unfold goodC; simp [q4]
    have q4b : (1000 : Int) < (L.length : Int) := by omega
    clear hcN hcM hcL HEN HEM hs
    go_enter Try.func39, Try.ntmps39
    go_wp2_with fail
    refine (KP _).mono ?_
    rintro e w1 ⟨rfl, hw⟩
    subst hw
    clear KP
    go_wp2
    go_ret
    exact ⟨by rw [HV.out]; try rfl, hB⟩
  have q4b : ¬ (1000 : Int) < (L.length : Int) := by omega
  go_enter Try.func39, Try.ntmps39
  go_wp2_with fail
  refine (KP _).mono ?_
  rintro e w1 ⟨rfl, hw⟩
  subst hw
  clear KP
  go_wp2
  clear q3b q4b
  go_loopw [29] (fun i wr => ∃ k : Nat, k ≤ N.length ∧ i = .int .i64 k ∧ (∀ j (h : j < N.length), j < k → ndOk N.length j N[j].n = true) ∧ Below w.heap.size w wr ∧ Box wr w.heap.size [.slice na N.length nc, .slice xa M.length xc, .slice ya L.length yc]) (fun i _ => N.length - (intOf i).toNat)
  case atStart => exact ⟨0, Nat.zero_le _, rfl, fun j _ h => absurd h (Nat.not_lt_zero j), hB, X⟩
  case round =>
    obtain ⟨k, hk, rfl, hall, hb, X⟩ := hrel
    clear hB
    by_cases hlt : k < N.length
    · obtain ⟨b, off, rfl, hbl, hcell⟩ := hcN (by intro e; simp [e] at hlt)
      obtain ⟨z0, z1, z2, z3, z4, z5, z6, z7, z8⟩ := hcell k hlt
      have hc0 := (hb.cell (p := ⟨b, off + k * 9, none⟩) hbl).trans z0
      have hc1 := (hb.cell (p := ⟨b, off + k * 9 + 1, none⟩) hbl).trans z1
      have hc2 := (hb.cell (p := ⟨b, off + k * 9 + 2, none⟩) hbl).trans z2
      have hc3 := (hb.cell (p := ⟨b, off + k * 9 + 3, none⟩) hbl).trans z3
      have hc4 := (hb.cell (p := ⟨b, off + k * 9 + 4, none⟩) hbl).trans z4
      have hc5 := (hb.cell (p := ⟨b, off + k * 9 + 5, none⟩) hbl).trans z5
      have hc6 := (hb.cell (p := ⟨b, off + k * 9 + 6, none⟩) hbl).trans z6
      have hc7 := (hb.cell (p := ⟨b, off + k * 9 + 7, none⟩) hbl).trans z7
      have hc8 := (hb.cell (p := ⟨b, off + k * 9 + 8, none⟩) hbl).trans z8
      have hE := HEN k hlt _ hb
      have hS := hs.ne k hlt
      have hS2 := hs.ns k hlt
      have HF : Hid (ndOk N.length k N[k].n = false → goodC (N.map Nv.n) (M.map Mv.q) L = false) := fun e => goodC_n (nodesOk_false hlt e)
      have HA : Hid (ndOk N.length k N[k].n = true → ∀ j (h : j < N.length), j < k + 1 → ndOk N.length j N[j].n = true) := fun e j h hj => by
        by_cases hjk : j < k
        · exact hall j h hjk
        · obtain rfl : j = k := by omega
          exact e
      clear hcell hcN HEN hs hall z0 z1 z2 z3 z4 z5 z6 z7 z8 hcM hcL HEM
      generalize N[k] = s at *
      obtain ⟨⟨id, pe, te, vo, co, ro, log, vs, mt⟩, la, lc, va, vc, ma, mc⟩ := s
      dsimp only at hc0 hc1 hc2 hc3 hc4 hc5 hc6 hc7 hc8 hE hS hS2 HF HA
      have hz := hb.size
      have hB0 := hb.alloc hz (.cells #[.int .i64 id, .int .i64 pe, .int .i64 te, .int .i64 vo, .slice la log.length lc, .int .i64 co, .int .i64 ro, .slice va vs.length vc, .slice ma mt.length mc] 26)
      have X0 := Box.new wr #[.int .i64 id, .int .i64 pe, .int .i64 te, .int .i64 vo, .slice la log.length lc, .int .i64 co, .int .i64 ro, .slice va vs.length vc, .slice ma mt.length mc] 26
      have hBw := below_alloc wr (.cells #[.int .i64 id, .int .i64 pe, .int .i64 te, .int .i64 vo, .slice la log.length lc, .int .i64 co, .int .i64 ro, .slice va vs.length vc, .slice ma mt.length mc] 26)
      have KG := specGoodN_any id pe te vo co ro _ _ _ log vs mt _ (hE.1.below hBw) (hE.2.1.below hBw) (hE.2.2.below hBw) hS.1 hS.2.1 hS.2.2 hS2
      replace X := X.below hBw
      have HD : Hid (ndOk N.length k ⟨id, pe, te, vo, co, ro, log, vs, mt⟩ = (goodN id pe te vo co ro log vs mt && (decide (id = (k : Int)) && decide (pe = (N.length : Int))))) := rfl
      clear hE hS hS2 hBw
      dsimp only at KG
      generalize goodN id pe te vo co ro log vs mt = ge at *
      go_wp2_with fail
      refine KG.mono ?_
      rintro e w1 ⟨rfl, hb1⟩
      have hB1 := hB0.trans (hb1.mono hB0.size)
      replace X := X.below hb1
      have X1 := X0.below hb1
      obtain ⟨hx0, v0, v1, v2, v3, v4, v5, v6, v7, v8⟩ := X1.e9
      obtain ⟨hxl, x0, x1, x2⟩ := X.c3
      clear KG hB0 X0 hb1 hb
      cases ge with
      | false =>
        have HV : Hid (goodC (N.map Nv.n) (M.map Mv.q) L = false) := HF.out (by rw [HD.out]; rfl)
        clear HF HA HD
        go_wp2
        go_ret
        exact ⟨by rw [HV.out]; try rfl, hB1⟩
      | true =>
        by_cases h1 : id = (k : Int)
        · subst h1
          by_cases h2 : pe = (N.length : Int)
          · subst h2
            have HA2 := HA.out (by rw [HD.out]; simp)
            clear HF HA HD
            go_wp2
            go_roundw
            case rel => exact ⟨k + 1, by omega, by go_num, HA2, hB1, X⟩
            case measure => simp [intOf]; omega
          · have HV : Hid (goodC (N.map Nv.n) (M.map Mv.q) L = false) := HF.out (by rw [HD.out]; simp [h2])
            have h2b : (pe != (N.length : Int)) = true := by simp [h2]
            clear HF HA HD
            go_wp2
            go_ret
            exact ⟨by rw [HV.out]; try rfl, hB1⟩
        · have HV : Hid (goodC (N.map Nv.n) (M.map Mv.q) L = false) := HF.out (by rw [HD.out]; simp [h1])
          have h1b : (id != (k : Int)) = true := by simp [h1]
          clear HF HA HD
          go_wp2
          go_ret
          exact ⟨by rw [HV.out]; try rfl, hB1⟩
    · have hk : k = N.length := by omega
      have HAN : Hid (∀ j (h : j < N.length), ndOk N.length j N[j].n = true) := fun j h => hall j h (by omega)
      clear hall
      have hB1 := hb
      obtain ⟨hxl, x0, x1, x2⟩ := X.c3
      clear hcN HEN
      have hB := hb
      clear hb hB1
      subst hk
      go_wp2
      clear hxl x0 x1 x2
      go_loopw [55] (fun i wr => ∃ k : Nat, k ≤ M.length ∧ i = .int .i64 k ∧ (∀ j (h : j < M.length), j < k → gMs N.length M[j].q = true) ∧ Below w.heap.size w wr ∧ Box wr w.heap.size [.slice na N.length nc, .slice xa M.length xc, .slice ya L.length yc]) (fun i _ => M.length - (intOf i).toNat)
      case atStart => exact ⟨0, Nat.zero_le _, rfl, fun j _ h => absurd h (Nat.not_lt_zero j), hB, X⟩
      case round =>
        obtain ⟨k, hk, rfl, hall, hb, X⟩ := hrel
        clear hB
        by_cases hlt : k < M.length
        · obtain ⟨b, off, rfl, hbl, hcell⟩ := hcM (by intro e; simp [e] at hlt)
          obtain ⟨z0, z1, z2, z3, z4, z5, z6, z7, z8⟩ := hcell k hlt
          have hc0 := (hb.cell (p := ⟨b, off + k * 9, none⟩) hbl).trans z0
          have hc1 := (hb.cell (p := ⟨b, off + k * 9 + 1, none⟩) hbl).trans z1
          have hc2 := (hb.cell (p := ⟨b, off + k * 9 + 2, none⟩) hbl).trans z2
          have hc3 := (hb.cell (p := ⟨b, off + k * 9 + 3, none⟩) hbl).trans z3
          have hc4 := (hb.cell (p := ⟨b, off + k * 9 + 4, none⟩) hbl).trans z4
          have hc5 := (hb.cell (p := ⟨b, off + k * 9 + 5, none⟩) hbl).trans z5
          have hc6 := (hb.cell (p := ⟨b, off + k * 9 + 6, none⟩) hbl).trans z6
          have hc7 := (hb.cell (p := ⟨b, off + k * 9 + 7, none⟩) hbl).trans z7
          have hc8 := (hb.cell (p := ⟨b, off + k * 9 + 8, none⟩) hbl).trans z8
          have hE := HEM k hlt _ hb
          have hS := hs.me k hlt
          have hS2 := hs.ms k hlt
          have HF : Hid (gMs N.length M[k].q = false → goodC (N.map Nv.n) (M.map Mv.q) L = false) := fun e => goodC_m (netOk_false hlt e)
          have HA : Hid (gMs N.length M[k].q = true → ∀ j (h : j < M.length), j < k + 1 → gMs N.length M[j].q = true) := fun e j h hj => by
            by_cases hjk : j < k
            · exact hall j h hjk
            · obtain rfl : j = k := by omega
              exact e
          clear hcell hcM HEM hs hall z0 z1 z2 z3 z4 z5 z6 z7 z8 hcL HAN
          generalize M[k] = s at *
          obtain ⟨⟨ki, fr, dst, te, ix, be, co, ye, es⟩, ea, ec⟩ := s
          dsimp only at hc0 hc1 hc2 hc3 hc4 hc5 hc6 hc7 hc8 hE hS hS2 HF HA
          have hz := hb.size
          have hB0 := hb.alloc hz (.cells #[.int .i64 ki, .int .i64 fr, .int .i64 dst, .int .i64 te, .int .i64 ix, .int .i64 be, .slice ea es.length ec, .int .i64 co, .bool ye] 38)
          have X0 := Box.new wr #[.int .i64 ki, .int .i64 fr, .int .i64 dst, .int .i64 te, .int .i64 ix, .int .i64 be, .slice ea es.length ec, .int .i64 co, .bool ye] 38
          have hBw := below_alloc wr (.cells #[.int .i64 ki, .int .i64 fr, .int .i64 dst, .int .i64 te, .int .i64 ix, .int .i64 be, .slice ea es.length ec, .int .i64 co, .bool ye] 38)
          have KG := specGoodM_any N.length ki fr dst te ix be co ye _ es _ (ER.below hE hBw) hS hS2
          replace X := X.below hBw
          have HD : Hid (gMs N.length ⟨ki, fr, dst, te, ix, be, co, ye, es⟩ = goodM N.length ki fr dst te ix be co ye es) := rfl
          clear hE hS hS2 hBw
          dsimp only at KG
          generalize goodM N.length ki fr dst te ix be co ye es = ge at *
          obtain ⟨hxl, x0, x1, x2⟩ := X.c3
          go_wp2_with fail
          refine KG.mono ?_
          rintro e w1 ⟨rfl, hb1⟩
          have hB1 := hB0.trans (hb1.mono hB0.size)
          replace X := X.below hb1
          clear KG hB0 X0 hb1 hb hxl x0 x1 x2
          cases ge with
          | false =>
            have HV : Hid (goodC (N.map Nv.n) (M.map Mv.q) L = false) := HF.out HD.out
            clear HF HA HD
            go_wp2
            go_ret
            exact ⟨by rw [HV.out]; try rfl, hB1⟩
          | true =>
            have HA2 := HA.out HD.out
            clear HF HA HD
            go_wp2
            go_roundw
            case rel => exact ⟨k + 1, by omega, by go_num, HA2, hB1, X⟩
            case measure => simp [intOf]; omega
        · have hk : k = M.length := by omega
          have HAM : Hid (∀ j (h : j < M.length), gMs N.length M[j].q = true) := fun j h => hall j h (by omega)
          clear hall
          have hB1 := hb
          obtain ⟨hxl, x0, x1, x2⟩ := X.c3
          clear hcM HEM
          have hB := hb
          clear hb hB1
          subst hk
          go_wp2
          clear hxl x0 x1 x2
          go_loopw [69] (fun i wr => ∃ k : Nat, k ≤ L.length ∧ i = .int .i64 k ∧ (∀ j (h : j < L.length), j < k → ldOk N.length L[j] = true) ∧ Below w.heap.size w wr ∧ Box wr w.heap.size [.slice na N.length nc, .slice xa M.length xc, .slice ya L.length yc]) (fun i _ => L.length - (intOf i).toNat)
          case atStart => exact ⟨0, Nat.zero_le _, rfl, fun j _ h => absurd h (Nat.not_lt_zero j), hB, X⟩
          case round =>
            obtain ⟨k, hk, rfl, hall, hb, X⟩ := hrel
            clear hB
            by_cases hlt : k < L.length
            · obtain ⟨b, off, rfl, hbl, hcell⟩ := hcL (by intro e; simp [e] at hlt)
              obtain ⟨z0, z1⟩ := hcell k hlt
              have hc0 := (hb.cell (p := ⟨b, off + k * 2, none⟩) hbl).trans z0
              have hc1 := (hb.cell (p := ⟨b, off + k * 2 + 1, none⟩) hbl).trans z1
              have HF : Hid (ldOk N.length L[k] = false → goodC (N.map Nv.n) (M.map Mv.q) L = false) := fun e => goodC_l (leadsOk_false hlt e)
              have HA : Hid (ldOk N.length L[k] = true → ∀ j (h : j < L.length), j < k + 1 → ldOk N.length L[j] = true) := fun e j h hj => by
                by_cases hjk : j < k
                · exact hall j h hjk
                · obtain rfl : j = k := by omega
                  exact e
              clear hcell hcL hall z0 z1 hs HAN HAM
              generalize L[k] = s at *
              obtain ⟨t, n⟩ := s
              dsimp only at hc0 hc1 HF HA
              have hz := hb.size
              have hB0 := hb.alloc hz (.cells #[.int .i64 t, .int .i64 n] 116)
              have X0 := Box.new wr #[.int .i64 t, .int .i64 n] 116
              replace X := X.below (below_alloc wr (.cells #[.int .i64 t, .int .i64 n] 116))
              obtain ⟨hxl, x0, x1, x2⟩ := X.c3
              have KP := fun W => l1In_any n 0 ((N.length : Int) - 1) W
              have KT := fun W => l1In_any t 1 1000 W
              have HD : Hid (ldOk N.length ⟨t, n⟩ = (inB t 1 1000 && inB n 0 ((N.length : Int) - 1))) := by show _ = _; rw [isP_inB]; rfl
              obtain ⟨pl, hpl⟩ : ∃ pl : Int, pl = (N.length : Int) - 1 := ⟨_, rfl⟩
              generalize inB t 1 1000 = it at *
              generalize inB n 0 ((N.length : Int) - 1) = ip at *
              clear hpl
              go_wp2_with fail
              refine (KT _).mono ?_
              rintro e w1 ⟨rfl, hw⟩
              subst hw
              clear KT
              cases it with
              | false =>
                have HV : Hid (goodC (N.map Nv.n) (M.map Mv.q) L = false) := HF.out (by rw [HD.out]; rfl)
                have hB1 := hB0
                clear HF HA HD KP
                go_wp2
                go_ret
                exact ⟨by rw [HV.out]; try rfl, hB1⟩
              | true =>
                go_wp2_with fail
                refine (KP _).mono ?_
                rintro e w1 ⟨rfl, hw⟩
                subst hw
                clear KP hxl x0 x1 x2
                have hB1 := hB0
                clear hB0
                cases ip with
                | false =>
                  have HV : Hid (goodC (N.map Nv.n) (M.map Mv.q) L = false) := HF.out (by rw [HD.out]; rfl)
                  clear HF HA HD
                  go_wp2
                  go_ret
                  exact ⟨by rw [HV.out]; try rfl, hB1⟩
                | true =>
                  have HA2 := HA.out (by rw [HD.out]; rfl)
                  clear HF HA HD
                  go_wp2
                  go_roundw
                  case rel => exact ⟨k + 1, by omega, by go_num, HA2, hB1, X⟩
                  case measure => simp [intOf]; omega
            · have hk : k = L.length := by omega
              have HAL : Hid (∀ j (h : j < L.length), ldOk N.length L[j] = true) := fun j h => hall j h (by omega)
              clear hall
              have hB1 := hb
              obtain ⟨hxl, x0, x1, x2⟩ := X.c3
              have HV : Hid (goodC (N.map Nv.n) (M.map Mv.q) L = true) := goodC_yes q1 q2 q3 q4 HAN.out HAM.out HAL.out
              clear hcL hs HAL HAM HAN X
              subst hk
              go_wp2
              go_ret
              exact ⟨by rw [HV.out]; try rfl, hB1⟩


end Go.Proofs.Ytapfhhmimkkhnaa
