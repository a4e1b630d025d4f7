/-
  What is missing: the specification's side.
-/
import Derived.Test.YtocaigffikdlhaaMI
namespace Go.Proofs.Ytocaigffikdlhaa
open Go.RowKit Go.Maps
set_option linter.unusedVariables false
set_option maxRecDepth 100000

set_option maxHeartbeats 32000000 in
theorem l13Missing_any (a c : Value) (W : List Wt) (G : List Ck) (w : World) (h : TR w a c W G) (hok : wOk W) (hG : G.length ≤ 200) (hgc : gcB W G = true) :
    Calls Try.prog 76 #[.agg #[a, c]] w fun e w' => ∃ u, e = .returned u ∧ w'.ownsRow w.heap.size 37 4 u (msL W G).length (flat4 (msL W G)) ∧ Below w.heap.size w w' := by
  obtain ⟨⟨wa, wb, rfl, hwc⟩, ca, cb, rfl, hcc⟩ := h
  have h12 := hok.1
  have HL := fun k hk => plTo_len hok k hk
  have HS := fun k hk => plTo_succ W k hk
  have HT := hok.2
  have HST := IsPl.start hgc
  have HNX := fun f k hf h => IsPl.next (W := W) (G := G) (f := f) (k := k) hf h hgc
  have HSP := fun f j k h => IsPl.step (W := W) (G := G) (f := f) (j := j) (k := k) h hgc
  have hsr := gcB_srt hgc
  have HEND : Hid ((plTo W W.length).filter (msP G) = msL W G) := rfl
  have X0 := Box.new w #[.slice wa W.length wb, .slice ca G.length cb] 41
  have B0 := below_alloc w (.cells #[.slice wa W.length wb, .slice ca G.length cb] 41)
  clear hok hgc
  go_enter Try.func76, Try.ntmps76
  go_wp2
  obtain ⟨W1, hW1⟩ : ∃ W1, W1 = w.alloc (.cells #[.slice wa W.length wb, .slice ca G.length cb] 41) := ⟨_, rfl⟩
  rw [← hW1] at X0 B0
  have HW1 : Hid (W1 = w.alloc (.cells #[.slice wa W.length wb, .slice ca G.length cb] 41)) := hW1
  clear hW1
  go_loopw [3, 4, 12] (fun z p i wr => ∃ (k q : Nat), k ≤ W.length ∧ i = .int .i64 k ∧ p = .int .i64 q ∧ IsPl G ⟨(k : Int), 0, ⟨#[]⟩, 0⟩ q ∧ wr.ownsRow W1.heap.size 37 4 z ((plTo W k).filter (msP G)).length (flat4 ((plTo W k).filter (msP G))) ∧ Below W1.heap.size W1 wr) (fun _ _ i _ => W.length - (intOf i).toNat)
  case atStart => exact ⟨0, 0, Nat.zero_le _, rfl, rfl, HST, World.ownsRow_nil _ _ _ _, by rw [HW1.out]; exact Below.refl _ _⟩
  case round =>
    clear HST
    obtain ⟨k, q, hk, rfl, rfl, hpl, hown, hb⟩ := hrel
    have hz1 := B0.size
    by_cases hlt : k < W.length
    · obtain ⟨b, off, rfl, hbl, hcell⟩ := hwc (by intro e; simp [e] at hlt)
      have hBr := below_then B0 hb
      have c0 := (hBr.cell (p := ⟨b, off + k * 2, none⟩) hbl).trans (hcell k hlt).1
      have c1 := (hBr.cell (p := ⟨b, off + k * 2 + 1, none⟩) hbl).trans (hcell k hlt).2
      have ht := HT k hlt
      have hl := HL k hk
      have HW : Hid (plTo W (k + 1) = plTo W k ++ plF k (np W[k].t)) := HS k hlt
      have hnp := np_le ht.2
      have HNP : Hid (∀ j : Nat, 64 * (j : Int) < W[k].t ↔ j < np W[k].t) := fun j => np_lt j ht.1
      have HNXk : Hid (∀ q, IsPl G ⟨(k : Int), 64 * ((np W[k].t : Nat) : Int), ⟨#[]⟩, 0⟩ q → IsPl G ⟨((k + 1 : Nat) : Int), 0, ⟨#[]⟩, 0⟩ q) := fun q h => HNX k q hlt h
      have hTl : ((plTo W k).filter (msP G)).length ≤ 756 := Nat.le_trans (List.length_filter_le _ _) (by omega)
      clear hcell hwc HL HS HT HNX HEND
      generalize W[k] = s at *
      obtain ⟨t, d⟩ := s
      dsimp only at c0 c1 ht hnp HNP HW HNXk
      generalize hT0 : plTo W k = T0 at *
      clear hT0
      generalize HT2 : plTo W (k + 1) = T2 at *
      have HE2 : Hid (plTo W (k + 1) = T2) := HT2
      clear HT2
      obtain ⟨za, zc, rfl⟩ := owns_shape hown
      have hz := hb.size
      have Y0 := WBx.new wr t d
      have BA := below_alloc wr (.cells #[.int .i64 t, .int .u32 d] 54)
      have hb0 := below_then hb BA
      have hown0 := owns_below hown BA
      generalize hnpe : np t = N at *
      have HNE : Hid (np t = N) := hnpe
      clear hnpe hb hown BA hBr
      go_wp2
      clear c0 c1
      obtain ⟨W0, hW0⟩ : ∃ W0, W0 = wr.alloc (.cells #[.int .i64 t, .int .u32 d] 54) := ⟨_, rfl⟩
      rw [← hW0] at Y0 hb0 hown0
      have HW0 : Hid (W0 = wr.alloc (.cells #[.int .i64 t, .int .u32 d] 54)) := hW0
      clear hW0
      generalize hB0 : wr.heap.size = BW at Y0 hz ⊢
      clear hB0
      go_loopw [3, 4, 7] (fun z p i wx => ∃ (j q : Nat), j ≤ N ∧ i = .int .i64 (64 * (j : Int)) ∧ p = .int .i64 q ∧ IsPl G ⟨(k : Int), 64 * (j : Int), ⟨#[]⟩, 0⟩ q ∧ wx.ownsRow W1.heap.size 37 4 z ((T0 ++ plF k j).filter (msP G)).length (flat4 ((T0 ++ plF k j).filter (msP G))) ∧ WBx wx BW t d ∧ Below W1.heap.size W1 wx) (fun _ _ i _ => 64 * N - (intOf i).toNat)
      case atStart => exact ⟨0, q, Nat.zero_le _, rfl, rfl, hpl, by rw [← HW0.out]; simpa [plF] using hown0, by rw [← HW0.out]; exact Y0, by rw [← HW0.out]; exact hb0⟩
      case round =>
        clear hown0 Y0 hb0 hpl
        obtain ⟨j, q, hj, rfl, rfl, hpl, hown, Y, hb⟩ := hrel
        obtain ⟨hyl, y0, y1⟩ := Y.c
        have hnj := HNP.out j
        by_cases hjl : j < N
        · have hlt2 := hnj.2 hjl
          obtain ⟨za, zc, rfl⟩ := owns_shape hown
          have hge := owns_ge hown
          have hz2 := hb.size
          have HPS : Hid ((T0 ++ plF k (j + 1)).filter (msP G) = (T0 ++ plF k j).filter (msP G) ++ (if msP G ⟨(k : Int), 64 * (j : Int), ⟨#[]⟩, 0⟩ then [⟨(k : Int), 64 * (j : Int), ⟨#[]⟩, 0⟩] else [])) := by
            show _ = _
            rw [plF_succ, ← List.append_assoc, List.filter_append, List.filter_cons]
            rfl
          have hTl2 : ((T0 ++ plF k j).filter (msP G)).length ≤ 1000 := Nat.le_trans (List.length_filter_le _ _) (by rw [List.length_append, plF_length]; omega)
          have hms : Hid (msP G ⟨(k : Int), 64 * (j : Int), ⟨#[]⟩, 0⟩ = !hasC G (k : Int) (64 * (j : Int))) := rfl
          have HSTP := HSP k j q hpl
          have HHAS := hpl.has hsr
          dsimp only at HHAS
          have hql := hpl.le
          have X1 := X0.below hb
          have BA := below_alloc wr (.cells #[.int .i64 k, .int .i64 (64 * (j : Int)), .string ⟨#[]⟩, .int .u32 0] 37)
          have X2 := X1.below BA
          have C2 := Box.new wr #[.int .i64 k, .int .i64 (64 * (j : Int)), .string ⟨#[]⟩, .int .u32 0] 37
          have hb2 := below_then hb BA
          have hown2 := owns_below hown BA
          have Y2 := Y.below BA
          obtain ⟨hx2, x0, x1⟩ := X2.c2
          obtain ⟨hc2, q0, q1, q2, q3⟩ := C2.c4
          have hBB := below_then B0 hb2
          clear hnj hpl hown hb X1 BA X2 Y HSP
          generalize (T0 ++ plF k j).filter (msP G) = T3 at *
          have HC : (hasC G (k : Int) (64 * (j : Int)) = true ∧ ∃ hq : q < G.length, G[q].n = (k : Int) ∧ G[q].d = 64 * (j : Int)) ∨ (hasC G (k : Int) (64 * (j : Int)) = false ∧ ((G.length = q) ∨ ∃ hq : q < G.length, ¬ (G[q].n = (k : Int) ∧ G[q].d = 64 * (j : Int)))) := by
            cases hh : hasC G (k : Int) (64 * (j : Int)) with
            | true => exact .inl ⟨rfl, HHAS.1 hh⟩
            | false =>
              refine .inr ⟨rfl, ?_⟩
              rcases Nat.lt_or_ge q G.length with h | h
              · exact .inr ⟨h, fun e => by rw [HHAS.2 ⟨h, e⟩] at hh; cases hh⟩
              · exact .inl (by omega)
          clear HHAS
          rcases HC with ⟨hh, hq, e1, e2⟩ | ⟨hh, hor⟩
          · obtain ⟨bg, og, rfl, hbg, hgc⟩ := hcc (by intro e; simp [e] at hq)
            obtain ⟨g0, g1, _, _⟩ := hgc q hq
            replace g0 := (hBB.cell (p := ⟨bg, og + q * 4, none⟩) hbg).trans g0
            replace g1 := (hBB.cell (p := ⟨bg, og + q * 4 + 1, none⟩) hbg).trans g1
            rw [e1] at g0
            rw [e2] at g1
            have HT2 : Hid ((T0 ++ plF k (j + 1)).filter (msP G) = T3) := by show _ = _; rw [HPS.out, hms.out, hh]; simp
            have HI2 : Hid (IsPl G ⟨(k : Int), 64 * ((j + 1 : Nat) : Int), ⟨#[]⟩, 0⟩ (q + 1)) := by rw [hh] at HSTP; exact HSTP
            clear HPS hms hh HSTP hgc hcc e1 e2 C2 hsr
            go_wp2
            go_roundw
            case rel => exact ⟨j + 1, q + 1, by omega, by go_num, by go_num, HI2.out, by rw [HT2.out]; exact hown2, Y2, hb2⟩
            case measure => simp [intOf]; omega
          · have HT2 : Hid ((T0 ++ plF k (j + 1)).filter (msP G) = T3 ++ [⟨(k : Int), 64 * (j : Int), ⟨#[]⟩, 0⟩]) := by show _ = _; rw [HPS.out, hms.out, hh]; simp
            have HI2 : Hid (IsPl G ⟨(k : Int), 64 * ((j + 1 : Nat) : Int), ⟨#[]⟩, 0⟩ q) := by rw [hh] at HSTP; exact HSTP
            clear HPS hms hh HSTP hsr
            have hz4 := hb2.size
            rcases hor with hq | ⟨hq, hne⟩
            · have gq : ¬ ((q : Int) < (G.length : Int)) := by omega
              have HQ : Hid (G.length = q) := hq
              clear hq hcc
              go_wp2_with (at_builtin; refine wpList_append_ck _ rfl _ _ rfl rfl W1.heap.size _ T3.length T3 rfl (owns_below hown2 (below_alloc _ _)) (wr.heap.size + 1) ⟨(k : Int), 64 * (j : Int), ⟨#[]⟩, 0⟩ rfl (by have := Box.new (wr.alloc (.cells #[.int .i64 k, .int .i64 (64 * (j : Int)), .string ⟨#[]⟩, .int .u32 0] 37)) #[.int .i64 k, .int .i64 (64 * (j : Int)), .string ⟨#[]⟩, .int .u32 0] 37; simpa using this) (by omega) (by simp; omega) ?_; intro v' w5 hown5 hgr5)
              obtain ⟨va, vc, rfl⟩ := owns_shape hown5
              have hb5 : Below W1.heap.size W1 w5 := (hb2.alloc hz4 _).grown hgr5 (by simp; omega) hge
              have Y5 : WBx w5 BW t d := WBx.grown (Y2.below (below_alloc _ _)) (owns_below hown2 (below_alloc _ _)) hgr5
              have HO : Hid _ := hown5
              have HY5 : Hid (WBx w5 BW t d) := Y5
              clear hown2 hgr5 hb2 hge hown5 Y2 Y5 C2 x0 x1 q0 q1 q2 q3
              go_wp2
              go_roundw
              case rel => exact ⟨j + 1, q, by omega, by go_num, rfl, HI2.out, by rw [HT2.out, List.length_append]; exact HO.out, HY5.out, hb5⟩
              case measure => simp [intOf]; omega
            · obtain ⟨bg, og, rfl, hbg, hgc⟩ := hcc (by intro e; simp [e] at hq)
              obtain ⟨g0, g1, _, _⟩ := hgc q hq
              replace g0 := (hBB.cell (p := ⟨bg, og + q * 4, none⟩) hbg).trans g0
              replace g1 := (hBB.cell (p := ⟨bg, og + q * 4 + 1, none⟩) hbg).trans g1
              clear hgc hcc
              generalize G[q].n = gn at *
              generalize G[q].d = gd at *
              by_cases hn : gn = (k : Int)
              · subst hn
                have hd : (gd == 64 * (j : Int)) = false := beq_false_of_ne fun e => hne ⟨rfl, e⟩
                clear hne
                go_wp2_with (at_builtin; refine wpList_append_ck _ rfl _ _ rfl rfl W1.heap.size _ T3.length T3 rfl (owns_below hown2 (below_alloc _ _)) (wr.heap.size + 1) ⟨(k : Int), 64 * (j : Int), ⟨#[]⟩, 0⟩ rfl (by have := Box.new (wr.alloc (.cells #[.int .i64 k, .int .i64 (64 * (j : Int)), .string ⟨#[]⟩, .int .u32 0] 37)) #[.int .i64 k, .int .i64 (64 * (j : Int)), .string ⟨#[]⟩, .int .u32 0] 37; simpa using this) (by omega) (by simp; omega) ?_; intro v' w5 hown5 hgr5)
                obtain ⟨va, vc, rfl⟩ := owns_shape hown5
                have hb5 : Below W1.heap.size W1 w5 := (hb2.alloc hz4 _).grown hgr5 (by simp; omega) hge
                have Y5 : WBx w5 BW t d := WBx.grown (Y2.below (below_alloc _ _)) (owns_below hown2 (below_alloc _ _)) hgr5
                have HO : Hid _ := hown5
                have HY5 : Hid (WBx w5 BW t d) := Y5
                clear hown2 hgr5 hb2 hge hown5 Y2 Y5 C2 x0 x1 q0 q1 q2 q3
                go_wp2
                go_roundw
                case rel => exact ⟨j + 1, q, by omega, by go_num, rfl, HI2.out, by rw [HT2.out, List.length_append]; exact HO.out, HY5.out, hb5⟩
                case measure => simp [intOf]; omega
              · have hn2 : (gn == (k : Int)) = false := beq_false_of_ne hn
                clear hne hn
                go_wp2_with (at_builtin; refine wpList_append_ck _ rfl _ _ rfl rfl W1.heap.size _ T3.length T3 rfl (owns_below hown2 (below_alloc _ _)) (wr.heap.size + 1) ⟨(k : Int), 64 * (j : Int), ⟨#[]⟩, 0⟩ rfl (by have := Box.new (wr.alloc (.cells #[.int .i64 k, .int .i64 (64 * (j : Int)), .string ⟨#[]⟩, .int .u32 0] 37)) #[.int .i64 k, .int .i64 (64 * (j : Int)), .string ⟨#[]⟩, .int .u32 0] 37; simpa using this) (by omega) (by simp; omega) ?_; intro v' w5 hown5 hgr5)
                obtain ⟨va, vc, rfl⟩ := owns_shape hown5
                have hb5 : Below W1.heap.size W1 w5 := (hb2.alloc hz4 _).grown hgr5 (by simp; omega) hge
                have Y5 : WBx w5 BW t d := WBx.grown (Y2.below (below_alloc _ _)) (owns_below hown2 (below_alloc _ _)) hgr5
                have HO : Hid _ := hown5
                have HY5 : Hid (WBx w5 BW t d) := Y5
                clear hown2 hgr5 hb2 hge hown5 Y2 Y5 C2 x0 x1 q0 q1 q2 q3
                go_wp2
                go_roundw
                case rel => exact ⟨j + 1, q, by omega, by go_num, rfl, HI2.out, by rw [HT2.out, List.length_append]; exact HO.out, HY5.out, hb5⟩
                case measure => simp [intOf]; omega
        · obtain rfl : j = N := by omega
          have hlt2 : ¬ 64 * (j : Int) < t := fun h => by have := hnj.1 h; omega
          obtain ⟨za, zc, rfl⟩ := owns_shape hown
          have HIN : Hid (IsPl G ⟨((k + 1 : Nat) : Int), 0, ⟨#[]⟩, 0⟩ q) := HNXk.out q hpl
          clear hnj Y HSP HNXk hpl hcc hsr
          go_wp2
          go_roundw
          case rel => exact ⟨k + 1, q, by omega, by go_num, rfl, HIN.out, by rw [HE2.out, HW.out]; exact hown, hb⟩
          case measure => simp [intOf]; omega
    · obtain rfl : k = W.length := by omega
      rw [HEND.out] at hown
      obtain ⟨za, zc, rfl⟩ := owns_shape hown
      clear hwc HL HS HT hcc HNX HSP
      go_wp2
      go_ret
      exact ⟨_, rfl, owns_mono' hown (by omega), below_then B0 hb⟩

set_option maxHeartbeats 4000000 in
theorem specMiss_any (a c : Value) (W : List Wt) (G : List Ck) (w : World) (h : TR w a c W G) (hn : W.length ≤ 1048576) (hm : G.length ≤ 1048576) (hs : ∀ i (h : i < G.length), G[i].k.size ≤ 1048576) :
    Calls Try.prog 25 #[.agg #[a, c]] w fun e w' => ∃ u, e = .returned (.tuple #[u, .bool (gtB W G)]) ∧ w'.ownsRow w.heap.size 37 4 u (msR W G).length (flat4 (msR W G)) ∧ Below w.heap.size w w' := by
  have KG := fun W' (hb : Below w.heap.size w W') => specGT_any a c W G W' (h.below hb) hn hm hs
  have KM := fun (h1 : wOk W) (h2 : G.length ≤ 200) (h3 : gcB W G = true) W' (hb : Below w.heap.size w W') => l13Missing_any a c W G W' (h.below hb) h1 h2 h3
  obtain ⟨⟨wa, wb, rfl, _⟩, ca, cb, rfl, _⟩ := h
  have X0 := Box.new w #[.slice wa W.length wb, .slice ca G.length cb] 41
  have B0 := below_alloc w (.cells #[.slice wa W.length wb, .slice ca G.length cb] 41)
  clear hs
  cases hg : gtB W G with
  | false =>
    have HR : Hid (msR W G = []) := by show _ = _; unfold msR; rw [hg]; rfl
    rw [HR.out]
    rw [hg] at KG
    clear KM hg HR
    go_enter Try.func25, Try.ntmps25
    go_wp2_with fail
    refine (KG _ B0).mono ?_
    rintro e w1 ⟨rfl, hb1⟩
    replace B0 := below_then B0 hb1
    clear hb1 KG X0
    go_wp2
    go_ret2
    exact ⟨_, rfl, World.ownsRow_nil _ _ _ _, B0⟩
  | true =>
    have HR : Hid (msR W G = msL W G) := by show _ = _; unfold msR; rw [hg]; rfl
    rw [HR.out]
    rw [hg] at KG
    obtain ⟨hok, h200, hgc⟩ := (gtB_iff W G).1 hg
    have KM2 := KM hok h200 hgc
    clear KM hg HR hok hgc
    generalize msL W G = R at *
    go_enter Try.func25, Try.ntmps25
    go_wp2_with fail
    refine (KG _ B0).mono ?_
    rintro e w1 ⟨rfl, hb1⟩
    replace B0 := below_then B0 hb1
    replace X0 := X0.below hb1
    have hz1 := B0.size
    clear hb1 KG
    obtain ⟨hx, x0, x1⟩ := X0.c2
    go_wp2_with fail
    refine (KM2 _ B0).mono ?_
    rintro e w2 ⟨u, rfl, O2, hb2⟩
    replace B0 := below_then B0 hb2
    obtain ⟨pa, pc, rfl⟩ := owns_shape O2
    clear hb2 KM2 hx x0 x1 X0
    go_wp2
    go_ret2
    exact ⟨_, rfl, owns_mono' O2 hz1, B0⟩
end Go.Proofs.Ytocaigffikdlhaa
