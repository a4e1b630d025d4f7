/-
  Chunks played over a line: spec.PlayTaking.
-/
import Derived.Test.YtocaigffikdlhaaTBToCT
import Derived.Test.YtocaigffikdlhaaSK
import Derived.Test.YtocaigffikdlhaaFI
import Derived.Test.YtocaigffikdlhaaX5
namespace Go.Proofs.Ytocaigffikdlhaa
open Go.RowKit Go.Maps
set_option linter.unusedVariables false
set_option maxRecDepth 100000

def tkS (W : List Wt) (s : List Ck × Nat) (y : Ck) : List Ck × Nat := (tkN W s.1 y, s.2 + if tkB W s.1 y then 1 else 0)
/-- what is there when the chunks of `l` have come, and how many were taken -/
def play (W : List Wt) (l : List Ck) : List Ck × Nat := l.foldl (tkS W) ([], 0)
theorem play_snoc (W : List Wt) (l : List Ck) (y : Ck) : play W (l ++ [y]) = tkS W (play W l) y := by simp [play, List.foldl_append]
theorem fold_good (W : List Wt) (l : List Ck) : ∀ s : List Ck × Nat, gcB W s.1 = true → s.1.length ≤ 200 → gcB W (l.foldl (tkS W) s).1 = true ∧ (l.foldl (tkS W) s).1.length ≤ 200 ∧ (l.foldl (tkS W) s).2 ≤ s.2 + l.length := by
  induction l with
  | nil => intro s h1 h2; exact ⟨h1, h2, by simp⟩
  | cons y r ih =>
    intro s h1 h2
    have h3 : gcB W (tkS W s y).1 = true ∧ (tkS W s y).1.length ≤ 200 ∧ (tkS W s y).2 ≤ s.2 + 1 := by
      unfold tkS tkN
      cases hb : tkB W s.1 y with
      | false => simp; exact ⟨h1, h2⟩
      | true => simp; exact tk_good h1 h2 hb
    obtain ⟨a, b, c⟩ := ih (tkS W s y) h3.1 h3.2.1
    refine ⟨a, b, ?_⟩
    have := h3.2.2
    simp only [List.foldl_cons, List.length_cons]
    omega
theorem play_good (W : List Wt) (l : List Ck) : gcB W (play W l).1 = true ∧ (play W l).1.length ≤ 200 ∧ (play W l).2 ≤ l.length := by
  have := fold_good W l ([], 0) rfl (by simp)
  simpa [play] using this

def ptB (L : List ByteArray) (O F : List Int) : Bool := ckB L && decide (O.length ≤ 400) && decide (F.length = O.length)
def ptS (L : List ByteArray) (O F : List Int) : List Ck × Nat := play (wtL L) (sdL (ckL L) O F)
def ptR (L : List ByteArray) (O F : List Int) : List ByteArray := if ptB L O F then fnR (wtL L) (ptS L O F).1 else []
def ptN (L : List ByteArray) (O F : List Int) : Nat := if ptB L O F then (ptS L O F).2 else 0
theorem ptR_len (L : List ByteArray) (O F : List Int) : (ptR L O F).length ≤ 1000 := by
  unfold ptR; split
  · exact fnR_len _ _
  · simp

theorem ckL_size (L : List ByteArray) (k : Nat) (hk : k < (ckL L).length) : (ckL L)[k].k.size ≤ 64 := by
  have HPA := plTo_at (wtL L) (wtL L).length (Nat.le_refl _)
  have hk' : k < (plL (wtL L)).length := by simpa [ckL] using hk
  obtain ⟨i, j, hi, hj, e⟩ := HPA _ (List.getElem_mem hk')
  have hi' : i < L.length := by rw [wtL_length] at hi; exact hi
  have e2 : (ckL L)[k] = fil L ((plL (wtL L))[k]) := by simp [ckL]
  have e3 : (plL (wtL L))[k] = ⟨(i : Int), 64 * (j : Int), ⟨#[]⟩, 0⟩ := e
  rw [e2, e3, fil_at L i j hi']
  show (L[i].extract _ _).size ≤ 64
  rw [ByteArray.size_extract]; omega

set_option maxHeartbeats 32000000 in
theorem specPlay_any (v ov fv : Value) (L : List ByteArray) (O F : List Int) (w : World) (hv : SL w v L) (ho : IL w ov O) (hf : IL w fv F) (hn : L.length ≤ 1048576) (hs : ∀ i (h : i < L.length), L[i].size ≤ 1048576) (hO : O.length ≤ 1048576) (hF : F.length ≤ 1048576) :
    Calls Try.prog 16 #[v, ov, fv] w fun e w' => ∃ u, e = .returned (.tuple #[u, .int .i64 (ptN L O F : Int), .bool (ptB L O F)]) ∧ w'.ownsRow w.heap.size 9 1 u (ptR L O F).length ((ptR L O F).map Value.string) ∧ Below w.heap.size w w' := by
  have KC := fun W' (hb : Below w.heap.size w W') => specChunks_any v L W' (hv.below hb) hn hs
  have KW := fun W' (hb : Below w.heap.size w W') => specWant_any v L W' (hv.below hb) hn hs
  obtain ⟨a0, c0, rfl, _⟩ := hv
  obtain ⟨oa, ob, rfl, hoc⟩ := ho
  obtain ⟨fa, fb, rfl, hfc⟩ := hf
  cases hpt : ptB L O F with
  | false =>
    have e1 : Hid (ptN L O F = 0) := by show _ = _; unfold ptN; rw [hpt]; rfl
    have e2 : Hid (ptR L O F = []) := by show _ = _; unfold ptR; rw [hpt]; rfl
    rw [e1.out, e2.out]
    have HD : Hid (ckB L = false ∨ (ckB L = true ∧ 400 < O.length) ∨ (ckB L = true ∧ ¬ 400 < O.length ∧ ¬ F.length = O.length)) := by
      show _ ∨ _
      unfold ptB at hpt
      cases hc : ckB L with
      | false => exact .inl rfl
      | true =>
        rw [hc] at hpt
        simp only [Bool.true_and, Bool.and_eq_false_iff, decide_eq_false_iff_not] at hpt
        rcases hpt with h | h
        · exact .inr (.inl ⟨rfl, by omega⟩)
        · by_cases h4 : 400 < O.length
          · exact .inr (.inl ⟨rfl, h4⟩)
          · exact .inr (.inr ⟨rfl, h4, h⟩)
    clear hpt hoc hfc KW e1 e2 hs
    generalize ckR L = Z at *
    generalize ckB L = ok at *
    go_enter Try.func16, Try.ntmps16
    go_wp2_with fail
    refine (KC _ (Below.refl _ _)).mono ?_
    rintro e w1 ⟨u, rfl, O1, hb1⟩
    obtain ⟨ua, uc, rfl⟩ := owns_shape O1
    clear KC O1
    rcases HD.out with rfl | ⟨rfl, h4⟩ | ⟨rfl, h4, h5⟩
    · go_wp2
      exact bodyPost_ret (v := .tuple #[.slice none 0 0, .int .i64 0, .bool false]) (by simp [results, Try.results16, go_sem]) rfl ⟨_, rfl, World.ownsRow_nil _ _ _ _, hb1⟩
    · have h6 : (400 : Int) < (O.length : Int) := by omega
      go_wp2
      exact bodyPost_ret (v := .tuple #[.slice none 0 0, .int .i64 0, .bool false]) (by simp [results, Try.results16, go_sem]) rfl ⟨_, rfl, World.ownsRow_nil _ _ _ _, hb1⟩
    · have h6 : ¬ (400 : Int) < (O.length : Int) := by omega
      have h7 : ((F.length : Int) != (O.length : Int)) = true := bne_iff_ne.2 (by omega)
      clear h5
      go_wp2
      exact bodyPost_ret (v := .tuple #[.slice none 0 0, .int .i64 0, .bool false]) (by simp [results, Try.results16, go_sem]) rfl ⟨_, rfl, World.ownsRow_nil _ _ _ _, hb1⟩
  | true =>
    have hp : ckB L = true ∧ O.length ≤ 400 ∧ F.length = O.length := by
      unfold ptB at hpt
      simpa [Bool.and_eq_true, and_assoc] using hpt
    obtain ⟨hck, h400, hFO⟩ := hp
    have hgf : gfB L = true := by unfold ckB at hck; simp only [Bool.and_eq_true] at hck; exact hck.1
    have EC : ckR L = ckL L := by unfold ckR; rw [hck]; rfl
    have EW : wtR L = wtL L := by unfold wtR; rw [hgf]; rfl
    have hok := wtL_ok hgf
    have HCL : (ckL L).length ≤ 1000 := by rw [← EC]; exact ckR_len L
    have HCK : ∀ i (h : i < (ckL L).length), (ckL L)[i].k.size ≤ 1048576 := fun i h => by have := ckL_size L i h; omega
    have e1 : Hid (ptN L O F = (play (wtL L) (sdTo (ckL L) O F O.length)).2) := by show _ = _; unfold ptN; rw [hpt]; rfl
    have e2 : Hid (ptR L O F = fnR (wtL L) (play (wtL L) (sdTo (ckL L) O F O.length)).1) := by show _ = _; unfold ptR; rw [hpt]; rfl
    rw [e1.out, e2.out]
    rw [hck, EC] at KC
    rw [hgf, EW] at KW
    have hgw : gwB (wtL L) = true := (gwB_iff _).2 hok
    have EG : gwR (wtL L) = wtL L := by unfold gwR; rw [hgw]; rfl
    have KN := fun u W' h => specNew_any u (wtL L) W' h (by have := hok.1; omega)
    rw [hgw, EG] at KN
    clear e1 e2 hpt EC EW EG hgw hck hgf hs
    generalize wtL L = W at *
    generalize ckL L = C at *
    have HFN : ∀ G, gcB W G = true → G.length ≤ 200 → fnR W G = if lfB W G then lfR W G else [] := by
      intro G h1 h2
      unfold fnR fnB
      rw [(gtB_iff W G).2 ⟨hok, h2, h1⟩]
      cases h : lfB W G <;> simp [lfR, h]
    rw [hFO]
    have g4 : ¬ (400 : Int) < (O.length : Int) := by omega
    go_enter Try.func16, Try.ntmps16
    go_wp2_with fail
    refine (KC _ (Below.refl _ _)).mono ?_
    rintro e w1 ⟨u, rfl, CO, hb1⟩
    obtain ⟨xa, xc, rfl⟩ := owns_shape CO
    clear KC
    go_wp2_with fail
    refine (KW _ hb1).mono ?_
    rintro e w2 ⟨u, rfl, WO, hb2⟩
    obtain ⟨ya, yc, rfl⟩ := owns_shape WO
    replace CO := owns_below CO hb2
    have hB := below_then hb1 hb2
    have iw := WR_of_owns WO rfl
    clear KW WO hb1 hb2
    go_wp2_with fail
    refine (KN _ _ iw).mono ?_
    rintro e w3 ⟨ta, tc, rfl, TO, hb3⟩
    obtain ⟨⟨za, zb, rfl⟩, zc, zd, rfl⟩ := TO.shapes
    replace CO := owns_below CO hb3
    have hz2 := hB.size
    replace hB := below_then hB hb3
    replace TO := TO.mono hz2
    have hlC := owns_below_lt CO
    have hlT := TO.lt
    have hgT := TO.ge
    have hgC := owns_ge CO
    have hz3 := hB.size
    clear KN iw hb3
    have BX := below_alloc w3 (.cells #[.slice za W.length zb, .slice zc ([] : List Ck).length zd] 41)
    have TB := Box.new w3 #[.slice za W.length zb, .slice zc ([] : List Ck).length zd] 41
    have CO0 := owns_below CO BX
    have TO0 := TO.below BX
    have hB0 := below_then hB BX
    clear CO TO hB BX
    go_wp2_with fail
    go_loopw [15, 56] (fun n i wr => ∃ (k : Nat) (ux : Option Addr) (uy : Nat), k ≤ O.length ∧ n = .int .i64 ((play W (sdTo C O F k)).2 : Int) ∧ i = .int .i64 k ∧ Box wr w3.heap.size [.slice za W.length zb, .slice ux (play W (sdTo C O F k)).1.length uy] ∧ wr.ownsRow w.heap.size 37 4 (.slice ux (play W (sdTo C O F k)).1.length uy) (play W (sdTo C O F k)).1.length (flat4 (play W (sdTo C O F k)).1) ∧ (∀ g, (Value.slice ux (play W (sdTo C O F k)).1.length uy).ownBlock = some g → g ≠ w3.heap.size) ∧ wr.ownsRow w.heap.size 54 2 (.slice za W.length zb) W.length (flat2 W) ∧ wr.ownsRow w.heap.size 37 4 (.slice xa C.length xc) C.length (flat4 C) ∧ Below w.heap.size w wr) (fun _ i _ => O.length - (intOf i).toNat)
    case atStart => exact ⟨0, zc, zd, Nat.zero_le _, rfl, rfl, TB, TO0.c, fun g hg e => by have := hlT g (.inr hg); omega, TO0.a, CO0, hB0⟩
    case round =>
      clear TB CO0 TO0 hB0
      obtain ⟨k, ux, uy, hk, rfl, rfl, TB, UO, hun, WO, CO, hb⟩ := hrel
      obtain ⟨hgd, h200, hcn⟩ := play_good W (sdTo C O F k)
      have hln := sdTo_len C O F k
      have hz := hb.size
      have hbt := TB.1
      by_cases hlt : k < O.length
      · obtain ⟨bo, oo, rfl, hbo, hocell⟩ := hoc (by intro e; simp [e] at hlt)
        obtain ⟨bf, fo, rfl, hbf, hfcell⟩ := hfc (by intro e; simp [e] at hFO; omega)
        have c1 := (hb.cell (p := ⟨bo, oo + k, none⟩) hbo).trans (hocell k hlt)
        have d1 := (hb.cell (p := ⟨bf, fo + k, none⟩) hbf).trans (hfcell k (by omega))
        have HST : Hid (sdTo C O F (k + 1) = sdTo C O F k ++ sd1 C O F k) := rfl
        have KI := fun W' => l1In_any O[k] 0 ((C.length : Int) - 1) W'
        by_cases hv : O[k] < 0 ∨ (C.length : Int) ≤ O[k]
        · have HS2 : Hid (play W (sdTo C O F (k + 1)) = play W (sdTo C O F k)) := by show _ = _; rw [HST.out, sd1_no hlt hv, List.append_nil]
          have hq : (decide (0 ≤ O[k]) && decide (O[k] ≤ (C.length : Int) - 1)) = false := by
            rcases hv with h | h
            · rw [decide_eq_false (by omega)]; rfl
            · rw [decide_eq_false (p := O[k] ≤ (C.length : Int) - 1) (by omega), Bool.and_false]
          rw [hq] at KI
          clear HST hq hv hocell hfcell hoc hfc HFN
          generalize play W (sdTo C O F k) = s at *
          generalize O[k] = x at *
          have HUO : Hid _ := UO
          have HWO : Hid _ := WO
          have HCO : Hid _ := CO
          have HTB : Hid _ := TB
          clear UO WO CO TB
          go_wp2_with fail
          refine (KI _).mono ?_
          rintro e w' ⟨rfl, hw'⟩
          rw [hw']
          clear hw' w'
          go_wp2
          go_roundw
          case rel => exact ⟨k + 1, ux, uy, by omega, by rw [HS2.out], by go_num, by rw [HS2.out]; exact HTB.out, by rw [HS2.out]; exact HUO.out, by rw [HS2.out]; exact hun, HWO.out, HCO.out, hb⟩
          case measure => simp [intOf]; omega
        · obtain ⟨i, hi⟩ : ∃ i : Nat, O[k] = (i : Int) := ⟨O[k].toNat, by omega⟩
          have hil : i < C.length := by omega
          have HS2 : Hid (play W (sdTo C O F (k + 1)) = tkS W (play W (sdTo C O F k)) (trC C[i] F[k])) := by show _ = _; rw [HST.out, sd1_at hlt (by omega) hil hi, play_snoc]
          have hq : (decide (0 ≤ O[k]) && decide (O[k] ≤ (C.length : Int) - 1)) = true := by rw [decide_eq_true (by omega), decide_eq_true (by omega)]; rfl
          rw [hq, hi] at KI
          rw [hi] at c1
          obtain ⟨ca, cc, hce, hcc⟩ := IR_of_owns CO rfl
          simp only [Value.slice.injEq, true_and] at hce
          obtain ⟨rfl, rfl⟩ := hce
          obtain ⟨bc, co, rfl, hbc, hccell⟩ := hcc (by intro e; simp [e] at hil)
          obtain ⟨r0, r1, r2, r3⟩ := hccell i hil
          have hsz := HCK i hil
          clear HST hq hv hocell hfcell hoc hfc HFN hcc hccell hi
          generalize C[i] = y at *
          generalize F[k] = g at *
          obtain ⟨yn, yd, yk, yv⟩ := y
          dsimp only at *
          have HTC : Hid (trC ⟨yn, yd, yk, yv⟩ g = ⟨yn, yd, trS yk g, yv⟩) := rfl
          rw [HTC.out] at HS2
          have hyD : (trS yk g).size ≤ 1048576 := by rw [trS_size]; exact hsz
          generalize play W (sdTo C O F k) = s at *
          obtain ⟨G, N⟩ := s
          dsimp only at *
          have hbo1 : bo < wr.heap.size := by omega
          have hbf1 : bf < wr.heap.size := by omega
          have nU := owns_below_lt UO
          have nW := owns_below_lt WO
          have nC := owns_below_lt CO
          have BX := below_alloc wr (.cells #[.int .i64 yn, .int .i64 yd, .string yk, .int .u32 yv] 37)
          have Y := Box.new wr #[.int .i64 yn, .int .i64 yd, .string yk, .int .u32 yv] 37
          have d2 := (BX.cell (p := ⟨bf, fo + k, none⟩) hbf1).trans d1
          replace TB := TB.below BX
          replace UO := owns_below UO BX
          replace WO := owns_below WO BX
          replace CO := owns_below CO BX
          replace hb := below_then hb BX
          obtain ⟨W0, hW0⟩ : ∃ W0, W0 = wr.alloc (.cells #[.int .i64 yn, .int .i64 yd, .string yk, .int .u32 yv] 37) := ⟨_, rfl⟩
          rw [← hW0] at Y d2 TB UO WO CO hb
          have HW0 : Hid _ := hW0
          have hz0 : wr.heap.size < W0.heap.size := Y.1
          clear hW0 BX
          go_wp2_with fail
          refine (KI _).mono ?_
          rintro e w' ⟨rfl, hw'⟩
          rw [hw']
          clear hw' w'
          clear KI
          go_upto_region 12 with fail
          have hw0 : wr.alloc (.cells #[.int .i64 yn, .int .i64 yd, .string yk, .int .u32 yv] 37) = W0 := HW0.out.symm
          rw [hw0]
          clear hw0 HW0 r0 r1 r2 r3 c1 d1
          have KB := fun W' => l1In_any g 0 (8 * (yk.size : Int) - 1) W'
          obtain ⟨hyl, y0, y1, y2, y3⟩ := Y.c4
          by_cases hg : 0 ≤ g ∧ g < 8 * (yk.size : Int)
          · have hq : (decide (0 ≤ g) && decide (g ≤ 8 * (yk.size : Int) - 1)) = true := by rw [decide_eq_true (by omega), decide_eq_true (by omega)]; rfl
            rw [hq] at KB
            clear hq
            obtain ⟨n, rfl⟩ : ∃ n : Nat, g = n := ⟨g.toNat, by omega⟩
            have e0 : trS yk n = ⟨(yk.data.toList.set (n / 8) (trB (yk.data.toList.getD (n / 8) 0) n)).toArray⟩ := by unfold trS; rw [if_pos hg]; rfl
            have hle : yk.data.toList.length = yk.size := by simp
            have hnl : n / 8 < yk.data.toList.length := by omega
            obtain ⟨cap, w1', hcv, hwr, hb1'⟩ := bytes_of yk W0
            have hw2 := hwr.set _ hnl (trB (yk.data.toList.getD (n / 8) 0) n)
            have x1 : w1'.cell? ⟨W0.heap.size, n / 8, none⟩ = some (.int .u8 ((yk.data.toList.getD (n / 8) 0).toNat : Int)) := by
              rw [(hwr.2 _ hnl).1, List.getD_eq_getElem?_getD, List.getElem?_eq_getElem hnl]; rfl
            have xf1 : w1'.frozen? ⟨W0.heap.size, n / 8, none⟩ = false := (hwr.2 _ hnl).2
            have HV : Hid (bits BinOp.xor IntKind.u8 ((yk.data.toList.getD (n / 8) 0).toNat : Int) (2 ^ (n % 8) % 256) = ((trB (yk.data.toList.getD (n / 8) 0) n).toNat : Int)) := xor_bit _ _
            have hl2 : Hid ((yk.data.toList.set (n / 8) (trB (yk.data.toList.getD (n / 8) 0) n)).length = yk.size) := by show _ = _; rw [List.length_set]; exact hle
            rw [e0] at HS2 hyD HTC
            have hn1 : n < 8 * yk.size := by omega
            generalize yk.data.toList.getD (n / 8) 0 = c at *
            generalize yk.data.toList.set (n / 8) (trB c n) = m at *
            have HD : Hid ((⟨m.toArray⟩ : ByteArray) = ⟨m.toArray⟩) := rfl
            clear hwr hle hnl hg e0
            go_wp2_with fail
            refine (KB _).mono ?_
            rintro e w' ⟨rfl, hw'⟩
            rw [hw']
            clear hw' w'
            clear KB
            have Y1 := Y.below hb1'
            replace TB := TB.below hb1'
            replace UO := owns_below UO hb1'
            replace WO := owns_below WO hb1'
            replace CO := owns_below CO hb1'
            replace hb := below_then hb hb1'
            have hz1' := hb1'.size
            have hlt1 := hw2.1
            go_upto_region 16 with fail
            rw [HV.out]
            have Y2 := Y1.setOther ⟨W0.heap.size, n / 8, none⟩ (.int .u8 ((trB c n).toNat : Int)) (by simp; omega)
            replace TB := TB.setOther ⟨W0.heap.size, n / 8, none⟩ (.int .u8 ((trB c n).toNat : Int)) (by simp; omega)
            replace UO := ownsRow_setCell_other UO (a := ⟨W0.heap.size, n / 8, none⟩) (fun e => by have := nU _ e; simp only at this; omega) (.int .u8 ((trB c n).toNat : Int))
            replace WO := ownsRow_setCell_other WO (a := ⟨W0.heap.size, n / 8, none⟩) (fun e => by have := nW _ e; simp only at this; omega) (.int .u8 ((trB c n).toNat : Int))
            replace CO := ownsRow_setCell_other CO (a := ⟨W0.heap.size, n / 8, none⟩) (fun e => by have := nC _ e; simp only at this; omega) (.int .u8 ((trB c n).toNat : Int))
            replace hb := hb.setCell (p := ⟨W0.heap.size, n / 8, none⟩) (by simp; omega) (.int .u8 ((trB c n).toNat : Int))
            clear x1 xf1 hcv Y Y1 y0 y1 y2 y3 hb1'
            generalize w1'.setCell ⟨W0.heap.size, n / 8, none⟩ (.int .u8 ((trB c n).toNat : Int)) = W2 at *
            have hcw := conv_wr (cap := cap) hw2 hl2.out
            clear hw2 HV
            generalize (⟨m.toArray⟩ : ByteArray) = D at *
            have z2 := Y2.2.1 2 _ rfl
            have zf := Y2.2.2 2
            have Y5 := Y2.set 2 (.string D) (by simp)
            replace Y5 : Box (W2.setCell ⟨wr.heap.size, 2, none⟩ (.string D)) wr.heap.size [.int .i64 yn, .int .i64 yd, .string D, .int .u32 yv] := Y5
            go_upto_region 17 with fail
            replace TB := TB.setOther ⟨wr.heap.size, 2, none⟩ (.string D) (by simp; omega)
            replace UO := ownsRow_setCell_other UO (a := ⟨wr.heap.size, 2, none⟩) (fun e => by have := nU _ e; simp only at this; omega) (.string D)
            replace WO := ownsRow_setCell_other WO (a := ⟨wr.heap.size, 2, none⟩) (fun e => by have := nW _ e; simp only at this; omega) (.string D)
            replace CO := ownsRow_setCell_other CO (a := ⟨wr.heap.size, 2, none⟩) (fun e => by have := nC _ e; simp only at this; omega) (.string D)
            replace hb := hb.setCell (p := ⟨wr.heap.size, 2, none⟩) (by simp; omega) (.string D)
            clear z2 zf hcw Y2 HTC hl2 HD d2
            generalize W2.setCell ⟨wr.heap.size, 2, none⟩ (.string D) = W5 at *
            have Y := Y5
            clear Y5
            have hbt5 := TB.1
            obtain ⟨hbl, p0, p1⟩ := TB.c2
            obtain ⟨hyl, y0, y1, y2, y3⟩ := Y.c4
            have KT := fun W' h => l13Take_any (.slice za W.length zb) (.slice ux G.length uy) W G ⟨yn, yd, D, yv⟩ W' h (Cp.own UO) hok h200 hgd hyD
            dsimp only at KT
            have iT : TR W5 (.slice za W.length zb) (.slice ux G.length uy) W G := ⟨WR_of_owns WO rfl, IR_of_owns UO rfl⟩
            have hz5 := hb.size
            clear Y
            go_wp2_with fail
            refine (KT _ iT).mono ?_
            rintro e w6 ⟨u, rfl, hu, hb6⟩
            clear KT iT p0 p1 y0 y1 y2 y3
            have hz6 := hb6.size
            replace TB := TB.below hb6
            replace UO := owns_below UO hb6
            replace WO := owns_below WO hb6
            replace CO := owns_below CO hb6
            replace hb := below_then hb hb6
            obtain ⟨UN, unn⟩ : w6.ownsRow w.heap.size 37 4 u (tkN W G ⟨yn, yd, D, yv⟩).length (flat4 (tkN W G ⟨yn, yd, D, yv⟩)) ∧ (∀ g, u.ownBlock = some g → g ≠ w3.heap.size) := by
              rcases hu with ⟨rfl, e⟩ | hu
              · rw [e]; exact ⟨UO, hun⟩
              · exact ⟨owns_mono' hu (by omega), fun g hg e => by have := owns_ge hu g hg; omega⟩
            clear hu hb6
            obtain ⟨ua, ub, rfl⟩ := owns_shape UN
            have BX := below_alloc w6 (.cells #[.slice za W.length zb, .slice ua (tkN W G ⟨yn, yd, D, yv⟩).length ub] 41)
            have QB := Box.new w6 #[.slice za W.length zb, .slice ua (tkN W G ⟨yn, yd, D, yv⟩).length ub] 41
            have hqb := hb.size
            replace TB := TB.below BX
            replace UO := owns_below UO BX
            replace UN := owns_below UN BX
            replace WO := owns_below WO BX
            replace CO := owns_below CO BX
            replace hb := below_then hb BX
            clear BX
            cases htk : tkB W G ⟨yn, yd, D, yv⟩ with
            | false =>
              have E1 : Hid (play W (sdTo C O F (k + 1)) = (G, N)) := by show _ = _; rw [HS2.out]; unfold tkS tkN; dsimp only; rw [htk]; rfl
              have HUO : Hid _ := UO
              have HWO : Hid _ := WO
              have HCO : Hid _ := CO
              have HTB : Hid _ := TB
              clear UO WO CO TB UN QB HS2
              go_wp2
              go_roundw
              case rel => exact ⟨k + 1, ux, uy, by omega, by rw [E1.out], by go_num, by rw [E1.out]; exact HTB.out, by rw [E1.out]; exact HUO.out, by rw [E1.out]; exact hun, HWO.out, HCO.out, hb⟩
              case measure => simp [intOf]; omega
            | true =>
              have E1 : Hid (play W (sdTo C O F (k + 1)) = (tkN W G ⟨yn, yd, D, yv⟩, N + 1)) := by show _ = _; rw [HS2.out]; unfold tkS; dsimp only; rw [htk]; rfl
              clear HS2 UO hun
              generalize tkN W G ⟨yn, yd, D, yv⟩ = G2 at *
              obtain ⟨hql, q0, q1⟩ := QB.c2
              obtain ⟨hbl2, p0, p1, pf0, pf1⟩ := TB.f2
              have HTB : Hid _ := put2_box TB (.slice za W.length zb) (.slice ua G2.length ub)
              have hC := put2_chg (w6.alloc (.cells #[.slice za W.length zb, .slice ua G2.length ub] 41)) w3.heap.size (.slice za W.length zb) (.slice ua G2.length ub)
              have HUO : Hid _ := hC.owns UN (fun g hg hh => unn g hg hh)
              have HWO : Hid _ := hC.owns WO (fun g hg hh => by have := hlT g (.inl hg); omega)
              have HCO : Hid _ := hC.owns CO (fun g hg hh => by have := hlC g hg; omega)
              have HB : Hid _ := hb.trans (hC.below (B := w.heap.size) hb.size (fun g hg => by omega))
              clear hC TB UN WO CO QB hb
              go_wp2
              go_roundw
              case rel => exact ⟨k + 1, ua, ub, by omega, by rw [E1.out]; go_num, by go_num, by rw [E1.out]; exact HTB.out, by rw [E1.out]; exact HUO.out, by rw [E1.out]; exact unn, HWO.out, HCO.out, HB.out⟩
              case measure => simp [intOf]; omega
          · have hq : (decide (0 ≤ g) && decide (g ≤ 8 * (yk.size : Int) - 1)) = false := by
              by_cases h0 : 0 ≤ g
              · rw [decide_eq_false (p := g ≤ 8 * (yk.size : Int) - 1) (by omega), Bool.and_false]
              · rw [decide_eq_false h0, Bool.false_and]
            have e0 : trS yk g = yk := by unfold trS; rw [if_neg hg]
            rw [hq] at KB
            rw [e0] at HS2 hyD
            clear hq e0 hg HTC hsz
            generalize yk = D at *
            go_wp2_with fail
            refine (KB _).mono ?_
            rintro e w' ⟨rfl, hw'⟩
            rw [hw']
            clear hw' w'
            clear KB y0 y1 y2 y3 d2
            obtain ⟨hbl, p0, p1⟩ := TB.c2
            obtain ⟨hyl, y0, y1, y2, y3⟩ := Y.c4
            have KT := fun W' h => l13Take_any (.slice za W.length zb) (.slice ux G.length uy) W G ⟨yn, yd, D, yv⟩ W' h (Cp.own UO) hok h200 hgd hyD
            dsimp only at KT
            have iT : TR W0 (.slice za W.length zb) (.slice ux G.length uy) W G := ⟨WR_of_owns WO rfl, IR_of_owns UO rfl⟩
            have hz5 := hb.size
            clear Y
            go_wp2_with fail
            refine (KT _ iT).mono ?_
            rintro e w6 ⟨u, rfl, hu, hb6⟩
            clear KT iT p0 p1 y0 y1 y2 y3
            have hz6 := hb6.size
            replace TB := TB.below hb6
            replace UO := owns_below UO hb6
            replace WO := owns_below WO hb6
            replace CO := owns_below CO hb6
            replace hb := below_then hb hb6
            obtain ⟨UN, unn⟩ : w6.ownsRow w.heap.size 37 4 u (tkN W G ⟨yn, yd, D, yv⟩).length (flat4 (tkN W G ⟨yn, yd, D, yv⟩)) ∧ (∀ g, u.ownBlock = some g → g ≠ w3.heap.size) := by
              rcases hu with ⟨rfl, e⟩ | hu
              · rw [e]; exact ⟨UO, hun⟩
              · exact ⟨owns_mono' hu (by omega), fun g hg e => by have := owns_ge hu g hg; omega⟩
            clear hu hb6
            obtain ⟨ua, ub, rfl⟩ := owns_shape UN
            have BX := below_alloc w6 (.cells #[.slice za W.length zb, .slice ua (tkN W G ⟨yn, yd, D, yv⟩).length ub] 41)
            have QB := Box.new w6 #[.slice za W.length zb, .slice ua (tkN W G ⟨yn, yd, D, yv⟩).length ub] 41
            have hqb := hb.size
            replace TB := TB.below BX
            replace UO := owns_below UO BX
            replace UN := owns_below UN BX
            replace WO := owns_below WO BX
            replace CO := owns_below CO BX
            replace hb := below_then hb BX
            clear BX
            cases htk : tkB W G ⟨yn, yd, D, yv⟩ with
            | false =>
              have E1 : Hid (play W (sdTo C O F (k + 1)) = (G, N)) := by show _ = _; rw [HS2.out]; unfold tkS tkN; dsimp only; rw [htk]; rfl
              have HUO : Hid _ := UO
              have HWO : Hid _ := WO
              have HCO : Hid _ := CO
              have HTB : Hid _ := TB
              clear UO WO CO TB UN QB HS2
              go_wp2
              go_roundw
              case rel => exact ⟨k + 1, ux, uy, by omega, by rw [E1.out], by go_num, by rw [E1.out]; exact HTB.out, by rw [E1.out]; exact HUO.out, by rw [E1.out]; exact hun, HWO.out, HCO.out, hb⟩
              case measure => simp [intOf]; omega
            | true =>
              have E1 : Hid (play W (sdTo C O F (k + 1)) = (tkN W G ⟨yn, yd, D, yv⟩, N + 1)) := by show _ = _; rw [HS2.out]; unfold tkS; dsimp only; rw [htk]; rfl
              clear HS2 UO hun
              generalize tkN W G ⟨yn, yd, D, yv⟩ = G2 at *
              obtain ⟨hql, q0, q1⟩ := QB.c2
              obtain ⟨hbl2, p0, p1, pf0, pf1⟩ := TB.f2
              have HTB : Hid _ := put2_box TB (.slice za W.length zb) (.slice ua G2.length ub)
              have hC := put2_chg (w6.alloc (.cells #[.slice za W.length zb, .slice ua G2.length ub] 41)) w3.heap.size (.slice za W.length zb) (.slice ua G2.length ub)
              have HUO : Hid _ := hC.owns UN (fun g hg hh => unn g hg hh)
              have HWO : Hid _ := hC.owns WO (fun g hg hh => by have := hlT g (.inl hg); omega)
              have HCO : Hid _ := hC.owns CO (fun g hg hh => by have := hlC g hg; omega)
              have HB : Hid _ := hb.trans (hC.below (B := w.heap.size) hb.size (fun g hg => by omega))
              clear hC TB UN WO CO QB hb
              go_wp2
              go_roundw
              case rel => exact ⟨k + 1, ua, ub, by omega, by rw [E1.out]; go_num, by go_num, by rw [E1.out]; exact HTB.out, by rw [E1.out]; exact HUO.out, by rw [E1.out]; exact unn, HWO.out, HCO.out, HB.out⟩
              case measure => simp [intOf]; omega
      · obtain rfl : k = O.length := by omega
        obtain ⟨s, hsE⟩ : ∃ s, s = play W (sdTo C O F O.length) := ⟨_, rfl⟩
        have HR : Hid (fnR W (play W (sdTo C O F O.length)).1 = if lfB W s.1 then lfR W s.1 else []) := by show _ = _; rw [hsE]; exact HFN _ hgd h200
        have HN : Hid ((play W (sdTo C O F O.length)).2 = s.2) := by show _ = _; rw [hsE]
        rw [← hsE] at hgd h200 hcn TB UO hun ⊢
        clear hsE
        obtain ⟨G, N⟩ := s
        dsimp only at *
        obtain ⟨hbl, p0, p1⟩ := TB.c2
        have KF := fun W' h => l13Finish_any (.slice za W.length zb) (.slice ux G.length uy) W G W' h hok h200 hgd
        have iT : TR wr (.slice za W.length zb) (.slice ux G.length uy) W G := ⟨WR_of_owns WO rfl, IR_of_owns UO rfl⟩
        clear hoc hfc HFN TB UO WO CO hun hgd
        go_wp2_with fail
        refine (KF _ iT).mono ?_
        rintro e w4 ⟨u, rfl, RO, hb4⟩
        replace hb := below_then hb hb4
        obtain ⟨ra, rc, rfl⟩ := owns_shape RO
        clear KF iT hb4
        have hNb : N ≤ 400 := by omega
        cases hlf : lfB W G with
        | false =>
          rw [hlf] at HR
          go_wp2
          exact bodyPost_ret (v := .tuple #[.slice none 0 0, .int .i64 (N : Int), .bool true]) (by simp [results, Try.results16, go_sem]) rfl ⟨_, by rw [HN.out], by rw [HR.out]; exact World.ownsRow_nil _ _ _ _, hb⟩
        | true =>
          rw [hlf] at HR
          go_wp2
          exact bodyPost_ret (v := .tuple #[.slice ra (lfR W G).length rc, .int .i64 (N : Int), .bool true]) (by simp [results, Try.results16, go_sem]) rfl ⟨_, by rw [HN.out], by rw [HR.out]; exact owns_mono' RO hz, hb⟩
end Go.Proofs.Ytocaigffikdlhaa
