/-
  The walk of FnExactTakeChunk.
-/
import Derived.Test.YtocaigffikdlhaaSK
import Derived.Test.YtocaigffikdlhaaLWantOf
import Derived.Deep.RegionHeld3
import Derived.Deep.Cut
namespace Go.Proofs.Ytocaigffikdlhaa
open Go.RowKit Go.Maps
set_option linter.unusedVariables false
set_option maxRecDepth 100000

theorem run_neq_bool_same10 (w : World) (b : Bool) : (binOp .neq 4 (.bool b) (.bool b)).run Try.prog w = .ok (.bool false) w := by
  cases b <;> kernel_rfl
set_option maxHeartbeats 64000000 in
theorem law10x (a c : Value) (W : List Wt) (G : List Ck) (yn yd : Int) (yk : ByteArray) (yv : Int) (w : World) (hw : WR w a W) (hc : IR w c G) (hn0 : W.length ≤ maxLen) (hm0 : G.length ≤ maxLen) (hs0 : ∀ i (h : i < G.length), G[i].k.size ≤ maxLen) (hy0 : yk.size ≤ maxLen) :
    Calls Try.prog 10 #[.agg #[a, c], .agg #[.int .i64 yn, .int .i64 yd, .string yk, .int .u32 yv]] w fun e w' => e = .returned (.bool true) ∧ Below w.heap.size w w' := by
  have HT : TR w a c W G := ⟨hw, hc⟩
  have HV := fun W' (hb : Below w.heap.size w W') => HT.below hb
  have SZ := fun W' (hb : Below w.heap.size w W') => szTaking_any a c W G 1048576 W' (HV W' hb) (by omega) (by omega) hn0 hm0 hs0
  obtain ⟨wa, wb, rfl, _⟩ := hw
  obtain ⟨ca, cb, rfl, _⟩ := hc
  clear hn0 hm0 hs0 HT
  have R1 := fun w b => run_neq_bool_same10 w b
  have hB := below2 w (.cells #[.slice wa W.length wb, .slice ca G.length cb] 73) (.cells #[.int .i64 yn, .int .i64 yd, .string yk, .int .u32 yv] 77)
  have PB := (Box.new w #[.slice wa W.length wb, .slice ca G.length cb] 73).alloc (.cells #[.int .i64 yn, .int .i64 yd, .string yk, .int .u32 yv] 77)
  have YB := Box.new (w.alloc (.cells #[.slice wa W.length wb, .slice ca G.length cb] 73)) #[.int .i64 yn, .int .i64 yd, .string yk, .int .u32 yv] 77
  simp only [World.size_alloc] at YB
  go_enter Try.func10, Try.ntmps10
  go_wp2_with fail
  refine (SZ _ hB).mono ?_
  rintro e w0 ⟨⟨r, rfl, hr⟩, hb0⟩
  replace hB := below_then hB hb0
  replace PB := PB.below hb0
  replace YB := YB.below hb0
  have hz0 := hB.size
  clear SZ hb0
  rcases hr with rfl | ⟨hr0, hr1⟩
  · clear PB YB
    go_wp2
    go_ret
    exact ⟨rfl, hB⟩
  have hn : W.length ≤ 1048576 := by omega
  have hm : G.length ≤ 1048576 := by omega
  have hs : ∀ i (h : i < G.length), G[i].k.size ≤ 1048576 := fun i h => by have := tot4_mem G i h; omega
  have hrl : r ≤ 1048576 := by omega
  clear hr1
  obtain ⟨_, y0, y1, y2, y3⟩ := YB.c4
  have SC := fun W' => szChunk_any yk yv yn yd r W' hr0 hrl hy0
  by_cases hyr : (yk.size : Int) ≤ r
  rotate_left
  · rw [if_neg hyr] at SC
    go_wp2_with fail
    refine (SC _).mono ?_
    rintro e w1 ⟨rfl, hb1⟩
    replace hB := below_then hB hb1
    clear hb1 PB YB y0 y1 y2 y3
    go_wp2
    go_ret
    exact ⟨rfl, hB⟩
  rw [if_pos hyr] at SC
  have hy : yk.size ≤ 1048576 := by omega
  have T := fun W' hb => toTaking_any _ _ W G W' (HV W' hb) hn hm
  have TT := fun W' h => toTaking_any (.slice wa W.length wb) (.slice ca G.length cb) W G W' h hn hm
  have TC := fun W' => toChunk_any yk yv yn yd W'
  have S := fun x y W' h hcp => specTake_any x y W G ⟨yn, yd, yk, yv⟩ W' h hcp hn hm hs hy
  have I := fun x y W' h na nc => implTake_any x y W G ⟨yn, yd, yk, yv⟩ W' h na nc hn hm hs hy
  dsimp only at S I
  obtain ⟨HL1, HL2⟩ := ct_len W G ⟨yn, yd, yk, yv⟩
  generalize ctW W G ⟨yn, yd, yk, yv⟩ = ZW at *
  generalize ctG W G ⟨yn, yd, yk, yv⟩ = ZG at *
  generalize ctB W G ⟨yn, yd, yk, yv⟩ = ok at *
  clear hs hy0
  go_wp2_with fail
  refine (SC _).mono ?_
  rintro e w1 ⟨rfl, hb1⟩
  replace hB := below_then hB hb1
  replace PB := PB.below hb1
  replace YB := YB.below hb1
  have hz1 := hb1.size
  have hq : ¬ ((r - yk.size : Int) < 0) := by omega
  clear hb1 SC y0 y1 y2 y3
  obtain ⟨hpl, p0, p1⟩ := PB.c2
  obtain ⟨hyl, y0, y1, y2, y3⟩ := YB.c4
  go_wp2_with fail
  clear p0 p1 y0 y1 y2 y3
  go_cut [6, 7] from 16 (fun s6 s7 wc => ∃ (b : Nat) (sa : Option Addr) (sb : Nat) (sc : Option Addr) (sd : Nat), s6 = .pointer (some ⟨b, 0, none⟩) ∧ s7 = .bool ok ∧ Box wc w.heap.size [.slice wa W.length wb, .slice ca G.length cb] ∧ Box wc (w.heap.size + 1) [.int .i64 yn, .int .i64 yd, .string yk, .int .u32 yv] ∧ wc.ownsRow w.heap.size 54 2 (.slice sa ZW.length sb) ZW.length (flat2 ZW) ∧ wc.ownsRow w.heap.size 37 4 (.slice sc ZG.length sd) ZG.length (flat4 ZG) ∧ Box wc b [.slice sa ZW.length sb, .slice sc ZG.length sd] ∧ (∀ g, (Value.slice sa ZW.length sb).ownBlock = some g → g ≠ b) ∧ (∀ g, (Value.slice sc ZG.length sd).ownBlock = some g → g ≠ b) ∧ w.heap.size + 1 < b ∧ Below w.heap.size w wc)
  case first =>
    have hD : Below (w1).heap.size (w1) (w1).drew := (Below.refl _ _).drew
    replace hB := below_then hB hD
    replace PB := PB.below hD
    replace YB := YB.below hD
    clear hD
    refine wp_region_held_drew (S := fun w' => Box w' w.heap.size [.slice wa W.length wb, .slice ca G.length cb] ∧ Box w' (w.heap.size + 1) [.int .i64 yn, .int .i64 yd, .string yk, .int .u32 yv]) (by kernel_rfl) ⟨PB, YB⟩ (fun hHeld => ?_)
    generalize (w1).drew = v0 at *
    refine wpAnyH_take (i := 0) (oi := { dst := some 27, op := Op.load 73 (Operand.tmp 2), type := 73, pos := "exact.go:4482", after := #[], guard := none }) (v := .agg #[.slice wa W.length wb, .slice ca G.length cb]) rfl (by kernel_rfl) (by kernel_rfl) (by kernel_rfl) (fun _ _ _ h => h) (Or.inl ⟨by rfl, ?_⟩) (by assumption) ?_
    · intro wx hSw
      have e0 := hSw.1.2.1 0 _ rfl; have e1 := hSw.1.2.1 1 _ rfl; clear hHeld hSw; go_simp
    simp only [Act.put, List.setIfInBounds_toArray, List.set_cons_zero, List.set_cons_succ]
    refine wpAnyH_take (i := 2) (oi := { dst := some 29, op := Op.load 77 (Operand.tmp 3), type := 77, pos := "exact.go:4482", after := #[], guard := none }) (v := .agg #[.int .i64 yn, .int .i64 yd, .string yk, .int .u32 yv]) rfl (by kernel_rfl) (by kernel_rfl) (by kernel_rfl) (fun _ _ _ h => h) (Or.inl ⟨by rfl, ?_⟩) (by assumption) ?_
    · intro wx hSw
      have e0 := hSw.2.2.1 0 _ rfl; have e1 := hSw.2.2.1 1 _ rfl; have e2 := hSw.2.2.1 2 _ rfl; have e3 := hSw.2.2.1 3 _ rfl; clear hHeld hSw; go_simp
    simp only [Act.put, List.setIfInBounds_toArray, List.set_cons_zero, List.set_cons_succ]
    refine wpAnyH_ready (rs := [1, 8]) (by kernel_rfl) (by simp) ?_
    refine (AllReadyH.cons (o := { dst := some 28, op := Op.call { callee := Callee.value (Operand.func 53), args := #[Operand.tmp 27], argTypes := #[73] }, type := 41, pos := "exact.go:4482", after := #[{ on := 0, ground := Ground.data }], guard := none }) rfl (fun K hK => ?_) (AllReadyH.cons (o := { dst := some 6, op := Op.alloc 41, type := 0, pos := "exact.go:4482", after := #[], guard := none }) rfl (fun K hK => ?_) AllReadyH.nil))
    · clear hHeld
      go_simp
      refine (T _ hB).mono ?_
      rintro e v1 ⟨a3, c3, rfl, O3, hbv⟩
      have hzc := hB.size
      replace hB := below_then hB hbv
      replace PB := PB.below hbv
      replace YB := YB.below hbv
      clear hbv hzc
      refine hK.out _ _ ⟨PB, YB⟩ (fun hHeld => ?_)
      clear hK K
      refine wpAnyH_ready (rs := [3, 8]) (by kernel_rfl) (by simp) ?_
      refine (AllReadyH.cons (o := { dst := some 30, op := Op.call { callee := Callee.value (Operand.func 55), args := #[Operand.tmp 29], argTypes := #[77] }, type := 37, pos := "exact.go:4482", after := #[{ on := 2, ground := Ground.data }, { on := 1, ground := Ground.chain }], guard := none }) rfl (fun K hK => ?_) (AllReadyH.cons (o := { dst := some 6, op := Op.alloc 41, type := 0, pos := "exact.go:4482", after := #[], guard := none }) rfl (fun K hK => ?_) AllReadyH.nil))
      · clear hHeld
        go_simp
        refine (TC _).mono ?_
        rintro e v2 ⟨rfl, hbv⟩
        have hzc := hB.size
        replace hB := below_then hB hbv
        replace PB := PB.below hbv
        replace YB := YB.below hbv
        replace O3 := O3.below hbv
        clear hbv hzc
        refine hK.out _ _ ⟨PB, YB⟩ (fun hHeld => ?_)
        clear hK K
        refine wpAnyH_ready (rs := [4, 8]) (by kernel_rfl) (by simp) ?_
        refine (AllReadyH.cons (o := { dst := some 31, op := Op.call { callee := Callee.value (Operand.func 23), args := #[Operand.tmp 28, Operand.tmp 30], argTypes := #[41, 37] }, type := 44, pos := "exact.go:4482", after := #[{ on := 1, ground := Ground.data }, { on := 3, ground := Ground.data }, { on := 3, ground := Ground.chain }], guard := none }) rfl (fun K hK => ?_) (AllReadyH.cons (o := { dst := some 6, op := Op.alloc 41, type := 0, pos := "exact.go:4482", after := #[], guard := none }) rfl (fun K hK => ?_) AllReadyH.nil))
        · clear hHeld
          go_simp
          refine (S _ _ _ O3.tr (Cp.own O3.c)).mono ?_
          rintro e v3 ⟨ar, cr, rfl, OR, hbv⟩
          have hzc := hB.size
          replace hB := below_then hB hbv
          replace PB := PB.below hbv
          replace YB := YB.below hbv
          replace O3 := O3.below hbv
          obtain ⟨⟨sa, sb, rfl⟩, sc, sd, rfl⟩ := OR.shapes
          have SA := OR.a
          have SC := OR.c
          clear OR
          replace SA := owns_mono' SA hzc
          replace SC := owns_mono' SC hzc
          clear hbv hzc
          refine hK.out _ _ ⟨PB, YB⟩ (fun hHeld => ?_)
          clear hK K
          refine wpAnyH_take (i := 5) (oi := { dst := some 26, op := Op.move (Operand.tmp 31), type := 44, pos := "exact.go:4482", after := #[{ on := 4, ground := Ground.data }], guard := none }) (v := .tuple #[.agg #[.slice sa ZW.length sb, .slice sc ZG.length sd], .bool ok]) rfl (by kernel_rfl) (by kernel_rfl) (by kernel_rfl) (fun _ _ _ h => h) (Or.inl ⟨by rfl, ?_⟩) (by assumption) ?_
          · intro wx hSw
            clear hSw hHeld; go_simp
          simp only [Act.put, List.setIfInBounds_toArray, List.set_cons_zero, List.set_cons_succ]
          refine wpAnyH_take (i := 6) (oi := { dst := some 32, op := Op.extract (Operand.tmp 26) 0, type := 41, pos := "exact.go:4482", after := #[{ on := 5, ground := Ground.data }], guard := none }) (v := .agg #[.slice sa ZW.length sb, .slice sc ZG.length sd]) rfl (by kernel_rfl) (by kernel_rfl) (by kernel_rfl) (fun _ _ _ h => h) (Or.inl ⟨by rfl, ?_⟩) (by assumption) ?_
          · intro wx hSw
            clear hSw hHeld; go_simp
          simp only [Act.put, List.setIfInBounds_toArray, List.set_cons_zero, List.set_cons_succ]
          refine wpAnyH_take (i := 7) (oi := { dst := some 33, op := Op.extract (Operand.tmp 26) 1, type := 4, pos := "exact.go:4482", after := #[{ on := 5, ground := Ground.data }, { on := 9, ground := Ground.gcOnly Departure.lateStores }], guard := none }) (v := .bool ok) rfl (by kernel_rfl) (by kernel_rfl) (by kernel_rfl) (fun _ _ _ h => h) (Or.inl ⟨by rfl, ?_⟩) (by assumption) ?_
          · intro wx hSw
            clear hSw hHeld; go_simp
          simp only [Act.put, List.setIfInBounds_toArray, List.set_cons_zero, List.set_cons_succ]
          refine wpAnyH_ready (rs := [8]) (by kernel_rfl) (by simp) ?_
          refine (AllReadyH.cons (o := { dst := some 6, op := Op.alloc 41, type := 0, pos := "exact.go:4482", after := #[], guard := none }) rfl (fun K hK => ?_) AllReadyH.nil)
          clear hHeld
          have Z := Box.new v3 #[.slice none 0 0, .slice none 0 0] 41
          have hkPB := PB.1
          have hkYB := YB.1
          have hkSA := owns_below_lt SA
          have hkSC := owns_below_lt SC
          have hkw := hB.size
          have hA := below_alloc v3 (.cells #[.slice none 0 0, .slice none 0 0] 41)
          replace hB := below_then hB hA
          replace PB := PB.below hA
          replace YB := YB.below hA
          replace O3 := O3.below hA
          replace SA := owns_below SA hA
          replace SC := owns_below SC hA
          clear hA
          go_simp
          refine hK.out _ _ ⟨PB, YB⟩ (fun hHeld => ?_)
          clear hK K
          generalize v3.alloc (.cells #[.slice none 0 0, .slice none 0 0] 41) = v4 at *
          generalize v3.heap.size = b at *
          have neSA := fun g hg => Nat.ne_of_lt (hkSA g hg)
          clear hkSA
          have neSC := fun g hg => Nat.ne_of_lt (hkSC g hg)
          clear hkSC
          refine wpAnyH_ready (rs := [9]) (by kernel_rfl) (by simp) ?_
          refine (AllReadyH.cons (o := { dst := none, op := Op.store 41 (Operand.tmp 6) (Operand.tmp 32), type := 0, pos := "exact.go:4482", after := #[{ on := 8, ground := Ground.data }, { on := 6, ground := Ground.data }, { on := 4, ground := Ground.chain }, { on := 0, ground := Ground.phase }, { on := 1, ground := Ground.phase }, { on := 2, ground := Ground.phase }, { on := 3, ground := Ground.phase }, { on := 4, ground := Ground.phase }, { on := 5, ground := Ground.phase }, { on := 6, ground := Ground.phase }, { on := 7, ground := Ground.textOnly Departure.lateStores }, { on := 8, ground := Ground.phase }], guard := none }) rfl (fun K hK => ?_) AllReadyH.nil)
          clear hHeld
          obtain ⟨zl, t0, t1, f0, f1⟩ := Z.f2
          have hC := put2_chg v4 b (.slice sa ZW.length sb) (.slice sc ZG.length sd)
          have PBn := hC.box PB (by omega)
          have YBn := hC.box YB (by omega)
          have SAn := hC.owns SA (fun g hg hh => neSA g hg hh)
          have SCn := hC.owns SC (fun g hg hh => neSC g hg hh)
          have Zn := put2_box Z (.slice sa ZW.length sb) (.slice sc ZG.length sd)
          have hBn := hB.trans (hC.below (B := w.heap.size) hB.size (fun k hk => by omega))
          clear hC
          go_simp
          refine hK.out _ (put2 v4 b (.slice sa ZW.length sb) (.slice sc ZG.length sd)) ⟨PBn, YBn⟩ (fun hHeld => ?_)
          clear hK K t0 t1 f0 f1
          refine wpAnyH_take (i := 10) (oi := { dst := some 7, op := Op.assign (Operand.tmp 33), type := 4, pos := "exact.go:4482", after := #[{ on := 7, ground := Ground.data }, { on := 9, ground := Ground.chain }, { on := 0, ground := Ground.phase }, { on := 1, ground := Ground.phase }, { on := 2, ground := Ground.phase }, { on := 3, ground := Ground.phase }, { on := 4, ground := Ground.phase }, { on := 5, ground := Ground.phase }, { on := 6, ground := Ground.phase }, { on := 7, ground := Ground.phase }, { on := 8, ground := Ground.phase }, { on := 9, ground := Ground.phase }], guard := none }) (v := .bool ok) rfl (by kernel_rfl) (by kernel_rfl) (by kernel_rfl) (fun _ _ _ h => h) (Or.inl ⟨by rfl, ?_⟩) (by assumption) ?_
          · intro wx hSw
            clear hSw hHeld; go_simp
          simp only [Act.put, List.setIfInBounds_toArray, List.set_cons_zero, List.set_cons_succ]
          clear hHeld
          refine wpAnyH_done (by kernel_rfl) ?_ _
          go_wp2_with fail
          go_meet
          case rel => exact ⟨b, _, _, _, _, rfl, rfl, PBn, YBn, SAn, SCn, Zn, neSA, neSC, by omega, hBn⟩
        · clear hHeld
          have Z := Box.new v2 #[.slice none 0 0, .slice none 0 0] 41
          have hkPB := PB.1
          have hkYB := YB.1
          have hkw := hB.size
          have hA := below_alloc v2 (.cells #[.slice none 0 0, .slice none 0 0] 41)
          replace hB := below_then hB hA
          replace PB := PB.below hA
          replace YB := YB.below hA
          replace O3 := O3.below hA
          clear hA
          go_simp
          refine hK.out _ _ ⟨PB, YB⟩ (fun hHeld => ?_)
          clear hK K
          generalize v2.alloc (.cells #[.slice none 0 0, .slice none 0 0] 41) = v5 at *
          generalize v2.heap.size = b at *
          refine wpAnyH_ready (rs := [4]) (by kernel_rfl) (by simp) ?_
          refine (AllReadyH.cons (o := { dst := some 31, op := Op.call { callee := Callee.value (Operand.func 23), args := #[Operand.tmp 28, Operand.tmp 30], argTypes := #[41, 37] }, type := 44, pos := "exact.go:4482", after := #[{ on := 1, ground := Ground.data }, { on := 3, ground := Ground.data }, { on := 3, ground := Ground.chain }], guard := none }) rfl (fun K hK => ?_) AllReadyH.nil)
          clear hHeld
          go_simp
          refine (S _ _ _ O3.tr (Cp.own O3.c)).mono ?_
          rintro e v6 ⟨ar, cr, rfl, OR, hbv⟩
          have hzb := Z.1
          have hzc := hB.size
          replace hB := below_then hB hbv
          replace PB := PB.below hbv
          replace YB := YB.below hbv
          replace O3 := O3.below hbv
          replace Z := Z.below hbv
          obtain ⟨⟨sa, sb, rfl⟩, sc, sd, rfl⟩ := OR.shapes
          have SA := OR.a
          have SC := OR.c
          clear OR
          have neSA := fun g hg => Nat.ne_of_gt (Nat.lt_of_lt_of_le hzb (owns_ge SA g hg))
          replace SA := owns_mono' SA hzc
          have neSC := fun g hg => Nat.ne_of_gt (Nat.lt_of_lt_of_le hzb (owns_ge SC g hg))
          replace SC := owns_mono' SC hzc
          clear hbv hzc
          refine hK.out _ _ ⟨PB, YB⟩ (fun hHeld => ?_)
          clear hK K
          refine wpAnyH_take (i := 5) (oi := { dst := some 26, op := Op.move (Operand.tmp 31), type := 44, pos := "exact.go:4482", after := #[{ on := 4, ground := Ground.data }], guard := none }) (v := .tuple #[.agg #[.slice sa ZW.length sb, .slice sc ZG.length sd], .bool ok]) rfl (by kernel_rfl) (by kernel_rfl) (by kernel_rfl) (fun _ _ _ h => h) (Or.inl ⟨by rfl, ?_⟩) (by assumption) ?_
          · intro wx hSw
            clear hSw hHeld; go_simp
          simp only [Act.put, List.setIfInBounds_toArray, List.set_cons_zero, List.set_cons_succ]
          refine wpAnyH_take (i := 6) (oi := { dst := some 32, op := Op.extract (Operand.tmp 26) 0, type := 41, pos := "exact.go:4482", after := #[{ on := 5, ground := Ground.data }], guard := none }) (v := .agg #[.slice sa ZW.length sb, .slice sc ZG.length sd]) rfl (by kernel_rfl) (by kernel_rfl) (by kernel_rfl) (fun _ _ _ h => h) (Or.inl ⟨by rfl, ?_⟩) (by assumption) ?_
          · intro wx hSw
            clear hSw hHeld; go_simp
          simp only [Act.put, List.setIfInBounds_toArray, List.set_cons_zero, List.set_cons_succ]
          refine wpAnyH_take (i := 7) (oi := { dst := some 33, op := Op.extract (Operand.tmp 26) 1, type := 4, pos := "exact.go:4482", after := #[{ on := 5, ground := Ground.data }, { on := 9, ground := Ground.gcOnly Departure.lateStores }], guard := none }) (v := .bool ok) rfl (by kernel_rfl) (by kernel_rfl) (by kernel_rfl) (fun _ _ _ h => h) (Or.inl ⟨by rfl, ?_⟩) (by assumption) ?_
          · intro wx hSw
            clear hSw hHeld; go_simp
          simp only [Act.put, List.setIfInBounds_toArray, List.set_cons_zero, List.set_cons_succ]
          refine wpAnyH_ready (rs := [9]) (by kernel_rfl) (by simp) ?_
          refine (AllReadyH.cons (o := { dst := none, op := Op.store 41 (Operand.tmp 6) (Operand.tmp 32), type := 0, pos := "exact.go:4482", after := #[{ on := 8, ground := Ground.data }, { on := 6, ground := Ground.data }, { on := 4, ground := Ground.chain }, { on := 0, ground := Ground.phase }, { on := 1, ground := Ground.phase }, { on := 2, ground := Ground.phase }, { on := 3, ground := Ground.phase }, { on := 4, ground := Ground.phase }, { on := 5, ground := Ground.phase }, { on := 6, ground := Ground.phase }, { on := 7, ground := Ground.textOnly Departure.lateStores }, { on := 8, ground := Ground.phase }], guard := none }) rfl (fun K hK => ?_) AllReadyH.nil)
          clear hHeld
          obtain ⟨zl, t0, t1, f0, f1⟩ := Z.f2
          have hC := put2_chg v6 b (.slice sa ZW.length sb) (.slice sc ZG.length sd)
          have PBn := hC.box PB (by omega)
          have YBn := hC.box YB (by omega)
          have SAn := hC.owns SA (fun g hg hh => neSA g hg hh)
          have SCn := hC.owns SC (fun g hg hh => neSC g hg hh)
          have Zn := put2_box Z (.slice sa ZW.length sb) (.slice sc ZG.length sd)
          have hBn := hB.trans (hC.below (B := w.heap.size) hB.size (fun k hk => by omega))
          clear hC
          go_simp
          refine hK.out _ (put2 v6 b (.slice sa ZW.length sb) (.slice sc ZG.length sd)) ⟨PBn, YBn⟩ (fun hHeld => ?_)
          clear hK K t0 t1 f0 f1
          refine wpAnyH_take (i := 10) (oi := { dst := some 7, op := Op.assign (Operand.tmp 33), type := 4, pos := "exact.go:4482", after := #[{ on := 7, ground := Ground.data }, { on := 9, ground := Ground.chain }, { on := 0, ground := Ground.phase }, { on := 1, ground := Ground.phase }, { on := 2, ground := Ground.phase }, { on := 3, ground := Ground.phase }, { on := 4, ground := Ground.phase }, { on := 5, ground := Ground.phase }, { on := 6, ground := Ground.phase }, { on := 7, ground := Ground.phase }, { on := 8, ground := Ground.phase }, { on := 9, ground := Ground.phase }], guard := none }) (v := .bool ok) rfl (by kernel_rfl) (by kernel_rfl) (by kernel_rfl) (fun _ _ _ h => h) (Or.inl ⟨by rfl, ?_⟩) (by assumption) ?_
          · intro wx hSw
            clear hSw hHeld; go_simp
          simp only [Act.put, List.setIfInBounds_toArray, List.set_cons_zero, List.set_cons_succ]
          clear hHeld
          refine wpAnyH_done (by kernel_rfl) ?_ _
          go_wp2_with fail
          go_meet
          case rel => exact ⟨b, _, _, _, _, rfl, rfl, PBn, YBn, SAn, SCn, Zn, neSA, neSC, by omega, hBn⟩
      · clear hHeld
        have Z := Box.new v1 #[.slice none 0 0, .slice none 0 0] 41
        have hkPB := PB.1
        have hkYB := YB.1
        have hkw := hB.size
        have hA := below_alloc v1 (.cells #[.slice none 0 0, .slice none 0 0] 41)
        replace hB := below_then hB hA
        replace PB := PB.below hA
        replace YB := YB.below hA
        replace O3 := O3.below hA
        clear hA
        go_simp
        refine hK.out _ _ ⟨PB, YB⟩ (fun hHeld => ?_)
        clear hK K
        generalize v1.alloc (.cells #[.slice none 0 0, .slice none 0 0] 41) = v7 at *
        generalize v1.heap.size = b at *
        refine wpAnyH_ready (rs := [3]) (by kernel_rfl) (by simp) ?_
        refine (AllReadyH.cons (o := { dst := some 30, op := Op.call { callee := Callee.value (Operand.func 55), args := #[Operand.tmp 29], argTypes := #[77] }, type := 37, pos := "exact.go:4482", after := #[{ on := 2, ground := Ground.data }, { on := 1, ground := Ground.chain }], guard := none }) rfl (fun K hK => ?_) AllReadyH.nil)
        clear hHeld
        go_simp
        refine (TC _).mono ?_
        rintro e v8 ⟨rfl, hbv⟩
        have hzb := Z.1
        have hzc := hB.size
        replace hB := below_then hB hbv
        replace PB := PB.below hbv
        replace YB := YB.below hbv
        replace O3 := O3.below hbv
        replace Z := Z.below hbv
        clear hbv hzc
        refine hK.out _ _ ⟨PB, YB⟩ (fun hHeld => ?_)
        clear hK K
        refine wpAnyH_ready (rs := [4]) (by kernel_rfl) (by simp) ?_
        refine (AllReadyH.cons (o := { dst := some 31, op := Op.call { callee := Callee.value (Operand.func 23), args := #[Operand.tmp 28, Operand.tmp 30], argTypes := #[41, 37] }, type := 44, pos := "exact.go:4482", after := #[{ on := 1, ground := Ground.data }, { on := 3, ground := Ground.data }, { on := 3, ground := Ground.chain }], guard := none }) rfl (fun K hK => ?_) AllReadyH.nil)
        clear hHeld
        go_simp
        refine (S _ _ _ O3.tr (Cp.own O3.c)).mono ?_
        rintro e v9 ⟨ar, cr, rfl, OR, hbv⟩
        have hzb := Z.1
        have hzc := hB.size
        replace hB := below_then hB hbv
        replace PB := PB.below hbv
        replace YB := YB.below hbv
        replace O3 := O3.below hbv
        replace Z := Z.below hbv
        obtain ⟨⟨sa, sb, rfl⟩, sc, sd, rfl⟩ := OR.shapes
        have SA := OR.a
        have SC := OR.c
        clear OR
        have neSA := fun g hg => Nat.ne_of_gt (Nat.lt_of_lt_of_le hzb (owns_ge SA g hg))
        replace SA := owns_mono' SA hzc
        have neSC := fun g hg => Nat.ne_of_gt (Nat.lt_of_lt_of_le hzb (owns_ge SC g hg))
        replace SC := owns_mono' SC hzc
        clear hbv hzc
        refine hK.out _ _ ⟨PB, YB⟩ (fun hHeld => ?_)
        clear hK K
        refine wpAnyH_take (i := 5) (oi := { dst := some 26, op := Op.move (Operand.tmp 31), type := 44, pos := "exact.go:4482", after := #[{ on := 4, ground := Ground.data }], guard := none }) (v := .tuple #[.agg #[.slice sa ZW.length sb, .slice sc ZG.length sd], .bool ok]) rfl (by kernel_rfl) (by kernel_rfl) (by kernel_rfl) (fun _ _ _ h => h) (Or.inl ⟨by rfl, ?_⟩) (by assumption) ?_
        · intro wx hSw
          clear hSw hHeld; go_simp
        simp only [Act.put, List.setIfInBounds_toArray, List.set_cons_zero, List.set_cons_succ]
        refine wpAnyH_take (i := 6) (oi := { dst := some 32, op := Op.extract (Operand.tmp 26) 0, type := 41, pos := "exact.go:4482", after := #[{ on := 5, ground := Ground.data }], guard := none }) (v := .agg #[.slice sa ZW.length sb, .slice sc ZG.length sd]) rfl (by kernel_rfl) (by kernel_rfl) (by kernel_rfl) (fun _ _ _ h => h) (Or.inl ⟨by rfl, ?_⟩) (by assumption) ?_
        · intro wx hSw
          clear hSw hHeld; go_simp
        simp only [Act.put, List.setIfInBounds_toArray, List.set_cons_zero, List.set_cons_succ]
        refine wpAnyH_take (i := 7) (oi := { dst := some 33, op := Op.extract (Operand.tmp 26) 1, type := 4, pos := "exact.go:4482", after := #[{ on := 5, ground := Ground.data }, { on := 9, ground := Ground.gcOnly Departure.lateStores }], guard := none }) (v := .bool ok) rfl (by kernel_rfl) (by kernel_rfl) (by kernel_rfl) (fun _ _ _ h => h) (Or.inl ⟨by rfl, ?_⟩) (by assumption) ?_
        · intro wx hSw
          clear hSw hHeld; go_simp
        simp only [Act.put, List.setIfInBounds_toArray, List.set_cons_zero, List.set_cons_succ]
        refine wpAnyH_ready (rs := [9]) (by kernel_rfl) (by simp) ?_
        refine (AllReadyH.cons (o := { dst := none, op := Op.store 41 (Operand.tmp 6) (Operand.tmp 32), type := 0, pos := "exact.go:4482", after := #[{ on := 8, ground := Ground.data }, { on := 6, ground := Ground.data }, { on := 4, ground := Ground.chain }, { on := 0, ground := Ground.phase }, { on := 1, ground := Ground.phase }, { on := 2, ground := Ground.phase }, { on := 3, ground := Ground.phase }, { on := 4, ground := Ground.phase }, { on := 5, ground := Ground.phase }, { on := 6, ground := Ground.phase }, { on := 7, ground := Ground.textOnly Departure.lateStores }, { on := 8, ground := Ground.phase }], guard := none }) rfl (fun K hK => ?_) AllReadyH.nil)
        clear hHeld
        obtain ⟨zl, t0, t1, f0, f1⟩ := Z.f2
        have hC := put2_chg v9 b (.slice sa ZW.length sb) (.slice sc ZG.length sd)
        have PBn := hC.box PB (by omega)
        have YBn := hC.box YB (by omega)
        have SAn := hC.owns SA (fun g hg hh => neSA g hg hh)
        have SCn := hC.owns SC (fun g hg hh => neSC g hg hh)
        have Zn := put2_box Z (.slice sa ZW.length sb) (.slice sc ZG.length sd)
        have hBn := hB.trans (hC.below (B := w.heap.size) hB.size (fun k hk => by omega))
        clear hC
        go_simp
        refine hK.out _ (put2 v9 b (.slice sa ZW.length sb) (.slice sc ZG.length sd)) ⟨PBn, YBn⟩ (fun hHeld => ?_)
        clear hK K t0 t1 f0 f1
        refine wpAnyH_take (i := 10) (oi := { dst := some 7, op := Op.assign (Operand.tmp 33), type := 4, pos := "exact.go:4482", after := #[{ on := 7, ground := Ground.data }, { on := 9, ground := Ground.chain }, { on := 0, ground := Ground.phase }, { on := 1, ground := Ground.phase }, { on := 2, ground := Ground.phase }, { on := 3, ground := Ground.phase }, { on := 4, ground := Ground.phase }, { on := 5, ground := Ground.phase }, { on := 6, ground := Ground.phase }, { on := 7, ground := Ground.phase }, { on := 8, ground := Ground.phase }, { on := 9, ground := Ground.phase }], guard := none }) (v := .bool ok) rfl (by kernel_rfl) (by kernel_rfl) (by kernel_rfl) (fun _ _ _ h => h) (Or.inl ⟨by rfl, ?_⟩) (by assumption) ?_
        · intro wx hSw
          clear hSw hHeld; go_simp
        simp only [Act.put, List.setIfInBounds_toArray, List.set_cons_zero, List.set_cons_succ]
        clear hHeld
        refine wpAnyH_done (by kernel_rfl) ?_ _
        go_wp2_with fail
        go_meet
        case rel => exact ⟨b, _, _, _, _, rfl, rfl, PBn, YBn, SAn, SCn, Zn, neSA, neSC, by omega, hBn⟩
    · clear hHeld
      have Z := Box.new v0 #[.slice none 0 0, .slice none 0 0] 41
      have hkPB := PB.1
      have hkYB := YB.1
      have hkw := hB.size
      have hA := below_alloc v0 (.cells #[.slice none 0 0, .slice none 0 0] 41)
      replace hB := below_then hB hA
      replace PB := PB.below hA
      replace YB := YB.below hA
      clear hA
      go_simp
      refine hK.out _ _ ⟨PB, YB⟩ (fun hHeld => ?_)
      clear hK K
      generalize v0.alloc (.cells #[.slice none 0 0, .slice none 0 0] 41) = v10 at *
      generalize v0.heap.size = b at *
      refine wpAnyH_ready (rs := [1]) (by kernel_rfl) (by simp) ?_
      refine (AllReadyH.cons (o := { dst := some 28, op := Op.call { callee := Callee.value (Operand.func 53), args := #[Operand.tmp 27], argTypes := #[73] }, type := 41, pos := "exact.go:4482", after := #[{ on := 0, ground := Ground.data }], guard := none }) rfl (fun K hK => ?_) AllReadyH.nil)
      clear hHeld
      go_simp
      refine (T _ hB).mono ?_
      rintro e v11 ⟨a3, c3, rfl, O3, hbv⟩
      have hzb := Z.1
      have hzc := hB.size
      replace hB := below_then hB hbv
      replace PB := PB.below hbv
      replace YB := YB.below hbv
      replace Z := Z.below hbv
      clear hbv hzc
      refine hK.out _ _ ⟨PB, YB⟩ (fun hHeld => ?_)
      clear hK K
      refine wpAnyH_ready (rs := [3]) (by kernel_rfl) (by simp) ?_
      refine (AllReadyH.cons (o := { dst := some 30, op := Op.call { callee := Callee.value (Operand.func 55), args := #[Operand.tmp 29], argTypes := #[77] }, type := 37, pos := "exact.go:4482", after := #[{ on := 2, ground := Ground.data }, { on := 1, ground := Ground.chain }], guard := none }) rfl (fun K hK => ?_) AllReadyH.nil)
      clear hHeld
      go_simp
      refine (TC _).mono ?_
      rintro e v12 ⟨rfl, hbv⟩
      have hzb := Z.1
      have hzc := hB.size
      replace hB := below_then hB hbv
      replace PB := PB.below hbv
      replace YB := YB.below hbv
      replace Z := Z.below hbv
      replace O3 := O3.below hbv
      clear hbv hzc
      refine hK.out _ _ ⟨PB, YB⟩ (fun hHeld => ?_)
      clear hK K
      refine wpAnyH_ready (rs := [4]) (by kernel_rfl) (by simp) ?_
      refine (AllReadyH.cons (o := { dst := some 31, op := Op.call { callee := Callee.value (Operand.func 23), args := #[Operand.tmp 28, Operand.tmp 30], argTypes := #[41, 37] }, type := 44, pos := "exact.go:4482", after := #[{ on := 1, ground := Ground.data }, { on := 3, ground := Ground.data }, { on := 3, ground := Ground.chain }], guard := none }) rfl (fun K hK => ?_) AllReadyH.nil)
      clear hHeld
      go_simp
      refine (S _ _ _ O3.tr (Cp.own O3.c)).mono ?_
      rintro e v13 ⟨ar, cr, rfl, OR, hbv⟩
      have hzb := Z.1
      have hzc := hB.size
      replace hB := below_then hB hbv
      replace PB := PB.below hbv
      replace YB := YB.below hbv
      replace Z := Z.below hbv
      replace O3 := O3.below hbv
      obtain ⟨⟨sa, sb, rfl⟩, sc, sd, rfl⟩ := OR.shapes
      have SA := OR.a
      have SC := OR.c
      clear OR
      have neSA := fun g hg => Nat.ne_of_gt (Nat.lt_of_lt_of_le hzb (owns_ge SA g hg))
      replace SA := owns_mono' SA hzc
      have neSC := fun g hg => Nat.ne_of_gt (Nat.lt_of_lt_of_le hzb (owns_ge SC g hg))
      replace SC := owns_mono' SC hzc
      clear hbv hzc
      refine hK.out _ _ ⟨PB, YB⟩ (fun hHeld => ?_)
      clear hK K
      refine wpAnyH_take (i := 5) (oi := { dst := some 26, op := Op.move (Operand.tmp 31), type := 44, pos := "exact.go:4482", after := #[{ on := 4, ground := Ground.data }], guard := none }) (v := .tuple #[.agg #[.slice sa ZW.length sb, .slice sc ZG.length sd], .bool ok]) rfl (by kernel_rfl) (by kernel_rfl) (by kernel_rfl) (fun _ _ _ h => h) (Or.inl ⟨by rfl, ?_⟩) (by assumption) ?_
      · intro wx hSw
        clear hSw hHeld; go_simp
      simp only [Act.put, List.setIfInBounds_toArray, List.set_cons_zero, List.set_cons_succ]
      refine wpAnyH_take (i := 6) (oi := { dst := some 32, op := Op.extract (Operand.tmp 26) 0, type := 41, pos := "exact.go:4482", after := #[{ on := 5, ground := Ground.data }], guard := none }) (v := .agg #[.slice sa ZW.length sb, .slice sc ZG.length sd]) rfl (by kernel_rfl) (by kernel_rfl) (by kernel_rfl) (fun _ _ _ h => h) (Or.inl ⟨by rfl, ?_⟩) (by assumption) ?_
      · intro wx hSw
        clear hSw hHeld; go_simp
      simp only [Act.put, List.setIfInBounds_toArray, List.set_cons_zero, List.set_cons_succ]
      refine wpAnyH_take (i := 7) (oi := { dst := some 33, op := Op.extract (Operand.tmp 26) 1, type := 4, pos := "exact.go:4482", after := #[{ on := 5, ground := Ground.data }, { on := 9, ground := Ground.gcOnly Departure.lateStores }], guard := none }) (v := .bool ok) rfl (by kernel_rfl) (by kernel_rfl) (by kernel_rfl) (fun _ _ _ h => h) (Or.inl ⟨by rfl, ?_⟩) (by assumption) ?_
      · intro wx hSw
        clear hSw hHeld; go_simp
      simp only [Act.put, List.setIfInBounds_toArray, List.set_cons_zero, List.set_cons_succ]
      refine wpAnyH_ready (rs := [9]) (by kernel_rfl) (by simp) ?_
      refine (AllReadyH.cons (o := { dst := none, op := Op.store 41 (Operand.tmp 6) (Operand.tmp 32), type := 0, pos := "exact.go:4482", after := #[{ on := 8, ground := Ground.data }, { on := 6, ground := Ground.data }, { on := 4, ground := Ground.chain }, { on := 0, ground := Ground.phase }, { on := 1, ground := Ground.phase }, { on := 2, ground := Ground.phase }, { on := 3, ground := Ground.phase }, { on := 4, ground := Ground.phase }, { on := 5, ground := Ground.phase }, { on := 6, ground := Ground.phase }, { on := 7, ground := Ground.textOnly Departure.lateStores }, { on := 8, ground := Ground.phase }], guard := none }) rfl (fun K hK => ?_) AllReadyH.nil)
      clear hHeld
      obtain ⟨zl, t0, t1, f0, f1⟩ := Z.f2
      have hC := put2_chg v13 b (.slice sa ZW.length sb) (.slice sc ZG.length sd)
      have PBn := hC.box PB (by omega)
      have YBn := hC.box YB (by omega)
      have SAn := hC.owns SA (fun g hg hh => neSA g hg hh)
      have SCn := hC.owns SC (fun g hg hh => neSC g hg hh)
      have Zn := put2_box Z (.slice sa ZW.length sb) (.slice sc ZG.length sd)
      have hBn := hB.trans (hC.below (B := w.heap.size) hB.size (fun k hk => by omega))
      clear hC
      go_simp
      refine hK.out _ (put2 v13 b (.slice sa ZW.length sb) (.slice sc ZG.length sd)) ⟨PBn, YBn⟩ (fun hHeld => ?_)
      clear hK K t0 t1 f0 f1
      refine wpAnyH_take (i := 10) (oi := { dst := some 7, op := Op.assign (Operand.tmp 33), type := 4, pos := "exact.go:4482", after := #[{ on := 7, ground := Ground.data }, { on := 9, ground := Ground.chain }, { on := 0, ground := Ground.phase }, { on := 1, ground := Ground.phase }, { on := 2, ground := Ground.phase }, { on := 3, ground := Ground.phase }, { on := 4, ground := Ground.phase }, { on := 5, ground := Ground.phase }, { on := 6, ground := Ground.phase }, { on := 7, ground := Ground.phase }, { on := 8, ground := Ground.phase }, { on := 9, ground := Ground.phase }], guard := none }) (v := .bool ok) rfl (by kernel_rfl) (by kernel_rfl) (by kernel_rfl) (fun _ _ _ h => h) (Or.inl ⟨by rfl, ?_⟩) (by assumption) ?_
      · intro wx hSw
        clear hSw hHeld; go_simp
      simp only [Act.put, List.setIfInBounds_toArray, List.set_cons_zero, List.set_cons_succ]
      clear hHeld
      refine wpAnyH_done (by kernel_rfl) ?_ _
      go_wp2_with fail
      go_meet
      case rel => exact ⟨b, _, _, _, _, rfl, rfl, PBn, YBn, SAn, SCn, Zn, neSA, neSC, by omega, hBn⟩
  case rest =>
    clear PB YB hB S hz0 hz1 hq hpl hyl
    obtain ⟨bs, sa, sb, sc, sd, rfl, rfl, PB, YB, SA, SC, SB, _, _, hbs, hB⟩ := hcut
    generalize wc = w2 at *
    have hz2 := hB.size
    have hsb := SB.1
    have hla := owns_below_lt SA
    have hlc := owns_below_lt SC
    obtain ⟨_, p0, p1⟩ := PB.c2
    go_wp2_with fail
    refine (T _ hB).mono ?_
    rintro e w3 ⟨a2, c2, rfl, XO, hb3⟩
    replace hB := below_then hB hb3
    replace PB := PB.below hb3
    replace YB := YB.below hb3
    replace SB := SB.below hb3
    replace SA := owns_below SA hb3
    replace SC := owns_below SC hb3
    have hz3 := hb3.size
    clear hb3
    have hxg := XO.ge
    have hxl := XO.lt
    obtain ⟨⟨xa, xb, rfl⟩, xc, xd, rfl⟩ := XO.shapes
    clear p0 p1
    have bx3 := below_alloc w3 (.cells #[.slice xa W.length xb, .slice xc G.length xd] 41)
    replace hB := below_then hB bx3
    replace PB := PB.below bx3
    replace YB := YB.below bx3
    replace SB := SB.below bx3
    replace SA := owns_below SA bx3
    replace SC := owns_below SC bx3
    replace XO := XO.below bx3
    have XB := Box.new w3 #[.slice xa W.length xb, .slice xc G.length xd] 41
    clear bx3
    obtain ⟨_, q0, q1⟩ := XB.c2
    obtain ⟨_, y0, y1, y2, y3⟩ := YB.c4
    go_wp2_with fail
    clear q0 q1 y0 y1 y2 y3
    obtain ⟨w4, hw4⟩ : ∃ w4, w4 = w3.alloc (.cells #[.slice xa W.length xb, .slice xc G.length xd] 41) := ⟨_, rfl⟩
    rw [← hw4] at hB PB YB SB SA SC XO XB ⊢
    have hz4 : w3.heap.size < w4.heap.size := by rw [hw4]; simp
    clear hw4
    have XA := XO.a
    have XC := XO.c
    have hC4 := Below.refl w4.heap.size w4
    go_cut [9, 10] from 16 (fun s9 s10 wc => ∃ (b : Nat) (ga : Option Addr) (gb : Nat) (gc : Option Addr) (gd : Nat), s9 = .pointer (some ⟨b, 0, none⟩) ∧ s10 = .bool ok ∧ Box wc w.heap.size [.slice wa W.length wb, .slice ca G.length cb] ∧ Box wc (w.heap.size + 1) [.int .i64 yn, .int .i64 yd, .string yk, .int .u32 yv] ∧ Box wc bs [.slice sa ZW.length sb, .slice sc ZG.length sd] ∧ wc.ownsRow w.heap.size 54 2 (.slice sa ZW.length sb) ZW.length (flat2 ZW) ∧ wc.ownsRow w.heap.size 37 4 (.slice sc ZG.length sd) ZG.length (flat4 ZG) ∧ Box wc w3.heap.size [.slice xa W.length xb, .slice xc G.length xd] ∧ wc.ownsRow w2.heap.size 54 2 (.slice xa W.length xb) W.length (flat2 W) ∧ wc.ownsRow w2.heap.size 37 4 (.slice xc G.length xd) G.length (flat4 G) ∧ wc.ownsRow w4.heap.size 54 2 (.slice ga ZW.length gb) ZW.length (flat2 ZW) ∧ wc.ownsRow w4.heap.size 37 4 (.slice gc ZG.length gd) ZG.length (flat4 ZG) ∧ Box wc b [.slice ga ZW.length gb, .slice gc ZG.length gd] ∧ (∀ g, (Value.slice ga ZW.length gb).ownBlock = some g → g ≠ b) ∧ (∀ g, (Value.slice gc ZG.length gd).ownBlock = some g → g ≠ b) ∧ w4.heap.size ≤ b ∧ Below w.heap.size w wc)
    case first =>
      clear XO
      have hD : Below (w4).heap.size (w4) (w4).drew := (Below.refl _ _).drew
      replace hB := below_then hB hD
      replace hC4 := below_then hC4 hD
      replace PB := PB.below hD
      replace YB := YB.below hD
      replace SB := SB.below hD
      replace SA := owns_below SA hD
      replace SC := owns_below SC hD
      replace XB := XB.below hD
      replace XA := owns_below XA hD
      replace XC := owns_below XC hD
      clear hD
      refine wp_region_held_drew (S := fun w' => Box w' w3.heap.size [.slice xa W.length xb, .slice xc G.length xd] ∧ Box w' (w.heap.size + 1) [.int .i64 yn, .int .i64 yd, .string yk, .int .u32 yv]) (by kernel_rfl) ⟨XB, YB⟩ (fun hHeld => ?_)
      generalize (w4).drew = v0 at *
      refine wpAnyH_take (i := 0) (oi := { dst := some 37, op := Op.load 41 (Operand.tmp 8), type := 41, pos := "exact.go:4484", after := #[], guard := none }) (v := .agg #[.slice xa W.length xb, .slice xc G.length xd]) rfl (by kernel_rfl) (by kernel_rfl) (by kernel_rfl) (fun _ _ _ h => h) (Or.inl ⟨by rfl, ?_⟩) (by assumption) ?_
      · intro wx hSw
        have e0 := hSw.1.2.1 0 _ rfl; have e1 := hSw.1.2.1 1 _ rfl; clear hHeld hSw; go_simp
      simp only [Act.put, List.setIfInBounds_toArray, List.set_cons_zero, List.set_cons_succ]
      refine wpAnyH_take (i := 1) (oi := { dst := some 38, op := Op.load 77 (Operand.tmp 3), type := 77, pos := "exact.go:4484", after := #[], guard := none }) (v := .agg #[.int .i64 yn, .int .i64 yd, .string yk, .int .u32 yv]) rfl (by kernel_rfl) (by kernel_rfl) (by kernel_rfl) (fun _ _ _ h => h) (Or.inl ⟨by rfl, ?_⟩) (by assumption) ?_
      · intro wx hSw
        have e0 := hSw.2.2.1 0 _ rfl; have e1 := hSw.2.2.1 1 _ rfl; have e2 := hSw.2.2.1 2 _ rfl; have e3 := hSw.2.2.1 3 _ rfl; clear hHeld hSw; go_simp
      simp only [Act.put, List.setIfInBounds_toArray, List.set_cons_zero, List.set_cons_succ]
      refine wpAnyH_ready (rs := [2, 7]) (by kernel_rfl) (by simp) ?_
      refine (AllReadyH.cons (o := { dst := some 39, op := Op.call { callee := Callee.value (Operand.func 55), args := #[Operand.tmp 38], argTypes := #[77] }, type := 37, pos := "exact.go:4484", after := #[{ on := 1, ground := Ground.data }], guard := none }) rfl (fun K hK => ?_) (AllReadyH.cons (o := { dst := some 9, op := Op.alloc 41, type := 0, pos := "exact.go:4484", after := #[], guard := none }) rfl (fun K hK => ?_) AllReadyH.nil))
      · clear hHeld
        go_simp
        refine (TC _).mono ?_
        rintro e v1 ⟨rfl, hbv⟩
        have hzc := hC4.size
        replace hB := below_then hB hbv
        replace hC4 := below_then hC4 hbv
        replace PB := PB.below hbv
        replace YB := YB.below hbv
        replace SB := SB.below hbv
        replace SA := owns_below SA hbv
        replace SC := owns_below SC hbv
        replace XB := XB.below hbv
        replace XA := owns_below XA hbv
        replace XC := owns_below XC hbv
        clear hbv hzc
        refine hK.out _ _ ⟨XB, YB⟩ (fun hHeld => ?_)
        clear hK K
        refine wpAnyH_ready (rs := [3, 7]) (by kernel_rfl) (by simp) ?_
        refine (AllReadyH.cons (o := { dst := some 40, op := Op.call { callee := Callee.value (Operand.func 22), args := #[Operand.tmp 37, Operand.tmp 39], argTypes := #[41, 37] }, type := 44, pos := "exact.go:4484", after := #[{ on := 0, ground := Ground.data }, { on := 2, ground := Ground.data }, { on := 2, ground := Ground.chain }], guard := none }) rfl (fun K hK => ?_) (AllReadyH.cons (o := { dst := some 9, op := Op.alloc 41, type := 0, pos := "exact.go:4484", after := #[], guard := none }) rfl (fun K hK => ?_) AllReadyH.nil))
        · clear hHeld
          go_simp
          refine (I _ _ _ (OT.mk XA XC).tr (Nn.own XA) (Nn.own XC)).mono ?_
          rintro e v2 ⟨ar, cr, rfl, OR, hbv⟩
          have hzc := hC4.size
          replace hB := below_then hB hbv
          replace hC4 := below_then hC4 hbv
          replace PB := PB.below hbv
          replace YB := YB.below hbv
          replace SB := SB.below hbv
          replace SA := owns_below SA hbv
          replace SC := owns_below SC hbv
          replace XB := XB.below hbv
          replace XA := owns_below XA hbv
          replace XC := owns_below XC hbv
          obtain ⟨⟨ga, gb, rfl⟩, gc, gd, rfl⟩ := OR.shapes
          have GA := OR.a
          have GC := OR.c
          clear OR
          replace GA := owns_mono' GA hzc
          replace GC := owns_mono' GC hzc
          clear hbv hzc
          refine hK.out _ _ ⟨XB, YB⟩ (fun hHeld => ?_)
          clear hK K
          refine wpAnyH_take (i := 4) (oi := { dst := some 36, op := Op.move (Operand.tmp 40), type := 44, pos := "exact.go:4484", after := #[{ on := 3, ground := Ground.data }], guard := none }) (v := .tuple #[.agg #[.slice ga ZW.length gb, .slice gc ZG.length gd], .bool ok]) rfl (by kernel_rfl) (by kernel_rfl) (by kernel_rfl) (fun _ _ _ h => h) (Or.inl ⟨by rfl, ?_⟩) (by assumption) ?_
          · intro wx hSw
            clear hSw hHeld; go_simp
          simp only [Act.put, List.setIfInBounds_toArray, List.set_cons_zero, List.set_cons_succ]
          refine wpAnyH_take (i := 5) (oi := { dst := some 41, op := Op.extract (Operand.tmp 36) 0, type := 41, pos := "exact.go:4484", after := #[{ on := 4, ground := Ground.data }], guard := none }) (v := .agg #[.slice ga ZW.length gb, .slice gc ZG.length gd]) rfl (by kernel_rfl) (by kernel_rfl) (by kernel_rfl) (fun _ _ _ h => h) (Or.inl ⟨by rfl, ?_⟩) (by assumption) ?_
          · intro wx hSw
            clear hSw hHeld; go_simp
          simp only [Act.put, List.setIfInBounds_toArray, List.set_cons_zero, List.set_cons_succ]
          refine wpAnyH_take (i := 6) (oi := { dst := some 42, op := Op.extract (Operand.tmp 36) 1, type := 4, pos := "exact.go:4484", after := #[{ on := 4, ground := Ground.data }, { on := 8, ground := Ground.gcOnly Departure.lateStores }], guard := none }) (v := .bool ok) rfl (by kernel_rfl) (by kernel_rfl) (by kernel_rfl) (fun _ _ _ h => h) (Or.inl ⟨by rfl, ?_⟩) (by assumption) ?_
          · intro wx hSw
            clear hSw hHeld; go_simp
          simp only [Act.put, List.setIfInBounds_toArray, List.set_cons_zero, List.set_cons_succ]
          refine wpAnyH_ready (rs := [7]) (by kernel_rfl) (by simp) ?_
          refine (AllReadyH.cons (o := { dst := some 9, op := Op.alloc 41, type := 0, pos := "exact.go:4484", after := #[], guard := none }) rfl (fun K hK => ?_) AllReadyH.nil)
          clear hHeld
          have Z := Box.new v2 #[.slice none 0 0, .slice none 0 0] 41
          have hkPB := PB.1
          have hkYB := YB.1
          have hkSB := SB.1
          have hkSA := owns_below_lt SA
          have hkSC := owns_below_lt SC
          have hkXB := XB.1
          have hkXA := owns_below_lt XA
          have hkXC := owns_below_lt XC
          have hkGA := owns_below_lt GA
          have hkGC := owns_below_lt GC
          have hkw := hB.size
          have hkc := hC4.size
          have hA := below_alloc v2 (.cells #[.slice none 0 0, .slice none 0 0] 41)
          replace hB := below_then hB hA
          replace hC4 := below_then hC4 hA
          replace PB := PB.below hA
          replace YB := YB.below hA
          replace SB := SB.below hA
          replace SA := owns_below SA hA
          replace SC := owns_below SC hA
          replace XB := XB.below hA
          replace XA := owns_below XA hA
          replace XC := owns_below XC hA
          replace GA := owns_below GA hA
          replace GC := owns_below GC hA
          clear hA
          go_simp
          refine hK.out _ _ ⟨XB, YB⟩ (fun hHeld => ?_)
          clear hK K
          generalize v2.alloc (.cells #[.slice none 0 0, .slice none 0 0] 41) = v3 at *
          generalize v2.heap.size = b at *
          have neSA := fun g hg => Nat.ne_of_lt (hkSA g hg)
          clear hkSA
          have neSC := fun g hg => Nat.ne_of_lt (hkSC g hg)
          clear hkSC
          have neXA := fun g hg => Nat.ne_of_lt (hkXA g hg)
          clear hkXA
          have neXC := fun g hg => Nat.ne_of_lt (hkXC g hg)
          clear hkXC
          have neGA := fun g hg => Nat.ne_of_lt (hkGA g hg)
          clear hkGA
          have neGC := fun g hg => Nat.ne_of_lt (hkGC g hg)
          clear hkGC
          refine wpAnyH_ready (rs := [8]) (by kernel_rfl) (by simp) ?_
          refine (AllReadyH.cons (o := { dst := none, op := Op.store 41 (Operand.tmp 9) (Operand.tmp 41), type := 0, pos := "exact.go:4484", after := #[{ on := 7, ground := Ground.data }, { on := 5, ground := Ground.data }, { on := 3, ground := Ground.chain }, { on := 0, ground := Ground.phase }, { on := 1, ground := Ground.phase }, { on := 2, ground := Ground.phase }, { on := 3, ground := Ground.phase }, { on := 4, ground := Ground.phase }, { on := 5, ground := Ground.phase }, { on := 6, ground := Ground.textOnly Departure.lateStores }, { on := 7, ground := Ground.phase }], guard := none }) rfl (fun K hK => ?_) AllReadyH.nil)
          clear hHeld
          obtain ⟨zl, t0, t1, f0, f1⟩ := Z.f2
          have hC := put2_chg v3 b (.slice ga ZW.length gb) (.slice gc ZG.length gd)
          have PBn := hC.box PB (by omega)
          have YBn := hC.box YB (by omega)
          have SBn := hC.box SB (by omega)
          have SAn := hC.owns SA (fun g hg hh => neSA g hg hh)
          have SCn := hC.owns SC (fun g hg hh => neSC g hg hh)
          have XBn := hC.box XB (by omega)
          have XAn := hC.owns XA (fun g hg hh => neXA g hg hh)
          have XCn := hC.owns XC (fun g hg hh => neXC g hg hh)
          have GAn := hC.owns GA (fun g hg hh => neGA g hg hh)
          have GCn := hC.owns GC (fun g hg hh => neGC g hg hh)
          have Zn := put2_box Z (.slice ga ZW.length gb) (.slice gc ZG.length gd)
          have hBn := hB.trans (hC.below (B := w.heap.size) hB.size (fun k hk => by omega))
          have hzn := Nat.le_trans hC4.size hC.size
          clear hC
          go_simp
          refine hK.out _ (put2 v3 b (.slice ga ZW.length gb) (.slice gc ZG.length gd)) ⟨XBn, YBn⟩ (fun hHeld => ?_)
          clear hK K t0 t1 f0 f1
          refine wpAnyH_take (i := 9) (oi := { dst := some 10, op := Op.assign (Operand.tmp 42), type := 4, pos := "exact.go:4484", after := #[{ on := 6, ground := Ground.data }, { on := 8, ground := Ground.chain }, { on := 0, ground := Ground.phase }, { on := 1, ground := Ground.phase }, { on := 2, ground := Ground.phase }, { on := 3, ground := Ground.phase }, { on := 4, ground := Ground.phase }, { on := 5, ground := Ground.phase }, { on := 6, ground := Ground.phase }, { on := 7, ground := Ground.phase }, { on := 8, ground := Ground.phase }], guard := none }) (v := .bool ok) rfl (by kernel_rfl) (by kernel_rfl) (by kernel_rfl) (fun _ _ _ h => h) (Or.inl ⟨by rfl, ?_⟩) (by assumption) ?_
          · intro wx hSw
            clear hSw hHeld; go_simp
          simp only [Act.put, List.setIfInBounds_toArray, List.set_cons_zero, List.set_cons_succ]
          clear hHeld
          refine wpAnyH_done (by kernel_rfl) ?_ _
          go_wp2_with fail
          go_meet
          case rel => exact ⟨b, _, _, _, _, rfl, rfl, PBn, YBn, SBn, SAn, SCn, XBn, XAn, XCn, GAn, GCn, Zn, neGA, neGC, by omega, hBn⟩
        · clear hHeld
          have Z := Box.new v1 #[.slice none 0 0, .slice none 0 0] 41
          have hkPB := PB.1
          have hkYB := YB.1
          have hkSB := SB.1
          have hkSA := owns_below_lt SA
          have hkSC := owns_below_lt SC
          have hkXB := XB.1
          have hkXA := owns_below_lt XA
          have hkXC := owns_below_lt XC
          have hkw := hB.size
          have hkc := hC4.size
          have hA := below_alloc v1 (.cells #[.slice none 0 0, .slice none 0 0] 41)
          replace hB := below_then hB hA
          replace hC4 := below_then hC4 hA
          replace PB := PB.below hA
          replace YB := YB.below hA
          replace SB := SB.below hA
          replace SA := owns_below SA hA
          replace SC := owns_below SC hA
          replace XB := XB.below hA
          replace XA := owns_below XA hA
          replace XC := owns_below XC hA
          clear hA
          go_simp
          refine hK.out _ _ ⟨XB, YB⟩ (fun hHeld => ?_)
          clear hK K
          generalize v1.alloc (.cells #[.slice none 0 0, .slice none 0 0] 41) = v4 at *
          generalize v1.heap.size = b at *
          have neSA := fun g hg => Nat.ne_of_lt (hkSA g hg)
          clear hkSA
          have neSC := fun g hg => Nat.ne_of_lt (hkSC g hg)
          clear hkSC
          have neXA := fun g hg => Nat.ne_of_lt (hkXA g hg)
          clear hkXA
          have neXC := fun g hg => Nat.ne_of_lt (hkXC g hg)
          clear hkXC
          refine wpAnyH_ready (rs := [3]) (by kernel_rfl) (by simp) ?_
          refine (AllReadyH.cons (o := { dst := some 40, op := Op.call { callee := Callee.value (Operand.func 22), args := #[Operand.tmp 37, Operand.tmp 39], argTypes := #[41, 37] }, type := 44, pos := "exact.go:4484", after := #[{ on := 0, ground := Ground.data }, { on := 2, ground := Ground.data }, { on := 2, ground := Ground.chain }], guard := none }) rfl (fun K hK => ?_) AllReadyH.nil)
          clear hHeld
          go_simp
          refine (I _ _ _ (OT.mk XA XC).tr (Nn.own XA) (Nn.own XC)).mono ?_
          rintro e v5 ⟨ar, cr, rfl, OR, hbv⟩
          have hzb := Z.1
          have hzc := hC4.size
          replace hB := below_then hB hbv
          replace hC4 := below_then hC4 hbv
          replace PB := PB.below hbv
          replace YB := YB.below hbv
          replace SB := SB.below hbv
          replace SA := owns_below SA hbv
          replace SC := owns_below SC hbv
          replace XB := XB.below hbv
          replace XA := owns_below XA hbv
          replace XC := owns_below XC hbv
          replace Z := Z.below hbv
          obtain ⟨⟨ga, gb, rfl⟩, gc, gd, rfl⟩ := OR.shapes
          have GA := OR.a
          have GC := OR.c
          clear OR
          have neGA := fun g hg => Nat.ne_of_gt (Nat.lt_of_lt_of_le hzb (owns_ge GA g hg))
          replace GA := owns_mono' GA hzc
          have neGC := fun g hg => Nat.ne_of_gt (Nat.lt_of_lt_of_le hzb (owns_ge GC g hg))
          replace GC := owns_mono' GC hzc
          clear hbv hzc
          refine hK.out _ _ ⟨XB, YB⟩ (fun hHeld => ?_)
          clear hK K
          refine wpAnyH_take (i := 4) (oi := { dst := some 36, op := Op.move (Operand.tmp 40), type := 44, pos := "exact.go:4484", after := #[{ on := 3, ground := Ground.data }], guard := none }) (v := .tuple #[.agg #[.slice ga ZW.length gb, .slice gc ZG.length gd], .bool ok]) rfl (by kernel_rfl) (by kernel_rfl) (by kernel_rfl) (fun _ _ _ h => h) (Or.inl ⟨by rfl, ?_⟩) (by assumption) ?_
          · intro wx hSw
            clear hSw hHeld; go_simp
          simp only [Act.put, List.setIfInBounds_toArray, List.set_cons_zero, List.set_cons_succ]
          refine wpAnyH_take (i := 5) (oi := { dst := some 41, op := Op.extract (Operand.tmp 36) 0, type := 41, pos := "exact.go:4484", after := #[{ on := 4, ground := Ground.data }], guard := none }) (v := .agg #[.slice ga ZW.length gb, .slice gc ZG.length gd]) rfl (by kernel_rfl) (by kernel_rfl) (by kernel_rfl) (fun _ _ _ h => h) (Or.inl ⟨by rfl, ?_⟩) (by assumption) ?_
          · intro wx hSw
            clear hSw hHeld; go_simp
          simp only [Act.put, List.setIfInBounds_toArray, List.set_cons_zero, List.set_cons_succ]
          refine wpAnyH_take (i := 6) (oi := { dst := some 42, op := Op.extract (Operand.tmp 36) 1, type := 4, pos := "exact.go:4484", after := #[{ on := 4, ground := Ground.data }, { on := 8, ground := Ground.gcOnly Departure.lateStores }], guard := none }) (v := .bool ok) rfl (by kernel_rfl) (by kernel_rfl) (by kernel_rfl) (fun _ _ _ h => h) (Or.inl ⟨by rfl, ?_⟩) (by assumption) ?_
          · intro wx hSw
            clear hSw hHeld; go_simp
          simp only [Act.put, List.setIfInBounds_toArray, List.set_cons_zero, List.set_cons_succ]
          refine wpAnyH_ready (rs := [8]) (by kernel_rfl) (by simp) ?_
          refine (AllReadyH.cons (o := { dst := none, op := Op.store 41 (Operand.tmp 9) (Operand.tmp 41), type := 0, pos := "exact.go:4484", after := #[{ on := 7, ground := Ground.data }, { on := 5, ground := Ground.data }, { on := 3, ground := Ground.chain }, { on := 0, ground := Ground.phase }, { on := 1, ground := Ground.phase }, { on := 2, ground := Ground.phase }, { on := 3, ground := Ground.phase }, { on := 4, ground := Ground.phase }, { on := 5, ground := Ground.phase }, { on := 6, ground := Ground.textOnly Departure.lateStores }, { on := 7, ground := Ground.phase }], guard := none }) rfl (fun K hK => ?_) AllReadyH.nil)
          clear hHeld
          obtain ⟨zl, t0, t1, f0, f1⟩ := Z.f2
          have hC := put2_chg v5 b (.slice ga ZW.length gb) (.slice gc ZG.length gd)
          have PBn := hC.box PB (by omega)
          have YBn := hC.box YB (by omega)
          have SBn := hC.box SB (by omega)
          have SAn := hC.owns SA (fun g hg hh => neSA g hg hh)
          have SCn := hC.owns SC (fun g hg hh => neSC g hg hh)
          have XBn := hC.box XB (by omega)
          have XAn := hC.owns XA (fun g hg hh => neXA g hg hh)
          have XCn := hC.owns XC (fun g hg hh => neXC g hg hh)
          have GAn := hC.owns GA (fun g hg hh => neGA g hg hh)
          have GCn := hC.owns GC (fun g hg hh => neGC g hg hh)
          have Zn := put2_box Z (.slice ga ZW.length gb) (.slice gc ZG.length gd)
          have hBn := hB.trans (hC.below (B := w.heap.size) hB.size (fun k hk => by omega))
          have hzn := Nat.le_trans hC4.size hC.size
          clear hC
          go_simp
          refine hK.out _ (put2 v5 b (.slice ga ZW.length gb) (.slice gc ZG.length gd)) ⟨XBn, YBn⟩ (fun hHeld => ?_)
          clear hK K t0 t1 f0 f1
          refine wpAnyH_take (i := 9) (oi := { dst := some 10, op := Op.assign (Operand.tmp 42), type := 4, pos := "exact.go:4484", after := #[{ on := 6, ground := Ground.data }, { on := 8, ground := Ground.chain }, { on := 0, ground := Ground.phase }, { on := 1, ground := Ground.phase }, { on := 2, ground := Ground.phase }, { on := 3, ground := Ground.phase }, { on := 4, ground := Ground.phase }, { on := 5, ground := Ground.phase }, { on := 6, ground := Ground.phase }, { on := 7, ground := Ground.phase }, { on := 8, ground := Ground.phase }], guard := none }) (v := .bool ok) rfl (by kernel_rfl) (by kernel_rfl) (by kernel_rfl) (fun _ _ _ h => h) (Or.inl ⟨by rfl, ?_⟩) (by assumption) ?_
          · intro wx hSw
            clear hSw hHeld; go_simp
          simp only [Act.put, List.setIfInBounds_toArray, List.set_cons_zero, List.set_cons_succ]
          clear hHeld
          refine wpAnyH_done (by kernel_rfl) ?_ _
          go_wp2_with fail
          go_meet
          case rel => exact ⟨b, _, _, _, _, rfl, rfl, PBn, YBn, SBn, SAn, SCn, XBn, XAn, XCn, GAn, GCn, Zn, neGA, neGC, by omega, hBn⟩
      · clear hHeld
        have Z := Box.new v0 #[.slice none 0 0, .slice none 0 0] 41
        have hkPB := PB.1
        have hkYB := YB.1
        have hkSB := SB.1
        have hkSA := owns_below_lt SA
        have hkSC := owns_below_lt SC
        have hkXB := XB.1
        have hkXA := owns_below_lt XA
        have hkXC := owns_below_lt XC
        have hkw := hB.size
        have hkc := hC4.size
        have hA := below_alloc v0 (.cells #[.slice none 0 0, .slice none 0 0] 41)
        replace hB := below_then hB hA
        replace hC4 := below_then hC4 hA
        replace PB := PB.below hA
        replace YB := YB.below hA
        replace SB := SB.below hA
        replace SA := owns_below SA hA
        replace SC := owns_below SC hA
        replace XB := XB.below hA
        replace XA := owns_below XA hA
        replace XC := owns_below XC hA
        clear hA
        go_simp
        refine hK.out _ _ ⟨XB, YB⟩ (fun hHeld => ?_)
        clear hK K
        generalize v0.alloc (.cells #[.slice none 0 0, .slice none 0 0] 41) = v6 at *
        generalize v0.heap.size = b at *
        have neSA := fun g hg => Nat.ne_of_lt (hkSA g hg)
        clear hkSA
        have neSC := fun g hg => Nat.ne_of_lt (hkSC g hg)
        clear hkSC
        have neXA := fun g hg => Nat.ne_of_lt (hkXA g hg)
        clear hkXA
        have neXC := fun g hg => Nat.ne_of_lt (hkXC g hg)
        clear hkXC
        refine wpAnyH_ready (rs := [2]) (by kernel_rfl) (by simp) ?_
        refine (AllReadyH.cons (o := { dst := some 39, op := Op.call { callee := Callee.value (Operand.func 55), args := #[Operand.tmp 38], argTypes := #[77] }, type := 37, pos := "exact.go:4484", after := #[{ on := 1, ground := Ground.data }], guard := none }) rfl (fun K hK => ?_) AllReadyH.nil)
        clear hHeld
        go_simp
        refine (TC _).mono ?_
        rintro e v7 ⟨rfl, hbv⟩
        have hzb := Z.1
        have hzc := hC4.size
        replace hB := below_then hB hbv
        replace hC4 := below_then hC4 hbv
        replace PB := PB.below hbv
        replace YB := YB.below hbv
        replace SB := SB.below hbv
        replace SA := owns_below SA hbv
        replace SC := owns_below SC hbv
        replace XB := XB.below hbv
        replace XA := owns_below XA hbv
        replace XC := owns_below XC hbv
        replace Z := Z.below hbv
        clear hbv hzc
        refine hK.out _ _ ⟨XB, YB⟩ (fun hHeld => ?_)
        clear hK K
        refine wpAnyH_ready (rs := [3]) (by kernel_rfl) (by simp) ?_
        refine (AllReadyH.cons (o := { dst := some 40, op := Op.call { callee := Callee.value (Operand.func 22), args := #[Operand.tmp 37, Operand.tmp 39], argTypes := #[41, 37] }, type := 44, pos := "exact.go:4484", after := #[{ on := 0, ground := Ground.data }, { on := 2, ground := Ground.data }, { on := 2, ground := Ground.chain }], guard := none }) rfl (fun K hK => ?_) AllReadyH.nil)
        clear hHeld
        go_simp
        refine (I _ _ _ (OT.mk XA XC).tr (Nn.own XA) (Nn.own XC)).mono ?_
        rintro e v8 ⟨ar, cr, rfl, OR, hbv⟩
        have hzb := Z.1
        have hzc := hC4.size
        replace hB := below_then hB hbv
        replace hC4 := below_then hC4 hbv
        replace PB := PB.below hbv
        replace YB := YB.below hbv
        replace SB := SB.below hbv
        replace SA := owns_below SA hbv
        replace SC := owns_below SC hbv
        replace XB := XB.below hbv
        replace XA := owns_below XA hbv
        replace XC := owns_below XC hbv
        replace Z := Z.below hbv
        obtain ⟨⟨ga, gb, rfl⟩, gc, gd, rfl⟩ := OR.shapes
        have GA := OR.a
        have GC := OR.c
        clear OR
        have neGA := fun g hg => Nat.ne_of_gt (Nat.lt_of_lt_of_le hzb (owns_ge GA g hg))
        replace GA := owns_mono' GA hzc
        have neGC := fun g hg => Nat.ne_of_gt (Nat.lt_of_lt_of_le hzb (owns_ge GC g hg))
        replace GC := owns_mono' GC hzc
        clear hbv hzc
        refine hK.out _ _ ⟨XB, YB⟩ (fun hHeld => ?_)
        clear hK K
        refine wpAnyH_take (i := 4) (oi := { dst := some 36, op := Op.move (Operand.tmp 40), type := 44, pos := "exact.go:4484", after := #[{ on := 3, ground := Ground.data }], guard := none }) (v := .tuple #[.agg #[.slice ga ZW.length gb, .slice gc ZG.length gd], .bool ok]) rfl (by kernel_rfl) (by kernel_rfl) (by kernel_rfl) (fun _ _ _ h => h) (Or.inl ⟨by rfl, ?_⟩) (by assumption) ?_
        · intro wx hSw
          clear hSw hHeld; go_simp
        simp only [Act.put, List.setIfInBounds_toArray, List.set_cons_zero, List.set_cons_succ]
        refine wpAnyH_take (i := 5) (oi := { dst := some 41, op := Op.extract (Operand.tmp 36) 0, type := 41, pos := "exact.go:4484", after := #[{ on := 4, ground := Ground.data }], guard := none }) (v := .agg #[.slice ga ZW.length gb, .slice gc ZG.length gd]) rfl (by kernel_rfl) (by kernel_rfl) (by kernel_rfl) (fun _ _ _ h => h) (Or.inl ⟨by rfl, ?_⟩) (by assumption) ?_
        · intro wx hSw
          clear hSw hHeld; go_simp
        simp only [Act.put, List.setIfInBounds_toArray, List.set_cons_zero, List.set_cons_succ]
        refine wpAnyH_take (i := 6) (oi := { dst := some 42, op := Op.extract (Operand.tmp 36) 1, type := 4, pos := "exact.go:4484", after := #[{ on := 4, ground := Ground.data }, { on := 8, ground := Ground.gcOnly Departure.lateStores }], guard := none }) (v := .bool ok) rfl (by kernel_rfl) (by kernel_rfl) (by kernel_rfl) (fun _ _ _ h => h) (Or.inl ⟨by rfl, ?_⟩) (by assumption) ?_
        · intro wx hSw
          clear hSw hHeld; go_simp
        simp only [Act.put, List.setIfInBounds_toArray, List.set_cons_zero, List.set_cons_succ]
        refine wpAnyH_ready (rs := [8]) (by kernel_rfl) (by simp) ?_
        refine (AllReadyH.cons (o := { dst := none, op := Op.store 41 (Operand.tmp 9) (Operand.tmp 41), type := 0, pos := "exact.go:4484", after := #[{ on := 7, ground := Ground.data }, { on := 5, ground := Ground.data }, { on := 3, ground := Ground.chain }, { on := 0, ground := Ground.phase }, { on := 1, ground := Ground.phase }, { on := 2, ground := Ground.phase }, { on := 3, ground := Ground.phase }, { on := 4, ground := Ground.phase }, { on := 5, ground := Ground.phase }, { on := 6, ground := Ground.textOnly Departure.lateStores }, { on := 7, ground := Ground.phase }], guard := none }) rfl (fun K hK => ?_) AllReadyH.nil)
        clear hHeld
        obtain ⟨zl, t0, t1, f0, f1⟩ := Z.f2
        have hC := put2_chg v8 b (.slice ga ZW.length gb) (.slice gc ZG.length gd)
        have PBn := hC.box PB (by omega)
        have YBn := hC.box YB (by omega)
        have SBn := hC.box SB (by omega)
        have SAn := hC.owns SA (fun g hg hh => neSA g hg hh)
        have SCn := hC.owns SC (fun g hg hh => neSC g hg hh)
        have XBn := hC.box XB (by omega)
        have XAn := hC.owns XA (fun g hg hh => neXA g hg hh)
        have XCn := hC.owns XC (fun g hg hh => neXC g hg hh)
        have GAn := hC.owns GA (fun g hg hh => neGA g hg hh)
        have GCn := hC.owns GC (fun g hg hh => neGC g hg hh)
        have Zn := put2_box Z (.slice ga ZW.length gb) (.slice gc ZG.length gd)
        have hBn := hB.trans (hC.below (B := w.heap.size) hB.size (fun k hk => by omega))
        have hzn := Nat.le_trans hC4.size hC.size
        clear hC
        go_simp
        refine hK.out _ (put2 v8 b (.slice ga ZW.length gb) (.slice gc ZG.length gd)) ⟨XBn, YBn⟩ (fun hHeld => ?_)
        clear hK K t0 t1 f0 f1
        refine wpAnyH_take (i := 9) (oi := { dst := some 10, op := Op.assign (Operand.tmp 42), type := 4, pos := "exact.go:4484", after := #[{ on := 6, ground := Ground.data }, { on := 8, ground := Ground.chain }, { on := 0, ground := Ground.phase }, { on := 1, ground := Ground.phase }, { on := 2, ground := Ground.phase }, { on := 3, ground := Ground.phase }, { on := 4, ground := Ground.phase }, { on := 5, ground := Ground.phase }, { on := 6, ground := Ground.phase }, { on := 7, ground := Ground.phase }, { on := 8, ground := Ground.phase }], guard := none }) (v := .bool ok) rfl (by kernel_rfl) (by kernel_rfl) (by kernel_rfl) (fun _ _ _ h => h) (Or.inl ⟨by rfl, ?_⟩) (by assumption) ?_
        · intro wx hSw
          clear hSw hHeld; go_simp
        simp only [Act.put, List.setIfInBounds_toArray, List.set_cons_zero, List.set_cons_succ]
        clear hHeld
        refine wpAnyH_done (by kernel_rfl) ?_ _
        go_wp2_with fail
        go_meet
        case rel => exact ⟨b, _, _, _, _, rfl, rfl, PBn, YBn, SBn, SAn, SCn, XBn, XAn, XCn, GAn, GCn, Zn, neGA, neGC, by omega, hBn⟩
    case rest =>
      clear PB YB SB SA SC XO XB XA XC hB hC4
      obtain ⟨bg, ga, gb, gc, gd, rfl, rfl, PB, YB, SB, SA, SC, XB, XA, XC, GA, GC, GB, neA, neC, hbg, hB⟩ := hcut
      generalize wc = w9 at *
      have XO : OT w9 w2.heap.size (.slice xa W.length xb) (.slice xc G.length xd) W G := ⟨XA, XC⟩
      have GO : OT w9 w4.heap.size (.slice ga ZW.length gb) (.slice gc ZG.length gd) ZW ZG := ⟨GA, GC⟩
      have hgg := GO.ge
      have hgl := GO.lt
      have hz5 := GB.1
      have hgn : ∀ g, (Value.slice ga ZW.length gb).ownBlock = some g ∨ (Value.slice gc ZG.length gd).ownBlock = some g → g ≠ bg := fun g hg => hg.elim (neA g) (neC g)
      clear XA XC GA GC neA neC
      obtain ⟨_, p0, p1⟩ := GB.c2
      obtain ⟨_, q0, q1⟩ := SB.c2
      go_wp2_with fail
      refine (eqTaking_same _ _ _ _ ZW ZG _ GO.tr (OT.mk SA SC).tr (by omega) (by omega)).mono ?_
      rintro e w10 ⟨rfl, hb10⟩
      replace hB := below_then hB hb10
      replace PB := PB.below hb10
      replace YB := YB.below hb10
      replace SB := SB.below hb10
      replace SA := owns_below SA hb10
      replace SC := owns_below SC hb10
      replace XO := XO.below hb10
      replace XB := XB.below hb10
      replace GO := GO.below hb10
      replace GB := GB.below hb10
      have hz10 := hb10.size
      clear hb10
      clear p0 p1 q0 q1
      obtain ⟨hpl, p0, p1⟩ := PB.c2
      obtain ⟨hql, q0, q1⟩ := XB.c2
      have hvT := HV _ hB
      go_wp2_with fail
      go_region_held3 (fun w' => (w'.cell? ⟨w.heap.size, 0, none⟩ = some (.slice wa W.length wb) ∧ w'.cell? ⟨w.heap.size, 1, none⟩ = some (.slice ca G.length cb)) ∧ w'.cell? ⟨w3.heap.size, 0, none⟩ = some (.slice xa W.length xb) ∧ w'.cell? ⟨w3.heap.size, 1, none⟩ = some (.slice xc G.length xd)) (go_keep) (first | (go_at_call 53; refine (TT _ (hvT.below (Below.refl _ _).drew)).mono ?_; rintro e wt ⟨a7, c7, rfl, o7, hb7'⟩; have hb7 := below_undrew hb7'; obtain ⟨⟨ka, kb, rfl⟩, kc, kd, rfl⟩ := o7.shapes; obtain ⟨_, p0, p1⟩ := (PB.below hb7).c2; obtain ⟨_, q0, q1⟩ := (XB.below hb7).c2) | (go_at_call 48; refine (eqTaking_same _ _ _ _ W G _ (XO.below hb7).tr o7.tr hn hm).mono ?_; rintro e wu ⟨rfl, hb8⟩; obtain ⟨_, p0, p1⟩ := ((PB.below hb7).below hb8).c2; obtain ⟨_, q0, q1⟩ := ((XB.below hb7).below hb8).c2))
      have hb11 := below_then hb7 hb8
      clear hb7 hb8 o7 hvT p0 p1 q0 q1 hpl hql
      generalize wu = w11 at *
      replace hB := below_then hB hb11
      replace PB := PB.below hb11
      replace YB := YB.below hb11
      replace SB := SB.below hb11
      replace SA := owns_below SA hb11
      replace SC := owns_below SC hb11
      replace XO := XO.below hb11
      replace XB := XB.below hb11
      replace GO := GO.below hb11
      replace GB := GB.below hb11
      have hz11 := hb11.size
      clear hb11
      obtain ⟨_, q0, q1⟩ := XB.c2
      go_wp2_with fail
      refine (markTaking_own _ _ _ W G 1 _ XO hn hm (by omega) (by omega)).mono ?_
      rintro e w12 ⟨rfl, _, hc12⟩
      replace hB := hB.trans (hc12.below (B := w.heap.size) (by omega) (fun b h => by have := hxg b h; omega))
      replace PB := hc12.box PB (fun hh => by have := hxg _ hh; omega)
      replace YB := hc12.box YB (fun hh => by have := hxg _ hh; omega)
      replace SB := hc12.box SB (fun hh => by have := hxg _ hh; omega)
      replace SA := hc12.owns SA (fun b hb hh => by have := hla b hb; have := hxg b hh; omega)
      replace SC := hc12.owns SC (fun b hb hh => by have := hlc b hb; have := hxg b hh; omega)
      replace XB := hc12.box XB (fun hh => by have := hxl _ hh; omega)
      replace GO := GO.chg hc12 (fun b hb hh => by have := hgg b hb; have := hxl b hh; omega)
      replace GB := hc12.box GB (fun hh => by have := hxl _ hh; omega)
      have hz12 := hc12.size
      clear hc12
      clear XO q0 q1
      clear XB
      obtain ⟨_, p0, p1⟩ := GB.c2
      obtain ⟨_, q0, q1⟩ := SB.c2
      go_wp2_with fail
      refine (eqTaking_same _ _ _ _ ZW ZG _ GO.tr (OT.mk SA SC).tr (by omega) (by omega)).mono ?_
      rintro e w13 ⟨rfl, hb13⟩
      replace hB := below_then hB hb13
      replace PB := PB.below hb13
      replace YB := YB.below hb13
      replace SB := SB.below hb13
      replace SA := owns_below SA hb13
      replace SC := owns_below SC hb13
      replace GO := GO.below hb13
      replace GB := GB.below hb13
      have hz13 := hb13.size
      clear hb13
      clear p0 p1 q0 q1
      obtain ⟨_, p0, p1⟩ := GB.c2
      go_wp2_with fail
      refine (markTaking_own _ _ _ ZW ZG 1 _ GO (by omega) (by omega) (by omega) (by omega)).mono ?_
      rintro e w14 ⟨rfl, MO, hc14⟩
      replace hB := hB.trans (hc14.below (B := w.heap.size) (by omega) (fun b h => by have := hgg b h; omega))
      replace PB := hc14.box PB (fun hh => by have := hgg _ hh; omega)
      replace YB := hc14.box YB (fun hh => by have := hgg _ hh; omega)
      replace SB := hc14.box SB (fun hh => by have := hgg _ hh; omega)
      replace SA := hc14.owns SA (fun b hb hh => by have := hla b hb; have := hgg b hh; omega)
      replace SC := hc14.owns SC (fun b hb hh => by have := hlc b hb; have := hgg b hh; omega)
      replace GB := hc14.box GB (fun hh => hgn _ hh rfl)
      have hz14 := hc14.size
      clear hc14
      clear GO p0 p1
      obtain ⟨_, p0, p1⟩ := GB.c2
      go_wp2_with fail
      refine (heldTaking_at _ _ ZW.length ZG.length 1 _ MO.tr (by omega) (by omega) (by omega) (by omega)).mono ?_
      rintro e w15 ⟨rfl, hb15⟩
      replace hB := below_then hB hb15
      replace PB := PB.below hb15
      replace YB := YB.below hb15
      replace SB := SB.below hb15
      replace SA := owns_below SA hb15
      replace SC := owns_below SC hb15
      replace GB := GB.below hb15
      replace MO := MO.below hb15
      have hz15 := hb15.size
      clear hb15
      clear p0 p1
      obtain ⟨_, p0, p1⟩ := PB.c2
      obtain ⟨_, y0, y1, y2, y3⟩ := YB.c4
      go_wp2_with fail
      clear p0 p1 y0 y1 y2 y3
      have MA := owns_mono' MO.a (base' := w.heap.size) (by omega)
      have MC := owns_mono' MO.c (base' := w.heap.size) (by omega)
      clear MO
      go_cut [14, 15] from 16 (fun s14 s15 wc => ∃ (b : Nat) (ha : Option Addr) (hb : Nat) (hc : Option Addr) (hd : Nat), s14 = .pointer (some ⟨b, 0, none⟩) ∧ s15 = .bool ok ∧ Box wc w.heap.size [.slice wa W.length wb, .slice ca G.length cb] ∧ Box wc (w.heap.size + 1) [.int .i64 yn, .int .i64 yd, .string yk, .int .u32 yv] ∧ Box wc bs [.slice sa ZW.length sb, .slice sc ZG.length sd] ∧ wc.ownsRow w.heap.size 54 2 (.slice sa ZW.length sb) ZW.length (flat2 ZW) ∧ wc.ownsRow w.heap.size 37 4 (.slice sc ZG.length sd) ZG.length (flat4 ZG) ∧ Box wc bg [.slice ga ZW.length gb, .slice gc ZG.length gd] ∧ wc.ownsRow w.heap.size 54 2 (.slice ga ZW.length gb) (mkWs 1 ZW.length).length (flat2 (mkWs 1 ZW.length)) ∧ wc.ownsRow w.heap.size 37 4 (.slice gc ZG.length gd) (mkIts (1 + 2 * ZW.length) ZG.length).length (flat4 (mkIts (1 + 2 * ZW.length) ZG.length)) ∧ wc.ownsRow w.heap.size 54 2 (.slice ha ZW.length hb) ZW.length (flat2 ZW) ∧ wc.ownsRow w.heap.size 37 4 (.slice hc ZG.length hd) ZG.length (flat4 ZG) ∧ Box wc b [.slice ha ZW.length hb, .slice hc ZG.length hd] ∧ (∀ g, (Value.slice ha ZW.length hb).ownBlock = some g → g ≠ b) ∧ (∀ g, (Value.slice hc ZG.length hd).ownBlock = some g → g ≠ b) ∧ w.heap.size + 1 < b ∧ Below w.heap.size w wc)
      case first =>
        have hD : Below (w15).heap.size (w15) (w15).drew := (Below.refl _ _).drew
        replace hB := below_then hB hD
        replace PB := PB.below hD
        replace YB := YB.below hD
        replace SB := SB.below hD
        replace SA := owns_below SA hD
        replace SC := owns_below SC hD
        replace GB := GB.below hD
        replace MA := owns_below MA hD
        replace MC := owns_below MC hD
        clear hD
        refine wp_region_held_drew (S := fun w' => Box w' w.heap.size [.slice wa W.length wb, .slice ca G.length cb] ∧ Box w' (w.heap.size + 1) [.int .i64 yn, .int .i64 yd, .string yk, .int .u32 yv]) (by kernel_rfl) ⟨PB, YB⟩ (fun hHeld => ?_)
        generalize (w15).drew = v0 at *
        refine wpAnyH_take (i := 0) (oi := { dst := some 85, op := Op.load 73 (Operand.tmp 2), type := 73, pos := "exact.go:4506", after := #[], guard := none }) (v := .agg #[.slice wa W.length wb, .slice ca G.length cb]) rfl (by kernel_rfl) (by kernel_rfl) (by kernel_rfl) (fun _ _ _ h => h) (Or.inl ⟨by rfl, ?_⟩) (by assumption) ?_
        · intro wx hSw
          have e0 := hSw.1.2.1 0 _ rfl; have e1 := hSw.1.2.1 1 _ rfl; clear hHeld hSw; go_simp
        simp only [Act.put, List.setIfInBounds_toArray, List.set_cons_zero, List.set_cons_succ]
        refine wpAnyH_take (i := 2) (oi := { dst := some 87, op := Op.load 77 (Operand.tmp 3), type := 77, pos := "exact.go:4506", after := #[], guard := none }) (v := .agg #[.int .i64 yn, .int .i64 yd, .string yk, .int .u32 yv]) rfl (by kernel_rfl) (by kernel_rfl) (by kernel_rfl) (fun _ _ _ h => h) (Or.inl ⟨by rfl, ?_⟩) (by assumption) ?_
        · intro wx hSw
          have e0 := hSw.2.2.1 0 _ rfl; have e1 := hSw.2.2.1 1 _ rfl; have e2 := hSw.2.2.1 2 _ rfl; have e3 := hSw.2.2.1 3 _ rfl; clear hHeld hSw; go_simp
        simp only [Act.put, List.setIfInBounds_toArray, List.set_cons_zero, List.set_cons_succ]
        refine wpAnyH_ready (rs := [1, 8]) (by kernel_rfl) (by simp) ?_
        refine (AllReadyH.cons (o := { dst := some 86, op := Op.call { callee := Callee.value (Operand.func 53), args := #[Operand.tmp 85], argTypes := #[73] }, type := 41, pos := "exact.go:4506", after := #[{ on := 0, ground := Ground.data }], guard := none }) rfl (fun K hK => ?_) (AllReadyH.cons (o := { dst := some 14, op := Op.alloc 41, type := 0, pos := "exact.go:4506", after := #[], guard := none }) rfl (fun K hK => ?_) AllReadyH.nil))
        · clear hHeld
          go_simp
          refine (T _ hB).mono ?_
          rintro e v1 ⟨a3, c3, rfl, O3, hbv⟩
          have hzc := hB.size
          replace hB := below_then hB hbv
          replace PB := PB.below hbv
          replace YB := YB.below hbv
          replace SB := SB.below hbv
          replace SA := owns_below SA hbv
          replace SC := owns_below SC hbv
          replace GB := GB.below hbv
          replace MA := owns_below MA hbv
          replace MC := owns_below MC hbv
          clear hbv hzc
          refine hK.out _ _ ⟨PB, YB⟩ (fun hHeld => ?_)
          clear hK K
          refine wpAnyH_ready (rs := [3, 8]) (by kernel_rfl) (by simp) ?_
          refine (AllReadyH.cons (o := { dst := some 88, op := Op.call { callee := Callee.value (Operand.func 55), args := #[Operand.tmp 87], argTypes := #[77] }, type := 37, pos := "exact.go:4506", after := #[{ on := 2, ground := Ground.data }, { on := 1, ground := Ground.chain }], guard := none }) rfl (fun K hK => ?_) (AllReadyH.cons (o := { dst := some 14, op := Op.alloc 41, type := 0, pos := "exact.go:4506", after := #[], guard := none }) rfl (fun K hK => ?_) AllReadyH.nil))
          · clear hHeld
            go_simp
            refine (TC _).mono ?_
            rintro e v2 ⟨rfl, hbv⟩
            have hzc := hB.size
            replace hB := below_then hB hbv
            replace PB := PB.below hbv
            replace YB := YB.below hbv
            replace SB := SB.below hbv
            replace SA := owns_below SA hbv
            replace SC := owns_below SC hbv
            replace GB := GB.below hbv
            replace MA := owns_below MA hbv
            replace MC := owns_below MC hbv
            replace O3 := O3.below hbv
            clear hbv hzc
            refine hK.out _ _ ⟨PB, YB⟩ (fun hHeld => ?_)
            clear hK K
            refine wpAnyH_ready (rs := [4, 8]) (by kernel_rfl) (by simp) ?_
            refine (AllReadyH.cons (o := { dst := some 89, op := Op.call { callee := Callee.value (Operand.func 22), args := #[Operand.tmp 86, Operand.tmp 88], argTypes := #[41, 37] }, type := 44, pos := "exact.go:4506", after := #[{ on := 1, ground := Ground.data }, { on := 3, ground := Ground.data }, { on := 3, ground := Ground.chain }], guard := none }) rfl (fun K hK => ?_) (AllReadyH.cons (o := { dst := some 14, op := Op.alloc 41, type := 0, pos := "exact.go:4506", after := #[], guard := none }) rfl (fun K hK => ?_) AllReadyH.nil))
            · clear hHeld
              go_simp
              refine (I _ _ _ O3.tr (Nn.own O3.a) (Nn.own O3.c)).mono ?_
              rintro e v3 ⟨ar, cr, rfl, OR, hbv⟩
              have hzc := hB.size
              replace hB := below_then hB hbv
              replace PB := PB.below hbv
              replace YB := YB.below hbv
              replace SB := SB.below hbv
              replace SA := owns_below SA hbv
              replace SC := owns_below SC hbv
              replace GB := GB.below hbv
              replace MA := owns_below MA hbv
              replace MC := owns_below MC hbv
              replace O3 := O3.below hbv
              obtain ⟨⟨ha, hb, rfl⟩, hc, hd, rfl⟩ := OR.shapes
              have HA := OR.a
              have HC := OR.c
              clear OR
              replace HA := owns_mono' HA hzc
              replace HC := owns_mono' HC hzc
              clear hbv hzc
              refine hK.out _ _ ⟨PB, YB⟩ (fun hHeld => ?_)
              clear hK K
              refine wpAnyH_take (i := 5) (oi := { dst := some 84, op := Op.move (Operand.tmp 89), type := 44, pos := "exact.go:4506", after := #[{ on := 4, ground := Ground.data }], guard := none }) (v := .tuple #[.agg #[.slice ha ZW.length hb, .slice hc ZG.length hd], .bool ok]) rfl (by kernel_rfl) (by kernel_rfl) (by kernel_rfl) (fun _ _ _ h => h) (Or.inl ⟨by rfl, ?_⟩) (by assumption) ?_
              · intro wx hSw
                clear hSw hHeld; go_simp
              simp only [Act.put, List.setIfInBounds_toArray, List.set_cons_zero, List.set_cons_succ]
              refine wpAnyH_take (i := 6) (oi := { dst := some 90, op := Op.extract (Operand.tmp 84) 0, type := 41, pos := "exact.go:4506", after := #[{ on := 5, ground := Ground.data }], guard := none }) (v := .agg #[.slice ha ZW.length hb, .slice hc ZG.length hd]) rfl (by kernel_rfl) (by kernel_rfl) (by kernel_rfl) (fun _ _ _ h => h) (Or.inl ⟨by rfl, ?_⟩) (by assumption) ?_
              · intro wx hSw
                clear hSw hHeld; go_simp
              simp only [Act.put, List.setIfInBounds_toArray, List.set_cons_zero, List.set_cons_succ]
              refine wpAnyH_take (i := 7) (oi := { dst := some 91, op := Op.extract (Operand.tmp 84) 1, type := 4, pos := "exact.go:4506", after := #[{ on := 5, ground := Ground.data }, { on := 9, ground := Ground.gcOnly Departure.lateStores }], guard := none }) (v := .bool ok) rfl (by kernel_rfl) (by kernel_rfl) (by kernel_rfl) (fun _ _ _ h => h) (Or.inl ⟨by rfl, ?_⟩) (by assumption) ?_
              · intro wx hSw
                clear hSw hHeld; go_simp
              simp only [Act.put, List.setIfInBounds_toArray, List.set_cons_zero, List.set_cons_succ]
              refine wpAnyH_ready (rs := [8]) (by kernel_rfl) (by simp) ?_
              refine (AllReadyH.cons (o := { dst := some 14, op := Op.alloc 41, type := 0, pos := "exact.go:4506", after := #[], guard := none }) rfl (fun K hK => ?_) AllReadyH.nil)
              clear hHeld
              have Z := Box.new v3 #[.slice none 0 0, .slice none 0 0] 41
              have hkPB := PB.1
              have hkYB := YB.1
              have hkSB := SB.1
              have hkSA := owns_below_lt SA
              have hkSC := owns_below_lt SC
              have hkGB := GB.1
              have hkMA := owns_below_lt MA
              have hkMC := owns_below_lt MC
              have hkHA := owns_below_lt HA
              have hkHC := owns_below_lt HC
              have hkw := hB.size
              have hA := below_alloc v3 (.cells #[.slice none 0 0, .slice none 0 0] 41)
              replace hB := below_then hB hA
              replace PB := PB.below hA
              replace YB := YB.below hA
              replace SB := SB.below hA
              replace SA := owns_below SA hA
              replace SC := owns_below SC hA
              replace GB := GB.below hA
              replace MA := owns_below MA hA
              replace MC := owns_below MC hA
              replace O3 := O3.below hA
              replace HA := owns_below HA hA
              replace HC := owns_below HC hA
              clear hA
              go_simp
              refine hK.out _ _ ⟨PB, YB⟩ (fun hHeld => ?_)
              clear hK K
              generalize v3.alloc (.cells #[.slice none 0 0, .slice none 0 0] 41) = v4 at *
              generalize v3.heap.size = b at *
              have neSA := fun g hg => Nat.ne_of_lt (hkSA g hg)
              clear hkSA
              have neSC := fun g hg => Nat.ne_of_lt (hkSC g hg)
              clear hkSC
              have neMA := fun g hg => Nat.ne_of_lt (hkMA g hg)
              clear hkMA
              have neMC := fun g hg => Nat.ne_of_lt (hkMC g hg)
              clear hkMC
              have neHA := fun g hg => Nat.ne_of_lt (hkHA g hg)
              clear hkHA
              have neHC := fun g hg => Nat.ne_of_lt (hkHC g hg)
              clear hkHC
              refine wpAnyH_ready (rs := [9]) (by kernel_rfl) (by simp) ?_
              refine (AllReadyH.cons (o := { dst := none, op := Op.store 41 (Operand.tmp 14) (Operand.tmp 90), type := 0, pos := "exact.go:4506", after := #[{ on := 8, ground := Ground.data }, { on := 6, ground := Ground.data }, { on := 4, ground := Ground.chain }, { on := 0, ground := Ground.phase }, { on := 1, ground := Ground.phase }, { on := 2, ground := Ground.phase }, { on := 3, ground := Ground.phase }, { on := 4, ground := Ground.phase }, { on := 5, ground := Ground.phase }, { on := 6, ground := Ground.phase }, { on := 7, ground := Ground.textOnly Departure.lateStores }, { on := 8, ground := Ground.phase }], guard := none }) rfl (fun K hK => ?_) AllReadyH.nil)
              clear hHeld
              obtain ⟨zl, t0, t1, f0, f1⟩ := Z.f2
              have hC := put2_chg v4 b (.slice ha ZW.length hb) (.slice hc ZG.length hd)
              have PBn := hC.box PB (by omega)
              have YBn := hC.box YB (by omega)
              have SBn := hC.box SB (by omega)
              have SAn := hC.owns SA (fun g hg hh => neSA g hg hh)
              have SCn := hC.owns SC (fun g hg hh => neSC g hg hh)
              have GBn := hC.box GB (by omega)
              have MAn := hC.owns MA (fun g hg hh => neMA g hg hh)
              have MCn := hC.owns MC (fun g hg hh => neMC g hg hh)
              have HAn := hC.owns HA (fun g hg hh => neHA g hg hh)
              have HCn := hC.owns HC (fun g hg hh => neHC g hg hh)
              have Zn := put2_box Z (.slice ha ZW.length hb) (.slice hc ZG.length hd)
              have hBn := hB.trans (hC.below (B := w.heap.size) hB.size (fun k hk => by omega))
              clear hC
              go_simp
              refine hK.out _ (put2 v4 b (.slice ha ZW.length hb) (.slice hc ZG.length hd)) ⟨PBn, YBn⟩ (fun hHeld => ?_)
              clear hK K t0 t1 f0 f1
              refine wpAnyH_take (i := 10) (oi := { dst := some 15, op := Op.assign (Operand.tmp 91), type := 4, pos := "exact.go:4506", after := #[{ on := 7, ground := Ground.data }, { on := 9, ground := Ground.chain }, { on := 0, ground := Ground.phase }, { on := 1, ground := Ground.phase }, { on := 2, ground := Ground.phase }, { on := 3, ground := Ground.phase }, { on := 4, ground := Ground.phase }, { on := 5, ground := Ground.phase }, { on := 6, ground := Ground.phase }, { on := 7, ground := Ground.phase }, { on := 8, ground := Ground.phase }, { on := 9, ground := Ground.phase }], guard := none }) (v := .bool ok) rfl (by kernel_rfl) (by kernel_rfl) (by kernel_rfl) (fun _ _ _ h => h) (Or.inl ⟨by rfl, ?_⟩) (by assumption) ?_
              · intro wx hSw
                clear hSw hHeld; go_simp
              simp only [Act.put, List.setIfInBounds_toArray, List.set_cons_zero, List.set_cons_succ]
              clear hHeld
              refine wpAnyH_done (by kernel_rfl) ?_ _
              go_wp2_with fail
              go_meet
              case rel => exact ⟨b, _, _, _, _, rfl, rfl, PBn, YBn, SBn, SAn, SCn, GBn, MAn, MCn, HAn, HCn, Zn, neHA, neHC, by omega, hBn⟩
            · clear hHeld
              have Z := Box.new v2 #[.slice none 0 0, .slice none 0 0] 41
              have hkPB := PB.1
              have hkYB := YB.1
              have hkSB := SB.1
              have hkSA := owns_below_lt SA
              have hkSC := owns_below_lt SC
              have hkGB := GB.1
              have hkMA := owns_below_lt MA
              have hkMC := owns_below_lt MC
              have hkw := hB.size
              have hA := below_alloc v2 (.cells #[.slice none 0 0, .slice none 0 0] 41)
              replace hB := below_then hB hA
              replace PB := PB.below hA
              replace YB := YB.below hA
              replace SB := SB.below hA
              replace SA := owns_below SA hA
              replace SC := owns_below SC hA
              replace GB := GB.below hA
              replace MA := owns_below MA hA
              replace MC := owns_below MC hA
              replace O3 := O3.below hA
              clear hA
              go_simp
              refine hK.out _ _ ⟨PB, YB⟩ (fun hHeld => ?_)
              clear hK K
              generalize v2.alloc (.cells #[.slice none 0 0, .slice none 0 0] 41) = v5 at *
              generalize v2.heap.size = b at *
              have neSA := fun g hg => Nat.ne_of_lt (hkSA g hg)
              clear hkSA
              have neSC := fun g hg => Nat.ne_of_lt (hkSC g hg)
              clear hkSC
              have neMA := fun g hg => Nat.ne_of_lt (hkMA g hg)
              clear hkMA
              have neMC := fun g hg => Nat.ne_of_lt (hkMC g hg)
              clear hkMC
              refine wpAnyH_ready (rs := [4]) (by kernel_rfl) (by simp) ?_
              refine (AllReadyH.cons (o := { dst := some 89, op := Op.call { callee := Callee.value (Operand.func 22), args := #[Operand.tmp 86, Operand.tmp 88], argTypes := #[41, 37] }, type := 44, pos := "exact.go:4506", after := #[{ on := 1, ground := Ground.data }, { on := 3, ground := Ground.data }, { on := 3, ground := Ground.chain }], guard := none }) rfl (fun K hK => ?_) AllReadyH.nil)
              clear hHeld
              go_simp
              refine (I _ _ _ O3.tr (Nn.own O3.a) (Nn.own O3.c)).mono ?_
              rintro e v6 ⟨ar, cr, rfl, OR, hbv⟩
              have hzb := Z.1
              have hzc := hB.size
              replace hB := below_then hB hbv
              replace PB := PB.below hbv
              replace YB := YB.below hbv
              replace SB := SB.below hbv
              replace SA := owns_below SA hbv
              replace SC := owns_below SC hbv
              replace GB := GB.below hbv
              replace MA := owns_below MA hbv
              replace MC := owns_below MC hbv
              replace O3 := O3.below hbv
              replace Z := Z.below hbv
              obtain ⟨⟨ha, hb, rfl⟩, hc, hd, rfl⟩ := OR.shapes
              have HA := OR.a
              have HC := OR.c
              clear OR
              have neHA := fun g hg => Nat.ne_of_gt (Nat.lt_of_lt_of_le hzb (owns_ge HA g hg))
              replace HA := owns_mono' HA hzc
              have neHC := fun g hg => Nat.ne_of_gt (Nat.lt_of_lt_of_le hzb (owns_ge HC g hg))
              replace HC := owns_mono' HC hzc
              clear hbv hzc
              refine hK.out _ _ ⟨PB, YB⟩ (fun hHeld => ?_)
              clear hK K
              refine wpAnyH_take (i := 5) (oi := { dst := some 84, op := Op.move (Operand.tmp 89), type := 44, pos := "exact.go:4506", after := #[{ on := 4, ground := Ground.data }], guard := none }) (v := .tuple #[.agg #[.slice ha ZW.length hb, .slice hc ZG.length hd], .bool ok]) rfl (by kernel_rfl) (by kernel_rfl) (by kernel_rfl) (fun _ _ _ h => h) (Or.inl ⟨by rfl, ?_⟩) (by assumption) ?_
              · intro wx hSw
                clear hSw hHeld; go_simp
              simp only [Act.put, List.setIfInBounds_toArray, List.set_cons_zero, List.set_cons_succ]
              refine wpAnyH_take (i := 6) (oi := { dst := some 90, op := Op.extract (Operand.tmp 84) 0, type := 41, pos := "exact.go:4506", after := #[{ on := 5, ground := Ground.data }], guard := none }) (v := .agg #[.slice ha ZW.length hb, .slice hc ZG.length hd]) rfl (by kernel_rfl) (by kernel_rfl) (by kernel_rfl) (fun _ _ _ h => h) (Or.inl ⟨by rfl, ?_⟩) (by assumption) ?_
              · intro wx hSw
                clear hSw hHeld; go_simp
              simp only [Act.put, List.setIfInBounds_toArray, List.set_cons_zero, List.set_cons_succ]
              refine wpAnyH_take (i := 7) (oi := { dst := some 91, op := Op.extract (Operand.tmp 84) 1, type := 4, pos := "exact.go:4506", after := #[{ on := 5, ground := Ground.data }, { on := 9, ground := Ground.gcOnly Departure.lateStores }], guard := none }) (v := .bool ok) rfl (by kernel_rfl) (by kernel_rfl) (by kernel_rfl) (fun _ _ _ h => h) (Or.inl ⟨by rfl, ?_⟩) (by assumption) ?_
              · intro wx hSw
                clear hSw hHeld; go_simp
              simp only [Act.put, List.setIfInBounds_toArray, List.set_cons_zero, List.set_cons_succ]
              refine wpAnyH_ready (rs := [9]) (by kernel_rfl) (by simp) ?_
              refine (AllReadyH.cons (o := { dst := none, op := Op.store 41 (Operand.tmp 14) (Operand.tmp 90), type := 0, pos := "exact.go:4506", after := #[{ on := 8, ground := Ground.data }, { on := 6, ground := Ground.data }, { on := 4, ground := Ground.chain }, { on := 0, ground := Ground.phase }, { on := 1, ground := Ground.phase }, { on := 2, ground := Ground.phase }, { on := 3, ground := Ground.phase }, { on := 4, ground := Ground.phase }, { on := 5, ground := Ground.phase }, { on := 6, ground := Ground.phase }, { on := 7, ground := Ground.textOnly Departure.lateStores }, { on := 8, ground := Ground.phase }], guard := none }) rfl (fun K hK => ?_) AllReadyH.nil)
              clear hHeld
              obtain ⟨zl, t0, t1, f0, f1⟩ := Z.f2
              have hC := put2_chg v6 b (.slice ha ZW.length hb) (.slice hc ZG.length hd)
              have PBn := hC.box PB (by omega)
              have YBn := hC.box YB (by omega)
              have SBn := hC.box SB (by omega)
              have SAn := hC.owns SA (fun g hg hh => neSA g hg hh)
              have SCn := hC.owns SC (fun g hg hh => neSC g hg hh)
              have GBn := hC.box GB (by omega)
              have MAn := hC.owns MA (fun g hg hh => neMA g hg hh)
              have MCn := hC.owns MC (fun g hg hh => neMC g hg hh)
              have HAn := hC.owns HA (fun g hg hh => neHA g hg hh)
              have HCn := hC.owns HC (fun g hg hh => neHC g hg hh)
              have Zn := put2_box Z (.slice ha ZW.length hb) (.slice hc ZG.length hd)
              have hBn := hB.trans (hC.below (B := w.heap.size) hB.size (fun k hk => by omega))
              clear hC
              go_simp
              refine hK.out _ (put2 v6 b (.slice ha ZW.length hb) (.slice hc ZG.length hd)) ⟨PBn, YBn⟩ (fun hHeld => ?_)
              clear hK K t0 t1 f0 f1
              refine wpAnyH_take (i := 10) (oi := { dst := some 15, op := Op.assign (Operand.tmp 91), type := 4, pos := "exact.go:4506", after := #[{ on := 7, ground := Ground.data }, { on := 9, ground := Ground.chain }, { on := 0, ground := Ground.phase }, { on := 1, ground := Ground.phase }, { on := 2, ground := Ground.phase }, { on := 3, ground := Ground.phase }, { on := 4, ground := Ground.phase }, { on := 5, ground := Ground.phase }, { on := 6, ground := Ground.phase }, { on := 7, ground := Ground.phase }, { on := 8, ground := Ground.phase }, { on := 9, ground := Ground.phase }], guard := none }) (v := .bool ok) rfl (by kernel_rfl) (by kernel_rfl) (by kernel_rfl) (fun _ _ _ h => h) (Or.inl ⟨by rfl, ?_⟩) (by assumption) ?_
              · intro wx hSw
                clear hSw hHeld; go_simp
              simp only [Act.put, List.setIfInBounds_toArray, List.set_cons_zero, List.set_cons_succ]
              clear hHeld
              refine wpAnyH_done (by kernel_rfl) ?_ _
              go_wp2_with fail
              go_meet
              case rel => exact ⟨b, _, _, _, _, rfl, rfl, PBn, YBn, SBn, SAn, SCn, GBn, MAn, MCn, HAn, HCn, Zn, neHA, neHC, by omega, hBn⟩
          · clear hHeld
            have Z := Box.new v1 #[.slice none 0 0, .slice none 0 0] 41
            have hkPB := PB.1
            have hkYB := YB.1
            have hkSB := SB.1
            have hkSA := owns_below_lt SA
            have hkSC := owns_below_lt SC
            have hkGB := GB.1
            have hkMA := owns_below_lt MA
            have hkMC := owns_below_lt MC
            have hkw := hB.size
            have hA := below_alloc v1 (.cells #[.slice none 0 0, .slice none 0 0] 41)
            replace hB := below_then hB hA
            replace PB := PB.below hA
            replace YB := YB.below hA
            replace SB := SB.below hA
            replace SA := owns_below SA hA
            replace SC := owns_below SC hA
            replace GB := GB.below hA
            replace MA := owns_below MA hA
            replace MC := owns_below MC hA
            replace O3 := O3.below hA
            clear hA
            go_simp
            refine hK.out _ _ ⟨PB, YB⟩ (fun hHeld => ?_)
            clear hK K
            generalize v1.alloc (.cells #[.slice none 0 0, .slice none 0 0] 41) = v7 at *
            generalize v1.heap.size = b at *
            have neSA := fun g hg => Nat.ne_of_lt (hkSA g hg)
            clear hkSA
            have neSC := fun g hg => Nat.ne_of_lt (hkSC g hg)
            clear hkSC
            have neMA := fun g hg => Nat.ne_of_lt (hkMA g hg)
            clear hkMA
            have neMC := fun g hg => Nat.ne_of_lt (hkMC g hg)
            clear hkMC
            refine wpAnyH_ready (rs := [3]) (by kernel_rfl) (by simp) ?_
            refine (AllReadyH.cons (o := { dst := some 88, op := Op.call { callee := Callee.value (Operand.func 55), args := #[Operand.tmp 87], argTypes := #[77] }, type := 37, pos := "exact.go:4506", after := #[{ on := 2, ground := Ground.data }, { on := 1, ground := Ground.chain }], guard := none }) rfl (fun K hK => ?_) AllReadyH.nil)
            clear hHeld
            go_simp
            refine (TC _).mono ?_
            rintro e v8 ⟨rfl, hbv⟩
            have hzb := Z.1
            have hzc := hB.size
            replace hB := below_then hB hbv
            replace PB := PB.below hbv
            replace YB := YB.below hbv
            replace SB := SB.below hbv
            replace SA := owns_below SA hbv
            replace SC := owns_below SC hbv
            replace GB := GB.below hbv
            replace MA := owns_below MA hbv
            replace MC := owns_below MC hbv
            replace O3 := O3.below hbv
            replace Z := Z.below hbv
            clear hbv hzc
            refine hK.out _ _ ⟨PB, YB⟩ (fun hHeld => ?_)
            clear hK K
            refine wpAnyH_ready (rs := [4]) (by kernel_rfl) (by simp) ?_
            refine (AllReadyH.cons (o := { dst := some 89, op := Op.call { callee := Callee.value (Operand.func 22), args := #[Operand.tmp 86, Operand.tmp 88], argTypes := #[41, 37] }, type := 44, pos := "exact.go:4506", after := #[{ on := 1, ground := Ground.data }, { on := 3, ground := Ground.data }, { on := 3, ground := Ground.chain }], guard := none }) rfl (fun K hK => ?_) AllReadyH.nil)
            clear hHeld
            go_simp
            refine (I _ _ _ O3.tr (Nn.own O3.a) (Nn.own O3.c)).mono ?_
            rintro e v9 ⟨ar, cr, rfl, OR, hbv⟩
            have hzb := Z.1
            have hzc := hB.size
            replace hB := below_then hB hbv
            replace PB := PB.below hbv
            replace YB := YB.below hbv
            replace SB := SB.below hbv
            replace SA := owns_below SA hbv
            replace SC := owns_below SC hbv
            replace GB := GB.below hbv
            replace MA := owns_below MA hbv
            replace MC := owns_below MC hbv
            replace O3 := O3.below hbv
            replace Z := Z.below hbv
            obtain ⟨⟨ha, hb, rfl⟩, hc, hd, rfl⟩ := OR.shapes
            have HA := OR.a
            have HC := OR.c
            clear OR
            have neHA := fun g hg => Nat.ne_of_gt (Nat.lt_of_lt_of_le hzb (owns_ge HA g hg))
            replace HA := owns_mono' HA hzc
            have neHC := fun g hg => Nat.ne_of_gt (Nat.lt_of_lt_of_le hzb (owns_ge HC g hg))
            replace HC := owns_mono' HC hzc
            clear hbv hzc
            refine hK.out _ _ ⟨PB, YB⟩ (fun hHeld => ?_)
            clear hK K
            refine wpAnyH_take (i := 5) (oi := { dst := some 84, op := Op.move (Operand.tmp 89), type := 44, pos := "exact.go:4506", after := #[{ on := 4, ground := Ground.data }], guard := none }) (v := .tuple #[.agg #[.slice ha ZW.length hb, .slice hc ZG.length hd], .bool ok]) rfl (by kernel_rfl) (by kernel_rfl) (by kernel_rfl) (fun _ _ _ h => h) (Or.inl ⟨by rfl, ?_⟩) (by assumption) ?_
            · intro wx hSw
              clear hSw hHeld; go_simp
            simp only [Act.put, List.setIfInBounds_toArray, List.set_cons_zero, List.set_cons_succ]
            refine wpAnyH_take (i := 6) (oi := { dst := some 90, op := Op.extract (Operand.tmp 84) 0, type := 41, pos := "exact.go:4506", after := #[{ on := 5, ground := Ground.data }], guard := none }) (v := .agg #[.slice ha ZW.length hb, .slice hc ZG.length hd]) rfl (by kernel_rfl) (by kernel_rfl) (by kernel_rfl) (fun _ _ _ h => h) (Or.inl ⟨by rfl, ?_⟩) (by assumption) ?_
            · intro wx hSw
              clear hSw hHeld; go_simp
            simp only [Act.put, List.setIfInBounds_toArray, List.set_cons_zero, List.set_cons_succ]
            refine wpAnyH_take (i := 7) (oi := { dst := some 91, op := Op.extract (Operand.tmp 84) 1, type := 4, pos := "exact.go:4506", after := #[{ on := 5, ground := Ground.data }, { on := 9, ground := Ground.gcOnly Departure.lateStores }], guard := none }) (v := .bool ok) rfl (by kernel_rfl) (by kernel_rfl) (by kernel_rfl) (fun _ _ _ h => h) (Or.inl ⟨by rfl, ?_⟩) (by assumption) ?_
            · intro wx hSw
              clear hSw hHeld; go_simp
            simp only [Act.put, List.setIfInBounds_toArray, List.set_cons_zero, List.set_cons_succ]
            refine wpAnyH_ready (rs := [9]) (by kernel_rfl) (by simp) ?_
            refine (AllReadyH.cons (o := { dst := none, op := Op.store 41 (Operand.tmp 14) (Operand.tmp 90), type := 0, pos := "exact.go:4506", after := #[{ on := 8, ground := Ground.data }, { on := 6, ground := Ground.data }, { on := 4, ground := Ground.chain }, { on := 0, ground := Ground.phase }, { on := 1, ground := Ground.phase }, { on := 2, ground := Ground.phase }, { on := 3, ground := Ground.phase }, { on := 4, ground := Ground.phase }, { on := 5, ground := Ground.phase }, { on := 6, ground := Ground.phase }, { on := 7, ground := Ground.textOnly Departure.lateStores }, { on := 8, ground := Ground.phase }], guard := none }) rfl (fun K hK => ?_) AllReadyH.nil)
            clear hHeld
            obtain ⟨zl, t0, t1, f0, f1⟩ := Z.f2
            have hC := put2_chg v9 b (.slice ha ZW.length hb) (.slice hc ZG.length hd)
            have PBn := hC.box PB (by omega)
            have YBn := hC.box YB (by omega)
            have SBn := hC.box SB (by omega)
            have SAn := hC.owns SA (fun g hg hh => neSA g hg hh)
            have SCn := hC.owns SC (fun g hg hh => neSC g hg hh)
            have GBn := hC.box GB (by omega)
            have MAn := hC.owns MA (fun g hg hh => neMA g hg hh)
            have MCn := hC.owns MC (fun g hg hh => neMC g hg hh)
            have HAn := hC.owns HA (fun g hg hh => neHA g hg hh)
            have HCn := hC.owns HC (fun g hg hh => neHC g hg hh)
            have Zn := put2_box Z (.slice ha ZW.length hb) (.slice hc ZG.length hd)
            have hBn := hB.trans (hC.below (B := w.heap.size) hB.size (fun k hk => by omega))
            clear hC
            go_simp
            refine hK.out _ (put2 v9 b (.slice ha ZW.length hb) (.slice hc ZG.length hd)) ⟨PBn, YBn⟩ (fun hHeld => ?_)
            clear hK K t0 t1 f0 f1
            refine wpAnyH_take (i := 10) (oi := { dst := some 15, op := Op.assign (Operand.tmp 91), type := 4, pos := "exact.go:4506", after := #[{ on := 7, ground := Ground.data }, { on := 9, ground := Ground.chain }, { on := 0, ground := Ground.phase }, { on := 1, ground := Ground.phase }, { on := 2, ground := Ground.phase }, { on := 3, ground := Ground.phase }, { on := 4, ground := Ground.phase }, { on := 5, ground := Ground.phase }, { on := 6, ground := Ground.phase }, { on := 7, ground := Ground.phase }, { on := 8, ground := Ground.phase }, { on := 9, ground := Ground.phase }], guard := none }) (v := .bool ok) rfl (by kernel_rfl) (by kernel_rfl) (by kernel_rfl) (fun _ _ _ h => h) (Or.inl ⟨by rfl, ?_⟩) (by assumption) ?_
            · intro wx hSw
              clear hSw hHeld; go_simp
            simp only [Act.put, List.setIfInBounds_toArray, List.set_cons_zero, List.set_cons_succ]
            clear hHeld
            refine wpAnyH_done (by kernel_rfl) ?_ _
            go_wp2_with fail
            go_meet
            case rel => exact ⟨b, _, _, _, _, rfl, rfl, PBn, YBn, SBn, SAn, SCn, GBn, MAn, MCn, HAn, HCn, Zn, neHA, neHC, by omega, hBn⟩
        · clear hHeld
          have Z := Box.new v0 #[.slice none 0 0, .slice none 0 0] 41
          have hkPB := PB.1
          have hkYB := YB.1
          have hkSB := SB.1
          have hkSA := owns_below_lt SA
          have hkSC := owns_below_lt SC
          have hkGB := GB.1
          have hkMA := owns_below_lt MA
          have hkMC := owns_below_lt MC
          have hkw := hB.size
          have hA := below_alloc v0 (.cells #[.slice none 0 0, .slice none 0 0] 41)
          replace hB := below_then hB hA
          replace PB := PB.below hA
          replace YB := YB.below hA
          replace SB := SB.below hA
          replace SA := owns_below SA hA
          replace SC := owns_below SC hA
          replace GB := GB.below hA
          replace MA := owns_below MA hA
          replace MC := owns_below MC hA
          clear hA
          go_simp
          refine hK.out _ _ ⟨PB, YB⟩ (fun hHeld => ?_)
          clear hK K
          generalize v0.alloc (.cells #[.slice none 0 0, .slice none 0 0] 41) = v10 at *
          generalize v0.heap.size = b at *
          have neSA := fun g hg => Nat.ne_of_lt (hkSA g hg)
          clear hkSA
          have neSC := fun g hg => Nat.ne_of_lt (hkSC g hg)
          clear hkSC
          have neMA := fun g hg => Nat.ne_of_lt (hkMA g hg)
          clear hkMA
          have neMC := fun g hg => Nat.ne_of_lt (hkMC g hg)
          clear hkMC
          refine wpAnyH_ready (rs := [1]) (by kernel_rfl) (by simp) ?_
          refine (AllReadyH.cons (o := { dst := some 86, op := Op.call { callee := Callee.value (Operand.func 53), args := #[Operand.tmp 85], argTypes := #[73] }, type := 41, pos := "exact.go:4506", after := #[{ on := 0, ground := Ground.data }], guard := none }) rfl (fun K hK => ?_) AllReadyH.nil)
          clear hHeld
          go_simp
          refine (T _ hB).mono ?_
          rintro e v11 ⟨a3, c3, rfl, O3, hbv⟩
          have hzb := Z.1
          have hzc := hB.size
          replace hB := below_then hB hbv
          replace PB := PB.below hbv
          replace YB := YB.below hbv
          replace SB := SB.below hbv
          replace SA := owns_below SA hbv
          replace SC := owns_below SC hbv
          replace GB := GB.below hbv
          replace MA := owns_below MA hbv
          replace MC := owns_below MC hbv
          replace Z := Z.below hbv
          clear hbv hzc
          refine hK.out _ _ ⟨PB, YB⟩ (fun hHeld => ?_)
          clear hK K
          refine wpAnyH_ready (rs := [3]) (by kernel_rfl) (by simp) ?_
          refine (AllReadyH.cons (o := { dst := some 88, op := Op.call { callee := Callee.value (Operand.func 55), args := #[Operand.tmp 87], argTypes := #[77] }, type := 37, pos := "exact.go:4506", after := #[{ on := 2, ground := Ground.data }, { on := 1, ground := Ground.chain }], guard := none }) rfl (fun K hK => ?_) AllReadyH.nil)
          clear hHeld
          go_simp
          refine (TC _).mono ?_
          rintro e v12 ⟨rfl, hbv⟩
          have hzb := Z.1
          have hzc := hB.size
          replace hB := below_then hB hbv
          replace PB := PB.below hbv
          replace YB := YB.below hbv
          replace SB := SB.below hbv
          replace SA := owns_below SA hbv
          replace SC := owns_below SC hbv
          replace GB := GB.below hbv
          replace MA := owns_below MA hbv
          replace MC := owns_below MC hbv
          replace Z := Z.below hbv
          replace O3 := O3.below hbv
          clear hbv hzc
          refine hK.out _ _ ⟨PB, YB⟩ (fun hHeld => ?_)
          clear hK K
          refine wpAnyH_ready (rs := [4]) (by kernel_rfl) (by simp) ?_
          refine (AllReadyH.cons (o := { dst := some 89, op := Op.call { callee := Callee.value (Operand.func 22), args := #[Operand.tmp 86, Operand.tmp 88], argTypes := #[41, 37] }, type := 44, pos := "exact.go:4506", after := #[{ on := 1, ground := Ground.data }, { on := 3, ground := Ground.data }, { on := 3, ground := Ground.chain }], guard := none }) rfl (fun K hK => ?_) AllReadyH.nil)
          clear hHeld
          go_simp
          refine (I _ _ _ O3.tr (Nn.own O3.a) (Nn.own O3.c)).mono ?_
          rintro e v13 ⟨ar, cr, rfl, OR, hbv⟩
          have hzb := Z.1
          have hzc := hB.size
          replace hB := below_then hB hbv
          replace PB := PB.below hbv
          replace YB := YB.below hbv
          replace SB := SB.below hbv
          replace SA := owns_below SA hbv
          replace SC := owns_below SC hbv
          replace GB := GB.below hbv
          replace MA := owns_below MA hbv
          replace MC := owns_below MC hbv
          replace Z := Z.below hbv
          replace O3 := O3.below hbv
          obtain ⟨⟨ha, hb, rfl⟩, hc, hd, rfl⟩ := OR.shapes
          have HA := OR.a
          have HC := OR.c
          clear OR
          have neHA := fun g hg => Nat.ne_of_gt (Nat.lt_of_lt_of_le hzb (owns_ge HA g hg))
          replace HA := owns_mono' HA hzc
          have neHC := fun g hg => Nat.ne_of_gt (Nat.lt_of_lt_of_le hzb (owns_ge HC g hg))
          replace HC := owns_mono' HC hzc
          clear hbv hzc
          refine hK.out _ _ ⟨PB, YB⟩ (fun hHeld => ?_)
          clear hK K
          refine wpAnyH_take (i := 5) (oi := { dst := some 84, op := Op.move (Operand.tmp 89), type := 44, pos := "exact.go:4506", after := #[{ on := 4, ground := Ground.data }], guard := none }) (v := .tuple #[.agg #[.slice ha ZW.length hb, .slice hc ZG.length hd], .bool ok]) rfl (by kernel_rfl) (by kernel_rfl) (by kernel_rfl) (fun _ _ _ h => h) (Or.inl ⟨by rfl, ?_⟩) (by assumption) ?_
          · intro wx hSw
            clear hSw hHeld; go_simp
          simp only [Act.put, List.setIfInBounds_toArray, List.set_cons_zero, List.set_cons_succ]
          refine wpAnyH_take (i := 6) (oi := { dst := some 90, op := Op.extract (Operand.tmp 84) 0, type := 41, pos := "exact.go:4506", after := #[{ on := 5, ground := Ground.data }], guard := none }) (v := .agg #[.slice ha ZW.length hb, .slice hc ZG.length hd]) rfl (by kernel_rfl) (by kernel_rfl) (by kernel_rfl) (fun _ _ _ h => h) (Or.inl ⟨by rfl, ?_⟩) (by assumption) ?_
          · intro wx hSw
            clear hSw hHeld; go_simp
          simp only [Act.put, List.setIfInBounds_toArray, List.set_cons_zero, List.set_cons_succ]
          refine wpAnyH_take (i := 7) (oi := { dst := some 91, op := Op.extract (Operand.tmp 84) 1, type := 4, pos := "exact.go:4506", after := #[{ on := 5, ground := Ground.data }, { on := 9, ground := Ground.gcOnly Departure.lateStores }], guard := none }) (v := .bool ok) rfl (by kernel_rfl) (by kernel_rfl) (by kernel_rfl) (fun _ _ _ h => h) (Or.inl ⟨by rfl, ?_⟩) (by assumption) ?_
          · intro wx hSw
            clear hSw hHeld; go_simp
          simp only [Act.put, List.setIfInBounds_toArray, List.set_cons_zero, List.set_cons_succ]
          refine wpAnyH_ready (rs := [9]) (by kernel_rfl) (by simp) ?_
          refine (AllReadyH.cons (o := { dst := none, op := Op.store 41 (Operand.tmp 14) (Operand.tmp 90), type := 0, pos := "exact.go:4506", after := #[{ on := 8, ground := Ground.data }, { on := 6, ground := Ground.data }, { on := 4, ground := Ground.chain }, { on := 0, ground := Ground.phase }, { on := 1, ground := Ground.phase }, { on := 2, ground := Ground.phase }, { on := 3, ground := Ground.phase }, { on := 4, ground := Ground.phase }, { on := 5, ground := Ground.phase }, { on := 6, ground := Ground.phase }, { on := 7, ground := Ground.textOnly Departure.lateStores }, { on := 8, ground := Ground.phase }], guard := none }) rfl (fun K hK => ?_) AllReadyH.nil)
          clear hHeld
          obtain ⟨zl, t0, t1, f0, f1⟩ := Z.f2
          have hC := put2_chg v13 b (.slice ha ZW.length hb) (.slice hc ZG.length hd)
          have PBn := hC.box PB (by omega)
          have YBn := hC.box YB (by omega)
          have SBn := hC.box SB (by omega)
          have SAn := hC.owns SA (fun g hg hh => neSA g hg hh)
          have SCn := hC.owns SC (fun g hg hh => neSC g hg hh)
          have GBn := hC.box GB (by omega)
          have MAn := hC.owns MA (fun g hg hh => neMA g hg hh)
          have MCn := hC.owns MC (fun g hg hh => neMC g hg hh)
          have HAn := hC.owns HA (fun g hg hh => neHA g hg hh)
          have HCn := hC.owns HC (fun g hg hh => neHC g hg hh)
          have Zn := put2_box Z (.slice ha ZW.length hb) (.slice hc ZG.length hd)
          have hBn := hB.trans (hC.below (B := w.heap.size) hB.size (fun k hk => by omega))
          clear hC
          go_simp
          refine hK.out _ (put2 v13 b (.slice ha ZW.length hb) (.slice hc ZG.length hd)) ⟨PBn, YBn⟩ (fun hHeld => ?_)
          clear hK K t0 t1 f0 f1
          refine wpAnyH_take (i := 10) (oi := { dst := some 15, op := Op.assign (Operand.tmp 91), type := 4, pos := "exact.go:4506", after := #[{ on := 7, ground := Ground.data }, { on := 9, ground := Ground.chain }, { on := 0, ground := Ground.phase }, { on := 1, ground := Ground.phase }, { on := 2, ground := Ground.phase }, { on := 3, ground := Ground.phase }, { on := 4, ground := Ground.phase }, { on := 5, ground := Ground.phase }, { on := 6, ground := Ground.phase }, { on := 7, ground := Ground.phase }, { on := 8, ground := Ground.phase }, { on := 9, ground := Ground.phase }], guard := none }) (v := .bool ok) rfl (by kernel_rfl) (by kernel_rfl) (by kernel_rfl) (fun _ _ _ h => h) (Or.inl ⟨by rfl, ?_⟩) (by assumption) ?_
          · intro wx hSw
            clear hSw hHeld; go_simp
          simp only [Act.put, List.setIfInBounds_toArray, List.set_cons_zero, List.set_cons_succ]
          clear hHeld
          refine wpAnyH_done (by kernel_rfl) ?_ _
          go_wp2_with fail
          go_meet
          case rel => exact ⟨b, _, _, _, _, rfl, rfl, PBn, YBn, SBn, SAn, SCn, GBn, MAn, MCn, HAn, HCn, Zn, neHA, neHC, by omega, hBn⟩
      case rest =>
        clear PB YB SB SA SC GB MA MC hB
        obtain ⟨bh, ha, hb, hc, hd, rfl, rfl, PB, YB, SB, SA, SC, GB, MA, MC, HA, HC, HB, _, _, hbh, hB⟩ := hcut
        generalize wc = w20 at *
        have MO : OT w20 w.heap.size (.slice ga ZW.length gb) (.slice gc ZG.length gd) (mkWs 1 ZW.length) (mkIts (1 + 2 * ZW.length) ZG.length) := ⟨MA, MC⟩
        clear MA MC PB YB
        obtain ⟨_, p0, p1⟩ := HB.c2
        obtain ⟨_, q0, q1⟩ := SB.c2
        go_wp2_with fail
        refine (eqTaking_same _ _ _ _ ZW ZG _ (OT.mk HA HC).tr (OT.mk SA SC).tr (by omega) (by omega)).mono ?_
        rintro e w21 ⟨rfl, hb21⟩
        replace hB := below_then hB hb21
        replace GB := GB.below hb21
        replace MO := MO.below hb21
        have hz21 := hb21.size
        clear hb21
        clear p0 p1 q0 q1 HA HC HB SA SC SB
        obtain ⟨_, p0, p1⟩ := GB.c2
        go_wp2_with fail
        refine (heldTaking_at _ _ ZW.length ZG.length 1 _ MO.tr (by omega) (by omega) (by omega) (by omega)).mono ?_
        rintro e w22 ⟨rfl, hb22⟩
        replace hB := below_then hB hb22
        replace GB := GB.below hb22
        replace MO := MO.below hb22
        have hz22 := hb22.size
        clear hb22
        clear MO GB p0 p1 T TT TC I R1
        go_wp2
        go_ret
        exact ⟨rfl, hB⟩
theorem law10 {P1 P2 P3 : Prop} (a c : Value) (W : List Wt) (G : List Ck) (yn yd : Int) (yk : ByteArray) (yv : Int) (w : World) (hw : WR w a W) (hc : IR w c G) (hn0 : W.length ≤ maxLen) (hm0 : G.length ≤ maxLen) (hs0 : ∀ i (h : i < G.length), G[i].k.size ≤ maxLen) (_ : P1) (_ : P2) (hy0 : yk.size ≤ maxLen) (_ : P3) :
    Calls Try.prog 10 #[.agg #[a, c], .agg #[.int .i64 yn, .int .i64 yd, .string yk, .int .u32 yv]] w fun e w' => e = .returned (.bool true) ∧ Below w.heap.size w w' := law10x a c W G yn yd yk yv w hw hc hn0 hm0 hs0 hy0
end Go.Proofs.Ytocaigffikdlhaa
