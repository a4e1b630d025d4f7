/-
  spec.TimeoutNode of more than one.
-/
import Derived.Test.YtapfhhmimkkhnaaQE
import Derived.Deep.RegionHeld3
namespace Go.Proofs.Ytapfhhmimkkhnaa
open Go.RowKit Go.Maps
set_option linter.unusedVariables false
set_option maxRecDepth 100000

/-- One message appended to a row of one's own. -/
theorem wp_append_msg (w : World) {o : Oper} {a : Act} {K : Act → World → Prop} {Q : Exit → Act → World → Prop} (s x : Operand)
    (ho : o.op = .call { callee := .builtin .append, args := #[s, x], argTypes := #[42, 42] }) (hty : o.type = 42)
    (base : Nat) (v : Value) (n : Nat) (zs : List Mq) (hs : a.eval s = v) (hown : w.ownsRow base 38 9 v n (flat9 zs))
    (b : Nat) (q : Mq) (hx : a.eval x = .slice (some ⟨b, 0, none⟩) 1 1) (hI : Box w b [.int .i64 q.ki, .int .i64 q.fr, .int .i64 q.dst, .int .i64 q.te, .int .i64 q.ix, .int .i64 q.be, .slice none 0 0, .int .i64 q.co, .bool q.ye]) (hn : n + 1 ≤ 2000000) (hbase : base ≤ w.heap.size)
    (h : ∀ v' w', w'.ownsRow base 38 9 v' (n + 1) (flat9 (zs ++ [q])) → w.grownBy w' v.ownBlock → K (a.put o.dst v') w') : o.wp Try.prog a w K Q := by
  obtain ⟨i0, hi, hz0, hzs, hzb⟩ := info_parts Try.info38
  refine wp_append_own _ s x 42 ho base 38 i0 (.agg #[.int .i64 0, .int .i64 0, .int .i64 0, .int .i64 0, .int .i64 0, .int .i64 0, .slice none 0 0, .int .i64 0, .bool false]) 9 88 Try.underlying42 hi hz0 hzs hzb rfl (by decide) v n (flat9 zs) hs hown ⟨b, 0, none⟩ 1 1 (flat9 [q]) hx rfl ?_ ?_ (by unfold maxLen; omega) (by omega) hbase fun v' w' h1 h2 _ => h v' w' (by rw [flat9_append]; exact h1) h2
  · intro j u hj
    rw [show (⟨b, 0, none⟩ : Addr).add j = ⟨b, j, none⟩ from by simp [Addr.add]; omega]
    exact hI.2.1 j u hj
  · intro u hu
    simp only [flat9, List.mem_cons, List.not_mem_nil, or_false] at hu
    rcases hu with rfl | rfl | rfl | rfl | rfl | rfl | rfl | rfl | rfl <;> rfl


set_option maxHeartbeats 16000000 in
theorem specTime_more (id pe te vo co ro : Int) (vl vv vm : Value) (log : List En) (vs mt : List Int) (base : Nat) (w : World) (ho : OwnN w base vl vv vm log vs mt) (nl : log.length ≤ 1048576) (nv : vs.length ≤ 1048576) (nm : mt.length ≤ 1048576) (ns : ∀ i (h : i < log.length), log[i].d.size ≤ 1048576) (he : tmOk (goodN id pe te vo co ro log vs mt) ro te = true) (hp2 : 2 ≤ pe) :
    Calls Try.prog 24 #[.agg #[.int .i64 id, .int .i64 pe, .int .i64 te, .int .i64 vo, vl, .int .i64 co, .int .i64 ro, vv, vm]] w fun e w' => ∃ ul uv um uq, e = .returned (.tuple #[.agg #[.int .i64 id, .int .i64 pe, .int .i64 (te + 1), .int .i64 id, ul, .int .i64 co, .int .i64 1, uv, um], uq, .bool true]) ∧ OwnN w' w.heap.size ul uv um log [id] [] ∧ w'.ownsRow w.heap.size 38 9 uq (asksTo id (te + 1) log.length (tmAt log log.length) pe.toNat).length (flat9 (asksTo id (te + 1) log.length (tmAt log log.length) pe.toNat)) ∧ Below w.heap.size w w' := by
  obtain ⟨pn, rfl⟩ := Int.eq_ofNat_of_zero_le (show 0 ≤ pe from by omega)
  rw [Int.toNat_natCast]
  obtain ⟨W0, hW0⟩ : ∃ W0, W0 = (w.alloc (.cells #[.int .i64 id, .int .i64 pn, .int .i64 te, .int .i64 vo, vl, .int .i64 co, .int .i64 ro, vv, vm] 26)).alloc (.cells #[.int .i64 0, .int .i64 0, .int .i64 0, .int .i64 0, .slice none 0 0, .int .i64 0, .int .i64 0, .slice none 0 0, .slice none 0 0] 26) := ⟨_, rfl⟩
  have hB : Below w.heap.size w W0 := by rw [hW0]; exact below2 _ _ _
  have hz00 : w.heap.size + 1 + 1 ≤ W0.heap.size := by rw [hW0]; simp
  have X : Box W0 w.heap.size [.int .i64 id, .int .i64 pn, .int .i64 te, .int .i64 vo, vl, .int .i64 co, .int .i64 ro, vv, vm] := by rw [hW0]; exact (Box.new w #[.int .i64 id, .int .i64 pn, .int .i64 te, .int .i64 vo, vl, .int .i64 co, .int .i64 ro, vv, vm] 26).alloc _
  have Y : Box W0 (w.heap.size + 1) [.int .i64 0, .int .i64 0, .int .i64 0, .int .i64 0, .slice none 0 0, .int .i64 0, .int .i64 0, .slice none 0 0, .slice none 0 0] := by
    rw [hW0]
    have := Box.new (w.alloc (.cells #[.int .i64 id, .int .i64 pn, .int .i64 te, .int .i64 vo, vl, .int .i64 co, .int .i64 ro, vv, vm] 26)) #[.int .i64 0, .int .i64 0, .int .i64 0, .int .i64 0, .slice none 0 0, .int .i64 0, .int .i64 0, .slice none 0 0, .slice none 0 0] 26
    simpa using this
  have ho0 := ho.below hB
  have K := specGoodN_any id pn te vo co ro vl vv vm log vs mt _ ho0.er ho0.iv ho0.im nl nv nm ns
  have K2 := fun W (h : Below w.heap.size w W) => l11Own_any id pn te vo co ro vl vv vm log vs mt W (ho.below h).er (ho.below h).iv (ho.below h).im ho.nns.1 ho.nns.2.1 ho.nns.2.2 nl nv nm
  have HG : goodN id pn te vo co ro log vs mt = true → 0 ≤ id ∧ id < pn ∧ (pn : Int) ≤ 7 ∧ 0 ≤ te ∧ log.length ≤ 60 := fun h => goodN_bounds h
  have HM : goodN id pn te vo co ro log vs mt = true → ¬ ro = 2 → mt = [] := fun h h2 => goodN_mt0 h h2
  generalize goodN id pn te vo co ro log vs mt = g at *
  obtain ⟨⟨la, lc, rfl⟩, ⟨va, vc, rfl⟩, ma, mc, rfl⟩ := ho.shapes
  clear ns ho0 ho
  rcases tmOk_cases g ro te with ⟨_, rfl, h1, h2⟩ | ⟨h, _⟩
  rotate_left
  · rw [he] at h; cases h
  obtain ⟨i1, i2, hp7, i3, i4⟩ := HG rfl
  obtain rfl := HM rfl h1
  clear he HG HM nm
  simp only [List.length_nil] at *
  go_enter Try.func24, Try.ntmps24
  go_wp2_with fail
  rw [← hW0]; clear hW0
  refine K.mono ?_
  rintro e w1 ⟨rfl, hb⟩
  replace hB := below_then hB hb
  replace Y := Y.below hb
  replace X := X.below hb
  have hz1 := hb.size
  clear K hb
  obtain ⟨hxl, x0, x1, x2, x3, x4, x5, x6, x7, x8⟩ := X.e9
  have h1b : (ro == 2) = false := by simp [h1]
  have h2b : (te == 1000) = false := by simp; omega
  go_wp2_with fail
  refine (K2 _ hB).mono ?_
  rintro e w2 ⟨u1, u2, u3, rfl, O, hb⟩
  replace hB := below_then hB hb
  replace Y := Y.below hb
  replace X := X.below hb
  have hz2 := hb.size
  clear K2 hb hxl x0 x1 x2 x3 x4 x5 x6 x7 x8
  have gl := owns_ge O.l
  have gm := owns_ge O.m
  have lm := owns_below_lt O.m
  obtain ⟨⟨ua, uc, rfl⟩, ⟨pa, pc, rfl⟩, qa, qc, rfl⟩ := O.shapes
  simp only [List.length_nil] at *
  have ol := O.l
  have om := O.m
  clear O
  obtain ⟨hxl, x0, x1, x2, x3, x4, x5, x6, x7, x8⟩ := X.e9
  obtain ⟨e0, e1, e2, e3, e4, e5, e6, e7, e8⟩ := X.f9
  go_upto_region 4 with fail
  obtain ⟨W3, hW3⟩ : ∃ W, W = put9 w2 w.heap.size (.int .i64 id) (.int .i64 pn) (.int .i64 te) (.int .i64 vo) (.slice ua log.length uc) (.int .i64 co) (.int .i64 ro) (.slice pa vs.length pc) (.slice qa 0 qc) := ⟨_, rfl⟩
  have hC : Chg (· = w.heap.size) w2 W3 := by rw [hW3]; exact put9_chg _ _ _ _ _ _ _ _ _ _ _
  replace X : Box W3 w.heap.size [.int .i64 id, .int .i64 pn, .int .i64 te, .int .i64 vo, .slice ua log.length uc, .int .i64 co, .int .i64 ro, .slice pa vs.length pc, .slice qa 0 qc] := by rw [hW3]; exact put9_box X _ _ _ _ _ _ _ _ _
  replace Y := hC.box Y (by omega)
  replace ol := hC.owns ol (fun b hb hh => by have := gl b hb; have hh : b = w.heap.size := hh; omega)
  replace om := hC.owns om (fun b hb hh => by have := gm b hb; have hh : b = w.heap.size := hh; omega)
  replace hB := hB.trans (hC.below (B := w.heap.size) hB.size (fun k hk => by have hk : k = w.heap.size := hk; omega))
  have hz4 : w2.heap.size ≤ W3.heap.size := hC.size
  unfold put9 at hW3
  rw [← hW3]
  clear hW3 hC hxl x0 x1 x2 x3 x4 x5 x6 x7 x8 e0 e1 e2 e3 e4 e5 e6 e7 e8
  obtain ⟨hxl, x0, x1, x2, x3, x4, x5, x6, x7, x8⟩ := X.e9
  obtain ⟨e0, e1, e2, e3, e4, e5, e6, e7, e8⟩ := X.f9
  go_upto_region 7 with fail
  obtain ⟨W4, hW4⟩ : ∃ W, W = ((W3.setCell ⟨w.heap.size, 2, none⟩ (.int .i64 (te + 1))).setCell ⟨w.heap.size, 3, none⟩ (.int .i64 id)).setCell ⟨w.heap.size, 6, none⟩ (.int .i64 1) := ⟨_, rfl⟩
  have hC : Chg (fun k => k = w.heap.size) W3 W4 := by rw [hW4]; exact Chg.setCell (S := fun k => k = w.heap.size) (Chg.setCell (S := fun k => k = w.heap.size) (Chg.setCell (S := fun k => k = w.heap.size) (Chg.refl _ _) rfl _) rfl _) rfl _
  replace X : Box W4 w.heap.size [.int .i64 id, .int .i64 pn, .int .i64 (te + 1), .int .i64 id, .slice ua log.length uc, .int .i64 co, .int .i64 1, .slice pa vs.length pc, .slice qa 0 qc] := by rw [hW4]; exact ((X.set 2 _ (by simp)).set 3 _ (by simp)).set 6 _ (by simp)
  replace Y := hC.box Y (by omega)
  replace ol := hC.owns ol (fun b hb hh => by have := gl b hb; have hh : b = w.heap.size := hh; omega)
  replace om := hC.owns om (fun b hb hh => by have := gm b hb; have hh : b = w.heap.size := hh; omega)
  replace hB := hB.trans (hC.below (B := w.heap.size) hB.size (fun k hk => by have hk : k = w.heap.size := hk; omega))
  have hz5 : W3.heap.size ≤ W4.heap.size := hC.size
  rw [← hW4]
  clear hW4 hC hxl x0 x1 x2 x3 x4 x5 x6 x7 x8 e0 e1 e2 e3 e4 e5 e6 e7 e8
  obtain ⟨hxl, x0, x1, x2, x3, x4, x5, x6, x7, x8⟩ := X.e9
  have e7 := X.2.2 7
  go_upto_region 8 with fail
  obtain ⟨W6, hW6⟩ : ∃ W, W = W4.setCell ⟨w.heap.size, 7, none⟩ (.slice (some ⟨W4.heap.size, 0, none⟩) 1 1) := ⟨_, rfl⟩
  have hC : Chg (fun k => k = w.heap.size) W4 W6 := by rw [hW6]; exact Chg.setCell (S := fun k => k = w.heap.size) (Chg.refl _ _) rfl _
  replace X : Box W6 w.heap.size [.int .i64 id, .int .i64 pn, .int .i64 (te + 1), .int .i64 id, .slice ua log.length uc, .int .i64 co, .int .i64 1, .slice (some ⟨W4.heap.size, 0, none⟩) 1 1, .slice qa 0 qc] := by rw [hW6]; exact X.set 7 _ (by simp)
  replace Y := hC.box Y (by omega)
  replace ol := hC.owns ol (fun b hb hh => by have := gl b hb; have hh : b = w.heap.size := hh; omega)
  replace om := hC.owns om (fun b hb hh => by have := gm b hb; have hh : b = w.heap.size := hh; omega)
  replace hB := hB.trans (hC.below (B := w.heap.size) hB.size (fun k hk => by have hk : k = w.heap.size := hk; omega))
  have hz6 := hC.size
  have hs6 : W6.heap.size = W4.heap.size := by rw [hW6]; simp
  rw [← hW6]
  clear hW6
  have ov : (W6.alloc (.cells #[.int .i64 id] 3)).ownsRow w1.heap.size 3 1 (.slice (some ⟨W4.heap.size, 0, none⟩) 1 1) 1 ([id].map (.int .i64)) := by
    rw [← hs6]
    exact World.ownsRow_lit W6 #[.int .i64 id] 1 (by omega) (by simp [maxLen]) (by simp)
  have hne : ∀ g, (.slice (some ⟨W4.heap.size, 0, none⟩) 1 1 : Value).ownBlock = some g → (.slice qa 0 qc : Value).ownBlock ≠ some g := fun g hg e => by
    have := lm g e
    simp [Value.ownBlock] at hg
    omega
  have BA := below_alloc W6 (.cells #[.int .i64 id] 3)
  replace X := X.below BA
  replace Y := Y.below BA
  replace ol := owns_below ol BA
  replace om := owns_below om BA
  replace hB := below_then hB BA
  have hz7 := BA.size
  obtain ⟨W5, hW5⟩ : ∃ W, W = W6.alloc (.cells #[.int .i64 id] 3) := ⟨_, rfl⟩
  rw [← hW5] at X Y ol om ov hB hz7 ⊢
  clear hW5 hC BA hxl x0 x1 x2 x3 x4 x5 x6 x7 x8 e7
  have O : OwnN W5 w1.heap.size (.slice ua log.length uc) (.slice (some ⟨W4.heap.size, 0, none⟩) 1 1) (.slice qa 0 qc) log [id] [] := ⟨ol, ov, om, hne⟩
  have KT := fun W (h : Below W5.heap.size W5 W) => l11Term_any id pn (te + 1) id co 1 _ _ _ log [id] [] log.length W (O.below h).er (O.below h).iv (O.below h).im (Nat.le_refl _) nl
  obtain ⟨tb, HTB⟩ : ∃ tb : Int, Hid (tmAt log log.length = tb) := ⟨tmAt log log.length, rfl⟩
  rw [HTB.out] at KT
  have hpb : ((pn : Int) == 1) = false := by simp; omega
  have hz8 : w.heap.size + 1 + 1 ≤ W5.heap.size := by omega
  have hz9 : w.heap.size + 1 + 1 ≤ w1.heap.size := by omega
  clear hz00 hz1 hz2 hz4 hz5 hz6 hz7 hs6 ol om ov hne gl gm lm h1 h2 h1b h2b
  generalize W4.heap.size = gb at *
  obtain ⟨hxl, x0, x1, x2, x3, x4, x5, x6, x7, x8⟩ := X.e9
  go_wp2
  clear hxl x0 x1 x2 x3 x4 x5 x6 x7 x8 hpb
  go_loopw [5, 6] (fun z i wr => ∃ k : Nat, k ≤ pn ∧ i = .int .i64 k ∧ wr.ownsRow W5.heap.size 38 9 z (asksTo id (te + 1) log.length tb k).length (flat9 (asksTo id (te + 1) log.length tb k)) ∧ Below W5.heap.size W5 wr) (fun _ i _ => pn - (intOf i).toNat)
  case atStart => exact ⟨0, Nat.zero_le _, rfl, World.ownsRow_nil _ _ _ _, Below.refl _ _⟩
  case round =>
    obtain ⟨k, hk, rfl, hown, hb⟩ := hrel
    have Xr := X.below hb
    have hzr := hb.size
    clear X
    obtain ⟨za, zc, rfl⟩ := owns_shape hown
    obtain ⟨xl, x0, x1, x2, x3, x4, x5, x6, x7, x8⟩ := Xr.e9
    by_cases hlt : k < pn
    · by_cases hid : (k : Int) = id
      · have HA : Hid (asksTo id (te + 1) log.length tb (k + 1) = asksTo id (te + 1) log.length tb k) := by show _ = _; simp [asksTo, hid]
        have hid2 : ((k : Int) != id) = false := by simp [hid]
        have HO : Hid (wr.ownsRow W5.heap.size 38 9 (.slice za (asksTo id (te + 1) log.length tb k).length zc) (asksTo id (te + 1) log.length tb k).length (flat9 (asksTo id (te + 1) log.length tb k))) := hown
        have hal := asksTo_le id (te + 1) log.length tb k
        generalize asksTo id (te + 1) log.length tb k = az at *
        clear hown KT O Y hB
        go_wp2
        go_roundw
        case rel => exact ⟨k + 1, by omega, by go_num, by rw [HA.out]; exact HO.out, hb⟩
        case measure => simp [intOf]; omega
      · have HA : Hid (asksTo id (te + 1) log.length tb (k + 1) = asksTo id (te + 1) log.length tb k ++ [⟨1, id, k, te + 1, log.length, tb, 0, false⟩]) := by show _ = _; simp [asksTo, hid]
        have hid2 : ((k : Int) != id) = true := by simp [hid]
        have hal := asksTo_le id (te + 1) log.length tb k
        generalize asksTo id (te + 1) log.length tb k = az at *
        clear O Y hB
        go_wp2_with fail
        have hD : Below wr.heap.size wr wr.drew := (Below.refl _ _).drew
        replace Xr := Xr.below hD
        replace hb := below_then hb hD
        replace hown := owns_below hown hD
        have hzc := hD.size
        clear hD xl x0 x1 x2 x3 x4 x5 x6 x7 x8
        refine wp_region_held_drew (S := fun w' => Box w' w.heap.size [.int .i64 id, .int .i64 pn, .int .i64 (te + 1), .int .i64 id, .slice ua log.length uc, .int .i64 co, .int .i64 1, .slice (some ⟨gb, 0, none⟩) 1 1, .slice qa 0 qc]) (by kernel_rfl) Xr (fun hHeld => ?_)
        obtain ⟨cur, hcur⟩ : ∃ cur, cur = wr.drew := ⟨_, rfl⟩
        rw [← hcur] at Xr hb hown hzc ⊢
        clear hcur
        refine wpAnyH_take (i := 0) (oi := { dst := some 50, op := Op.move (Operand.tmp 5), type := 42, pos := "l11_raft.go:136", after := #[], guard := none }) (v := .slice za az.length zc) rfl (by kernel_rfl) (by kernel_rfl) (by kernel_rfl) (fun _ _ _ h => h) (Or.inl ⟨by rfl, ?_⟩) (by assumption) ?_
        · intro wx hSw
          clear hSw hHeld; go_simp
        simp only [Act.put, List.setIfInBounds_toArray, List.set_cons_zero, List.set_cons_succ]
        refine wpAnyH_take (i := 1) (oi := { dst := some 51, op := Op.fieldAddr 26 (Operand.tmp 1) 0, type := 0, pos := "l11_raft.go:136", after := #[], guard := none }) (v := .pointer (some ⟨w.heap.size, 0, none⟩)) rfl (by kernel_rfl) (by kernel_rfl) (by kernel_rfl) (fun _ _ _ h => h) (Or.inl ⟨by rfl, ?_⟩) (by assumption) ?_
        · intro wx hSw
          clear hSw hHeld; go_simp
        simp only [Act.put, List.setIfInBounds_toArray, List.set_cons_zero, List.set_cons_succ]
        refine wpAnyH_take (i := 2) (oi := { dst := some 52, op := Op.load 3 (Operand.tmp 51), type := 3, pos := "l11_raft.go:136", after := #[{ on := 1, ground := Ground.data }], guard := none }) (v := .int .i64 id) rfl (by kernel_rfl) (by kernel_rfl) (by kernel_rfl) (fun _ _ _ h => h) (Or.inl ⟨by rfl, ?_⟩) (by assumption) ?_
        · intro wx hSw
          have e := hSw.2.1 0 _ rfl; clear hHeld; go_simp
        simp only [Act.put, List.setIfInBounds_toArray, List.set_cons_zero, List.set_cons_succ]
        refine wpAnyH_take (i := 3) (oi := { dst := some 53, op := Op.move (Operand.tmp 6), type := 3, pos := "l11_raft.go:136", after := #[], guard := none }) (v := .int .i64 k) rfl (by kernel_rfl) (by kernel_rfl) (by kernel_rfl) (fun _ _ _ h => h) (Or.inl ⟨by rfl, ?_⟩) (by assumption) ?_
        · intro wx hSw
          clear hSw hHeld; go_simp
        simp only [Act.put, List.setIfInBounds_toArray, List.set_cons_zero, List.set_cons_succ]
        refine wpAnyH_take (i := 4) (oi := { dst := some 54, op := Op.fieldAddr 26 (Operand.tmp 1) 2, type := 0, pos := "l11_raft.go:136", after := #[], guard := none }) (v := .pointer (some ⟨w.heap.size, 2, none⟩)) rfl (by kernel_rfl) (by kernel_rfl) (by kernel_rfl) (fun _ _ _ h => h) (Or.inl ⟨by rfl, ?_⟩) (by assumption) ?_
        · intro wx hSw
          clear hSw hHeld; go_simp
        simp only [Act.put, List.setIfInBounds_toArray, List.set_cons_zero, List.set_cons_succ]
        refine wpAnyH_take (i := 5) (oi := { dst := some 55, op := Op.load 3 (Operand.tmp 54), type := 3, pos := "l11_raft.go:136", after := #[{ on := 4, ground := Ground.data }], guard := none }) (v := .int .i64 (te + 1)) rfl (by kernel_rfl) (by kernel_rfl) (by kernel_rfl) (fun _ _ _ h => h) (Or.inl ⟨by rfl, ?_⟩) (by assumption) ?_
        · intro wx hSw
          have e := hSw.2.1 2 _ rfl; clear hHeld; go_simp
        simp only [Act.put, List.setIfInBounds_toArray, List.set_cons_zero, List.set_cons_succ]
        refine wpAnyH_take (i := 6) (oi := { dst := some 56, op := Op.fieldAddr 26 (Operand.tmp 1) 4, type := 0, pos := "l11_raft.go:136", after := #[], guard := none }) (v := .pointer (some ⟨w.heap.size, 4, none⟩)) rfl (by kernel_rfl) (by kernel_rfl) (by kernel_rfl) (fun _ _ _ h => h) (Or.inl ⟨by rfl, ?_⟩) (by assumption) ?_
        · intro wx hSw
          clear hSw hHeld; go_simp
        simp only [Act.put, List.setIfInBounds_toArray, List.set_cons_zero, List.set_cons_succ]
        refine wpAnyH_take (i := 7) (oi := { dst := some 57, op := Op.load 23 (Operand.tmp 56), type := 23, pos := "l11_raft.go:136", after := #[{ on := 6, ground := Ground.data }], guard := none }) (v := .slice ua log.length uc) rfl (by kernel_rfl) (by kernel_rfl) (by kernel_rfl) (fun _ _ _ h => h) (Or.inl ⟨by rfl, ?_⟩) (by assumption) ?_
        · intro wx hSw
          have e := hSw.2.1 4 _ rfl; clear hHeld; go_simp
        simp only [Act.put, List.setIfInBounds_toArray, List.set_cons_zero, List.set_cons_succ]
        refine wpAnyH_take (i := 8) (oi := { dst := some 58, op := Op.call { callee := Callee.builtin Builtin.len, args := #[Operand.tmp 57], argTypes := #[23] }, type := 3, pos := "l11_raft.go:136", after := #[{ on := 7, ground := Ground.data }], guard := none }) (v := .int .i64 log.length) rfl (by kernel_rfl) (by kernel_rfl) (by kernel_rfl) (fun _ _ _ h => h) (Or.inl ⟨by rfl, ?_⟩) (by assumption) ?_
        · intro wx hSw
          clear hSw hHeld; go_simp
        simp only [Act.put, List.setIfInBounds_toArray, List.set_cons_zero, List.set_cons_succ]
        refine wpAnyH_take (i := 9) (oi := { dst := some 59, op := Op.load 26 (Operand.tmp 1), type := 26, pos := "l11_raft.go:136", after := #[], guard := none }) (v := .agg #[.int .i64 id, .int .i64 pn, .int .i64 (te + 1), .int .i64 id, .slice ua log.length uc, .int .i64 co, .int .i64 1, .slice (some ⟨gb, 0, none⟩) 1 1, .slice qa 0 qc]) rfl (by kernel_rfl) (by kernel_rfl) (by kernel_rfl) (fun _ _ _ h => h) (Or.inl ⟨by rfl, ?_⟩) (by assumption) ?_
        · intro wx hSw
          have e0 := hSw.2.1 0 _ rfl; have e1 := hSw.2.1 1 _ rfl; have e2 := hSw.2.1 2 _ rfl; have e3 := hSw.2.1 3 _ rfl; have e4 := hSw.2.1 4 _ rfl; have e5 := hSw.2.1 5 _ rfl; have e6 := hSw.2.1 6 _ rfl; have e7 := hSw.2.1 7 _ rfl; have e8 := hSw.2.1 8 _ rfl; clear hHeld; go_simp
        simp only [Act.put, List.setIfInBounds_toArray, List.set_cons_zero, List.set_cons_succ]
        refine wpAnyH_take (i := 10) (oi := { dst := some 60, op := Op.fieldAddr 26 (Operand.tmp 1) 4, type := 0, pos := "l11_raft.go:136", after := #[], guard := none }) (v := .pointer (some ⟨w.heap.size, 4, none⟩)) rfl (by kernel_rfl) (by kernel_rfl) (by kernel_rfl) (fun _ _ _ h => h) (Or.inl ⟨by rfl, ?_⟩) (by assumption) ?_
        · intro wx hSw
          clear hSw hHeld; go_simp
        simp only [Act.put, List.setIfInBounds_toArray, List.set_cons_zero, List.set_cons_succ]
        refine wpAnyH_take (i := 11) (oi := { dst := some 61, op := Op.load 23 (Operand.tmp 60), type := 23, pos := "l11_raft.go:136", after := #[{ on := 10, ground := Ground.data }], guard := none }) (v := .slice ua log.length uc) rfl (by kernel_rfl) (by kernel_rfl) (by kernel_rfl) (fun _ _ _ h => h) (Or.inl ⟨by rfl, ?_⟩) (by assumption) ?_
        · intro wx hSw
          have e := hSw.2.1 4 _ rfl; clear hHeld; go_simp
        simp only [Act.put, List.setIfInBounds_toArray, List.set_cons_zero, List.set_cons_succ]
        refine wpAnyH_take (i := 12) (oi := { dst := some 62, op := Op.call { callee := Callee.builtin Builtin.len, args := #[Operand.tmp 61], argTypes := #[23] }, type := 3, pos := "l11_raft.go:136", after := #[{ on := 11, ground := Ground.data }], guard := none }) (v := .int .i64 log.length) rfl (by kernel_rfl) (by kernel_rfl) (by kernel_rfl) (fun _ _ _ h => h) (Or.inl ⟨by rfl, ?_⟩) (by assumption) ?_
        · intro wx hSw
          clear hSw hHeld; go_simp
        simp only [Act.put, List.setIfInBounds_toArray, List.set_cons_zero, List.set_cons_succ]
        refine wpAnyH_ready (rs := [13]) (by kernel_rfl) (by simp) ?_
        refine AllReadyH.cons (o := { dst := some 63, op := Op.call { callee := Callee.value (Operand.func 69), args := #[Operand.tmp 59, Operand.tmp 62], argTypes := #[26, 3] }, type := 3, pos := "l11_raft.go:136", after := #[{ on := 9, ground := Ground.data }, { on := 12, ground := Ground.data }], guard := none }) rfl (fun K hK => ?_) AllReadyH.nil
        clear hHeld
        go_simp
        refine (KT _ hb).mono ?_
        rintro e nw ⟨rfl, hb1⟩
        replace Xr := Xr.below hb1
        replace hb := below_then hb hb1
        replace hown := owns_below hown hb1
        replace hzc := Nat.le_trans hzc hb1.size
        clear hb1 KT
        refine hK.out _ _ Xr (fun hHeld => ?_)
        clear hK K
        generalize nw = cur at *
        refine wpAnyH_take (i := 14) (oi := { dst := some 64, op := Op.build 38 #[(0, Operand.const (Value.int IntKind.i64 1)), (1, Operand.tmp 52), (2, Operand.tmp 53), (3, Operand.tmp 55), (4, Operand.tmp 58), (5, Operand.tmp 63)], type := 38, pos := "l11_raft.go:136", after := #[{ on := 2, ground := Ground.data }, { on := 3, ground := Ground.data }, { on := 5, ground := Ground.data }, { on := 8, ground := Ground.data }, { on := 13, ground := Ground.data }], guard := none }) (v := .agg #[.int .i64 1, .int .i64 id, .int .i64 k, .int .i64 (te + 1), .int .i64 log.length, .int .i64 tb, .slice none 0 0, .int .i64 0, .bool false]) rfl (by kernel_rfl) (by kernel_rfl) (by kernel_rfl) (fun _ _ _ h => h) (Or.inl ⟨by rfl, ?_⟩) (by assumption) ?_
        · intro wx hSw
          clear hSw hHeld; go_simp
        simp only [Act.put, List.setIfInBounds_toArray, List.set_cons_zero, List.set_cons_succ]
        refine wpAnyH_ready (rs := [15]) (by kernel_rfl) (by simp) ?_
        refine AllReadyH.cons (o := { dst := some 65, op := Op.buildSlice 42 1 #[(0, Operand.tmp 64)], type := 42, pos := "l11_raft.go:136", after := #[{ on := 14, ground := Ground.data }], guard := none }) rfl (fun K hK => ?_) AllReadyH.nil
        clear hHeld
        have BA := below_alloc cur (.cells #[.int .i64 1, .int .i64 id, .int .i64 k, .int .i64 (te + 1), .int .i64 log.length, .int .i64 tb, .slice none 0 0, .int .i64 0, .bool false] 38)
        have MB := Box.new cur #[.int .i64 1, .int .i64 id, .int .i64 k, .int .i64 (te + 1), .int .i64 log.length, .int .i64 tb, .slice none 0 0, .int .i64 0, .bool false] 38
        have hzq := hb.size
        replace Xr := Xr.below BA
        replace hb := below_then hb BA
        replace hown := owns_below hown BA
        replace hzc := Nat.le_trans hzc BA.size
        clear BA
        go_simp
        refine hK.out _ _ Xr (fun hHeld => ?_)
        clear hK K
        generalize hms : cur.heap.size = ms at *
        generalize cur.alloc (.cells #[.int .i64 1, .int .i64 id, .int .i64 k, .int .i64 (te + 1), .int .i64 log.length, .int .i64 tb, .slice none 0 0, .int .i64 0, .bool false] 38) = cur at *
        clear hms
        refine wpAnyH_ready (rs := [16]) (by kernel_rfl) (by simp) ?_
        refine AllReadyH.cons (o := { dst := some 66, op := Op.call { callee := Callee.builtin Builtin.append, args := #[Operand.tmp 50, Operand.tmp 65], argTypes := #[42, 42] }, type := 42, pos := "l11_raft.go:136", after := #[{ on := 0, ground := Ground.data }, { on := 15, ground := Ground.data }, { on := 13, ground := Ground.chain }], guard := none }) rfl (fun K hK => ?_) AllReadyH.nil
        clear hHeld
        refine wp_append_msg _ _ _ rfl rfl W5.heap.size _ az.length az rfl hown ms ⟨1, id, k, te + 1, log.length, tb, 0, false⟩ rfl MB (by omega) (by omega) ?_
        intro u nw hown2 hgr
        have gl := owns_ge hown
        have hb4 : Below W5.heap.size cur nw := (Below.refl _ _).grown hgr (by omega) (fun k hk => gl k hk)
        replace Xr := Xr.under hb4 (by omega)
        replace hb := hb.trans hb4
        obtain ⟨ua', uc', rfl⟩ := owns_shape hown2
        clear hown hgr gl hb4 MB
        refine hK.out _ _ Xr (fun hHeld => ?_)
        clear hK K
        have hown := hown2
        clear hown2
        generalize nw = cur at *
        refine wpAnyH_take (i := 17) (oi := { dst := some 5, op := Op.assign (Operand.tmp 66), type := 42, pos := "l11_raft.go:136", after := #[{ on := 16, ground := Ground.data }, { on := 16, ground := Ground.chain }, { on := 0, ground := Ground.phase }, { on := 1, ground := Ground.phase }, { on := 2, ground := Ground.phase }, { on := 3, ground := Ground.phase }, { on := 4, ground := Ground.phase }, { on := 5, ground := Ground.phase }, { on := 6, ground := Ground.phase }, { on := 7, ground := Ground.phase }, { on := 8, ground := Ground.phase }, { on := 9, ground := Ground.phase }, { on := 10, ground := Ground.phase }, { on := 11, ground := Ground.phase }, { on := 12, ground := Ground.phase }, { on := 13, ground := Ground.phase }, { on := 14, ground := Ground.phase }, { on := 15, ground := Ground.phase }, { on := 16, ground := Ground.phase }], guard := none }) (v := .slice ua' (az.length + 1) uc') rfl (by kernel_rfl) (by kernel_rfl) (by kernel_rfl) (fun _ _ _ h => h) (Or.inl ⟨by rfl, ?_⟩) (by assumption) ?_
        · intro wx hSw
          clear hSw hHeld; go_simp
        simp only [Act.put, List.setIfInBounds_toArray, List.set_cons_zero, List.set_cons_succ]
        clear hHeld Xr
        refine wpAnyH_done (by kernel_rfl) ?_ _
        go_wp2
        go_roundw
        case rel => exact ⟨k + 1, by omega, by go_num, by rw [HA.out, List.length_append]; exact hown, hb⟩
        case measure => simp [intOf]; omega
    · obtain rfl : k = pn := by omega
      have hBr := below_then hB hb
      have Yr := Y.below hb
      have Or' := O.below hb
      clear KT hB hb Y O
      have hC := put9_chg wr (w.heap.size + 1) (.int .i64 id) (.int .i64 k) (.int .i64 (te + 1)) (.int .i64 id) (.slice ua log.length uc) (.int .i64 co) (.int .i64 1) (.slice (some ⟨gb, 0, none⟩) 1 1) (.slice qa 0 qc)
      have Z := put9_box Yr (.int .i64 id) (.int .i64 k) (.int .i64 (te + 1)) (.int .i64 id) (.slice ua log.length uc) (.int .i64 co) (.int .i64 1) (.slice (some ⟨gb, 0, none⟩) 1 1) (.slice qa 0 qc)
      have gO := owns_ge hown
      have o9 := hC.owns (owns_mono' hown (show w.heap.size ≤ W5.heap.size from by omega)) (fun b hb hh => by have := gO b hb; have hh : b = w.heap.size + 1 := hh; omega)
      have lO := fun b hb => (Or'.lt b hb).1
      have O8 := (Or'.chg hC (fun b hb hh => by have := lO b hb; have hh : b = w.heap.size + 1 := hh; omega)).mono (show w.heap.size ≤ w1.heap.size from by omega)
      have hBE := hBr.trans (hC.below (B := w.heap.size) hBr.size (fun k hk => by have hk : k = w.heap.size + 1 := hk; omega))
      obtain ⟨ql, q0, q1, q2, q3, q4, q5, q6, q7, q8⟩ := Yr.e9
      obtain ⟨k0, k1, k2, k3, k4, k5, k6, k7, k8⟩ := Yr.f9
      clear hC hown Or' hBr Yr gO lO
      obtain ⟨hzl, t0, t1, t2, t3, t4, t5, t6, t7, t8⟩ := Z.e9
      clear Z
      unfold put9 at *
      go_wp2
      exact bodyPost_ret (v := .tuple #[.agg #[.int .i64 id, .int .i64 k, .int .i64 (te + 1), .int .i64 id, .slice ua log.length uc, .int .i64 co, .int .i64 1, .slice (some ⟨gb, 0, none⟩) 1 1, .slice qa 0 qc], .slice za (asksTo id (te + 1) log.length tb k).length zc, .bool true]) (by simp [results, Try.results24, go_sem, t0, t1, t2, t3, t4, t5, t6, t7, t8]) rfl ⟨_, _, _, _, rfl, O8, by rw [HTB.out]; exact o9, hBE⟩
end Go.Proofs.Ytapfhhmimkkhnaa
