/-
  AppendFor: the program's side.
-/
import Derived.Test.YtoaponagdfgfeaaF5
import Derived.Deep.Cut
namespace Go.Proofs.Ytoaponagdfgfeaa
open Go.RowKit Go.Maps
set_option linter.unusedVariables false
set_option maxRecDepth 100000

theorem sl_from2 (w : World) (a : Option Addr) (cap p : Nat) (zs : List En) (h : ER w (.slice a zs.length cap) zs) (hc : zs.length ≤ cap) (hp : p ≤ zs.length) : ∃ a2, (a2 = none → a = none) ∧ (∀ w, (Instr.sliceAt 23 (.slice a zs.length cap) (some (.int .i64 p)) none none).run Try.prog w = .ok (.slice a2 (zs.length - p) (cap - p)) w) ∧ ER w (.slice a2 (zs.length - p) (cap - p)) (zs.drop p) := by
  refine ⟨if cap = p then a else a.map (fun x => x.add (p * 2)), fun h => by (by_cases e : cap = p); (rw [if_pos e] at h; exact h); (rw [if_neg e] at h; simpa using h), fun w => ?_, ?_⟩
  · have h1 : (p : Int) ≤ (zs.length : Int) := by omega
    have h2 : (0 : Int) ≤ (p : Int) := by omega
    have hA : (Instr.sliceAt 23 (.slice a zs.length cap) (some (.int .i64 p)) none none).run Try.prog w = (Instr.slice 23 (.slice a zs.length cap) (some (.int .i64 p)) none none).run Try.prog w := by simp [Instr.sliceAt, run_underlying Try.underlying23]
    rw [hA]
    simp [Instr.slice, Instr.sliceBounds, Instr.sliceBound, asIntOf, run_underlying Try.underlying23, hp, h2, Try.sizeOf51]
  · obtain ⟨a', c', he, hcc⟩ := h
    simp only [Value.slice.injEq, true_and] at he
    obtain ⟨rfl, rfl⟩ := he
    refine ⟨_, _, by rw [List.length_drop], fun hne => ?_⟩
    have hlt : p < zs.length := by
      rcases Nat.lt_or_ge p zs.length with h | h
      · exact h
      · exact absurd (List.drop_eq_nil_of_le h) hne
    obtain ⟨b, off, rfl, hb, hcell⟩ := hcc (by intro e; rw [e] at hlt; simp at hlt)
    rw [if_neg (by omega)]
    refine ⟨b, off + p * 2, by simp [Addr.add], hb, fun i hi => ?_⟩
    rw [List.getElem_drop]
    rw [List.length_drop] at hi
    have hq := hcell (p + i) (by omega)
    rw [show off + (p + i) * 2 = off + p * 2 + i * 2 from by omega] at hq
    exact hq
set_option maxHeartbeats 8000000 in
theorem implAF_any (id pe te vo co ro : Int) (vl vv vm : Value) (log : List En) (vs mt : List Int) (peer many : Int) (base : Nat) (w : World) (ho : OwnN w base vl vv vm log vs mt) (nl : log.length ≤ 1048576) (nv : vs.length ≤ 1048576) (nm : mt.length ≤ 1048576) (ns : ∀ i (h : i < log.length), log[i].d.size ≤ 1048576) :
    Calls Try.prog 32 #[.agg #[.int .i64 id, .int .i64 pe, .int .i64 te, .int .i64 vo, vl, .int .i64 co, .int .i64 ro, vv, vm], .int .i64 peer, .int .i64 many] w fun e w' => ∃ ue, e = .returned (.tuple #[.agg #[.int .i64 (afM (afOk (goodN id pe te vo co ro log vs mt) id pe ro peer many) id te co peer many log mt).ki, .int .i64 (afM (afOk (goodN id pe te vo co ro log vs mt) id pe ro peer many) id te co peer many log mt).fr, .int .i64 (afM (afOk (goodN id pe te vo co ro log vs mt) id pe ro peer many) id te co peer many log mt).dst, .int .i64 (afM (afOk (goodN id pe te vo co ro log vs mt) id pe ro peer many) id te co peer many log mt).te, .int .i64 (afM (afOk (goodN id pe te vo co ro log vs mt) id pe ro peer many) id te co peer many log mt).ix, .int .i64 (afM (afOk (goodN id pe te vo co ro log vs mt) id pe ro peer many) id te co peer many log mt).be, ue, .int .i64 (afM (afOk (goodN id pe te vo co ro log vs mt) id pe ro peer many) id te co peer many log mt).co, .bool (afM (afOk (goodN id pe te vo co ro log vs mt) id pe ro peer many) id te co peer many log mt).ye], .bool (afOk (goodN id pe te vo co ro log vs mt) id pe ro peer many)]) ∧ w'.ownsRow w.heap.size 51 2 ue (afM (afOk (goodN id pe te vo co ro log vs mt) id pe ro peer many) id te co peer many log mt).es.length (flat2 (afM (afOk (goodN id pe te vo co ro log vs mt) id pe ro peer many) id te co peer many log mt).es) ∧ Below w.heap.size w w' := by
  obtain ⟨W0, hW0⟩ : ∃ W0, W0 = (w.alloc (.cells #[.int .i64 id, .int .i64 pe, .int .i64 te, .int .i64 vo, vl, .int .i64 co, .int .i64 ro, vv, vm] 26)).alloc (.cells #[.int .i64 0, .int .i64 0, .int .i64 0, .int .i64 0, .int .i64 0, .int .i64 0, .slice none 0 0, .int .i64 0, .bool false] 28) := ⟨_, rfl⟩
  have hB : Below w.heap.size w W0 := by rw [hW0]; exact below2 _ _ _
  have hz00 : w.heap.size + 1 + 1 ≤ W0.heap.size := by rw [hW0]; simp
  have X : Box W0 w.heap.size [.int .i64 id, .int .i64 pe, .int .i64 te, .int .i64 vo, vl, .int .i64 co, .int .i64 ro, vv, vm] := by rw [hW0]; exact (Box.new w #[.int .i64 id, .int .i64 pe, .int .i64 te, .int .i64 vo, vl, .int .i64 co, .int .i64 ro, vv, vm] 26).alloc _
  have Y : Box W0 (w.heap.size + 1) [.int .i64 0, .int .i64 0, .int .i64 0, .int .i64 0, .int .i64 0, .int .i64 0, .slice none 0 0, .int .i64 0, .bool false] := by
    rw [hW0]
    have := Box.new (w.alloc (.cells #[.int .i64 id, .int .i64 pe, .int .i64 te, .int .i64 vo, vl, .int .i64 co, .int .i64 ro, vv, vm] 26)) #[.int .i64 0, .int .i64 0, .int .i64 0, .int .i64 0, .int .i64 0, .int .i64 0, .slice none 0 0, .int .i64 0, .bool false] 28
    simpa using this
  have ho0 := ho.below hB
  have K := implGoodN_any id pe te vo co ro vl vv vm log vs mt _ ho0.er ho0.iv ho0.im nl nv nm ns
  have E1 := fun W (h : Below w.heap.size w W) => (ho.below h).er
  have E2 := fun W (h : Below w.heap.size w W) => (ho.below h).iv
  have E3 := fun W (h : Below w.heap.size w W) => (ho.below h).im
  have N1 := ho.nns.1
  have HG : goodN id pe te vo co ro log vs mt = true → ro = 2 → 0 ≤ id ∧ id < pe ∧ (mt.length : Int) = pe := fun h h2 => by rw [h2] at h; exact goodN_lead h
  have HT : goodN id pe te vo co ro log vs mt = true → ro = 2 → ∀ i (hi : i < mt.length), 0 ≤ mt[i] ∧ mt[i] ≤ (log.length : Int) := fun h h2 => by rw [h2] at h; exact goodN_mt h
  have HP : goodN id pe te vo co ro log vs mt = true → 1 ≤ pe ∧ pe ≤ 7 := fun h => by rw [goodN_spec] at h; simp [inB] at h; omega
  generalize goodN id pe te vo co ro log vs mt = g at *
  obtain ⟨⟨la, lc, rfl⟩, ⟨va, vc, rfl⟩, ma, mc, rfl⟩ := ho.shapes
  have hcap := (owns_cap ho.l).1
  clear ns ho0 ho
  have hok : (afOk g id pe ro peer many = true ∧ g = true ∧ ro = 2 ∧ isP peer pe = true ∧ ¬ peer = id ∧ 0 ≤ many ∧ many ≤ 60) ∨ (afOk g id pe ro peer many = false ∧ (g = false ∨ (g = true ∧ (¬ ro = 2 ∨ (ro = 2 ∧ (isP peer pe = false ∨ (isP peer pe = true ∧ (peer = id ∨ (¬ peer = id ∧ (many < 0 ∨ (0 ≤ many ∧ 60 < many))))))))))) := by
    unfold afOk
    generalize isP peer pe = b
    cases g
    · exact .inr ⟨rfl, .inl rfl⟩
    · by_cases h1 : ro = 2
      · cases b
        · exact .inr ⟨by simp, .inr ⟨rfl, .inr ⟨h1, .inl rfl⟩⟩⟩
        · by_cases h2 : peer = id
          · exact .inr ⟨by simp [h2], .inr ⟨rfl, .inr ⟨h1, .inr ⟨rfl, .inl h2⟩⟩⟩⟩
          · by_cases h3 : 0 ≤ many
            · by_cases h4 : many ≤ 60
              · exact .inl ⟨by simp [h1, h2, h3, h4], rfl, h1, rfl, h2, h3, h4⟩
              · exact .inr ⟨by simp [h1, h2]; omega, .inr ⟨rfl, .inr ⟨h1, .inr ⟨rfl, .inr ⟨h2, .inr ⟨h3, by omega⟩⟩⟩⟩⟩⟩
            · exact .inr ⟨by simp [h1, h2]; omega, .inr ⟨rfl, .inr ⟨h1, .inr ⟨rfl, .inr ⟨h2, .inl (by omega)⟩⟩⟩⟩⟩
      · exact .inr ⟨by simp [h1], .inr ⟨rfl, .inl h1⟩⟩
  have KP := fun W => isPeer_any peer pe W
  rcases hok with ⟨he, rfl, rfl, hp, hne, hm0, hm1⟩ | ⟨he, hcs⟩
  rotate_left
  · rw [he]
    show Calls Try.prog 32 _ w fun e w' => ∃ ue, e = .returned (.tuple #[.agg #[.int .i64 0, .int .i64 0, .int .i64 0, .int .i64 0, .int .i64 0, .int .i64 0, ue, .int .i64 0, .bool false], .bool false]) ∧ w'.ownsRow w.heap.size 51 2 ue 0 (flat2 []) ∧ Below w.heap.size w w'
    clear he HG HT HP E1 E2 E3 N1
    generalize isP peer pe = bp at *
    go_enter Try.func32, Try.ntmps32
    go_wp2_with fail
    rw [← hW0]; clear hW0
    refine K.mono ?_
    rintro e w1 ⟨rfl, hb⟩
    replace hB := below_then hB hb
    replace Y := Y.below hb
    replace X := X.below hb
    clear K hb
    have hC := put9_chg w1 (w.heap.size + 1) (.int .i64 0) (.int .i64 0) (.int .i64 0) (.int .i64 0) (.int .i64 0) (.int .i64 0) (.slice none 0 0) (.int .i64 0) (.bool false)
    have Z := put9_box Y (.int .i64 0) (.int .i64 0) (.int .i64 0) (.int .i64 0) (.int .i64 0) (.int .i64 0) (.slice none 0 0) (.int .i64 0) (.bool false)
    have hBE := hB.trans (hC.below (B := w.heap.size) hB.size (fun k hk => by have hk : k = w.heap.size + 1 := hk; omega))
    obtain ⟨hxl, x0, x1, x2, x3, x4, x5, x6, x7, x8⟩ := X.e9
    obtain ⟨hyl, y0, y1, y2, y3, y4, y5, y6, y7, y8⟩ := Y.e9
    obtain ⟨f0, f1, f2, f3, f4, f5, f6, f7, f8⟩ := Y.f9
    obtain ⟨hzl, t0, t1, t2, t3, t4, t5, t6, t7, t8⟩ := Z.e9
    clear Z hC hB Y X
    unfold put9 at *
    rcases hcs with rfl | ⟨rfl, hcs⟩
    · clear KP
      go_wp2
      exact bodyPost_ret (v := .tuple #[.agg #[.int .i64 0, .int .i64 0, .int .i64 0, .int .i64 0, .int .i64 0, .int .i64 0, .slice none 0 0, .int .i64 0, .bool false], .bool false]) (by simp [results, Try.results32, go_sem, t0, t1, t2, t3, t4, t5, t6, t7, t8]) rfl ⟨_, rfl, World.ownsRow_nil _ _ _ _, hBE⟩
    rcases hcs with h1 | ⟨rfl, hcs⟩
    · have h1b : (ro != 2) = true := by simp [h1]
      clear KP
      go_wp2
      exact bodyPost_ret (v := .tuple #[.agg #[.int .i64 0, .int .i64 0, .int .i64 0, .int .i64 0, .int .i64 0, .int .i64 0, .slice none 0 0, .int .i64 0, .bool false], .bool false]) (by simp [results, Try.results32, go_sem, t0, t1, t2, t3, t4, t5, t6, t7, t8]) rfl ⟨_, rfl, World.ownsRow_nil _ _ _ _, hBE⟩
    go_wp2_with fail
    refine (KP _).mono ?_
    rintro e w2 ⟨rfl, hw⟩
    subst hw
    clear KP
    rcases hcs with rfl | ⟨rfl, hcs⟩
    · skip
      go_wp2
      exact bodyPost_ret (v := .tuple #[.agg #[.int .i64 0, .int .i64 0, .int .i64 0, .int .i64 0, .int .i64 0, .int .i64 0, .slice none 0 0, .int .i64 0, .bool false], .bool false]) (by simp [results, Try.results32, go_sem, t0, t1, t2, t3, t4, t5, t6, t7, t8]) rfl ⟨_, rfl, World.ownsRow_nil _ _ _ _, hBE⟩
    rcases hcs with rfl | ⟨h2, hcs⟩
    · skip
      go_wp2
      exact bodyPost_ret (v := .tuple #[.agg #[.int .i64 0, .int .i64 0, .int .i64 0, .int .i64 0, .int .i64 0, .int .i64 0, .slice none 0 0, .int .i64 0, .bool false], .bool false]) (by simp [results, Try.results32, go_sem, t0, t1, t2, t3, t4, t5, t6, t7, t8]) rfl ⟨_, rfl, World.ownsRow_nil _ _ _ _, hBE⟩
    have h2b : (peer == id) = false := by simp [h2]
    rcases hcs with h3 | ⟨h3, h4⟩
    · skip
      go_wp2
      exact bodyPost_ret (v := .tuple #[.agg #[.int .i64 0, .int .i64 0, .int .i64 0, .int .i64 0, .int .i64 0, .int .i64 0, .slice none 0 0, .int .i64 0, .bool false], .bool false]) (by simp [results, Try.results32, go_sem, t0, t1, t2, t3, t4, t5, t6, t7, t8]) rfl ⟨_, rfl, World.ownsRow_nil _ _ _ _, hBE⟩
    · have h3b : ¬ many < 0 := by omega
      go_wp2
      exact bodyPost_ret (v := .tuple #[.agg #[.int .i64 0, .int .i64 0, .int .i64 0, .int .i64 0, .int .i64 0, .int .i64 0, .slice none 0 0, .int .i64 0, .bool false], .bool false]) (by simp [results, Try.results32, go_sem, t0, t1, t2, t3, t4, t5, t6, t7, t8]) rfl ⟨_, rfl, World.ownsRow_nil _ _ _ _, hBE⟩
  obtain ⟨i0, i1, hmp⟩ := HG rfl rfl
  have hpp : 0 ≤ peer ∧ peer < pe := by simp [isP] at hp; omega
  obtain ⟨p, rfl⟩ := Int.eq_ofNat_of_zero_le hpp.1
  have hpl : p < mt.length := by omega
  obtain ⟨a0, a1⟩ := HT rfl rfl p hpl
  obtain ⟨m, rfl⟩ := Int.eq_ofNat_of_zero_le hm0
  rw [he]
  have hgd : mt.getD p 0 = mt[p] := getI_at mt p hpl
  show Calls Try.prog 32 _ w fun e w' => ∃ ue, e = .returned (.tuple #[.agg #[.int .i64 3, .int .i64 id, .int .i64 p, .int .i64 te, .int .i64 (mt.getD p 0), .int .i64 (tmAt log (mt.getD p 0).toNat), ue, .int .i64 co, .bool false], .bool true]) ∧ w'.ownsRow w.heap.size 51 2 ue (afE log (mt.getD p 0).toNat m).length (flat2 (afE log (mt.getD p 0).toNat m)) ∧ Below w.heap.size w w'
  rw [hgd]
  obtain ⟨a, ha⟩ := Int.eq_ofNat_of_zero_le a0
  have hx := E3 _ hB
  obtain ⟨ma2, mc2, hme, hmc⟩ := hx
  simp only [Value.slice.injEq, true_and] at hme
  obtain ⟨rfl, rfl⟩ := hme
  obtain ⟨bm, om, rfl, hbm, hcm⟩ := hmc (by intro e; rw [e] at hpl; simp at hpl)
  have hcp := hcm p hpl
  rw [ha] at a1 hcp ⊢
  rw [Int.toNat_natCast]
  have hal : a ≤ log.length := by omega
  clear hcm hmc ha a0 hgd he HG HT HP hp hmp
  have KT := fun W (h : Below w.heap.size w W) => termAt_any id pe te vo co 2 _ _ _ log vs mt a W (E1 W h) (E2 W h) (E3 W h) hal nl
  have MT := fun W => messageTo_any id pe te vo co 2 (p : Int) 3 (.slice la log.length lc) (.slice va vs.length vc) (.slice (some ⟨bm, om, none⟩) mt.length mc) W
  have KP2 : ∀ W, Calls Try.prog 79 #[.int .i64 p, .int .i64 pe] W fun e w' => e = .returned (.bool true) ∧ w' = W := fun W => by
    have := KP W
    rw [show isP (p : Int) pe = true from by simp [isP]; omega] at this
    exact this
  obtain ⟨n, hn⟩ : ∃ n, n = min m (log.length - a) := ⟨_, rfl⟩
  have hnl : n ≤ log.length - a := by omega
  obtain ⟨L, HL⟩ : ∃ L, Hid (afE log a m = L) := ⟨afE log a m, rfl⟩
  have hLe : L = (log.drop a).take n := by rw [← HL.out, hn]; rfl
  have hLl : L.length = n := by rw [hLe, List.length_take, List.length_drop]; omega
  have hdl : (log.drop a).length = log.length - a := by simp
  obtain ⟨a2, HA2, HS1, _⟩ := sl_from2 W0 la lc a log (E1 W0 hB) hcap hal
  have HS2 := fun W => sl_to a2 (log.length - a) (lc - a) n W (by omega)
  have HE2 : ∀ W, Below w.heap.size w W → ER W (.slice a2 n (lc - a)) L := fun W h => by
    obtain ⟨a3, h3, h4⟩ := sl_from W la lc a log (E1 W h) hcap hal
    have e1 := HS1 W
    have e2 := h3 W
    rw [e1] at e2
    simp only [Result.ok.injEq, Value.slice.injEq, and_true] at e2
    subst e2
    rw [hLe]
    have := ER_to (zs := log.drop a) (a := a2) (cap := lc - a) (p := n) (by rw [hdl]; exact h4) (by omega)
    exact this
  have HN2 : Nn (.slice a2 n (lc - a)) := by
    intro x y hxy
    simp only [Value.slice.injEq] at hxy
    obtain ⟨h1, h2, h3⟩ := hxy
    have hla := HA2 h1
    subst hla
    have := N1 _ _ rfl
    omega
  have CL := fun W (h : Below w.heap.size w W) => cloneE_any (.slice a2 n (lc - a)) L W (HE2 W h) HN2 (by omega)
  have hcap1 : a ≤ lc := by omega
  obtain ⟨tb, HTB⟩ : ∃ tb : Int, Hid (tmAt log a = tb) := ⟨tmAt log a, rfl⟩
  rw [HTB.out] at KT
  have hneb : ((p : Int) == id) = false := by simp [hne]
  have hm2 : ¬ (m : Int) < 0 := by omega
  have hm3 : ¬ (60 : Int) < (m : Int) := by omega
  have HLL : Hid (L.length = n) := hLl
  have hcs : (n = m ∧ m ≤ log.length - a) ∨ (n = log.length - a ∧ log.length - a < m) := by omega
  clear E1 E2 E3 HE2 HN2 N1 HA2 KP hLe hLl hdl hn hcap hne i0 i1 hpp hm0 hm1
  rcases hcs with ⟨rfl, hmn⟩ | ⟨rfl, hmn⟩
  · have hmi : (n : Int) ≤ ((log.length - a : Nat) : Int) := by omega
    go_enter Try.func32, Try.ntmps32
    go_wp2_with fail
    rw [← hW0]; clear hW0
    refine K.mono ?_
    rintro e w1 ⟨rfl, hb⟩
    replace hB := below_then hB hb
    replace Y := Y.below hb
    replace X := X.below hb
    replace hcp := (hb.cell (p := ⟨bm, om + p, none⟩) hbm).trans hcp
    have hz1 := hb.size
    clear K hb
    obtain ⟨hxl, x0, x1, x2, x3, x4, x5, x6, x7, x8⟩ := X.e9
    go_wp2_with fail
    refine (KP2 _).mono ?_
    rintro e w1' ⟨rfl, hw⟩
    subst hw
    clear KP2
    go_wp2_with fail
    refine (MT _).mono ?_
    rintro e w2 ⟨rfl, hb⟩
    replace hB := below_then hB hb
    replace Y := Y.below hb
    replace X := X.below hb
    replace hcp := (hb.cell (p := ⟨bm, om + p, none⟩) (by show bm < _; omega)).trans hcp
    have hz2 := hb.size
    clear MT hb hxl x0 x1 x2 x3 x4 x5 x6 x7 x8
    obtain ⟨hxl, x0, x1, x2, x3, x4, x5, x6, x7, x8⟩ := X.e9
    have hbm2 : bm < w2.heap.size := by omega
    have BA := below_alloc w2 (.cells #[.int .i64 3, .int .i64 id, .int .i64 p, .int .i64 te, .int .i64 a, .int .i64 0, .slice none 0 0, .int .i64 0, .bool false] 28)
    have MB := Box.new w2 #[.int .i64 3, .int .i64 id, .int .i64 p, .int .i64 te, .int .i64 a, .int .i64 0, .slice none 0 0, .int .i64 0, .bool false] 28
    have hBa := below_then hB BA
    go_wp2_with fail
    refine (KT _ hBa).mono ?_
    rintro e w3 ⟨rfl, hb⟩
    replace hB := below_then hBa hb
    replace Y := (Y.below BA).below hb
    replace X := (X.below BA).below hb
    replace MB := MB.below hb
    have hz3 := hb.size
    simp only [World.size_alloc] at hz3
    clear KT hb BA hBa hxl x0 x1 x2 x3 x4 x5 x6 x7 x8 hcp
    obtain ⟨hxl, x0, x1, x2, x3, x4, x5, x6, x7, x8⟩ := X.e9
    obtain ⟨hml, m0, m1, m2, m3, m4, m5, m6, m7, m8⟩ := MB.e9
    obtain ⟨e0, e1, e2, e3, e4, e5, e6, e7, e8⟩ := MB.f9
    go_upto_region 6 with fail
    obtain ⟨W3, hW3⟩ : ∃ W3, W3 = w3.setCell ⟨w2.heap.size, 5, none⟩ (.int .i64 tb) := ⟨_, rfl⟩
    have hC : Chg (fun k => k = w2.heap.size) w3 W3 := by rw [hW3]; exact Chg.setCell (S := fun k => k = w2.heap.size) (Chg.refl _ _) rfl _
    have M3 : Box W3 w2.heap.size [.int .i64 3, .int .i64 id, .int .i64 p, .int .i64 te, .int .i64 a, .int .i64 tb, .slice none 0 0, .int .i64 0, .bool false] := by rw [hW3]; exact MB.set 5 _ (by simp)
    have X3 := hC.box X (by omega)
    have Y3 := hC.box Y (by omega)
    have hB3 := hB.trans (hC.below (B := w.heap.size) hB.size (fun k hk => by have hk : k = w2.heap.size := hk; omega))
    have hzW : w3.heap.size ≤ W3.heap.size := hC.size
    rw [← hW3]
    clear hW3 hC MB X Y hB hxl x0 x1 x2 x3 x4 x5 x6 x7 x8 hml m0 m1 m2 m3 m4 m5 m6 m7 m8 e0 e1 e2 e3 e4 e5 e6 e7 e8
    obtain ⟨hxl, x0, x1, x2, x3, x4, x5, x6, x7, x8⟩ := X3.e9
    obtain ⟨hml, m0, m1, m2, m3, m4, m5, m6, m7, m8⟩ := M3.e9
    go_wp2_with (first | (refine wpList_sliceOp _ rfl 23 _ _ _ _ rfl _ (HS1 _) ?_; simp only [Act.put, List.setIfInBounds_toArray, List.set_cons_zero, List.set_cons_succ]) | (refine wpList_sliceOp _ rfl 23 _ _ _ _ rfl _ (HS2 _) ?_; simp only [Act.put, List.setIfInBounds_toArray, List.set_cons_zero, List.set_cons_succ]))
    refine (CL _ hB3).mono ?_
    rintro e w4 ⟨u, rfl, O, hb⟩
    replace hB3 := below_then hB3 hb
    replace Y3 := Y3.below hb
    replace X3 := X3.below hb
    replace M3 := M3.below hb
    obtain ⟨ua, uc, rfl⟩ := owns_shape O
    have gO := owns_ge O
    have hz4 := hb.size
    clear CL hb HS1 HS2 hxl x0 x1 x2 x3 x4 x5 x6 x7 x8 hml m0 m1 m2 m3 m4 m5 m6 m7 m8
    obtain ⟨hxl, x0, x1, x2, x3, x4, x5, x6, x7, x8⟩ := X3.e9
    obtain ⟨hml, m0, m1, m2, m3, m4, m5, m6, m7, m8⟩ := M3.e9
    have e6 := M3.2.2 6
    have e7 := M3.2.2 7
    go_upto_region 9 with fail
    obtain ⟨W4, hW4⟩ : ∃ W4, W4 = (w4.setCell ⟨w2.heap.size, 6, none⟩ (.slice ua L.length uc)).setCell ⟨w2.heap.size, 7, none⟩ (.int .i64 co) := ⟨_, rfl⟩
    have hC : Chg (fun k => k = w2.heap.size) w4 W4 := by rw [hW4]; exact Chg.setCell (S := fun k => k = w2.heap.size) (Chg.setCell (S := fun k => k = w2.heap.size) (Chg.refl _ _) rfl _) rfl _
    have M4 : Box W4 w2.heap.size [.int .i64 3, .int .i64 id, .int .i64 p, .int .i64 te, .int .i64 a, .int .i64 tb, .slice ua L.length uc, .int .i64 co, .bool false] := by rw [hW4]; exact (M3.set 6 _ (by simp)).set 7 _ (by simp)
    have Y4 := hC.box Y3 (by omega)
    have O4 := hC.owns O (fun b hb hh => by have := gO b hb; have hh : b = w2.heap.size := hh; omega)
    have hB4 := hB3.trans (hC.below (B := w.heap.size) hB3.size (fun k hk => by have hk : k = w2.heap.size := hk; omega))
    rw [← hW4]
    clear hW4 hC M3 X3 Y3 hB3 O hxl x0 x1 x2 x3 x4 x5 x6 x7 x8 hml m0 m1 m2 m3 m4 m5 m6 m7 m8 e6 e7
    have hC := put9_chg W4 (w.heap.size + 1) (.int .i64 3) (.int .i64 id) (.int .i64 p) (.int .i64 te) (.int .i64 a) (.int .i64 tb) (.slice ua L.length uc) (.int .i64 co) (.bool false)
    have Z := put9_box Y4 (.int .i64 3) (.int .i64 id) (.int .i64 p) (.int .i64 te) (.int .i64 a) (.int .i64 tb) (.slice ua L.length uc) (.int .i64 co) (.bool false)
    have hO := hC.owns (owns_mono' O4 (show w.heap.size ≤ W3.heap.size from by omega)) (fun b hb hh => by have := gO b hb; have hh : b = w.heap.size + 1 := hh; omega)
    have hBE := hB4.trans (hC.below (B := w.heap.size) hB4.size (fun k hk => by have hk : k = w.heap.size + 1 := hk; omega))
    obtain ⟨hml, m0, m1, m2, m3, m4, m5, m6, m7, m8⟩ := M4.e9
    obtain ⟨hyl, y0, y1, y2, y3, y4, y5, y6, y7, y8⟩ := Y4.e9
    obtain ⟨f0, f1, f2, f3, f4, f5, f6, f7, f8⟩ := Y4.f9
    obtain ⟨hzl, t0, t1, t2, t3, t4, t5, t6, t7, t8⟩ := Z.e9
    clear Z hC hB4 Y4 M4 O4 gO
    unfold put9 at *
    go_wp2
    exact bodyPost_ret (v := .tuple #[.agg #[.int .i64 3, .int .i64 id, .int .i64 p, .int .i64 te, .int .i64 a, .int .i64 tb, .slice ua L.length uc, .int .i64 co, .bool false], .bool true]) (by simp [results, Try.results32, go_sem, t0, t1, t2, t3, t4, t5, t6, t7, t8]) rfl ⟨_, by rw [HTB.out], by rw [HL.out]; exact hO, hBE⟩
  · have hmi : ((log.length - a : Nat) : Int) < (m : Int) := by omega
    go_enter Try.func32, Try.ntmps32
    go_wp2_with fail
    rw [← hW0]; clear hW0
    refine K.mono ?_
    rintro e w1 ⟨rfl, hb⟩
    replace hB := below_then hB hb
    replace Y := Y.below hb
    replace X := X.below hb
    replace hcp := (hb.cell (p := ⟨bm, om + p, none⟩) hbm).trans hcp
    have hz1 := hb.size
    clear K hb
    obtain ⟨hxl, x0, x1, x2, x3, x4, x5, x6, x7, x8⟩ := X.e9
    go_wp2_with fail
    refine (KP2 _).mono ?_
    rintro e w1' ⟨rfl, hw⟩
    subst hw
    clear KP2
    go_wp2_with fail
    refine (MT _).mono ?_
    rintro e w2 ⟨rfl, hb⟩
    replace hB := below_then hB hb
    replace Y := Y.below hb
    replace X := X.below hb
    replace hcp := (hb.cell (p := ⟨bm, om + p, none⟩) (by show bm < _; omega)).trans hcp
    have hz2 := hb.size
    clear MT hb hxl x0 x1 x2 x3 x4 x5 x6 x7 x8
    obtain ⟨hxl, x0, x1, x2, x3, x4, x5, x6, x7, x8⟩ := X.e9
    have hbm2 : bm < w2.heap.size := by omega
    have BA := below_alloc w2 (.cells #[.int .i64 3, .int .i64 id, .int .i64 p, .int .i64 te, .int .i64 a, .int .i64 0, .slice none 0 0, .int .i64 0, .bool false] 28)
    have MB := Box.new w2 #[.int .i64 3, .int .i64 id, .int .i64 p, .int .i64 te, .int .i64 a, .int .i64 0, .slice none 0 0, .int .i64 0, .bool false] 28
    have hBa := below_then hB BA
    go_wp2_with fail
    refine (KT _ hBa).mono ?_
    rintro e w3 ⟨rfl, hb⟩
    replace hB := below_then hBa hb
    replace Y := (Y.below BA).below hb
    replace X := (X.below BA).below hb
    replace MB := MB.below hb
    have hz3 := hb.size
    simp only [World.size_alloc] at hz3
    clear KT hb BA hBa hxl x0 x1 x2 x3 x4 x5 x6 x7 x8 hcp
    obtain ⟨hxl, x0, x1, x2, x3, x4, x5, x6, x7, x8⟩ := X.e9
    obtain ⟨hml, m0, m1, m2, m3, m4, m5, m6, m7, m8⟩ := MB.e9
    obtain ⟨e0, e1, e2, e3, e4, e5, e6, e7, e8⟩ := MB.f9
    go_upto_region 6 with fail
    obtain ⟨W3, hW3⟩ : ∃ W3, W3 = w3.setCell ⟨w2.heap.size, 5, none⟩ (.int .i64 tb) := ⟨_, rfl⟩
    have hC : Chg (fun k => k = w2.heap.size) w3 W3 := by rw [hW3]; exact Chg.setCell (S := fun k => k = w2.heap.size) (Chg.refl _ _) rfl _
    have M3 : Box W3 w2.heap.size [.int .i64 3, .int .i64 id, .int .i64 p, .int .i64 te, .int .i64 a, .int .i64 tb, .slice none 0 0, .int .i64 0, .bool false] := by rw [hW3]; exact MB.set 5 _ (by simp)
    have X3 := hC.box X (by omega)
    have Y3 := hC.box Y (by omega)
    have hB3 := hB.trans (hC.below (B := w.heap.size) hB.size (fun k hk => by have hk : k = w2.heap.size := hk; omega))
    have hzW : w3.heap.size ≤ W3.heap.size := hC.size
    rw [← hW3]
    clear hW3 hC MB X Y hB hxl x0 x1 x2 x3 x4 x5 x6 x7 x8 hml m0 m1 m2 m3 m4 m5 m6 m7 m8 e0 e1 e2 e3 e4 e5 e6 e7 e8
    obtain ⟨hxl, x0, x1, x2, x3, x4, x5, x6, x7, x8⟩ := X3.e9
    obtain ⟨hml, m0, m1, m2, m3, m4, m5, m6, m7, m8⟩ := M3.e9
    go_wp2_with (first | (refine wpList_sliceOp _ rfl 23 _ _ _ _ rfl _ (HS1 _) ?_; simp only [Act.put, List.setIfInBounds_toArray, List.set_cons_zero, List.set_cons_succ]) | (refine wpList_sliceOp _ rfl 23 _ _ _ _ rfl _ (HS2 _) ?_; simp only [Act.put, List.setIfInBounds_toArray, List.set_cons_zero, List.set_cons_succ]))
    refine (CL _ hB3).mono ?_
    rintro e w4 ⟨u, rfl, O, hb⟩
    replace hB3 := below_then hB3 hb
    replace Y3 := Y3.below hb
    replace X3 := X3.below hb
    replace M3 := M3.below hb
    obtain ⟨ua, uc, rfl⟩ := owns_shape O
    have gO := owns_ge O
    have hz4 := hb.size
    clear CL hb HS1 HS2 hxl x0 x1 x2 x3 x4 x5 x6 x7 x8 hml m0 m1 m2 m3 m4 m5 m6 m7 m8
    obtain ⟨hxl, x0, x1, x2, x3, x4, x5, x6, x7, x8⟩ := X3.e9
    obtain ⟨hml, m0, m1, m2, m3, m4, m5, m6, m7, m8⟩ := M3.e9
    have e6 := M3.2.2 6
    have e7 := M3.2.2 7
    go_upto_region 9 with fail
    obtain ⟨W4, hW4⟩ : ∃ W4, W4 = (w4.setCell ⟨w2.heap.size, 6, none⟩ (.slice ua L.length uc)).setCell ⟨w2.heap.size, 7, none⟩ (.int .i64 co) := ⟨_, rfl⟩
    have hC : Chg (fun k => k = w2.heap.size) w4 W4 := by rw [hW4]; exact Chg.setCell (S := fun k => k = w2.heap.size) (Chg.setCell (S := fun k => k = w2.heap.size) (Chg.refl _ _) rfl _) rfl _
    have M4 : Box W4 w2.heap.size [.int .i64 3, .int .i64 id, .int .i64 p, .int .i64 te, .int .i64 a, .int .i64 tb, .slice ua L.length uc, .int .i64 co, .bool false] := by rw [hW4]; exact (M3.set 6 _ (by simp)).set 7 _ (by simp)
    have Y4 := hC.box Y3 (by omega)
    have O4 := hC.owns O (fun b hb hh => by have := gO b hb; have hh : b = w2.heap.size := hh; omega)
    have hB4 := hB3.trans (hC.below (B := w.heap.size) hB3.size (fun k hk => by have hk : k = w2.heap.size := hk; omega))
    rw [← hW4]
    clear hW4 hC M3 X3 Y3 hB3 O hxl x0 x1 x2 x3 x4 x5 x6 x7 x8 hml m0 m1 m2 m3 m4 m5 m6 m7 m8 e6 e7
    have hC := put9_chg W4 (w.heap.size + 1) (.int .i64 3) (.int .i64 id) (.int .i64 p) (.int .i64 te) (.int .i64 a) (.int .i64 tb) (.slice ua L.length uc) (.int .i64 co) (.bool false)
    have Z := put9_box Y4 (.int .i64 3) (.int .i64 id) (.int .i64 p) (.int .i64 te) (.int .i64 a) (.int .i64 tb) (.slice ua L.length uc) (.int .i64 co) (.bool false)
    have hO := hC.owns (owns_mono' O4 (show w.heap.size ≤ W3.heap.size from by omega)) (fun b hb hh => by have := gO b hb; have hh : b = w.heap.size + 1 := hh; omega)
    have hBE := hB4.trans (hC.below (B := w.heap.size) hB4.size (fun k hk => by have hk : k = w.heap.size + 1 := hk; omega))
    obtain ⟨hml, m0, m1, m2, m3, m4, m5, m6, m7, m8⟩ := M4.e9
    obtain ⟨hyl, y0, y1, y2, y3, y4, y5, y6, y7, y8⟩ := Y4.e9
    obtain ⟨f0, f1, f2, f3, f4, f5, f6, f7, f8⟩ := Y4.f9
    obtain ⟨hzl, t0, t1, t2, t3, t4, t5, t6, t7, t8⟩ := Z.e9
    clear Z hC hB4 Y4 M4 O4 gO
    unfold put9 at *
    go_wp2
    exact bodyPost_ret (v := .tuple #[.agg #[.int .i64 3, .int .i64 id, .int .i64 p, .int .i64 te, .int .i64 a, .int .i64 tb, .slice ua L.length uc, .int .i64 co, .bool false], .bool true]) (by simp [results, Try.results32, go_sem, t0, t1, t2, t3, t4, t5, t6, t7, t8]) rfl ⟨_, by rw [HTB.out], by rw [HL.out]; exact hO, hBE⟩
end Go.Proofs.Ytoaponagdfgfeaa
